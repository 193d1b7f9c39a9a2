/- Registers: the conditions of the specification's GoodRegister on two ops, and on the nodes of one. Written by tools/mkRgT.py. -/
import Derived.Test.YtaofolbnommpgaaRgT
namespace Go.Proofs.Ytaofolbnommpgaa
open Go.RowKit
set_option linter.unusedVariables false

/-- Two ops that may stand together, y ahead of x. -/
def prR (y0 y3 y8 y9 x0 x3 x8 x9 : Int) : Prop := ¬ (y0 = x0 ∧ y3 ≠ 3 ∧ x3 ≠ 3) ∧ y8 ≠ x8 ∧ (x3 = 3 → x9 ≠ y8) ∧ (y3 = 3 → y9 ≠ x8) ∧ (y3 = 3 → x3 = 3 → y9 ≠ x9)
def ops24 : List Oper := [{ dst := some 174, op := Op.fieldAddr 53 (Operand.tmp 11) 0, type := 0, pos := "l9_register.go:38", after := #[], guard := none }, { dst := some 175, op := Op.load 3 (Operand.tmp 174), type := 3, pos := "l9_register.go:38", after := #[{ on := 0, ground := Ground.data }], guard := none }, { dst := some 176, op := Op.fieldAddr 53 (Operand.tmp 6) 0, type := 0, pos := "l9_register.go:38", after := #[], guard := none }, { dst := some 177, op := Op.load 3 (Operand.tmp 176), type := 3, pos := "l9_register.go:38", after := #[{ on := 2, ground := Ground.data }], guard := none }, { dst := some 178, op := Op.binOp BinOp.eql 3 (Operand.tmp 175) (Operand.tmp 177) 3, type := 4, pos := "l9_register.go:38", after := #[{ on := 1, ground := Ground.data }, { on := 3, ground := Ground.data }], guard := none }, { dst := some 179, op := Op.move (Operand.tmp 178), type := 4, pos := "l9_register.go:38", after := #[{ on := 4, ground := Ground.data }], guard := none }, { dst := some 180, op := Op.move (Operand.tmp 7), type := 4, pos := "l9_register.go:38", after := #[{ on := 5, ground := Ground.guard }], guard := some (5, true) }, { dst := some 181, op := Op.unOp UnOp.not 4 (Operand.tmp 180), type := 4, pos := "l9_register.go:38", after := #[{ on := 6, ground := Ground.data }, { on := 5, ground := Ground.guard }], guard := some (5, true) }, { dst := some 182, op := Op.pick (Operand.tmp 179) (Operand.tmp 181) (Operand.const (Value.bool false)), type := 4, pos := "l9_register.go:38", after := #[{ on := 5, ground := Ground.data }, { on := 7, ground := Ground.data }], guard := none }, { dst := some 183, op := Op.move (Operand.tmp 182), type := 4, pos := "l9_register.go:38", after := #[{ on := 8, ground := Ground.data }, { on := 5, ground := Ground.chain }], guard := none }, { dst := some 184, op := Op.fieldAddr 53 (Operand.tmp 11) 3, type := 0, pos := "l9_register.go:38", after := #[{ on := 9, ground := Ground.guard }], guard := some (9, true) }, { dst := some 185, op := Op.load 3 (Operand.tmp 184), type := 3, pos := "l9_register.go:38", after := #[{ on := 10, ground := Ground.data }, { on := 9, ground := Ground.guard }], guard := some (9, true) }, { dst := some 186, op := Op.binOp BinOp.neq 3 (Operand.tmp 185) (Operand.const (Value.int IntKind.i64 3)) 3, type := 4, pos := "l9_register.go:38", after := #[{ on := 11, ground := Ground.data }, { on := 9, ground := Ground.guard }], guard := some (9, true) }, { dst := some 187, op := Op.pick (Operand.tmp 183) (Operand.tmp 186) (Operand.const (Value.bool false)), type := 4, pos := "l9_register.go:38", after := #[{ on := 9, ground := Ground.data }, { on := 12, ground := Ground.data }], guard := none }, { dst := some 188, op := Op.move (Operand.tmp 187), type := 4, pos := "l9_register.go:38", after := #[{ on := 13, ground := Ground.data }, { on := 9, ground := Ground.chain }], guard := none }, { dst := some 189, op := Op.fieldAddr 53 (Operand.tmp 11) 6, type := 0, pos := "l9_register.go:38", after := #[{ on := 14, ground := Ground.guard }], guard := some (14, false) }, { dst := some 190, op := Op.load 3 (Operand.tmp 189), type := 3, pos := "l9_register.go:38", after := #[{ on := 15, ground := Ground.data }, { on := 14, ground := Ground.guard }], guard := some (14, false) }, { dst := some 191, op := Op.fieldAddr 53 (Operand.tmp 6) 6, type := 0, pos := "l9_register.go:38", after := #[{ on := 14, ground := Ground.guard }], guard := some (14, false) }, { dst := some 192, op := Op.load 3 (Operand.tmp 191), type := 3, pos := "l9_register.go:38", after := #[{ on := 17, ground := Ground.data }, { on := 14, ground := Ground.guard }], guard := some (14, false) }, { dst := some 193, op := Op.binOp BinOp.eql 3 (Operand.tmp 190) (Operand.tmp 192) 3, type := 4, pos := "l9_register.go:38", after := #[{ on := 16, ground := Ground.data }, { on := 18, ground := Ground.data }, { on := 14, ground := Ground.guard }], guard := some (14, false) }, { dst := some 194, op := Op.pick (Operand.tmp 188) (Operand.const (Value.bool true)) (Operand.tmp 193), type := 4, pos := "l9_register.go:38", after := #[{ on := 14, ground := Ground.data }, { on := 19, ground := Ground.data }], guard := none }, { dst := some 195, op := Op.move (Operand.tmp 194), type := 4, pos := "l9_register.go:38", after := #[{ on := 20, ground := Ground.data }, { on := 14, ground := Ground.chain }], guard := none }, { dst := some 196, op := Op.move (Operand.tmp 7), type := 4, pos := "l9_register.go:38", after := #[{ on := 21, ground := Ground.guard }], guard := some (21, false) }, { dst := some 197, op := Op.move (Operand.tmp 196), type := 4, pos := "l9_register.go:38", after := #[{ on := 22, ground := Ground.data }, { on := 21, ground := Ground.chain }, { on := 21, ground := Ground.guard }], guard := some (21, false) }, { dst := some 198, op := Op.fieldAddr 53 (Operand.tmp 6) 7, type := 0, pos := "l9_register.go:38", after := #[{ on := 23, ground := Ground.guard }], guard := some (23, true) }, { dst := some 199, op := Op.load 3 (Operand.tmp 198), type := 3, pos := "l9_register.go:38", after := #[{ on := 24, ground := Ground.data }, { on := 23, ground := Ground.guard }], guard := some (23, true) }, { dst := some 200, op := Op.fieldAddr 53 (Operand.tmp 11) 6, type := 0, pos := "l9_register.go:38", after := #[{ on := 23, ground := Ground.guard }], guard := some (23, true) }, { dst := some 201, op := Op.load 3 (Operand.tmp 200), type := 3, pos := "l9_register.go:38", after := #[{ on := 26, ground := Ground.data }, { on := 23, ground := Ground.guard }], guard := some (23, true) }, { dst := some 202, op := Op.binOp BinOp.eql 3 (Operand.tmp 199) (Operand.tmp 201) 3, type := 4, pos := "l9_register.go:38", after := #[{ on := 25, ground := Ground.data }, { on := 27, ground := Ground.data }, { on := 23, ground := Ground.guard }], guard := some (23, true) }, { dst := some 203, op := Op.pick (Operand.tmp 197) (Operand.tmp 202) (Operand.const (Value.bool false)), type := 4, pos := "l9_register.go:38", after := #[{ on := 23, ground := Ground.data }, { on := 28, ground := Ground.data }, { on := 21, ground := Ground.guard }], guard := some (21, false) }, { dst := some 204, op := Op.pick (Operand.tmp 195) (Operand.const (Value.bool true)) (Operand.tmp 203), type := 4, pos := "l9_register.go:38", after := #[{ on := 21, ground := Ground.data }, { on := 29, ground := Ground.data }], guard := none }, { dst := some 205, op := Op.move (Operand.tmp 204), type := 4, pos := "l9_register.go:38", after := #[{ on := 30, ground := Ground.data }, { on := 23, ground := Ground.chain }], guard := none }, { dst := some 206, op := Op.fieldAddr 53 (Operand.tmp 11) 3, type := 0, pos := "l9_register.go:38", after := #[{ on := 31, ground := Ground.guard }], guard := some (31, false) }, { dst := some 207, op := Op.load 3 (Operand.tmp 206), type := 3, pos := "l9_register.go:38", after := #[{ on := 32, ground := Ground.data }, { on := 31, ground := Ground.guard }], guard := some (31, false) }, { dst := some 208, op := Op.binOp BinOp.eql 3 (Operand.tmp 207) (Operand.const (Value.int IntKind.i64 3)) 3, type := 4, pos := "l9_register.go:38", after := #[{ on := 33, ground := Ground.data }, { on := 31, ground := Ground.guard }], guard := some (31, false) }, { dst := some 209, op := Op.move (Operand.tmp 208), type := 4, pos := "l9_register.go:38", after := #[{ on := 34, ground := Ground.data }, { on := 31, ground := Ground.chain }, { on := 31, ground := Ground.guard }], guard := some (31, false) }, { dst := some 210, op := Op.fieldAddr 53 (Operand.tmp 11) 7, type := 0, pos := "l9_register.go:38", after := #[{ on := 35, ground := Ground.guard }], guard := some (35, true) }, { dst := some 211, op := Op.load 3 (Operand.tmp 210), type := 3, pos := "l9_register.go:38", after := #[{ on := 36, ground := Ground.data }, { on := 35, ground := Ground.guard }], guard := some (35, true) }, { dst := some 212, op := Op.fieldAddr 53 (Operand.tmp 6) 6, type := 0, pos := "l9_register.go:38", after := #[{ on := 35, ground := Ground.guard }], guard := some (35, true) }, { dst := some 213, op := Op.load 3 (Operand.tmp 212), type := 3, pos := "l9_register.go:38", after := #[{ on := 38, ground := Ground.data }, { on := 35, ground := Ground.guard }], guard := some (35, true) }, { dst := some 214, op := Op.binOp BinOp.eql 3 (Operand.tmp 211) (Operand.tmp 213) 3, type := 4, pos := "l9_register.go:38", after := #[{ on := 37, ground := Ground.data }, { on := 39, ground := Ground.data }, { on := 35, ground := Ground.guard }], guard := some (35, true) }, { dst := some 215, op := Op.move (Operand.tmp 214), type := 4, pos := "l9_register.go:38", after := #[{ on := 40, ground := Ground.data }, { on := 35, ground := Ground.chain }, { on := 35, ground := Ground.guard }], guard := some (35, true) }, { dst := some 216, op := Op.move (Operand.tmp 7), type := 4, pos := "l9_register.go:38", after := #[{ on := 41, ground := Ground.guard }], guard := some (41, false) }, { dst := some 217, op := Op.move (Operand.tmp 216), type := 4, pos := "l9_register.go:38", after := #[{ on := 42, ground := Ground.data }, { on := 41, ground := Ground.chain }, { on := 41, ground := Ground.guard }], guard := some (41, false) }, { dst := some 218, op := Op.fieldAddr 53 (Operand.tmp 11) 7, type := 0, pos := "l9_register.go:38", after := #[{ on := 43, ground := Ground.guard }], guard := some (43, true) }, { dst := some 219, op := Op.load 3 (Operand.tmp 218), type := 3, pos := "l9_register.go:38", after := #[{ on := 44, ground := Ground.data }, { on := 43, ground := Ground.guard }], guard := some (43, true) }, { dst := some 220, op := Op.fieldAddr 53 (Operand.tmp 6) 7, type := 0, pos := "l9_register.go:38", after := #[{ on := 43, ground := Ground.guard }], guard := some (43, true) }, { dst := some 221, op := Op.load 3 (Operand.tmp 220), type := 3, pos := "l9_register.go:38", after := #[{ on := 46, ground := Ground.data }, { on := 43, ground := Ground.guard }], guard := some (43, true) }, { dst := some 222, op := Op.binOp BinOp.eql 3 (Operand.tmp 219) (Operand.tmp 221) 3, type := 4, pos := "l9_register.go:38", after := #[{ on := 45, ground := Ground.data }, { on := 47, ground := Ground.data }, { on := 43, ground := Ground.guard }], guard := some (43, true) }, { dst := some 223, op := Op.pick (Operand.tmp 217) (Operand.tmp 222) (Operand.const (Value.bool false)), type := 4, pos := "l9_register.go:38", after := #[{ on := 43, ground := Ground.data }, { on := 48, ground := Ground.data }, { on := 41, ground := Ground.guard }], guard := some (41, false) }, { dst := some 224, op := Op.pick (Operand.tmp 215) (Operand.const (Value.bool true)) (Operand.tmp 223), type := 4, pos := "l9_register.go:38", after := #[{ on := 41, ground := Ground.data }, { on := 49, ground := Ground.data }, { on := 35, ground := Ground.guard }], guard := some (35, true) }, { dst := some 225, op := Op.pick (Operand.tmp 209) (Operand.tmp 224) (Operand.const (Value.bool false)), type := 4, pos := "l9_register.go:38", after := #[{ on := 35, ground := Ground.data }, { on := 50, ground := Ground.data }, { on := 31, ground := Ground.guard }], guard := some (31, false) }, { dst := some 226, op := Op.pick (Operand.tmp 205) (Operand.const (Value.bool true)) (Operand.tmp 225), type := 4, pos := "l9_register.go:38", after := #[{ on := 31, ground := Ground.data }, { on := 51, ground := Ground.data }], guard := none }]
set_option maxRecDepth 100000 in
set_option maxHeartbeats 4000000 in
theorem reg24 (x0 : Int) (x1 : Bool) (x2 : ByteArray) (x3 : Int) (x4 : List (Sh.T .int)) (xa1 : Option Addr) (xk1 : Nat) (x5 x6 : Int) (x7 : ByteArray) (x8 x9 : Int) (y0 : Int) (y1 : Bool) (y2 : ByteArray) (y3 : Int) (y4 : List (Sh.T .int)) (ya1 : Option Addr) (yk1 : Nat) (y5 y6 : Int) (y7 : ByteArray) (y8 y9 : Int) (bo by_ : Nat) (w : World) (A : Act) (E : Operand → Value) (Q : Exit → Act → World → Prop)
    (HX : Hid (Bx w bo [.int .i64 x0, .bool x1, .string x2, .int .i64 x3, .slice xa1 x4.length xk1, .int .i64 x5, .int .i64 x6, .string x7, .int .i64 x8, .int .i64 x9])) (HY : Hid (Bx w by_ [.int .i64 y0, .bool y1, .string y2, .int .i64 y3, .slice ya1 y4.length yk1, .int .i64 y5, .int .i64 y6, .string y7, .int .i64 y8, .int .i64 y9]))
    (hV : Ev A E) (hzA : ∀ d, d < 229 → d < A.tmps.size)
    (e11 : E (.tmp 11) = .pointer (some ⟨by_, 0, none⟩)) (e6 : E (.tmp 6) = .pointer (some ⟨bo, 0, none⟩)) (e7 : E (.tmp 7) = .bool (x3 == 3))
    (hQ : ∀ B E', Ext A B 174 53 → Ev B E' → E' (.tmp 226) = .bool (!(tf (prR y0 y3 y8 y9 x0 x3 x8 x9))) → Q .normal B w) : wpI Try.prog ops24 Q 0 A w := by
  have h0 : St A A E E 174 0 := St.start hV
  have d0 := (HX.out).cell 0 rfl; have d1 := (HX.out).cell 1 rfl; have d2 := (HX.out).cell 2 rfl; have d3 := (HX.out).cell 3 rfl; have d4 := (HX.out).cell 4 rfl; have d5 := (HX.out).cell 5 rfl; have d6 := (HX.out).cell 6 rfl; have d7 := (HX.out).cell 7 rfl; have d8 := (HX.out).cell 8 rfl; have d9 := (HX.out).cell 9 rfl; have dz := (HX.out).2
  have f0 := (HY.out).cell 0 rfl; have f1 := (HY.out).cell 1 rfl; have f2 := (HY.out).cell 2 rfl; have f3 := (HY.out).cell 3 rfl; have f4 := (HY.out).cell 4 rfl; have f5 := (HY.out).cell 5 rfl; have f6 := (HY.out).cell 6 rfl; have f7 := (HY.out).cell 7 rfl; have f8 := (HY.out).cell 8 rfl; have f9 := (HY.out).cell 9 rfl; have fz := (HY.out).2
  by_cases dn : x3 = 3
  · have dnb : (x3 == 3) = true := by simpa using dn
    rw [dnb] at e7
    refine si_v (v := ?_) 174 1 rfl h0 wanted_p ?_ (hzA 174 (by decide)) (fun B E h1 e174 ho => ?_)
    rotate_left
    · (have hO := h0.o; go_simp <;> (try with_reducible rfl))
    clear h0 ho
    refine si_v (v := ?_) 175 2 rfl h1 wanted_p ?_ (hzA 175 (by decide)) (fun B E h2 e175 ho => ?_)
    rotate_left
    · (go_simp <;> (try with_reducible rfl))
    clear h1 ho e174
    refine si_v (v := ?_) 176 3 rfl h2 wanted_p ?_ (hzA 176 (by decide)) (fun B E h3 e176 ho => ?_)
    rotate_left
    · (have hO := h2.o; go_simp <;> (try with_reducible rfl))
    replace e175 := (ho 175 (by decide)).trans e175
    clear h2 ho
    refine si_v (v := ?_) 177 4 rfl h3 wanted_p ?_ (hzA 177 (by decide)) (fun B E h4 e177 ho => ?_)
    rotate_left
    · (go_simp <;> (try with_reducible rfl))
    replace e175 := (ho 175 (by decide)).trans e175
    clear h3 ho e176
    refine si_v (v := ?_) 178 5 rfl h4 wanted_p ?_ (hzA 178 (by decide)) (fun B E h5 e178 ho => ?_)
    rotate_left
    · (go_simp <;> (try with_reducible rfl))
    clear h4 ho e177 e175
    by_cases c0 : y0 = x0
    ·
     replace e178 := e178.trans (congrArg Value.bool (by simp [c0] : (y0 == x0) = true))
     refine si_v (v := ?_) 179 6 rfl h5 wanted_p ?_ (hzA 179 (by decide)) (fun B E h6 e179 ho => ?_)
     rotate_left
     · (go_simp <;> (try with_reducible rfl))
     clear h5 ho e178
     refine si_v (v := ?_) 180 7 rfl h6 (wanted_g h6.v 5 179 true e179) ?_ (hzA 180 (by decide)) (fun B E h7 e180 ho => ?_)
     rotate_left
     · (have hO := h6.o; go_simp <;> (try with_reducible rfl))
     replace e179 := (ho 179 (by decide)).trans e179
     clear h6 ho
     refine si_v (v := ?_) 181 8 rfl h7 (wanted_g h7.v 5 179 true e179) ?_ (hzA 181 (by decide)) (fun B E h8 e181 ho => ?_)
     rotate_left
     · (go_simp <;> (try with_reducible rfl))
     replace e179 := (ho 179 (by decide)).trans e179
     clear h7 ho e180
     refine si_v (v := ?_) 182 9 rfl h8 wanted_p ?_ (hzA 182 (by decide)) (fun B E h9 e182 ho => ?_)
     rotate_left
     · (have hc := h8.c; go_simp <;> (try with_reducible rfl))
     clear h8 ho e179 e181
     refine si_v (v := ?_) 183 10 rfl h9 wanted_p ?_ (hzA 183 (by decide)) (fun B E h10 e183 ho => ?_)
     rotate_left
     · (go_simp <;> (try with_reducible rfl))
     clear h9 ho e182
     refine si_nb 9 3 13 186 h10 e183 (hzA 186 (by decide)) (fun B E h13 hu ho => ?_)
     replace e183 := (ho 183 (by decide)).trans e183
     have e186 := hu 186 (by decide) (by decide)
     clear h10 ho hu
     refine si_v (v := ?_) 187 14 rfl h13 wanted_p ?_ (hzA 187 (by decide)) (fun B E h14 e187 ho => ?_)
     rotate_left
     · (have hc := h13.c; go_simp <;> (try with_reducible rfl))
     clear h13 ho e183 e186
     refine si_v (v := ?_) 188 15 rfl h14 wanted_p ?_ (hzA 188 (by decide)) (fun B E h15 e188 ho => ?_)
     rotate_left
     · (go_simp <;> (try with_reducible rfl))
     clear h14 ho e187
     refine si_v (v := ?_) 189 16 rfl h15 (wanted_g h15.v 14 188 false e188) ?_ (hzA 189 (by decide)) (fun B E h16 e189 ho => ?_)
     rotate_left
     · (have hO := h15.o; go_simp <;> (try with_reducible rfl))
     replace e188 := (ho 188 (by decide)).trans e188
     clear h15 ho
     refine si_v (v := ?_) 190 17 rfl h16 (wanted_g h16.v 14 188 false e188) ?_ (hzA 190 (by decide)) (fun B E h17 e190 ho => ?_)
     rotate_left
     · (go_simp <;> (try with_reducible rfl))
     replace e188 := (ho 188 (by decide)).trans e188
     clear h16 ho e189
     refine si_v (v := ?_) 191 18 rfl h17 (wanted_g h17.v 14 188 false e188) ?_ (hzA 191 (by decide)) (fun B E h18 e191 ho => ?_)
     rotate_left
     · (have hO := h17.o; go_simp <;> (try with_reducible rfl))
     replace e188 := (ho 188 (by decide)).trans e188
     replace e190 := (ho 190 (by decide)).trans e190
     clear h17 ho
     refine si_v (v := ?_) 192 19 rfl h18 (wanted_g h18.v 14 188 false e188) ?_ (hzA 192 (by decide)) (fun B E h19 e192 ho => ?_)
     rotate_left
     · (go_simp <;> (try with_reducible rfl))
     replace e188 := (ho 188 (by decide)).trans e188
     replace e190 := (ho 190 (by decide)).trans e190
     clear h18 ho e191
     refine si_v (v := ?_) 193 20 rfl h19 (wanted_g h19.v 14 188 false e188) ?_ (hzA 193 (by decide)) (fun B E h20 e193 ho => ?_)
     rotate_left
     · (go_simp <;> (try with_reducible rfl))
     replace e188 := (ho 188 (by decide)).trans e188
     clear h19 ho e192 e190
     by_cases c1 : y8 = x8
     ·
      replace e193 := e193.trans (congrArg Value.bool (by simp [c1] : (y8 == x8) = true))
      have HN : Hid (tf (prR y0 y3 y8 y9 x0 x3 x8 x9) = false) := Hid.intro (tf_no (fun q => q.2.1 c1))
      refine si_v (v := ?_) 194 21 rfl h20 wanted_p ?_ (hzA 194 (by decide)) (fun B E h21 e194 ho => ?_)
      rotate_left
      · (have hc := h20.c; go_simp <;> (try with_reducible rfl))
      clear h20 ho e193 e188
      refine si_v (v := ?_) 195 22 rfl h21 wanted_p ?_ (hzA 195 (by decide)) (fun B E h22 e195 ho => ?_)
      rotate_left
      · (go_simp <;> (try with_reducible rfl))
      clear h21 ho e194
      refine si_nb 21 8 30 203 h22 e195 (hzA 203 (by decide)) (fun B E h30 hu ho => ?_)
      replace e195 := (ho 195 (by decide)).trans e195
      have e203 := hu 203 (by decide) (by decide)
      clear h22 ho hu
      refine si_v (v := ?_) 204 31 rfl h30 wanted_p ?_ (hzA 204 (by decide)) (fun B E h31 e204 ho => ?_)
      rotate_left
      · (have hc := h30.c; go_simp <;> (try with_reducible rfl))
      clear h30 ho e195 e203
      refine si_v (v := ?_) 205 32 rfl h31 wanted_p ?_ (hzA 205 (by decide)) (fun B E h32 e205 ho => ?_)
      rotate_left
      · (go_simp <;> (try with_reducible rfl))
      clear h31 ho e204
      refine si_nb 31 20 52 225 h32 e205 (hzA 225 (by decide)) (fun B E h52 hu ho => ?_)
      replace e205 := (ho 205 (by decide)).trans e205
      have e225 := hu 225 (by decide) (by decide)
      clear h32 ho hu
      refine si_v (v := ?_) 226 53 rfl h52 wanted_p ?_ (hzA 226 (by decide)) (fun B E h53 e226 ho => ?_)
      rotate_left
      · (have hc := h52.c; go_simp <;> (try with_reducible rfl))
      clear h52 ho e225 e205
      refine wpI.done rfl ?_
      exact hQ _ _ h53.x h53.v (e226.trans (by rw [HN.out]; rfl))
     ·
      replace e193 := e193.trans (congrArg Value.bool (by simpa using c1 : (y8 == x8) = false))
      refine si_v (v := ?_) 194 21 rfl h20 wanted_p ?_ (hzA 194 (by decide)) (fun B E h21 e194 ho => ?_)
      rotate_left
      · (have hc := h20.c; go_simp <;> (try with_reducible rfl))
      clear h20 ho e193 e188
      refine si_v (v := ?_) 195 22 rfl h21 wanted_p ?_ (hzA 195 (by decide)) (fun B E h22 e195 ho => ?_)
      rotate_left
      · (go_simp <;> (try with_reducible rfl))
      clear h21 ho e194
      refine si_v (v := ?_) 196 23 rfl h22 (wanted_g h22.v 21 195 false e195) ?_ (hzA 196 (by decide)) (fun B E h23 e196 ho => ?_)
      rotate_left
      · (have hO := h22.o; go_simp <;> (try with_reducible rfl))
      replace e195 := (ho 195 (by decide)).trans e195
      clear h22 ho
      refine si_v (v := ?_) 197 24 rfl h23 (wanted_g h23.v 21 195 false e195) ?_ (hzA 197 (by decide)) (fun B E h24 e197 ho => ?_)
      rotate_left
      · (go_simp <;> (try with_reducible rfl))
      replace e195 := (ho 195 (by decide)).trans e195
      clear h23 ho e196
      refine si_v (v := ?_) 198 25 rfl h24 (wanted_g h24.v 23 197 true e197) ?_ (hzA 198 (by decide)) (fun B E h25 e198 ho => ?_)
      rotate_left
      · (have hO := h24.o; go_simp <;> (try with_reducible rfl))
      replace e195 := (ho 195 (by decide)).trans e195
      replace e197 := (ho 197 (by decide)).trans e197
      clear h24 ho
      refine si_v (v := ?_) 199 26 rfl h25 (wanted_g h25.v 23 197 true e197) ?_ (hzA 199 (by decide)) (fun B E h26 e199 ho => ?_)
      rotate_left
      · (go_simp <;> (try with_reducible rfl))
      replace e195 := (ho 195 (by decide)).trans e195
      replace e197 := (ho 197 (by decide)).trans e197
      clear h25 ho e198
      refine si_v (v := ?_) 200 27 rfl h26 (wanted_g h26.v 23 197 true e197) ?_ (hzA 200 (by decide)) (fun B E h27 e200 ho => ?_)
      rotate_left
      · (have hO := h26.o; go_simp <;> (try with_reducible rfl))
      replace e195 := (ho 195 (by decide)).trans e195
      replace e197 := (ho 197 (by decide)).trans e197
      replace e199 := (ho 199 (by decide)).trans e199
      clear h26 ho
      refine si_v (v := ?_) 201 28 rfl h27 (wanted_g h27.v 23 197 true e197) ?_ (hzA 201 (by decide)) (fun B E h28 e201 ho => ?_)
      rotate_left
      · (go_simp <;> (try with_reducible rfl))
      replace e195 := (ho 195 (by decide)).trans e195
      replace e197 := (ho 197 (by decide)).trans e197
      replace e199 := (ho 199 (by decide)).trans e199
      clear h27 ho e200
      refine si_v (v := ?_) 202 29 rfl h28 (wanted_g h28.v 23 197 true e197) ?_ (hzA 202 (by decide)) (fun B E h29 e202 ho => ?_)
      rotate_left
      · (go_simp <;> (try with_reducible rfl))
      replace e195 := (ho 195 (by decide)).trans e195
      replace e197 := (ho 197 (by decide)).trans e197
      clear h28 ho e201 e199
      by_cases c2 : x9 = y8
      ·
       replace e202 := e202.trans (congrArg Value.bool (by simp [c2] : (x9 == y8) = true))
       have HN : Hid (tf (prR y0 y3 y8 y9 x0 x3 x8 x9) = false) := Hid.intro (tf_no (fun q => q.2.2.1 dn c2))
       refine si_v (v := ?_) 203 30 rfl h29 (wanted_g h29.v 21 195 false e195) ?_ (hzA 203 (by decide)) (fun B E h30 e203 ho => ?_)
       rotate_left
       · (have hc := h29.c; go_simp <;> (try with_reducible rfl))
       replace e195 := (ho 195 (by decide)).trans e195
       clear h29 ho e197 e202
       refine si_v (v := ?_) 204 31 rfl h30 wanted_p ?_ (hzA 204 (by decide)) (fun B E h31 e204 ho => ?_)
       rotate_left
       · (have hc := h30.c; go_simp <;> (try with_reducible rfl))
       clear h30 ho e195 e203
       refine si_v (v := ?_) 205 32 rfl h31 wanted_p ?_ (hzA 205 (by decide)) (fun B E h32 e205 ho => ?_)
       rotate_left
       · (go_simp <;> (try with_reducible rfl))
       clear h31 ho e204
       refine si_nb 31 20 52 225 h32 e205 (hzA 225 (by decide)) (fun B E h52 hu ho => ?_)
       replace e205 := (ho 205 (by decide)).trans e205
       have e225 := hu 225 (by decide) (by decide)
       clear h32 ho hu
       refine si_v (v := ?_) 226 53 rfl h52 wanted_p ?_ (hzA 226 (by decide)) (fun B E h53 e226 ho => ?_)
       rotate_left
       · (have hc := h52.c; go_simp <;> (try with_reducible rfl))
       clear h52 ho e225 e205
       refine wpI.done rfl ?_
       exact hQ _ _ h53.x h53.v (e226.trans (by rw [HN.out]; rfl))
      ·
       replace e202 := e202.trans (congrArg Value.bool (by simpa using c2 : (x9 == y8) = false))
       refine si_v (v := ?_) 203 30 rfl h29 (wanted_g h29.v 21 195 false e195) ?_ (hzA 203 (by decide)) (fun B E h30 e203 ho => ?_)
       rotate_left
       · (have hc := h29.c; go_simp <;> (try with_reducible rfl))
       replace e195 := (ho 195 (by decide)).trans e195
       clear h29 ho e197 e202
       refine si_v (v := ?_) 204 31 rfl h30 wanted_p ?_ (hzA 204 (by decide)) (fun B E h31 e204 ho => ?_)
       rotate_left
       · (have hc := h30.c; go_simp <;> (try with_reducible rfl))
       clear h30 ho e195 e203
       refine si_v (v := ?_) 205 32 rfl h31 wanted_p ?_ (hzA 205 (by decide)) (fun B E h32 e205 ho => ?_)
       rotate_left
       · (go_simp <;> (try with_reducible rfl))
       clear h31 ho e204
       refine si_v (v := ?_) 206 33 rfl h32 (wanted_g h32.v 31 205 false e205) ?_ (hzA 206 (by decide)) (fun B E h33 e206 ho => ?_)
       rotate_left
       · (have hO := h32.o; go_simp <;> (try with_reducible rfl))
       replace e205 := (ho 205 (by decide)).trans e205
       clear h32 ho
       refine si_v (v := ?_) 207 34 rfl h33 (wanted_g h33.v 31 205 false e205) ?_ (hzA 207 (by decide)) (fun B E h34 e207 ho => ?_)
       rotate_left
       · (go_simp <;> (try with_reducible rfl))
       replace e205 := (ho 205 (by decide)).trans e205
       clear h33 ho e206
       refine si_v (v := ?_) 208 35 rfl h34 (wanted_g h34.v 31 205 false e205) ?_ (hzA 208 (by decide)) (fun B E h35 e208 ho => ?_)
       rotate_left
       · (have hc := h34.c; go_simp <;> (try with_reducible rfl))
       replace e205 := (ho 205 (by decide)).trans e205
       clear h34 ho e207
       by_cases yd : y3 = 3
       ·
        replace e208 := e208.trans (congrArg Value.bool (by simp [yd] : (y3 == 3) = true))
        refine si_v (v := ?_) 209 36 rfl h35 (wanted_g h35.v 31 205 false e205) ?_ (hzA 209 (by decide)) (fun B E h36 e209 ho => ?_)
        rotate_left
        · (go_simp <;> (try with_reducible rfl))
        replace e205 := (ho 205 (by decide)).trans e205
        clear h35 ho e208
        refine si_v (v := ?_) 210 37 rfl h36 (wanted_g h36.v 35 209 true e209) ?_ (hzA 210 (by decide)) (fun B E h37 e210 ho => ?_)
        rotate_left
        · (have hO := h36.o; go_simp <;> (try with_reducible rfl))
        replace e205 := (ho 205 (by decide)).trans e205
        replace e209 := (ho 209 (by decide)).trans e209
        clear h36 ho
        refine si_v (v := ?_) 211 38 rfl h37 (wanted_g h37.v 35 209 true e209) ?_ (hzA 211 (by decide)) (fun B E h38 e211 ho => ?_)
        rotate_left
        · (go_simp <;> (try with_reducible rfl))
        replace e205 := (ho 205 (by decide)).trans e205
        replace e209 := (ho 209 (by decide)).trans e209
        clear h37 ho e210
        refine si_v (v := ?_) 212 39 rfl h38 (wanted_g h38.v 35 209 true e209) ?_ (hzA 212 (by decide)) (fun B E h39 e212 ho => ?_)
        rotate_left
        · (have hO := h38.o; go_simp <;> (try with_reducible rfl))
        replace e205 := (ho 205 (by decide)).trans e205
        replace e209 := (ho 209 (by decide)).trans e209
        replace e211 := (ho 211 (by decide)).trans e211
        clear h38 ho
        refine si_v (v := ?_) 213 40 rfl h39 (wanted_g h39.v 35 209 true e209) ?_ (hzA 213 (by decide)) (fun B E h40 e213 ho => ?_)
        rotate_left
        · (go_simp <;> (try with_reducible rfl))
        replace e205 := (ho 205 (by decide)).trans e205
        replace e209 := (ho 209 (by decide)).trans e209
        replace e211 := (ho 211 (by decide)).trans e211
        clear h39 ho e212
        refine si_v (v := ?_) 214 41 rfl h40 (wanted_g h40.v 35 209 true e209) ?_ (hzA 214 (by decide)) (fun B E h41 e214 ho => ?_)
        rotate_left
        · (go_simp <;> (try with_reducible rfl))
        replace e205 := (ho 205 (by decide)).trans e205
        replace e209 := (ho 209 (by decide)).trans e209
        clear h40 ho e211 e213
        by_cases c3 : y9 = x8
        ·
         replace e214 := e214.trans (congrArg Value.bool (by simp [c3] : (y9 == x8) = true))
         have HN : Hid (tf (prR y0 y3 y8 y9 x0 x3 x8 x9) = false) := Hid.intro (tf_no (fun q => q.2.2.2.1 yd c3))
         refine si_v (v := ?_) 215 42 rfl h41 (wanted_g h41.v 35 209 true e209) ?_ (hzA 215 (by decide)) (fun B E h42 e215 ho => ?_)
         rotate_left
         · (go_simp <;> (try with_reducible rfl))
         replace e205 := (ho 205 (by decide)).trans e205
         replace e209 := (ho 209 (by decide)).trans e209
         clear h41 ho e214
         refine si_nb 41 8 50 223 h42 e215 (hzA 223 (by decide)) (fun B E h50 hu ho => ?_)
         replace e205 := (ho 205 (by decide)).trans e205
         replace e209 := (ho 209 (by decide)).trans e209
         replace e215 := (ho 215 (by decide)).trans e215
         have e223 := hu 223 (by decide) (by decide)
         clear h42 ho hu
         refine si_v (v := ?_) 224 51 rfl h50 (wanted_g h50.v 35 209 true e209) ?_ (hzA 224 (by decide)) (fun B E h51 e224 ho => ?_)
         rotate_left
         · (have hc := h50.c; go_simp <;> (try with_reducible rfl))
         replace e205 := (ho 205 (by decide)).trans e205
         replace e209 := (ho 209 (by decide)).trans e209
         clear h50 ho e223 e215
         refine si_v (v := ?_) 225 52 rfl h51 (wanted_g h51.v 31 205 false e205) ?_ (hzA 225 (by decide)) (fun B E h52 e225 ho => ?_)
         rotate_left
         · (have hc := h51.c; go_simp <;> (try with_reducible rfl))
         replace e205 := (ho 205 (by decide)).trans e205
         clear h51 ho e224 e209
         refine si_v (v := ?_) 226 53 rfl h52 wanted_p ?_ (hzA 226 (by decide)) (fun B E h53 e226 ho => ?_)
         rotate_left
         · (have hc := h52.c; go_simp <;> (try with_reducible rfl))
         clear h52 ho e225 e205
         refine wpI.done rfl ?_
         exact hQ _ _ h53.x h53.v (e226.trans (by rw [HN.out]; rfl))
        ·
         replace e214 := e214.trans (congrArg Value.bool (by simpa using c3 : (y9 == x8) = false))
         refine si_v (v := ?_) 215 42 rfl h41 (wanted_g h41.v 35 209 true e209) ?_ (hzA 215 (by decide)) (fun B E h42 e215 ho => ?_)
         rotate_left
         · (go_simp <;> (try with_reducible rfl))
         replace e205 := (ho 205 (by decide)).trans e205
         replace e209 := (ho 209 (by decide)).trans e209
         clear h41 ho e214
         refine si_v (v := ?_) 216 43 rfl h42 (wanted_g h42.v 41 215 false e215) ?_ (hzA 216 (by decide)) (fun B E h43 e216 ho => ?_)
         rotate_left
         · (have hO := h42.o; go_simp <;> (try with_reducible rfl))
         replace e205 := (ho 205 (by decide)).trans e205
         replace e209 := (ho 209 (by decide)).trans e209
         replace e215 := (ho 215 (by decide)).trans e215
         clear h42 ho
         refine si_v (v := ?_) 217 44 rfl h43 (wanted_g h43.v 41 215 false e215) ?_ (hzA 217 (by decide)) (fun B E h44 e217 ho => ?_)
         rotate_left
         · (go_simp <;> (try with_reducible rfl))
         replace e205 := (ho 205 (by decide)).trans e205
         replace e209 := (ho 209 (by decide)).trans e209
         replace e215 := (ho 215 (by decide)).trans e215
         clear h43 ho e216
         refine si_v (v := ?_) 218 45 rfl h44 (wanted_g h44.v 43 217 true e217) ?_ (hzA 218 (by decide)) (fun B E h45 e218 ho => ?_)
         rotate_left
         · (have hO := h44.o; go_simp <;> (try with_reducible rfl))
         replace e205 := (ho 205 (by decide)).trans e205
         replace e209 := (ho 209 (by decide)).trans e209
         replace e215 := (ho 215 (by decide)).trans e215
         replace e217 := (ho 217 (by decide)).trans e217
         clear h44 ho
         refine si_v (v := ?_) 219 46 rfl h45 (wanted_g h45.v 43 217 true e217) ?_ (hzA 219 (by decide)) (fun B E h46 e219 ho => ?_)
         rotate_left
         · (go_simp <;> (try with_reducible rfl))
         replace e205 := (ho 205 (by decide)).trans e205
         replace e209 := (ho 209 (by decide)).trans e209
         replace e215 := (ho 215 (by decide)).trans e215
         replace e217 := (ho 217 (by decide)).trans e217
         clear h45 ho e218
         refine si_v (v := ?_) 220 47 rfl h46 (wanted_g h46.v 43 217 true e217) ?_ (hzA 220 (by decide)) (fun B E h47 e220 ho => ?_)
         rotate_left
         · (have hO := h46.o; go_simp <;> (try with_reducible rfl))
         replace e205 := (ho 205 (by decide)).trans e205
         replace e209 := (ho 209 (by decide)).trans e209
         replace e215 := (ho 215 (by decide)).trans e215
         replace e217 := (ho 217 (by decide)).trans e217
         replace e219 := (ho 219 (by decide)).trans e219
         clear h46 ho
         refine si_v (v := ?_) 221 48 rfl h47 (wanted_g h47.v 43 217 true e217) ?_ (hzA 221 (by decide)) (fun B E h48 e221 ho => ?_)
         rotate_left
         · (go_simp <;> (try with_reducible rfl))
         replace e205 := (ho 205 (by decide)).trans e205
         replace e209 := (ho 209 (by decide)).trans e209
         replace e215 := (ho 215 (by decide)).trans e215
         replace e217 := (ho 217 (by decide)).trans e217
         replace e219 := (ho 219 (by decide)).trans e219
         clear h47 ho e220
         refine si_v (v := ?_) 222 49 rfl h48 (wanted_g h48.v 43 217 true e217) ?_ (hzA 222 (by decide)) (fun B E h49 e222 ho => ?_)
         rotate_left
         · (go_simp <;> (try with_reducible rfl))
         replace e205 := (ho 205 (by decide)).trans e205
         replace e209 := (ho 209 (by decide)).trans e209
         replace e215 := (ho 215 (by decide)).trans e215
         replace e217 := (ho 217 (by decide)).trans e217
         clear h48 ho e219 e221
         by_cases c4 : y9 = x9
         ·
          replace e222 := e222.trans (congrArg Value.bool (by simp [c4] : (y9 == x9) = true))
          have HN : Hid (tf (prR y0 y3 y8 y9 x0 x3 x8 x9) = false) := Hid.intro (tf_no (fun q => q.2.2.2.2 yd dn c4))
          refine si_v (v := ?_) 223 50 rfl h49 (wanted_g h49.v 41 215 false e215) ?_ (hzA 223 (by decide)) (fun B E h50 e223 ho => ?_)
          rotate_left
          · (have hc := h49.c; go_simp <;> (try with_reducible rfl))
          replace e205 := (ho 205 (by decide)).trans e205
          replace e209 := (ho 209 (by decide)).trans e209
          replace e215 := (ho 215 (by decide)).trans e215
          clear h49 ho e217 e222
          refine si_v (v := ?_) 224 51 rfl h50 (wanted_g h50.v 35 209 true e209) ?_ (hzA 224 (by decide)) (fun B E h51 e224 ho => ?_)
          rotate_left
          · (have hc := h50.c; go_simp <;> (try with_reducible rfl))
          replace e205 := (ho 205 (by decide)).trans e205
          replace e209 := (ho 209 (by decide)).trans e209
          clear h50 ho e223 e215
          refine si_v (v := ?_) 225 52 rfl h51 (wanted_g h51.v 31 205 false e205) ?_ (hzA 225 (by decide)) (fun B E h52 e225 ho => ?_)
          rotate_left
          · (have hc := h51.c; go_simp <;> (try with_reducible rfl))
          replace e205 := (ho 205 (by decide)).trans e205
          clear h51 ho e224 e209
          refine si_v (v := ?_) 226 53 rfl h52 wanted_p ?_ (hzA 226 (by decide)) (fun B E h53 e226 ho => ?_)
          rotate_left
          · (have hc := h52.c; go_simp <;> (try with_reducible rfl))
          clear h52 ho e225 e205
          refine wpI.done rfl ?_
          exact hQ _ _ h53.x h53.v (e226.trans (by rw [HN.out]; rfl))
         ·
          replace e222 := e222.trans (congrArg Value.bool (by simpa using c4 : (y9 == x9) = false))
          have HN : Hid (tf (prR y0 y3 y8 y9 x0 x3 x8 x9) = true) := Hid.intro (tf_yes ⟨fun q => q.2.2 dn, c1, fun _ => c2, fun _ => c3, fun _ _ => c4⟩)
          refine si_v (v := ?_) 223 50 rfl h49 (wanted_g h49.v 41 215 false e215) ?_ (hzA 223 (by decide)) (fun B E h50 e223 ho => ?_)
          rotate_left
          · (have hc := h49.c; go_simp <;> (try with_reducible rfl))
          replace e205 := (ho 205 (by decide)).trans e205
          replace e209 := (ho 209 (by decide)).trans e209
          replace e215 := (ho 215 (by decide)).trans e215
          clear h49 ho e217 e222
          refine si_v (v := ?_) 224 51 rfl h50 (wanted_g h50.v 35 209 true e209) ?_ (hzA 224 (by decide)) (fun B E h51 e224 ho => ?_)
          rotate_left
          · (have hc := h50.c; go_simp <;> (try with_reducible rfl))
          replace e205 := (ho 205 (by decide)).trans e205
          replace e209 := (ho 209 (by decide)).trans e209
          clear h50 ho e223 e215
          refine si_v (v := ?_) 225 52 rfl h51 (wanted_g h51.v 31 205 false e205) ?_ (hzA 225 (by decide)) (fun B E h52 e225 ho => ?_)
          rotate_left
          · (have hc := h51.c; go_simp <;> (try with_reducible rfl))
          replace e205 := (ho 205 (by decide)).trans e205
          clear h51 ho e224 e209
          refine si_v (v := ?_) 226 53 rfl h52 wanted_p ?_ (hzA 226 (by decide)) (fun B E h53 e226 ho => ?_)
          rotate_left
          · (have hc := h52.c; go_simp <;> (try with_reducible rfl))
          clear h52 ho e225 e205
          refine wpI.done rfl ?_
          exact hQ _ _ h53.x h53.v (e226.trans (by rw [HN.out]; rfl))
       ·
        replace e208 := e208.trans (congrArg Value.bool (by simpa using yd : (y3 == 3) = false))
        have HN : Hid (tf (prR y0 y3 y8 y9 x0 x3 x8 x9) = true) := Hid.intro (tf_yes ⟨fun q => q.2.2 dn, c1, fun _ => c2, fun q => absurd q yd, fun q => absurd q yd⟩)
        refine si_v (v := ?_) 209 36 rfl h35 (wanted_g h35.v 31 205 false e205) ?_ (hzA 209 (by decide)) (fun B E h36 e209 ho => ?_)
        rotate_left
        · (go_simp <;> (try with_reducible rfl))
        replace e205 := (ho 205 (by decide)).trans e205
        clear h35 ho e208
        refine si_nb 35 15 51 224 h36 e209 (hzA 224 (by decide)) (fun B E h51 hu ho => ?_)
        replace e205 := (ho 205 (by decide)).trans e205
        replace e209 := (ho 209 (by decide)).trans e209
        have e224 := hu 224 (by decide) (by decide)
        clear h36 ho hu
        refine si_v (v := ?_) 225 52 rfl h51 (wanted_g h51.v 31 205 false e205) ?_ (hzA 225 (by decide)) (fun B E h52 e225 ho => ?_)
        rotate_left
        · (have hc := h51.c; go_simp <;> (try with_reducible rfl))
        replace e205 := (ho 205 (by decide)).trans e205
        clear h51 ho e224 e209
        refine si_v (v := ?_) 226 53 rfl h52 wanted_p ?_ (hzA 226 (by decide)) (fun B E h53 e226 ho => ?_)
        rotate_left
        · (have hc := h52.c; go_simp <;> (try with_reducible rfl))
        clear h52 ho e225 e205
        refine wpI.done rfl ?_
        exact hQ _ _ h53.x h53.v (e226.trans (by rw [HN.out]; rfl))
    ·
     replace e178 := e178.trans (congrArg Value.bool (by simpa using c0 : (y0 == x0) = false))
     refine si_v (v := ?_) 179 6 rfl h5 wanted_p ?_ (hzA 179 (by decide)) (fun B E h6 e179 ho => ?_)
     rotate_left
     · (go_simp <;> (try with_reducible rfl))
     clear h5 ho e178
     refine si_nb 5 2 8 181 h6 e179 (hzA 181 (by decide)) (fun B E h8 hu ho => ?_)
     replace e179 := (ho 179 (by decide)).trans e179
     have e181 := hu 181 (by decide) (by decide)
     clear h6 ho hu
     refine si_v (v := ?_) 182 9 rfl h8 wanted_p ?_ (hzA 182 (by decide)) (fun B E h9 e182 ho => ?_)
     rotate_left
     · (have hc := h8.c; go_simp <;> (try with_reducible rfl))
     clear h8 ho e179 e181
     refine si_v (v := ?_) 183 10 rfl h9 wanted_p ?_ (hzA 183 (by decide)) (fun B E h10 e183 ho => ?_)
     rotate_left
     · (go_simp <;> (try with_reducible rfl))
     clear h9 ho e182
     refine si_nb 9 3 13 186 h10 e183 (hzA 186 (by decide)) (fun B E h13 hu ho => ?_)
     replace e183 := (ho 183 (by decide)).trans e183
     have e186 := hu 186 (by decide) (by decide)
     clear h10 ho hu
     refine si_v (v := ?_) 187 14 rfl h13 wanted_p ?_ (hzA 187 (by decide)) (fun B E h14 e187 ho => ?_)
     rotate_left
     · (have hc := h13.c; go_simp <;> (try with_reducible rfl))
     clear h13 ho e183 e186
     refine si_v (v := ?_) 188 15 rfl h14 wanted_p ?_ (hzA 188 (by decide)) (fun B E h15 e188 ho => ?_)
     rotate_left
     · (go_simp <;> (try with_reducible rfl))
     clear h14 ho e187
     refine si_v (v := ?_) 189 16 rfl h15 (wanted_g h15.v 14 188 false e188) ?_ (hzA 189 (by decide)) (fun B E h16 e189 ho => ?_)
     rotate_left
     · (have hO := h15.o; go_simp <;> (try with_reducible rfl))
     replace e188 := (ho 188 (by decide)).trans e188
     clear h15 ho
     refine si_v (v := ?_) 190 17 rfl h16 (wanted_g h16.v 14 188 false e188) ?_ (hzA 190 (by decide)) (fun B E h17 e190 ho => ?_)
     rotate_left
     · (go_simp <;> (try with_reducible rfl))
     replace e188 := (ho 188 (by decide)).trans e188
     clear h16 ho e189
     refine si_v (v := ?_) 191 18 rfl h17 (wanted_g h17.v 14 188 false e188) ?_ (hzA 191 (by decide)) (fun B E h18 e191 ho => ?_)
     rotate_left
     · (have hO := h17.o; go_simp <;> (try with_reducible rfl))
     replace e188 := (ho 188 (by decide)).trans e188
     replace e190 := (ho 190 (by decide)).trans e190
     clear h17 ho
     refine si_v (v := ?_) 192 19 rfl h18 (wanted_g h18.v 14 188 false e188) ?_ (hzA 192 (by decide)) (fun B E h19 e192 ho => ?_)
     rotate_left
     · (go_simp <;> (try with_reducible rfl))
     replace e188 := (ho 188 (by decide)).trans e188
     replace e190 := (ho 190 (by decide)).trans e190
     clear h18 ho e191
     refine si_v (v := ?_) 193 20 rfl h19 (wanted_g h19.v 14 188 false e188) ?_ (hzA 193 (by decide)) (fun B E h20 e193 ho => ?_)
     rotate_left
     · (go_simp <;> (try with_reducible rfl))
     replace e188 := (ho 188 (by decide)).trans e188
     clear h19 ho e192 e190
     by_cases c1 : y8 = x8
     ·
      replace e193 := e193.trans (congrArg Value.bool (by simp [c1] : (y8 == x8) = true))
      have HN : Hid (tf (prR y0 y3 y8 y9 x0 x3 x8 x9) = false) := Hid.intro (tf_no (fun q => q.2.1 c1))
      refine si_v (v := ?_) 194 21 rfl h20 wanted_p ?_ (hzA 194 (by decide)) (fun B E h21 e194 ho => ?_)
      rotate_left
      · (have hc := h20.c; go_simp <;> (try with_reducible rfl))
      clear h20 ho e193 e188
      refine si_v (v := ?_) 195 22 rfl h21 wanted_p ?_ (hzA 195 (by decide)) (fun B E h22 e195 ho => ?_)
      rotate_left
      · (go_simp <;> (try with_reducible rfl))
      clear h21 ho e194
      refine si_nb 21 8 30 203 h22 e195 (hzA 203 (by decide)) (fun B E h30 hu ho => ?_)
      replace e195 := (ho 195 (by decide)).trans e195
      have e203 := hu 203 (by decide) (by decide)
      clear h22 ho hu
      refine si_v (v := ?_) 204 31 rfl h30 wanted_p ?_ (hzA 204 (by decide)) (fun B E h31 e204 ho => ?_)
      rotate_left
      · (have hc := h30.c; go_simp <;> (try with_reducible rfl))
      clear h30 ho e195 e203
      refine si_v (v := ?_) 205 32 rfl h31 wanted_p ?_ (hzA 205 (by decide)) (fun B E h32 e205 ho => ?_)
      rotate_left
      · (go_simp <;> (try with_reducible rfl))
      clear h31 ho e204
      refine si_nb 31 20 52 225 h32 e205 (hzA 225 (by decide)) (fun B E h52 hu ho => ?_)
      replace e205 := (ho 205 (by decide)).trans e205
      have e225 := hu 225 (by decide) (by decide)
      clear h32 ho hu
      refine si_v (v := ?_) 226 53 rfl h52 wanted_p ?_ (hzA 226 (by decide)) (fun B E h53 e226 ho => ?_)
      rotate_left
      · (have hc := h52.c; go_simp <;> (try with_reducible rfl))
      clear h52 ho e225 e205
      refine wpI.done rfl ?_
      exact hQ _ _ h53.x h53.v (e226.trans (by rw [HN.out]; rfl))
     ·
      replace e193 := e193.trans (congrArg Value.bool (by simpa using c1 : (y8 == x8) = false))
      refine si_v (v := ?_) 194 21 rfl h20 wanted_p ?_ (hzA 194 (by decide)) (fun B E h21 e194 ho => ?_)
      rotate_left
      · (have hc := h20.c; go_simp <;> (try with_reducible rfl))
      clear h20 ho e193 e188
      refine si_v (v := ?_) 195 22 rfl h21 wanted_p ?_ (hzA 195 (by decide)) (fun B E h22 e195 ho => ?_)
      rotate_left
      · (go_simp <;> (try with_reducible rfl))
      clear h21 ho e194
      refine si_v (v := ?_) 196 23 rfl h22 (wanted_g h22.v 21 195 false e195) ?_ (hzA 196 (by decide)) (fun B E h23 e196 ho => ?_)
      rotate_left
      · (have hO := h22.o; go_simp <;> (try with_reducible rfl))
      replace e195 := (ho 195 (by decide)).trans e195
      clear h22 ho
      refine si_v (v := ?_) 197 24 rfl h23 (wanted_g h23.v 21 195 false e195) ?_ (hzA 197 (by decide)) (fun B E h24 e197 ho => ?_)
      rotate_left
      · (go_simp <;> (try with_reducible rfl))
      replace e195 := (ho 195 (by decide)).trans e195
      clear h23 ho e196
      refine si_v (v := ?_) 198 25 rfl h24 (wanted_g h24.v 23 197 true e197) ?_ (hzA 198 (by decide)) (fun B E h25 e198 ho => ?_)
      rotate_left
      · (have hO := h24.o; go_simp <;> (try with_reducible rfl))
      replace e195 := (ho 195 (by decide)).trans e195
      replace e197 := (ho 197 (by decide)).trans e197
      clear h24 ho
      refine si_v (v := ?_) 199 26 rfl h25 (wanted_g h25.v 23 197 true e197) ?_ (hzA 199 (by decide)) (fun B E h26 e199 ho => ?_)
      rotate_left
      · (go_simp <;> (try with_reducible rfl))
      replace e195 := (ho 195 (by decide)).trans e195
      replace e197 := (ho 197 (by decide)).trans e197
      clear h25 ho e198
      refine si_v (v := ?_) 200 27 rfl h26 (wanted_g h26.v 23 197 true e197) ?_ (hzA 200 (by decide)) (fun B E h27 e200 ho => ?_)
      rotate_left
      · (have hO := h26.o; go_simp <;> (try with_reducible rfl))
      replace e195 := (ho 195 (by decide)).trans e195
      replace e197 := (ho 197 (by decide)).trans e197
      replace e199 := (ho 199 (by decide)).trans e199
      clear h26 ho
      refine si_v (v := ?_) 201 28 rfl h27 (wanted_g h27.v 23 197 true e197) ?_ (hzA 201 (by decide)) (fun B E h28 e201 ho => ?_)
      rotate_left
      · (go_simp <;> (try with_reducible rfl))
      replace e195 := (ho 195 (by decide)).trans e195
      replace e197 := (ho 197 (by decide)).trans e197
      replace e199 := (ho 199 (by decide)).trans e199
      clear h27 ho e200
      refine si_v (v := ?_) 202 29 rfl h28 (wanted_g h28.v 23 197 true e197) ?_ (hzA 202 (by decide)) (fun B E h29 e202 ho => ?_)
      rotate_left
      · (go_simp <;> (try with_reducible rfl))
      replace e195 := (ho 195 (by decide)).trans e195
      replace e197 := (ho 197 (by decide)).trans e197
      clear h28 ho e201 e199
      by_cases c2 : x9 = y8
      ·
       replace e202 := e202.trans (congrArg Value.bool (by simp [c2] : (x9 == y8) = true))
       have HN : Hid (tf (prR y0 y3 y8 y9 x0 x3 x8 x9) = false) := Hid.intro (tf_no (fun q => q.2.2.1 dn c2))
       refine si_v (v := ?_) 203 30 rfl h29 (wanted_g h29.v 21 195 false e195) ?_ (hzA 203 (by decide)) (fun B E h30 e203 ho => ?_)
       rotate_left
       · (have hc := h29.c; go_simp <;> (try with_reducible rfl))
       replace e195 := (ho 195 (by decide)).trans e195
       clear h29 ho e197 e202
       refine si_v (v := ?_) 204 31 rfl h30 wanted_p ?_ (hzA 204 (by decide)) (fun B E h31 e204 ho => ?_)
       rotate_left
       · (have hc := h30.c; go_simp <;> (try with_reducible rfl))
       clear h30 ho e195 e203
       refine si_v (v := ?_) 205 32 rfl h31 wanted_p ?_ (hzA 205 (by decide)) (fun B E h32 e205 ho => ?_)
       rotate_left
       · (go_simp <;> (try with_reducible rfl))
       clear h31 ho e204
       refine si_nb 31 20 52 225 h32 e205 (hzA 225 (by decide)) (fun B E h52 hu ho => ?_)
       replace e205 := (ho 205 (by decide)).trans e205
       have e225 := hu 225 (by decide) (by decide)
       clear h32 ho hu
       refine si_v (v := ?_) 226 53 rfl h52 wanted_p ?_ (hzA 226 (by decide)) (fun B E h53 e226 ho => ?_)
       rotate_left
       · (have hc := h52.c; go_simp <;> (try with_reducible rfl))
       clear h52 ho e225 e205
       refine wpI.done rfl ?_
       exact hQ _ _ h53.x h53.v (e226.trans (by rw [HN.out]; rfl))
      ·
       replace e202 := e202.trans (congrArg Value.bool (by simpa using c2 : (x9 == y8) = false))
       refine si_v (v := ?_) 203 30 rfl h29 (wanted_g h29.v 21 195 false e195) ?_ (hzA 203 (by decide)) (fun B E h30 e203 ho => ?_)
       rotate_left
       · (have hc := h29.c; go_simp <;> (try with_reducible rfl))
       replace e195 := (ho 195 (by decide)).trans e195
       clear h29 ho e197 e202
       refine si_v (v := ?_) 204 31 rfl h30 wanted_p ?_ (hzA 204 (by decide)) (fun B E h31 e204 ho => ?_)
       rotate_left
       · (have hc := h30.c; go_simp <;> (try with_reducible rfl))
       clear h30 ho e195 e203
       refine si_v (v := ?_) 205 32 rfl h31 wanted_p ?_ (hzA 205 (by decide)) (fun B E h32 e205 ho => ?_)
       rotate_left
       · (go_simp <;> (try with_reducible rfl))
       clear h31 ho e204
       refine si_v (v := ?_) 206 33 rfl h32 (wanted_g h32.v 31 205 false e205) ?_ (hzA 206 (by decide)) (fun B E h33 e206 ho => ?_)
       rotate_left
       · (have hO := h32.o; go_simp <;> (try with_reducible rfl))
       replace e205 := (ho 205 (by decide)).trans e205
       clear h32 ho
       refine si_v (v := ?_) 207 34 rfl h33 (wanted_g h33.v 31 205 false e205) ?_ (hzA 207 (by decide)) (fun B E h34 e207 ho => ?_)
       rotate_left
       · (go_simp <;> (try with_reducible rfl))
       replace e205 := (ho 205 (by decide)).trans e205
       clear h33 ho e206
       refine si_v (v := ?_) 208 35 rfl h34 (wanted_g h34.v 31 205 false e205) ?_ (hzA 208 (by decide)) (fun B E h35 e208 ho => ?_)
       rotate_left
       · (have hc := h34.c; go_simp <;> (try with_reducible rfl))
       replace e205 := (ho 205 (by decide)).trans e205
       clear h34 ho e207
       by_cases yd : y3 = 3
       ·
        replace e208 := e208.trans (congrArg Value.bool (by simp [yd] : (y3 == 3) = true))
        refine si_v (v := ?_) 209 36 rfl h35 (wanted_g h35.v 31 205 false e205) ?_ (hzA 209 (by decide)) (fun B E h36 e209 ho => ?_)
        rotate_left
        · (go_simp <;> (try with_reducible rfl))
        replace e205 := (ho 205 (by decide)).trans e205
        clear h35 ho e208
        refine si_v (v := ?_) 210 37 rfl h36 (wanted_g h36.v 35 209 true e209) ?_ (hzA 210 (by decide)) (fun B E h37 e210 ho => ?_)
        rotate_left
        · (have hO := h36.o; go_simp <;> (try with_reducible rfl))
        replace e205 := (ho 205 (by decide)).trans e205
        replace e209 := (ho 209 (by decide)).trans e209
        clear h36 ho
        refine si_v (v := ?_) 211 38 rfl h37 (wanted_g h37.v 35 209 true e209) ?_ (hzA 211 (by decide)) (fun B E h38 e211 ho => ?_)
        rotate_left
        · (go_simp <;> (try with_reducible rfl))
        replace e205 := (ho 205 (by decide)).trans e205
        replace e209 := (ho 209 (by decide)).trans e209
        clear h37 ho e210
        refine si_v (v := ?_) 212 39 rfl h38 (wanted_g h38.v 35 209 true e209) ?_ (hzA 212 (by decide)) (fun B E h39 e212 ho => ?_)
        rotate_left
        · (have hO := h38.o; go_simp <;> (try with_reducible rfl))
        replace e205 := (ho 205 (by decide)).trans e205
        replace e209 := (ho 209 (by decide)).trans e209
        replace e211 := (ho 211 (by decide)).trans e211
        clear h38 ho
        refine si_v (v := ?_) 213 40 rfl h39 (wanted_g h39.v 35 209 true e209) ?_ (hzA 213 (by decide)) (fun B E h40 e213 ho => ?_)
        rotate_left
        · (go_simp <;> (try with_reducible rfl))
        replace e205 := (ho 205 (by decide)).trans e205
        replace e209 := (ho 209 (by decide)).trans e209
        replace e211 := (ho 211 (by decide)).trans e211
        clear h39 ho e212
        refine si_v (v := ?_) 214 41 rfl h40 (wanted_g h40.v 35 209 true e209) ?_ (hzA 214 (by decide)) (fun B E h41 e214 ho => ?_)
        rotate_left
        · (go_simp <;> (try with_reducible rfl))
        replace e205 := (ho 205 (by decide)).trans e205
        replace e209 := (ho 209 (by decide)).trans e209
        clear h40 ho e211 e213
        by_cases c3 : y9 = x8
        ·
         replace e214 := e214.trans (congrArg Value.bool (by simp [c3] : (y9 == x8) = true))
         have HN : Hid (tf (prR y0 y3 y8 y9 x0 x3 x8 x9) = false) := Hid.intro (tf_no (fun q => q.2.2.2.1 yd c3))
         refine si_v (v := ?_) 215 42 rfl h41 (wanted_g h41.v 35 209 true e209) ?_ (hzA 215 (by decide)) (fun B E h42 e215 ho => ?_)
         rotate_left
         · (go_simp <;> (try with_reducible rfl))
         replace e205 := (ho 205 (by decide)).trans e205
         replace e209 := (ho 209 (by decide)).trans e209
         clear h41 ho e214
         refine si_nb 41 8 50 223 h42 e215 (hzA 223 (by decide)) (fun B E h50 hu ho => ?_)
         replace e205 := (ho 205 (by decide)).trans e205
         replace e209 := (ho 209 (by decide)).trans e209
         replace e215 := (ho 215 (by decide)).trans e215
         have e223 := hu 223 (by decide) (by decide)
         clear h42 ho hu
         refine si_v (v := ?_) 224 51 rfl h50 (wanted_g h50.v 35 209 true e209) ?_ (hzA 224 (by decide)) (fun B E h51 e224 ho => ?_)
         rotate_left
         · (have hc := h50.c; go_simp <;> (try with_reducible rfl))
         replace e205 := (ho 205 (by decide)).trans e205
         replace e209 := (ho 209 (by decide)).trans e209
         clear h50 ho e223 e215
         refine si_v (v := ?_) 225 52 rfl h51 (wanted_g h51.v 31 205 false e205) ?_ (hzA 225 (by decide)) (fun B E h52 e225 ho => ?_)
         rotate_left
         · (have hc := h51.c; go_simp <;> (try with_reducible rfl))
         replace e205 := (ho 205 (by decide)).trans e205
         clear h51 ho e224 e209
         refine si_v (v := ?_) 226 53 rfl h52 wanted_p ?_ (hzA 226 (by decide)) (fun B E h53 e226 ho => ?_)
         rotate_left
         · (have hc := h52.c; go_simp <;> (try with_reducible rfl))
         clear h52 ho e225 e205
         refine wpI.done rfl ?_
         exact hQ _ _ h53.x h53.v (e226.trans (by rw [HN.out]; rfl))
        ·
         replace e214 := e214.trans (congrArg Value.bool (by simpa using c3 : (y9 == x8) = false))
         refine si_v (v := ?_) 215 42 rfl h41 (wanted_g h41.v 35 209 true e209) ?_ (hzA 215 (by decide)) (fun B E h42 e215 ho => ?_)
         rotate_left
         · (go_simp <;> (try with_reducible rfl))
         replace e205 := (ho 205 (by decide)).trans e205
         replace e209 := (ho 209 (by decide)).trans e209
         clear h41 ho e214
         refine si_v (v := ?_) 216 43 rfl h42 (wanted_g h42.v 41 215 false e215) ?_ (hzA 216 (by decide)) (fun B E h43 e216 ho => ?_)
         rotate_left
         · (have hO := h42.o; go_simp <;> (try with_reducible rfl))
         replace e205 := (ho 205 (by decide)).trans e205
         replace e209 := (ho 209 (by decide)).trans e209
         replace e215 := (ho 215 (by decide)).trans e215
         clear h42 ho
         refine si_v (v := ?_) 217 44 rfl h43 (wanted_g h43.v 41 215 false e215) ?_ (hzA 217 (by decide)) (fun B E h44 e217 ho => ?_)
         rotate_left
         · (go_simp <;> (try with_reducible rfl))
         replace e205 := (ho 205 (by decide)).trans e205
         replace e209 := (ho 209 (by decide)).trans e209
         replace e215 := (ho 215 (by decide)).trans e215
         clear h43 ho e216
         refine si_v (v := ?_) 218 45 rfl h44 (wanted_g h44.v 43 217 true e217) ?_ (hzA 218 (by decide)) (fun B E h45 e218 ho => ?_)
         rotate_left
         · (have hO := h44.o; go_simp <;> (try with_reducible rfl))
         replace e205 := (ho 205 (by decide)).trans e205
         replace e209 := (ho 209 (by decide)).trans e209
         replace e215 := (ho 215 (by decide)).trans e215
         replace e217 := (ho 217 (by decide)).trans e217
         clear h44 ho
         refine si_v (v := ?_) 219 46 rfl h45 (wanted_g h45.v 43 217 true e217) ?_ (hzA 219 (by decide)) (fun B E h46 e219 ho => ?_)
         rotate_left
         · (go_simp <;> (try with_reducible rfl))
         replace e205 := (ho 205 (by decide)).trans e205
         replace e209 := (ho 209 (by decide)).trans e209
         replace e215 := (ho 215 (by decide)).trans e215
         replace e217 := (ho 217 (by decide)).trans e217
         clear h45 ho e218
         refine si_v (v := ?_) 220 47 rfl h46 (wanted_g h46.v 43 217 true e217) ?_ (hzA 220 (by decide)) (fun B E h47 e220 ho => ?_)
         rotate_left
         · (have hO := h46.o; go_simp <;> (try with_reducible rfl))
         replace e205 := (ho 205 (by decide)).trans e205
         replace e209 := (ho 209 (by decide)).trans e209
         replace e215 := (ho 215 (by decide)).trans e215
         replace e217 := (ho 217 (by decide)).trans e217
         replace e219 := (ho 219 (by decide)).trans e219
         clear h46 ho
         refine si_v (v := ?_) 221 48 rfl h47 (wanted_g h47.v 43 217 true e217) ?_ (hzA 221 (by decide)) (fun B E h48 e221 ho => ?_)
         rotate_left
         · (go_simp <;> (try with_reducible rfl))
         replace e205 := (ho 205 (by decide)).trans e205
         replace e209 := (ho 209 (by decide)).trans e209
         replace e215 := (ho 215 (by decide)).trans e215
         replace e217 := (ho 217 (by decide)).trans e217
         replace e219 := (ho 219 (by decide)).trans e219
         clear h47 ho e220
         refine si_v (v := ?_) 222 49 rfl h48 (wanted_g h48.v 43 217 true e217) ?_ (hzA 222 (by decide)) (fun B E h49 e222 ho => ?_)
         rotate_left
         · (go_simp <;> (try with_reducible rfl))
         replace e205 := (ho 205 (by decide)).trans e205
         replace e209 := (ho 209 (by decide)).trans e209
         replace e215 := (ho 215 (by decide)).trans e215
         replace e217 := (ho 217 (by decide)).trans e217
         clear h48 ho e219 e221
         by_cases c4 : y9 = x9
         ·
          replace e222 := e222.trans (congrArg Value.bool (by simp [c4] : (y9 == x9) = true))
          have HN : Hid (tf (prR y0 y3 y8 y9 x0 x3 x8 x9) = false) := Hid.intro (tf_no (fun q => q.2.2.2.2 yd dn c4))
          refine si_v (v := ?_) 223 50 rfl h49 (wanted_g h49.v 41 215 false e215) ?_ (hzA 223 (by decide)) (fun B E h50 e223 ho => ?_)
          rotate_left
          · (have hc := h49.c; go_simp <;> (try with_reducible rfl))
          replace e205 := (ho 205 (by decide)).trans e205
          replace e209 := (ho 209 (by decide)).trans e209
          replace e215 := (ho 215 (by decide)).trans e215
          clear h49 ho e217 e222
          refine si_v (v := ?_) 224 51 rfl h50 (wanted_g h50.v 35 209 true e209) ?_ (hzA 224 (by decide)) (fun B E h51 e224 ho => ?_)
          rotate_left
          · (have hc := h50.c; go_simp <;> (try with_reducible rfl))
          replace e205 := (ho 205 (by decide)).trans e205
          replace e209 := (ho 209 (by decide)).trans e209
          clear h50 ho e223 e215
          refine si_v (v := ?_) 225 52 rfl h51 (wanted_g h51.v 31 205 false e205) ?_ (hzA 225 (by decide)) (fun B E h52 e225 ho => ?_)
          rotate_left
          · (have hc := h51.c; go_simp <;> (try with_reducible rfl))
          replace e205 := (ho 205 (by decide)).trans e205
          clear h51 ho e224 e209
          refine si_v (v := ?_) 226 53 rfl h52 wanted_p ?_ (hzA 226 (by decide)) (fun B E h53 e226 ho => ?_)
          rotate_left
          · (have hc := h52.c; go_simp <;> (try with_reducible rfl))
          clear h52 ho e225 e205
          refine wpI.done rfl ?_
          exact hQ _ _ h53.x h53.v (e226.trans (by rw [HN.out]; rfl))
         ·
          replace e222 := e222.trans (congrArg Value.bool (by simpa using c4 : (y9 == x9) = false))
          have HN : Hid (tf (prR y0 y3 y8 y9 x0 x3 x8 x9) = true) := Hid.intro (tf_yes ⟨fun q => q.2.2 dn, c1, fun _ => c2, fun _ => c3, fun _ _ => c4⟩)
          refine si_v (v := ?_) 223 50 rfl h49 (wanted_g h49.v 41 215 false e215) ?_ (hzA 223 (by decide)) (fun B E h50 e223 ho => ?_)
          rotate_left
          · (have hc := h49.c; go_simp <;> (try with_reducible rfl))
          replace e205 := (ho 205 (by decide)).trans e205
          replace e209 := (ho 209 (by decide)).trans e209
          replace e215 := (ho 215 (by decide)).trans e215
          clear h49 ho e217 e222
          refine si_v (v := ?_) 224 51 rfl h50 (wanted_g h50.v 35 209 true e209) ?_ (hzA 224 (by decide)) (fun B E h51 e224 ho => ?_)
          rotate_left
          · (have hc := h50.c; go_simp <;> (try with_reducible rfl))
          replace e205 := (ho 205 (by decide)).trans e205
          replace e209 := (ho 209 (by decide)).trans e209
          clear h50 ho e223 e215
          refine si_v (v := ?_) 225 52 rfl h51 (wanted_g h51.v 31 205 false e205) ?_ (hzA 225 (by decide)) (fun B E h52 e225 ho => ?_)
          rotate_left
          · (have hc := h51.c; go_simp <;> (try with_reducible rfl))
          replace e205 := (ho 205 (by decide)).trans e205
          clear h51 ho e224 e209
          refine si_v (v := ?_) 226 53 rfl h52 wanted_p ?_ (hzA 226 (by decide)) (fun B E h53 e226 ho => ?_)
          rotate_left
          · (have hc := h52.c; go_simp <;> (try with_reducible rfl))
          clear h52 ho e225 e205
          refine wpI.done rfl ?_
          exact hQ _ _ h53.x h53.v (e226.trans (by rw [HN.out]; rfl))
       ·
        replace e208 := e208.trans (congrArg Value.bool (by simpa using yd : (y3 == 3) = false))
        have HN : Hid (tf (prR y0 y3 y8 y9 x0 x3 x8 x9) = true) := Hid.intro (tf_yes ⟨fun q => q.2.2 dn, c1, fun _ => c2, fun q => absurd q yd, fun q => absurd q yd⟩)
        refine si_v (v := ?_) 209 36 rfl h35 (wanted_g h35.v 31 205 false e205) ?_ (hzA 209 (by decide)) (fun B E h36 e209 ho => ?_)
        rotate_left
        · (go_simp <;> (try with_reducible rfl))
        replace e205 := (ho 205 (by decide)).trans e205
        clear h35 ho e208
        refine si_nb 35 15 51 224 h36 e209 (hzA 224 (by decide)) (fun B E h51 hu ho => ?_)
        replace e205 := (ho 205 (by decide)).trans e205
        replace e209 := (ho 209 (by decide)).trans e209
        have e224 := hu 224 (by decide) (by decide)
        clear h36 ho hu
        refine si_v (v := ?_) 225 52 rfl h51 (wanted_g h51.v 31 205 false e205) ?_ (hzA 225 (by decide)) (fun B E h52 e225 ho => ?_)
        rotate_left
        · (have hc := h51.c; go_simp <;> (try with_reducible rfl))
        replace e205 := (ho 205 (by decide)).trans e205
        clear h51 ho e224 e209
        refine si_v (v := ?_) 226 53 rfl h52 wanted_p ?_ (hzA 226 (by decide)) (fun B E h53 e226 ho => ?_)
        rotate_left
        · (have hc := h52.c; go_simp <;> (try with_reducible rfl))
        clear h52 ho e225 e205
        refine wpI.done rfl ?_
        exact hQ _ _ h53.x h53.v (e226.trans (by rw [HN.out]; rfl))
  · have dnb : (x3 == 3) = false := by simpa using dn
    rw [dnb] at e7
    refine si_v (v := ?_) 174 1 rfl h0 wanted_p ?_ (hzA 174 (by decide)) (fun B E h1 e174 ho => ?_)
    rotate_left
    · (have hO := h0.o; go_simp <;> (try with_reducible rfl))
    clear h0 ho
    refine si_v (v := ?_) 175 2 rfl h1 wanted_p ?_ (hzA 175 (by decide)) (fun B E h2 e175 ho => ?_)
    rotate_left
    · (go_simp <;> (try with_reducible rfl))
    clear h1 ho e174
    refine si_v (v := ?_) 176 3 rfl h2 wanted_p ?_ (hzA 176 (by decide)) (fun B E h3 e176 ho => ?_)
    rotate_left
    · (have hO := h2.o; go_simp <;> (try with_reducible rfl))
    replace e175 := (ho 175 (by decide)).trans e175
    clear h2 ho
    refine si_v (v := ?_) 177 4 rfl h3 wanted_p ?_ (hzA 177 (by decide)) (fun B E h4 e177 ho => ?_)
    rotate_left
    · (go_simp <;> (try with_reducible rfl))
    replace e175 := (ho 175 (by decide)).trans e175
    clear h3 ho e176
    refine si_v (v := ?_) 178 5 rfl h4 wanted_p ?_ (hzA 178 (by decide)) (fun B E h5 e178 ho => ?_)
    rotate_left
    · (go_simp <;> (try with_reducible rfl))
    clear h4 ho e177 e175
    by_cases c0 : y0 = x0
    ·
     replace e178 := e178.trans (congrArg Value.bool (by simp [c0] : (y0 == x0) = true))
     refine si_v (v := ?_) 179 6 rfl h5 wanted_p ?_ (hzA 179 (by decide)) (fun B E h6 e179 ho => ?_)
     rotate_left
     · (go_simp <;> (try with_reducible rfl))
     clear h5 ho e178
     refine si_v (v := ?_) 180 7 rfl h6 (wanted_g h6.v 5 179 true e179) ?_ (hzA 180 (by decide)) (fun B E h7 e180 ho => ?_)
     rotate_left
     · (have hO := h6.o; go_simp <;> (try with_reducible rfl))
     replace e179 := (ho 179 (by decide)).trans e179
     clear h6 ho
     refine si_v (v := ?_) 181 8 rfl h7 (wanted_g h7.v 5 179 true e179) ?_ (hzA 181 (by decide)) (fun B E h8 e181 ho => ?_)
     rotate_left
     · (go_simp <;> (try with_reducible rfl))
     replace e179 := (ho 179 (by decide)).trans e179
     clear h7 ho e180
     refine si_v (v := ?_) 182 9 rfl h8 wanted_p ?_ (hzA 182 (by decide)) (fun B E h9 e182 ho => ?_)
     rotate_left
     · (have hc := h8.c; go_simp <;> (try with_reducible rfl))
     clear h8 ho e179 e181
     refine si_v (v := ?_) 183 10 rfl h9 wanted_p ?_ (hzA 183 (by decide)) (fun B E h10 e183 ho => ?_)
     rotate_left
     · (go_simp <;> (try with_reducible rfl))
     clear h9 ho e182
     refine si_v (v := ?_) 184 11 rfl h10 (wanted_g h10.v 9 183 true e183) ?_ (hzA 184 (by decide)) (fun B E h11 e184 ho => ?_)
     rotate_left
     · (have hO := h10.o; go_simp <;> (try with_reducible rfl))
     replace e183 := (ho 183 (by decide)).trans e183
     clear h10 ho
     refine si_v (v := ?_) 185 12 rfl h11 (wanted_g h11.v 9 183 true e183) ?_ (hzA 185 (by decide)) (fun B E h12 e185 ho => ?_)
     rotate_left
     · (go_simp <;> (try with_reducible rfl))
     replace e183 := (ho 183 (by decide)).trans e183
     clear h11 ho e184
     refine si_v (v := ?_) 186 13 rfl h12 (wanted_g h12.v 9 183 true e183) ?_ (hzA 186 (by decide)) (fun B E h13 e186 ho => ?_)
     rotate_left
     · (have hc := h12.c; go_simp <;> (try with_reducible rfl))
     replace e183 := (ho 183 (by decide)).trans e183
     clear h12 ho e185
     by_cases yd : y3 = 3
     ·
      have yb : (y3 == 3) = true := by simpa using yd
      replace e186 := e186.trans (congrArg Value.bool (by simp [yd] : (y3 != 3) = false))
      refine si_v (v := ?_) 187 14 rfl h13 wanted_p ?_ (hzA 187 (by decide)) (fun B E h14 e187 ho => ?_)
      rotate_left
      · (have hc := h13.c; go_simp <;> (try with_reducible rfl))
      clear h13 ho e183 e186
      refine si_v (v := ?_) 188 15 rfl h14 wanted_p ?_ (hzA 188 (by decide)) (fun B E h15 e188 ho => ?_)
      rotate_left
      · (go_simp <;> (try with_reducible rfl))
      clear h14 ho e187
      refine si_v (v := ?_) 189 16 rfl h15 (wanted_g h15.v 14 188 false e188) ?_ (hzA 189 (by decide)) (fun B E h16 e189 ho => ?_)
      rotate_left
      · (have hO := h15.o; go_simp <;> (try with_reducible rfl))
      replace e188 := (ho 188 (by decide)).trans e188
      clear h15 ho
      refine si_v (v := ?_) 190 17 rfl h16 (wanted_g h16.v 14 188 false e188) ?_ (hzA 190 (by decide)) (fun B E h17 e190 ho => ?_)
      rotate_left
      · (go_simp <;> (try with_reducible rfl))
      replace e188 := (ho 188 (by decide)).trans e188
      clear h16 ho e189
      refine si_v (v := ?_) 191 18 rfl h17 (wanted_g h17.v 14 188 false e188) ?_ (hzA 191 (by decide)) (fun B E h18 e191 ho => ?_)
      rotate_left
      · (have hO := h17.o; go_simp <;> (try with_reducible rfl))
      replace e188 := (ho 188 (by decide)).trans e188
      replace e190 := (ho 190 (by decide)).trans e190
      clear h17 ho
      refine si_v (v := ?_) 192 19 rfl h18 (wanted_g h18.v 14 188 false e188) ?_ (hzA 192 (by decide)) (fun B E h19 e192 ho => ?_)
      rotate_left
      · (go_simp <;> (try with_reducible rfl))
      replace e188 := (ho 188 (by decide)).trans e188
      replace e190 := (ho 190 (by decide)).trans e190
      clear h18 ho e191
      refine si_v (v := ?_) 193 20 rfl h19 (wanted_g h19.v 14 188 false e188) ?_ (hzA 193 (by decide)) (fun B E h20 e193 ho => ?_)
      rotate_left
      · (go_simp <;> (try with_reducible rfl))
      replace e188 := (ho 188 (by decide)).trans e188
      clear h19 ho e192 e190
      by_cases c1 : y8 = x8
      ·
       replace e193 := e193.trans (congrArg Value.bool (by simp [c1] : (y8 == x8) = true))
       have HN : Hid (tf (prR y0 y3 y8 y9 x0 x3 x8 x9) = false) := Hid.intro (tf_no (fun q => q.2.1 c1))
       refine si_v (v := ?_) 194 21 rfl h20 wanted_p ?_ (hzA 194 (by decide)) (fun B E h21 e194 ho => ?_)
       rotate_left
       · (have hc := h20.c; go_simp <;> (try with_reducible rfl))
       clear h20 ho e193 e188
       refine si_v (v := ?_) 195 22 rfl h21 wanted_p ?_ (hzA 195 (by decide)) (fun B E h22 e195 ho => ?_)
       rotate_left
       · (go_simp <;> (try with_reducible rfl))
       clear h21 ho e194
       refine si_nb 21 8 30 203 h22 e195 (hzA 203 (by decide)) (fun B E h30 hu ho => ?_)
       replace e195 := (ho 195 (by decide)).trans e195
       have e203 := hu 203 (by decide) (by decide)
       clear h22 ho hu
       refine si_v (v := ?_) 204 31 rfl h30 wanted_p ?_ (hzA 204 (by decide)) (fun B E h31 e204 ho => ?_)
       rotate_left
       · (have hc := h30.c; go_simp <;> (try with_reducible rfl))
       clear h30 ho e195 e203
       refine si_v (v := ?_) 205 32 rfl h31 wanted_p ?_ (hzA 205 (by decide)) (fun B E h32 e205 ho => ?_)
       rotate_left
       · (go_simp <;> (try with_reducible rfl))
       clear h31 ho e204
       refine si_nb 31 20 52 225 h32 e205 (hzA 225 (by decide)) (fun B E h52 hu ho => ?_)
       replace e205 := (ho 205 (by decide)).trans e205
       have e225 := hu 225 (by decide) (by decide)
       clear h32 ho hu
       refine si_v (v := ?_) 226 53 rfl h52 wanted_p ?_ (hzA 226 (by decide)) (fun B E h53 e226 ho => ?_)
       rotate_left
       · (have hc := h52.c; go_simp <;> (try with_reducible rfl))
       clear h52 ho e225 e205
       refine wpI.done rfl ?_
       exact hQ _ _ h53.x h53.v (e226.trans (by rw [HN.out]; rfl))
      ·
       replace e193 := e193.trans (congrArg Value.bool (by simpa using c1 : (y8 == x8) = false))
       refine si_v (v := ?_) 194 21 rfl h20 wanted_p ?_ (hzA 194 (by decide)) (fun B E h21 e194 ho => ?_)
       rotate_left
       · (have hc := h20.c; go_simp <;> (try with_reducible rfl))
       clear h20 ho e193 e188
       refine si_v (v := ?_) 195 22 rfl h21 wanted_p ?_ (hzA 195 (by decide)) (fun B E h22 e195 ho => ?_)
       rotate_left
       · (go_simp <;> (try with_reducible rfl))
       clear h21 ho e194
       refine si_v (v := ?_) 196 23 rfl h22 (wanted_g h22.v 21 195 false e195) ?_ (hzA 196 (by decide)) (fun B E h23 e196 ho => ?_)
       rotate_left
       · (have hO := h22.o; go_simp <;> (try with_reducible rfl))
       replace e195 := (ho 195 (by decide)).trans e195
       clear h22 ho
       refine si_v (v := ?_) 197 24 rfl h23 (wanted_g h23.v 21 195 false e195) ?_ (hzA 197 (by decide)) (fun B E h24 e197 ho => ?_)
       rotate_left
       · (go_simp <;> (try with_reducible rfl))
       replace e195 := (ho 195 (by decide)).trans e195
       clear h23 ho e196
       refine si_nb 23 5 29 202 h24 e197 (hzA 202 (by decide)) (fun B E h29 hu ho => ?_)
       replace e195 := (ho 195 (by decide)).trans e195
       replace e197 := (ho 197 (by decide)).trans e197
       have e202 := hu 202 (by decide) (by decide)
       clear h24 ho hu
       refine si_v (v := ?_) 203 30 rfl h29 (wanted_g h29.v 21 195 false e195) ?_ (hzA 203 (by decide)) (fun B E h30 e203 ho => ?_)
       rotate_left
       · (have hc := h29.c; go_simp <;> (try with_reducible rfl))
       replace e195 := (ho 195 (by decide)).trans e195
       clear h29 ho e197 e202
       refine si_v (v := ?_) 204 31 rfl h30 wanted_p ?_ (hzA 204 (by decide)) (fun B E h31 e204 ho => ?_)
       rotate_left
       · (have hc := h30.c; go_simp <;> (try with_reducible rfl))
       clear h30 ho e195 e203
       refine si_v (v := ?_) 205 32 rfl h31 wanted_p ?_ (hzA 205 (by decide)) (fun B E h32 e205 ho => ?_)
       rotate_left
       · (go_simp <;> (try with_reducible rfl))
       clear h31 ho e204
       refine si_v (v := ?_) 206 33 rfl h32 (wanted_g h32.v 31 205 false e205) ?_ (hzA 206 (by decide)) (fun B E h33 e206 ho => ?_)
       rotate_left
       · (have hO := h32.o; go_simp <;> (try with_reducible rfl))
       replace e205 := (ho 205 (by decide)).trans e205
       clear h32 ho
       refine si_v (v := ?_) 207 34 rfl h33 (wanted_g h33.v 31 205 false e205) ?_ (hzA 207 (by decide)) (fun B E h34 e207 ho => ?_)
       rotate_left
       · (go_simp <;> (try with_reducible rfl))
       replace e205 := (ho 205 (by decide)).trans e205
       clear h33 ho e206
       refine si_v (v := ?_) 208 35 rfl h34 (wanted_g h34.v 31 205 false e205) ?_ (hzA 208 (by decide)) (fun B E h35 e208 ho => ?_)
       rotate_left
       · (have hc := h34.c; go_simp <;> (try with_reducible rfl))
       replace e205 := (ho 205 (by decide)).trans e205
       clear h34 ho e207
       refine si_v (v := ?_) 209 36 rfl h35 (wanted_g h35.v 31 205 false e205) ?_ (hzA 209 (by decide)) (fun B E h36 e209 ho => ?_)
       rotate_left
       · (go_simp <;> (try with_reducible rfl))
       replace e205 := (ho 205 (by decide)).trans e205
       clear h35 ho e208
       refine si_v (v := ?_) 210 37 rfl h36 (wanted_g h36.v 35 209 true e209) ?_ (hzA 210 (by decide)) (fun B E h37 e210 ho => ?_)
       rotate_left
       · (have hO := h36.o; go_simp <;> (try with_reducible rfl))
       replace e205 := (ho 205 (by decide)).trans e205
       replace e209 := (ho 209 (by decide)).trans e209
       clear h36 ho
       refine si_v (v := ?_) 211 38 rfl h37 (wanted_g h37.v 35 209 true e209) ?_ (hzA 211 (by decide)) (fun B E h38 e211 ho => ?_)
       rotate_left
       · (go_simp <;> (try with_reducible rfl))
       replace e205 := (ho 205 (by decide)).trans e205
       replace e209 := (ho 209 (by decide)).trans e209
       clear h37 ho e210
       refine si_v (v := ?_) 212 39 rfl h38 (wanted_g h38.v 35 209 true e209) ?_ (hzA 212 (by decide)) (fun B E h39 e212 ho => ?_)
       rotate_left
       · (have hO := h38.o; go_simp <;> (try with_reducible rfl))
       replace e205 := (ho 205 (by decide)).trans e205
       replace e209 := (ho 209 (by decide)).trans e209
       replace e211 := (ho 211 (by decide)).trans e211
       clear h38 ho
       refine si_v (v := ?_) 213 40 rfl h39 (wanted_g h39.v 35 209 true e209) ?_ (hzA 213 (by decide)) (fun B E h40 e213 ho => ?_)
       rotate_left
       · (go_simp <;> (try with_reducible rfl))
       replace e205 := (ho 205 (by decide)).trans e205
       replace e209 := (ho 209 (by decide)).trans e209
       replace e211 := (ho 211 (by decide)).trans e211
       clear h39 ho e212
       refine si_v (v := ?_) 214 41 rfl h40 (wanted_g h40.v 35 209 true e209) ?_ (hzA 214 (by decide)) (fun B E h41 e214 ho => ?_)
       rotate_left
       · (go_simp <;> (try with_reducible rfl))
       replace e205 := (ho 205 (by decide)).trans e205
       replace e209 := (ho 209 (by decide)).trans e209
       clear h40 ho e211 e213
       by_cases c3 : y9 = x8
       ·
        replace e214 := e214.trans (congrArg Value.bool (by simp [c3] : (y9 == x8) = true))
        have HN : Hid (tf (prR y0 y3 y8 y9 x0 x3 x8 x9) = false) := Hid.intro (tf_no (fun q => q.2.2.2.1 yd c3))
        refine si_v (v := ?_) 215 42 rfl h41 (wanted_g h41.v 35 209 true e209) ?_ (hzA 215 (by decide)) (fun B E h42 e215 ho => ?_)
        rotate_left
        · (go_simp <;> (try with_reducible rfl))
        replace e205 := (ho 205 (by decide)).trans e205
        replace e209 := (ho 209 (by decide)).trans e209
        clear h41 ho e214
        refine si_nb 41 8 50 223 h42 e215 (hzA 223 (by decide)) (fun B E h50 hu ho => ?_)
        replace e205 := (ho 205 (by decide)).trans e205
        replace e209 := (ho 209 (by decide)).trans e209
        replace e215 := (ho 215 (by decide)).trans e215
        have e223 := hu 223 (by decide) (by decide)
        clear h42 ho hu
        refine si_v (v := ?_) 224 51 rfl h50 (wanted_g h50.v 35 209 true e209) ?_ (hzA 224 (by decide)) (fun B E h51 e224 ho => ?_)
        rotate_left
        · (have hc := h50.c; go_simp <;> (try with_reducible rfl))
        replace e205 := (ho 205 (by decide)).trans e205
        replace e209 := (ho 209 (by decide)).trans e209
        clear h50 ho e223 e215
        refine si_v (v := ?_) 225 52 rfl h51 (wanted_g h51.v 31 205 false e205) ?_ (hzA 225 (by decide)) (fun B E h52 e225 ho => ?_)
        rotate_left
        · (have hc := h51.c; go_simp <;> (try with_reducible rfl))
        replace e205 := (ho 205 (by decide)).trans e205
        clear h51 ho e224 e209
        refine si_v (v := ?_) 226 53 rfl h52 wanted_p ?_ (hzA 226 (by decide)) (fun B E h53 e226 ho => ?_)
        rotate_left
        · (have hc := h52.c; go_simp <;> (try with_reducible rfl))
        clear h52 ho e225 e205
        refine wpI.done rfl ?_
        exact hQ _ _ h53.x h53.v (e226.trans (by rw [HN.out]; rfl))
       ·
        replace e214 := e214.trans (congrArg Value.bool (by simpa using c3 : (y9 == x8) = false))
        have HN : Hid (tf (prR y0 y3 y8 y9 x0 x3 x8 x9) = true) := Hid.intro (tf_yes ⟨fun q => q.2.1 yd, c1, fun q => absurd q dn, fun _ => c3, fun _ q => absurd q dn⟩)
        refine si_v (v := ?_) 215 42 rfl h41 (wanted_g h41.v 35 209 true e209) ?_ (hzA 215 (by decide)) (fun B E h42 e215 ho => ?_)
        rotate_left
        · (go_simp <;> (try with_reducible rfl))
        replace e205 := (ho 205 (by decide)).trans e205
        replace e209 := (ho 209 (by decide)).trans e209
        clear h41 ho e214
        refine si_v (v := ?_) 216 43 rfl h42 (wanted_g h42.v 41 215 false e215) ?_ (hzA 216 (by decide)) (fun B E h43 e216 ho => ?_)
        rotate_left
        · (have hO := h42.o; go_simp <;> (try with_reducible rfl))
        replace e205 := (ho 205 (by decide)).trans e205
        replace e209 := (ho 209 (by decide)).trans e209
        replace e215 := (ho 215 (by decide)).trans e215
        clear h42 ho
        refine si_v (v := ?_) 217 44 rfl h43 (wanted_g h43.v 41 215 false e215) ?_ (hzA 217 (by decide)) (fun B E h44 e217 ho => ?_)
        rotate_left
        · (go_simp <;> (try with_reducible rfl))
        replace e205 := (ho 205 (by decide)).trans e205
        replace e209 := (ho 209 (by decide)).trans e209
        replace e215 := (ho 215 (by decide)).trans e215
        clear h43 ho e216
        refine si_nb 43 5 49 222 h44 e217 (hzA 222 (by decide)) (fun B E h49 hu ho => ?_)
        replace e205 := (ho 205 (by decide)).trans e205
        replace e209 := (ho 209 (by decide)).trans e209
        replace e215 := (ho 215 (by decide)).trans e215
        replace e217 := (ho 217 (by decide)).trans e217
        have e222 := hu 222 (by decide) (by decide)
        clear h44 ho hu
        refine si_v (v := ?_) 223 50 rfl h49 (wanted_g h49.v 41 215 false e215) ?_ (hzA 223 (by decide)) (fun B E h50 e223 ho => ?_)
        rotate_left
        · (have hc := h49.c; go_simp <;> (try with_reducible rfl))
        replace e205 := (ho 205 (by decide)).trans e205
        replace e209 := (ho 209 (by decide)).trans e209
        replace e215 := (ho 215 (by decide)).trans e215
        clear h49 ho e217 e222
        refine si_v (v := ?_) 224 51 rfl h50 (wanted_g h50.v 35 209 true e209) ?_ (hzA 224 (by decide)) (fun B E h51 e224 ho => ?_)
        rotate_left
        · (have hc := h50.c; go_simp <;> (try with_reducible rfl))
        replace e205 := (ho 205 (by decide)).trans e205
        replace e209 := (ho 209 (by decide)).trans e209
        clear h50 ho e223 e215
        refine si_v (v := ?_) 225 52 rfl h51 (wanted_g h51.v 31 205 false e205) ?_ (hzA 225 (by decide)) (fun B E h52 e225 ho => ?_)
        rotate_left
        · (have hc := h51.c; go_simp <;> (try with_reducible rfl))
        replace e205 := (ho 205 (by decide)).trans e205
        clear h51 ho e224 e209
        refine si_v (v := ?_) 226 53 rfl h52 wanted_p ?_ (hzA 226 (by decide)) (fun B E h53 e226 ho => ?_)
        rotate_left
        · (have hc := h52.c; go_simp <;> (try with_reducible rfl))
        clear h52 ho e225 e205
        refine wpI.done rfl ?_
        exact hQ _ _ h53.x h53.v (e226.trans (by rw [HN.out]; rfl))
     ·
      have yb : (y3 == 3) = false := by simpa using yd
      replace e186 := e186.trans (congrArg Value.bool (by simpa using yd : (y3 != 3) = true))
      have HN : Hid (tf (prR y0 y3 y8 y9 x0 x3 x8 x9) = false) := Hid.intro (tf_no (fun q => q.1 ⟨c0, yd, dn⟩))
      refine si_v (v := ?_) 187 14 rfl h13 wanted_p ?_ (hzA 187 (by decide)) (fun B E h14 e187 ho => ?_)
      rotate_left
      · (have hc := h13.c; go_simp <;> (try with_reducible rfl))
      clear h13 ho e183 e186
      refine si_v (v := ?_) 188 15 rfl h14 wanted_p ?_ (hzA 188 (by decide)) (fun B E h15 e188 ho => ?_)
      rotate_left
      · (go_simp <;> (try with_reducible rfl))
      clear h14 ho e187
      refine si_nb 14 5 20 193 h15 e188 (hzA 193 (by decide)) (fun B E h20 hu ho => ?_)
      replace e188 := (ho 188 (by decide)).trans e188
      have e193 := hu 193 (by decide) (by decide)
      clear h15 ho hu
      refine si_v (v := ?_) 194 21 rfl h20 wanted_p ?_ (hzA 194 (by decide)) (fun B E h21 e194 ho => ?_)
      rotate_left
      · (have hc := h20.c; go_simp <;> (try with_reducible rfl))
      clear h20 ho e193 e188
      refine si_v (v := ?_) 195 22 rfl h21 wanted_p ?_ (hzA 195 (by decide)) (fun B E h22 e195 ho => ?_)
      rotate_left
      · (go_simp <;> (try with_reducible rfl))
      clear h21 ho e194
      refine si_nb 21 8 30 203 h22 e195 (hzA 203 (by decide)) (fun B E h30 hu ho => ?_)
      replace e195 := (ho 195 (by decide)).trans e195
      have e203 := hu 203 (by decide) (by decide)
      clear h22 ho hu
      refine si_v (v := ?_) 204 31 rfl h30 wanted_p ?_ (hzA 204 (by decide)) (fun B E h31 e204 ho => ?_)
      rotate_left
      · (have hc := h30.c; go_simp <;> (try with_reducible rfl))
      clear h30 ho e195 e203
      refine si_v (v := ?_) 205 32 rfl h31 wanted_p ?_ (hzA 205 (by decide)) (fun B E h32 e205 ho => ?_)
      rotate_left
      · (go_simp <;> (try with_reducible rfl))
      clear h31 ho e204
      refine si_nb 31 20 52 225 h32 e205 (hzA 225 (by decide)) (fun B E h52 hu ho => ?_)
      replace e205 := (ho 205 (by decide)).trans e205
      have e225 := hu 225 (by decide) (by decide)
      clear h32 ho hu
      refine si_v (v := ?_) 226 53 rfl h52 wanted_p ?_ (hzA 226 (by decide)) (fun B E h53 e226 ho => ?_)
      rotate_left
      · (have hc := h52.c; go_simp <;> (try with_reducible rfl))
      clear h52 ho e225 e205
      refine wpI.done rfl ?_
      exact hQ _ _ h53.x h53.v (e226.trans (by rw [HN.out]; rfl))
    ·
     replace e178 := e178.trans (congrArg Value.bool (by simpa using c0 : (y0 == x0) = false))
     refine si_v (v := ?_) 179 6 rfl h5 wanted_p ?_ (hzA 179 (by decide)) (fun B E h6 e179 ho => ?_)
     rotate_left
     · (go_simp <;> (try with_reducible rfl))
     clear h5 ho e178
     refine si_nb 5 2 8 181 h6 e179 (hzA 181 (by decide)) (fun B E h8 hu ho => ?_)
     replace e179 := (ho 179 (by decide)).trans e179
     have e181 := hu 181 (by decide) (by decide)
     clear h6 ho hu
     refine si_v (v := ?_) 182 9 rfl h8 wanted_p ?_ (hzA 182 (by decide)) (fun B E h9 e182 ho => ?_)
     rotate_left
     · (have hc := h8.c; go_simp <;> (try with_reducible rfl))
     clear h8 ho e179 e181
     refine si_v (v := ?_) 183 10 rfl h9 wanted_p ?_ (hzA 183 (by decide)) (fun B E h10 e183 ho => ?_)
     rotate_left
     · (go_simp <;> (try with_reducible rfl))
     clear h9 ho e182
     refine si_nb 9 3 13 186 h10 e183 (hzA 186 (by decide)) (fun B E h13 hu ho => ?_)
     replace e183 := (ho 183 (by decide)).trans e183
     have e186 := hu 186 (by decide) (by decide)
     clear h10 ho hu
     refine si_v (v := ?_) 187 14 rfl h13 wanted_p ?_ (hzA 187 (by decide)) (fun B E h14 e187 ho => ?_)
     rotate_left
     · (have hc := h13.c; go_simp <;> (try with_reducible rfl))
     clear h13 ho e183 e186
     refine si_v (v := ?_) 188 15 rfl h14 wanted_p ?_ (hzA 188 (by decide)) (fun B E h15 e188 ho => ?_)
     rotate_left
     · (go_simp <;> (try with_reducible rfl))
     clear h14 ho e187
     refine si_v (v := ?_) 189 16 rfl h15 (wanted_g h15.v 14 188 false e188) ?_ (hzA 189 (by decide)) (fun B E h16 e189 ho => ?_)
     rotate_left
     · (have hO := h15.o; go_simp <;> (try with_reducible rfl))
     replace e188 := (ho 188 (by decide)).trans e188
     clear h15 ho
     refine si_v (v := ?_) 190 17 rfl h16 (wanted_g h16.v 14 188 false e188) ?_ (hzA 190 (by decide)) (fun B E h17 e190 ho => ?_)
     rotate_left
     · (go_simp <;> (try with_reducible rfl))
     replace e188 := (ho 188 (by decide)).trans e188
     clear h16 ho e189
     refine si_v (v := ?_) 191 18 rfl h17 (wanted_g h17.v 14 188 false e188) ?_ (hzA 191 (by decide)) (fun B E h18 e191 ho => ?_)
     rotate_left
     · (have hO := h17.o; go_simp <;> (try with_reducible rfl))
     replace e188 := (ho 188 (by decide)).trans e188
     replace e190 := (ho 190 (by decide)).trans e190
     clear h17 ho
     refine si_v (v := ?_) 192 19 rfl h18 (wanted_g h18.v 14 188 false e188) ?_ (hzA 192 (by decide)) (fun B E h19 e192 ho => ?_)
     rotate_left
     · (go_simp <;> (try with_reducible rfl))
     replace e188 := (ho 188 (by decide)).trans e188
     replace e190 := (ho 190 (by decide)).trans e190
     clear h18 ho e191
     refine si_v (v := ?_) 193 20 rfl h19 (wanted_g h19.v 14 188 false e188) ?_ (hzA 193 (by decide)) (fun B E h20 e193 ho => ?_)
     rotate_left
     · (go_simp <;> (try with_reducible rfl))
     replace e188 := (ho 188 (by decide)).trans e188
     clear h19 ho e192 e190
     by_cases c1 : y8 = x8
     ·
      replace e193 := e193.trans (congrArg Value.bool (by simp [c1] : (y8 == x8) = true))
      have HN : Hid (tf (prR y0 y3 y8 y9 x0 x3 x8 x9) = false) := Hid.intro (tf_no (fun q => q.2.1 c1))
      refine si_v (v := ?_) 194 21 rfl h20 wanted_p ?_ (hzA 194 (by decide)) (fun B E h21 e194 ho => ?_)
      rotate_left
      · (have hc := h20.c; go_simp <;> (try with_reducible rfl))
      clear h20 ho e193 e188
      refine si_v (v := ?_) 195 22 rfl h21 wanted_p ?_ (hzA 195 (by decide)) (fun B E h22 e195 ho => ?_)
      rotate_left
      · (go_simp <;> (try with_reducible rfl))
      clear h21 ho e194
      refine si_nb 21 8 30 203 h22 e195 (hzA 203 (by decide)) (fun B E h30 hu ho => ?_)
      replace e195 := (ho 195 (by decide)).trans e195
      have e203 := hu 203 (by decide) (by decide)
      clear h22 ho hu
      refine si_v (v := ?_) 204 31 rfl h30 wanted_p ?_ (hzA 204 (by decide)) (fun B E h31 e204 ho => ?_)
      rotate_left
      · (have hc := h30.c; go_simp <;> (try with_reducible rfl))
      clear h30 ho e195 e203
      refine si_v (v := ?_) 205 32 rfl h31 wanted_p ?_ (hzA 205 (by decide)) (fun B E h32 e205 ho => ?_)
      rotate_left
      · (go_simp <;> (try with_reducible rfl))
      clear h31 ho e204
      refine si_nb 31 20 52 225 h32 e205 (hzA 225 (by decide)) (fun B E h52 hu ho => ?_)
      replace e205 := (ho 205 (by decide)).trans e205
      have e225 := hu 225 (by decide) (by decide)
      clear h32 ho hu
      refine si_v (v := ?_) 226 53 rfl h52 wanted_p ?_ (hzA 226 (by decide)) (fun B E h53 e226 ho => ?_)
      rotate_left
      · (have hc := h52.c; go_simp <;> (try with_reducible rfl))
      clear h52 ho e225 e205
      refine wpI.done rfl ?_
      exact hQ _ _ h53.x h53.v (e226.trans (by rw [HN.out]; rfl))
     ·
      replace e193 := e193.trans (congrArg Value.bool (by simpa using c1 : (y8 == x8) = false))
      refine si_v (v := ?_) 194 21 rfl h20 wanted_p ?_ (hzA 194 (by decide)) (fun B E h21 e194 ho => ?_)
      rotate_left
      · (have hc := h20.c; go_simp <;> (try with_reducible rfl))
      clear h20 ho e193 e188
      refine si_v (v := ?_) 195 22 rfl h21 wanted_p ?_ (hzA 195 (by decide)) (fun B E h22 e195 ho => ?_)
      rotate_left
      · (go_simp <;> (try with_reducible rfl))
      clear h21 ho e194
      refine si_v (v := ?_) 196 23 rfl h22 (wanted_g h22.v 21 195 false e195) ?_ (hzA 196 (by decide)) (fun B E h23 e196 ho => ?_)
      rotate_left
      · (have hO := h22.o; go_simp <;> (try with_reducible rfl))
      replace e195 := (ho 195 (by decide)).trans e195
      clear h22 ho
      refine si_v (v := ?_) 197 24 rfl h23 (wanted_g h23.v 21 195 false e195) ?_ (hzA 197 (by decide)) (fun B E h24 e197 ho => ?_)
      rotate_left
      · (go_simp <;> (try with_reducible rfl))
      replace e195 := (ho 195 (by decide)).trans e195
      clear h23 ho e196
      refine si_nb 23 5 29 202 h24 e197 (hzA 202 (by decide)) (fun B E h29 hu ho => ?_)
      replace e195 := (ho 195 (by decide)).trans e195
      replace e197 := (ho 197 (by decide)).trans e197
      have e202 := hu 202 (by decide) (by decide)
      clear h24 ho hu
      refine si_v (v := ?_) 203 30 rfl h29 (wanted_g h29.v 21 195 false e195) ?_ (hzA 203 (by decide)) (fun B E h30 e203 ho => ?_)
      rotate_left
      · (have hc := h29.c; go_simp <;> (try with_reducible rfl))
      replace e195 := (ho 195 (by decide)).trans e195
      clear h29 ho e197 e202
      refine si_v (v := ?_) 204 31 rfl h30 wanted_p ?_ (hzA 204 (by decide)) (fun B E h31 e204 ho => ?_)
      rotate_left
      · (have hc := h30.c; go_simp <;> (try with_reducible rfl))
      clear h30 ho e195 e203
      refine si_v (v := ?_) 205 32 rfl h31 wanted_p ?_ (hzA 205 (by decide)) (fun B E h32 e205 ho => ?_)
      rotate_left
      · (go_simp <;> (try with_reducible rfl))
      clear h31 ho e204
      refine si_v (v := ?_) 206 33 rfl h32 (wanted_g h32.v 31 205 false e205) ?_ (hzA 206 (by decide)) (fun B E h33 e206 ho => ?_)
      rotate_left
      · (have hO := h32.o; go_simp <;> (try with_reducible rfl))
      replace e205 := (ho 205 (by decide)).trans e205
      clear h32 ho
      refine si_v (v := ?_) 207 34 rfl h33 (wanted_g h33.v 31 205 false e205) ?_ (hzA 207 (by decide)) (fun B E h34 e207 ho => ?_)
      rotate_left
      · (go_simp <;> (try with_reducible rfl))
      replace e205 := (ho 205 (by decide)).trans e205
      clear h33 ho e206
      refine si_v (v := ?_) 208 35 rfl h34 (wanted_g h34.v 31 205 false e205) ?_ (hzA 208 (by decide)) (fun B E h35 e208 ho => ?_)
      rotate_left
      · (have hc := h34.c; go_simp <;> (try with_reducible rfl))
      replace e205 := (ho 205 (by decide)).trans e205
      clear h34 ho e207
      by_cases yd : y3 = 3
      ·
       replace e208 := e208.trans (congrArg Value.bool (by simp [yd] : (y3 == 3) = true))
       refine si_v (v := ?_) 209 36 rfl h35 (wanted_g h35.v 31 205 false e205) ?_ (hzA 209 (by decide)) (fun B E h36 e209 ho => ?_)
       rotate_left
       · (go_simp <;> (try with_reducible rfl))
       replace e205 := (ho 205 (by decide)).trans e205
       clear h35 ho e208
       refine si_v (v := ?_) 210 37 rfl h36 (wanted_g h36.v 35 209 true e209) ?_ (hzA 210 (by decide)) (fun B E h37 e210 ho => ?_)
       rotate_left
       · (have hO := h36.o; go_simp <;> (try with_reducible rfl))
       replace e205 := (ho 205 (by decide)).trans e205
       replace e209 := (ho 209 (by decide)).trans e209
       clear h36 ho
       refine si_v (v := ?_) 211 38 rfl h37 (wanted_g h37.v 35 209 true e209) ?_ (hzA 211 (by decide)) (fun B E h38 e211 ho => ?_)
       rotate_left
       · (go_simp <;> (try with_reducible rfl))
       replace e205 := (ho 205 (by decide)).trans e205
       replace e209 := (ho 209 (by decide)).trans e209
       clear h37 ho e210
       refine si_v (v := ?_) 212 39 rfl h38 (wanted_g h38.v 35 209 true e209) ?_ (hzA 212 (by decide)) (fun B E h39 e212 ho => ?_)
       rotate_left
       · (have hO := h38.o; go_simp <;> (try with_reducible rfl))
       replace e205 := (ho 205 (by decide)).trans e205
       replace e209 := (ho 209 (by decide)).trans e209
       replace e211 := (ho 211 (by decide)).trans e211
       clear h38 ho
       refine si_v (v := ?_) 213 40 rfl h39 (wanted_g h39.v 35 209 true e209) ?_ (hzA 213 (by decide)) (fun B E h40 e213 ho => ?_)
       rotate_left
       · (go_simp <;> (try with_reducible rfl))
       replace e205 := (ho 205 (by decide)).trans e205
       replace e209 := (ho 209 (by decide)).trans e209
       replace e211 := (ho 211 (by decide)).trans e211
       clear h39 ho e212
       refine si_v (v := ?_) 214 41 rfl h40 (wanted_g h40.v 35 209 true e209) ?_ (hzA 214 (by decide)) (fun B E h41 e214 ho => ?_)
       rotate_left
       · (go_simp <;> (try with_reducible rfl))
       replace e205 := (ho 205 (by decide)).trans e205
       replace e209 := (ho 209 (by decide)).trans e209
       clear h40 ho e211 e213
       by_cases c3 : y9 = x8
       ·
        replace e214 := e214.trans (congrArg Value.bool (by simp [c3] : (y9 == x8) = true))
        have HN : Hid (tf (prR y0 y3 y8 y9 x0 x3 x8 x9) = false) := Hid.intro (tf_no (fun q => q.2.2.2.1 yd c3))
        refine si_v (v := ?_) 215 42 rfl h41 (wanted_g h41.v 35 209 true e209) ?_ (hzA 215 (by decide)) (fun B E h42 e215 ho => ?_)
        rotate_left
        · (go_simp <;> (try with_reducible rfl))
        replace e205 := (ho 205 (by decide)).trans e205
        replace e209 := (ho 209 (by decide)).trans e209
        clear h41 ho e214
        refine si_nb 41 8 50 223 h42 e215 (hzA 223 (by decide)) (fun B E h50 hu ho => ?_)
        replace e205 := (ho 205 (by decide)).trans e205
        replace e209 := (ho 209 (by decide)).trans e209
        replace e215 := (ho 215 (by decide)).trans e215
        have e223 := hu 223 (by decide) (by decide)
        clear h42 ho hu
        refine si_v (v := ?_) 224 51 rfl h50 (wanted_g h50.v 35 209 true e209) ?_ (hzA 224 (by decide)) (fun B E h51 e224 ho => ?_)
        rotate_left
        · (have hc := h50.c; go_simp <;> (try with_reducible rfl))
        replace e205 := (ho 205 (by decide)).trans e205
        replace e209 := (ho 209 (by decide)).trans e209
        clear h50 ho e223 e215
        refine si_v (v := ?_) 225 52 rfl h51 (wanted_g h51.v 31 205 false e205) ?_ (hzA 225 (by decide)) (fun B E h52 e225 ho => ?_)
        rotate_left
        · (have hc := h51.c; go_simp <;> (try with_reducible rfl))
        replace e205 := (ho 205 (by decide)).trans e205
        clear h51 ho e224 e209
        refine si_v (v := ?_) 226 53 rfl h52 wanted_p ?_ (hzA 226 (by decide)) (fun B E h53 e226 ho => ?_)
        rotate_left
        · (have hc := h52.c; go_simp <;> (try with_reducible rfl))
        clear h52 ho e225 e205
        refine wpI.done rfl ?_
        exact hQ _ _ h53.x h53.v (e226.trans (by rw [HN.out]; rfl))
       ·
        replace e214 := e214.trans (congrArg Value.bool (by simpa using c3 : (y9 == x8) = false))
        have HN : Hid (tf (prR y0 y3 y8 y9 x0 x3 x8 x9) = true) := Hid.intro (tf_yes ⟨fun q => q.2.1 yd, c1, fun q => absurd q dn, fun _ => c3, fun _ q => absurd q dn⟩)
        refine si_v (v := ?_) 215 42 rfl h41 (wanted_g h41.v 35 209 true e209) ?_ (hzA 215 (by decide)) (fun B E h42 e215 ho => ?_)
        rotate_left
        · (go_simp <;> (try with_reducible rfl))
        replace e205 := (ho 205 (by decide)).trans e205
        replace e209 := (ho 209 (by decide)).trans e209
        clear h41 ho e214
        refine si_v (v := ?_) 216 43 rfl h42 (wanted_g h42.v 41 215 false e215) ?_ (hzA 216 (by decide)) (fun B E h43 e216 ho => ?_)
        rotate_left
        · (have hO := h42.o; go_simp <;> (try with_reducible rfl))
        replace e205 := (ho 205 (by decide)).trans e205
        replace e209 := (ho 209 (by decide)).trans e209
        replace e215 := (ho 215 (by decide)).trans e215
        clear h42 ho
        refine si_v (v := ?_) 217 44 rfl h43 (wanted_g h43.v 41 215 false e215) ?_ (hzA 217 (by decide)) (fun B E h44 e217 ho => ?_)
        rotate_left
        · (go_simp <;> (try with_reducible rfl))
        replace e205 := (ho 205 (by decide)).trans e205
        replace e209 := (ho 209 (by decide)).trans e209
        replace e215 := (ho 215 (by decide)).trans e215
        clear h43 ho e216
        refine si_nb 43 5 49 222 h44 e217 (hzA 222 (by decide)) (fun B E h49 hu ho => ?_)
        replace e205 := (ho 205 (by decide)).trans e205
        replace e209 := (ho 209 (by decide)).trans e209
        replace e215 := (ho 215 (by decide)).trans e215
        replace e217 := (ho 217 (by decide)).trans e217
        have e222 := hu 222 (by decide) (by decide)
        clear h44 ho hu
        refine si_v (v := ?_) 223 50 rfl h49 (wanted_g h49.v 41 215 false e215) ?_ (hzA 223 (by decide)) (fun B E h50 e223 ho => ?_)
        rotate_left
        · (have hc := h49.c; go_simp <;> (try with_reducible rfl))
        replace e205 := (ho 205 (by decide)).trans e205
        replace e209 := (ho 209 (by decide)).trans e209
        replace e215 := (ho 215 (by decide)).trans e215
        clear h49 ho e217 e222
        refine si_v (v := ?_) 224 51 rfl h50 (wanted_g h50.v 35 209 true e209) ?_ (hzA 224 (by decide)) (fun B E h51 e224 ho => ?_)
        rotate_left
        · (have hc := h50.c; go_simp <;> (try with_reducible rfl))
        replace e205 := (ho 205 (by decide)).trans e205
        replace e209 := (ho 209 (by decide)).trans e209
        clear h50 ho e223 e215
        refine si_v (v := ?_) 225 52 rfl h51 (wanted_g h51.v 31 205 false e205) ?_ (hzA 225 (by decide)) (fun B E h52 e225 ho => ?_)
        rotate_left
        · (have hc := h51.c; go_simp <;> (try with_reducible rfl))
        replace e205 := (ho 205 (by decide)).trans e205
        clear h51 ho e224 e209
        refine si_v (v := ?_) 226 53 rfl h52 wanted_p ?_ (hzA 226 (by decide)) (fun B E h53 e226 ho => ?_)
        rotate_left
        · (have hc := h52.c; go_simp <;> (try with_reducible rfl))
        clear h52 ho e225 e205
        refine wpI.done rfl ?_
        exact hQ _ _ h53.x h53.v (e226.trans (by rw [HN.out]; rfl))
      ·
       replace e208 := e208.trans (congrArg Value.bool (by simpa using yd : (y3 == 3) = false))
       have HN : Hid (tf (prR y0 y3 y8 y9 x0 x3 x8 x9) = true) := Hid.intro (tf_yes ⟨fun q => c0 q.1, c1, fun q => absurd q dn, fun q => absurd q yd, fun q => absurd q yd⟩)
       refine si_v (v := ?_) 209 36 rfl h35 (wanted_g h35.v 31 205 false e205) ?_ (hzA 209 (by decide)) (fun B E h36 e209 ho => ?_)
       rotate_left
       · (go_simp <;> (try with_reducible rfl))
       replace e205 := (ho 205 (by decide)).trans e205
       clear h35 ho e208
       refine si_nb 35 15 51 224 h36 e209 (hzA 224 (by decide)) (fun B E h51 hu ho => ?_)
       replace e205 := (ho 205 (by decide)).trans e205
       replace e209 := (ho 209 (by decide)).trans e209
       have e224 := hu 224 (by decide) (by decide)
       clear h36 ho hu
       refine si_v (v := ?_) 225 52 rfl h51 (wanted_g h51.v 31 205 false e205) ?_ (hzA 225 (by decide)) (fun B E h52 e225 ho => ?_)
       rotate_left
       · (have hc := h51.c; go_simp <;> (try with_reducible rfl))
       replace e205 := (ho 205 (by decide)).trans e205
       clear h51 ho e224 e209
       refine si_v (v := ?_) 226 53 rfl h52 wanted_p ?_ (hzA 226 (by decide)) (fun B E h53 e226 ho => ?_)
       rotate_left
       · (have hc := h52.c; go_simp <;> (try with_reducible rfl))
       clear h52 ho e225 e205
       refine wpI.done rfl ?_
       exact hQ _ _ h53.x h53.v (e226.trans (by rw [HN.out]; rfl))
def ops18 : List Oper := [{ dst := some 143, op := Op.move (Operand.tmp 9), type := 3, pos := "l9_register.go:33", after := #[], guard := none }, { dst := some 144, op := Op.fieldAddr 29 (Operand.tmp 1) 1, type := 0, pos := "l9_register.go:33", after := #[], guard := none }, { dst := some 145, op := Op.load 26 (Operand.tmp 144), type := 26, pos := "l9_register.go:33", after := #[{ on := 1, ground := Ground.data }], guard := none }, { dst := some 146, op := Op.call { callee := Callee.builtin Builtin.len, args := #[Operand.tmp 145], argTypes := #[26] }, type := 3, pos := "l9_register.go:33", after := #[{ on := 2, ground := Ground.data }], guard := none }, { dst := some 147, op := Op.binOp BinOp.sub 3 (Operand.tmp 146) (Operand.const (Value.int IntKind.i64 1)) 3, type := 3, pos := "l9_register.go:33", after := #[{ on := 3, ground := Ground.data }], guard := none }, { dst := some 148, op := Op.call { callee := Callee.value (Operand.func 61), args := #[Operand.tmp 143, Operand.const (Value.int IntKind.i64 0), Operand.tmp 147], argTypes := #[3, 3, 3] }, type := 4, pos := "l9_register.go:33", after := #[{ on := 0, ground := Ground.data }, { on := 4, ground := Ground.data }], guard := none }, { dst := some 149, op := Op.unOp UnOp.not 4 (Operand.tmp 148), type := 4, pos := "l9_register.go:33", after := #[{ on := 5, ground := Ground.data }], guard := none }, { dst := some 150, op := Op.move (Operand.tmp 149), type := 4, pos := "l9_register.go:33", after := #[{ on := 6, ground := Ground.data }, { on := 5, ground := Ground.chain }], guard := none }, { dst := some 151, op := Op.move (Operand.tmp 8), type := 3, pos := "l9_register.go:33", after := #[{ on := 7, ground := Ground.guard }], guard := some (7, false) }, { dst := some 152, op := Op.binOp BinOp.gtr 3 (Operand.tmp 151) (Operand.const (Value.int IntKind.i64 0)) 3, type := 4, pos := "l9_register.go:33", after := #[{ on := 8, ground := Ground.data }, { on := 7, ground := Ground.guard }], guard := some (7, false) }, { dst := some 153, op := Op.move (Operand.tmp 152), type := 4, pos := "l9_register.go:33", after := #[{ on := 9, ground := Ground.data }, { on := 7, ground := Ground.chain }, { on := 7, ground := Ground.guard }], guard := some (7, false) }, { dst := some 154, op := Op.fieldAddr 53 (Operand.tmp 6) 4, type := 0, pos := "l9_register.go:33", after := #[{ on := 10, ground := Ground.guard }], guard := some (10, true) }, { dst := some 155, op := Op.load 51 (Operand.tmp 154), type := 51, pos := "l9_register.go:33", after := #[{ on := 11, ground := Ground.data }, { on := 10, ground := Ground.guard }], guard := some (10, true) }, { dst := some 156, op := Op.move (Operand.tmp 8), type := 3, pos := "l9_register.go:33", after := #[{ on := 10, ground := Ground.guard }], guard := some (10, true) }, { dst := some 157, op := Op.binOp BinOp.sub 3 (Operand.tmp 156) (Operand.const (Value.int IntKind.i64 1)) 3, type := 3, pos := "l9_register.go:33", after := #[{ on := 13, ground := Ground.data }, { on := 10, ground := Ground.guard }], guard := some (10, true) }, { dst := some 158, op := Op.indexAddr 51 (Operand.tmp 155) (Operand.tmp 157), type := 0, pos := "l9_register.go:33", after := #[{ on := 12, ground := Ground.data }, { on := 14, ground := Ground.data }, { on := 10, ground := Ground.guard }], guard := some (10, true) }, { dst := some 159, op := Op.load 3 (Operand.tmp 158), type := 3, pos := "l9_register.go:33", after := #[{ on := 15, ground := Ground.data }, { on := 10, ground := Ground.guard }], guard := some (10, true) }, { dst := some 160, op := Op.move (Operand.tmp 9), type := 3, pos := "l9_register.go:33", after := #[{ on := 10, ground := Ground.guard }], guard := some (10, true) }, { dst := some 161, op := Op.binOp BinOp.geq 3 (Operand.tmp 159) (Operand.tmp 160) 3, type := 4, pos := "l9_register.go:33", after := #[{ on := 16, ground := Ground.data }, { on := 17, ground := Ground.data }, { on := 10, ground := Ground.guard }], guard := some (10, true) }, { dst := some 162, op := Op.pick (Operand.tmp 153) (Operand.tmp 161) (Operand.const (Value.bool false)), type := 4, pos := "l9_register.go:33", after := #[{ on := 10, ground := Ground.data }, { on := 18, ground := Ground.data }, { on := 7, ground := Ground.guard }], guard := some (7, false) }, { dst := some 163, op := Op.pick (Operand.tmp 150) (Operand.const (Value.bool true)) (Operand.tmp 162), type := 4, pos := "l9_register.go:33", after := #[{ on := 7, ground := Ground.data }, { on := 19, ground := Ground.data }], guard := none }]
set_option maxRecDepth 100000 in
set_option maxHeartbeats 4000000 in
theorem reg18 (x0 : Int) (x1 : Bool) (x2 : ByteArray) (x3 : Int) (x4 : List (Sh.T .int)) (g off : Nat) (xk1 : Nat) (x5 x6 : Int) (x7 : ByteArray) (x8 x9 : Int) (ck y z : Int) (nc no j : Nat) (a1 a2 : Option Addr) (k1 k2 : Nat) (bo br : Nat) (w : World) (A : Act) (E : Operand → Value) (Q : Exit → Act → World → Prop)
    (hx4 : x4.length ≤ 1073741824) (hnc : nc ≤ 1073741824) (hj : j < x4.length) (hgs : g < w.heap.size) (hz : 0 < j → w.cell? ⟨g, off + (j - 1), none⟩ = some (.int .i64 z))
    (HX : Hid (Bx w bo [.int .i64 x0, .bool x1, .string x2, .int .i64 x3, .slice (some ⟨g, off, none⟩) x4.length xk1, .int .i64 x5, .int .i64 x6, .string x7, .int .i64 x8, .int .i64 x9])) (HR : Hid (Bx w br [.int .i64 ck, .slice a1 nc k1, .slice a2 no k2]))
    (hV : Ev A E) (hzA : ∀ d, d < 229 → d < A.tmps.size)
    (e1 : E (.tmp 1) = .pointer (some ⟨br, 0, none⟩)) (e6 : E (.tmp 6) = .pointer (some ⟨bo, 0, none⟩)) (e8 : E (.tmp 8) = .int .i64 j) (e9 : E (.tmp 9) = .int .i64 y)
    (hQ : ∀ B E', Ext A B 143 21 → Ev B E' → E' (.tmp 163) = .bool (!(tf ((0 ≤ y ∧ y ≤ (nc : Int) - 1) ∧ (0 < j → z < y)))) → Q .normal B w) : wpI Try.prog ops18 Q 0 A w := by
  have h0 : St A A E E 143 0 := St.start hV
  have hw1 : IntKind.i64.wrap ((nc : Int) - 1) = (nc : Int) - 1 := w64 (by omega) (by omega)
  have d0 := (HX.out).cell 0 rfl; have d1 := (HX.out).cell 1 rfl; have d2 := (HX.out).cell 2 rfl; have d3 := (HX.out).cell 3 rfl; have d4 := (HX.out).cell 4 rfl; have d5 := (HX.out).cell 5 rfl; have d6 := (HX.out).cell 6 rfl; have d7 := (HX.out).cell 7 rfl; have d8 := (HX.out).cell 8 rfl; have d9 := (HX.out).cell 9 rfl; have dz := (HX.out).2
  have s0 := (HR.out).cell 0 rfl; have s1 := (HR.out).cell 1 rfl; have s2 := (HR.out).cell 2 rfl; have sz := (HR.out).2
  refine si_v (v := ?_) 143 1 rfl h0 wanted_p ?_ (hzA 143 (by decide)) (fun B E h1 e143 ho => ?_)
  rotate_left
  · (have hO := h0.o; go_simp <;> (try with_reducible rfl))
  clear h0 ho
  refine si_v (v := ?_) 144 2 rfl h1 wanted_p ?_ (hzA 144 (by decide)) (fun B E h2 e144 ho => ?_)
  rotate_left
  · (have hO := h1.o; go_simp <;> (try with_reducible rfl))
  replace e143 := (ho 143 (by decide)).trans e143
  clear h1 ho
  refine si_v (v := ?_) 145 3 rfl h2 wanted_p ?_ (hzA 145 (by decide)) (fun B E h3 e145 ho => ?_)
  rotate_left
  · (go_simp <;> (try with_reducible rfl))
  replace e143 := (ho 143 (by decide)).trans e143
  clear h2 ho e144
  refine si_v (v := ?_) 146 4 rfl h3 wanted_p ?_ (hzA 146 (by decide)) (fun B E h4 e146 ho => ?_)
  rotate_left
  · (go_simp <;> (try with_reducible rfl))
  replace e143 := (ho 143 (by decide)).trans e143
  clear h3 ho e145
  refine si_v (v := ?_) 147 5 rfl h4 wanted_p ?_ (hzA 147 (by decide)) (fun B E h5 e147 ho => ?_)
  rotate_left
  · (have hc := h4.c; go_simp <;> (try with_reducible rfl))
  replace e143 := (ho 143 (by decide)).trans e143
  clear h4 ho e146
  refine si_c 148 6 rfl h5 wanted_p (l1In_any y 0 ((nc : Int) - 1) _) ?_ (hzA 148 (by decide)) ?_
  · (have hc := h5.c; have hf := h5.f; go_simp <;> (try with_reducible rfl))
  rintro r w' ⟨rfl, rfl⟩
  refine ⟨_, rfl, (fun B E h6 e148 ho => ?_)⟩
  clear h5 ho e147 e143
  cases c0 : inR y 0 ((nc : Int) - 1)
  ·
   rw [c0] at e148
   have HN : Hid (tf ((0 ≤ y ∧ y ≤ (nc : Int) - 1) ∧ (0 < j → z < y)) = false) := Hid.intro (tf_no (fun q => by rw [inR_iff.2 q.1] at c0; cases c0))
   refine si_v (v := ?_) 149 7 rfl h6 wanted_p ?_ (hzA 149 (by decide)) (fun B E h7 e149 ho => ?_)
   rotate_left
   · (go_simp <;> (try with_reducible rfl))
   clear h6 ho e148
   refine si_v (v := ?_) 150 8 rfl h7 wanted_p ?_ (hzA 150 (by decide)) (fun B E h8 e150 ho => ?_)
   rotate_left
   · (go_simp <;> (try with_reducible rfl))
   clear h7 ho e149
   refine si_nb 7 12 20 162 h8 e150 (hzA 162 (by decide)) (fun B E h20 hu ho => ?_)
   replace e150 := (ho 150 (by decide)).trans e150
   have e162 := hu 162 (by decide) (by decide)
   clear h8 ho hu
   refine si_v (v := ?_) 163 21 rfl h20 wanted_p ?_ (hzA 163 (by decide)) (fun B E h21 e163 ho => ?_)
   rotate_left
   · (have hc := h20.c; go_simp <;> (try with_reducible rfl))
   clear h20 ho e162 e150
   refine wpI.done rfl ?_
   exact hQ _ _ h21.x h21.v (e163.trans (by rw [HN.out]; rfl))
  ·
   rw [c0] at e148
   refine si_v (v := ?_) 149 7 rfl h6 wanted_p ?_ (hzA 149 (by decide)) (fun B E h7 e149 ho => ?_)
   rotate_left
   · (go_simp <;> (try with_reducible rfl))
   clear h6 ho e148
   refine si_v (v := ?_) 150 8 rfl h7 wanted_p ?_ (hzA 150 (by decide)) (fun B E h8 e150 ho => ?_)
   rotate_left
   · (go_simp <;> (try with_reducible rfl))
   clear h7 ho e149
   refine si_v (v := ?_) 151 9 rfl h8 (wanted_g h8.v 7 150 false e150) ?_ (hzA 151 (by decide)) (fun B E h9 e151 ho => ?_)
   rotate_left
   · (have hO := h8.o; go_simp <;> (try with_reducible rfl))
   replace e150 := (ho 150 (by decide)).trans e150
   clear h8 ho
   refine si_v (v := ?_) 152 10 rfl h9 (wanted_g h9.v 7 150 false e150) ?_ (hzA 152 (by decide)) (fun B E h10 e152 ho => ?_)
   rotate_left
   · (have hc := h9.c; go_simp <;> (try with_reducible rfl))
   replace e150 := (ho 150 (by decide)).trans e150
   clear h9 ho e151
   by_cases c1 : 0 < j
   ·
    replace e152 := e152.trans (congrArg Value.bool (decide_eq_true c1))
    obtain ⟨i, rfl⟩ : ∃ i, j = i + 1 := ⟨j - 1, by omega⟩
    have hw5 : IntKind.i64.wrap (((i + 1 : Nat) : Int) - 1) = (i : Int) := (w64 (by omega) (by omega)).trans (by omega)
    have hcz := hz c1
    rw [Nat.add_sub_cancel] at hcz
    have hw6 : IntKind.i64.wrap (i : Int) = (i : Int) := w64 (by omega) (by omega)
    have hil : (i : Int) < (x4.length : Int) := by omega
    have hi0 : ¬ (i : Int) < 0 := by omega
    refine si_v (v := ?_) 153 11 rfl h10 (wanted_g h10.v 7 150 false e150) ?_ (hzA 153 (by decide)) (fun B E h11 e153 ho => ?_)
    rotate_left
    · (go_simp <;> (try with_reducible rfl))
    replace e150 := (ho 150 (by decide)).trans e150
    clear h10 ho e152
    refine si_v (v := ?_) 154 12 rfl h11 (wanted_g h11.v 10 153 true e153) ?_ (hzA 154 (by decide)) (fun B E h12 e154 ho => ?_)
    rotate_left
    · (have hO := h11.o; go_simp <;> (try with_reducible rfl))
    replace e150 := (ho 150 (by decide)).trans e150
    replace e153 := (ho 153 (by decide)).trans e153
    clear h11 ho
    refine si_v (v := ?_) 155 13 rfl h12 (wanted_g h12.v 10 153 true e153) ?_ (hzA 155 (by decide)) (fun B E h13 e155 ho => ?_)
    rotate_left
    · (go_simp <;> (try with_reducible rfl))
    replace e150 := (ho 150 (by decide)).trans e150
    replace e153 := (ho 153 (by decide)).trans e153
    clear h12 ho e154
    refine si_v (v := ?_) 156 14 rfl h13 (wanted_g h13.v 10 153 true e153) ?_ (hzA 156 (by decide)) (fun B E h14 e156 ho => ?_)
    rotate_left
    · (have hO := h13.o; go_simp <;> (try with_reducible rfl))
    replace e150 := (ho 150 (by decide)).trans e150
    replace e153 := (ho 153 (by decide)).trans e153
    replace e155 := (ho 155 (by decide)).trans e155
    clear h13 ho
    refine si_v (v := ?_) 157 15 rfl h14 (wanted_g h14.v 10 153 true e153) ?_ (hzA 157 (by decide)) (fun B E h15 e157 ho => ?_)
    rotate_left
    · (have hc := h14.c; go_simp <;> (try with_reducible rfl))
    replace e150 := (ho 150 (by decide)).trans e150
    replace e153 := (ho 153 (by decide)).trans e153
    replace e155 := (ho 155 (by decide)).trans e155
    clear h14 ho e156
    refine si_v (v := ?_) 158 16 rfl h15 (wanted_g h15.v 10 153 true e153) ?_ (hzA 158 (by decide)) (fun B E h16 e158 ho => ?_)
    rotate_left
    · (go_simp <;> (try with_reducible rfl))
    replace e150 := (ho 150 (by decide)).trans e150
    replace e153 := (ho 153 (by decide)).trans e153
    clear h15 ho e155 e157
    refine si_v (v := ?_) 159 17 rfl h16 (wanted_g h16.v 10 153 true e153) ?_ (hzA 159 (by decide)) (fun B E h17 e159 ho => ?_)
    rotate_left
    · (go_simp <;> (try with_reducible rfl))
    replace e150 := (ho 150 (by decide)).trans e150
    replace e153 := (ho 153 (by decide)).trans e153
    clear h16 ho e158
    refine si_v (v := ?_) 160 18 rfl h17 (wanted_g h17.v 10 153 true e153) ?_ (hzA 160 (by decide)) (fun B E h18 e160 ho => ?_)
    rotate_left
    · (have hO := h17.o; go_simp <;> (try with_reducible rfl))
    replace e150 := (ho 150 (by decide)).trans e150
    replace e153 := (ho 153 (by decide)).trans e153
    replace e159 := (ho 159 (by decide)).trans e159
    clear h17 ho
    refine si_v (v := ?_) 161 19 rfl h18 (wanted_g h18.v 10 153 true e153) ?_ (hzA 161 (by decide)) (fun B E h19 e161 ho => ?_)
    rotate_left
    · (go_simp <;> (try with_reducible rfl))
    replace e150 := (ho 150 (by decide)).trans e150
    replace e153 := (ho 153 (by decide)).trans e153
    clear h18 ho e160 e159
    by_cases c2 : y ≤ z
    ·
     replace e161 := e161.trans (congrArg Value.bool (decide_eq_true c2))
     have HN : Hid (tf ((0 ≤ y ∧ y ≤ (nc : Int) - 1) ∧ (0 < (i + 1) → z < y)) = false) := Hid.intro (tf_no (fun q => by have := q.2 c1; omega))
     refine si_v (v := ?_) 162 20 rfl h19 (wanted_g h19.v 7 150 false e150) ?_ (hzA 162 (by decide)) (fun B E h20 e162 ho => ?_)
     rotate_left
     · (have hc := h19.c; go_simp <;> (try with_reducible rfl))
     replace e150 := (ho 150 (by decide)).trans e150
     clear h19 ho e153 e161
     refine si_v (v := ?_) 163 21 rfl h20 wanted_p ?_ (hzA 163 (by decide)) (fun B E h21 e163 ho => ?_)
     rotate_left
     · (have hc := h20.c; go_simp <;> (try with_reducible rfl))
     clear h20 ho e162 e150
     refine wpI.done rfl ?_
     exact hQ _ _ h21.x h21.v (e163.trans (by rw [HN.out]; rfl))
    ·
     replace e161 := e161.trans (congrArg Value.bool (decide_eq_false c2))
     have HN : Hid (tf ((0 ≤ y ∧ y ≤ (nc : Int) - 1) ∧ (0 < (i + 1) → z < y)) = true) := Hid.intro (tf_yes ⟨inR_iff.1 c0, fun _ => by omega⟩)
     refine si_v (v := ?_) 162 20 rfl h19 (wanted_g h19.v 7 150 false e150) ?_ (hzA 162 (by decide)) (fun B E h20 e162 ho => ?_)
     rotate_left
     · (have hc := h19.c; go_simp <;> (try with_reducible rfl))
     replace e150 := (ho 150 (by decide)).trans e150
     clear h19 ho e153 e161
     refine si_v (v := ?_) 163 21 rfl h20 wanted_p ?_ (hzA 163 (by decide)) (fun B E h21 e163 ho => ?_)
     rotate_left
     · (have hc := h20.c; go_simp <;> (try with_reducible rfl))
     clear h20 ho e162 e150
     refine wpI.done rfl ?_
     exact hQ _ _ h21.x h21.v (e163.trans (by rw [HN.out]; rfl))
   ·
    replace e152 := e152.trans (congrArg Value.bool (decide_eq_false c1))
    have HN : Hid (tf ((0 ≤ y ∧ y ≤ (nc : Int) - 1) ∧ (0 < j → z < y)) = true) := Hid.intro (tf_yes ⟨inR_iff.1 c0, fun q => absurd q c1⟩)
    refine si_v (v := ?_) 153 11 rfl h10 (wanted_g h10.v 7 150 false e150) ?_ (hzA 153 (by decide)) (fun B E h11 e153 ho => ?_)
    rotate_left
    · (go_simp <;> (try with_reducible rfl))
    replace e150 := (ho 150 (by decide)).trans e150
    clear h10 ho e152
    refine si_nb 10 8 19 161 h11 e153 (hzA 161 (by decide)) (fun B E h19 hu ho => ?_)
    replace e150 := (ho 150 (by decide)).trans e150
    replace e153 := (ho 153 (by decide)).trans e153
    have e161 := hu 161 (by decide) (by decide)
    clear h11 ho hu
    refine si_v (v := ?_) 162 20 rfl h19 (wanted_g h19.v 7 150 false e150) ?_ (hzA 162 (by decide)) (fun B E h20 e162 ho => ?_)
    rotate_left
    · (have hc := h19.c; go_simp <;> (try with_reducible rfl))
    replace e150 := (ho 150 (by decide)).trans e150
    clear h19 ho e153 e161
    refine si_v (v := ?_) 163 21 rfl h20 wanted_p ?_ (hzA 163 (by decide)) (fun B E h21 e163 ho => ?_)
    rotate_left
    · (have hc := h20.c; go_simp <;> (try with_reducible rfl))
    clear h20 ho e162 e150
    refine wpI.done rfl ?_
    exact hQ _ _ h21.x h21.v (e163.trans (by rw [HN.out]; rfl))
end Go.Proofs.Ytaofolbnommpgaa
