/- Registers: an op goes on. -/
import Derived.Test.YtaofolbnommpgaaRhN
import Derived.Test.YtaofolbnommpgaaSrI
import Derived.Test.YtaofolbnommpgaaInsI
import Derived.Test.YtaofolbnommpgaaMgC
import Derived.Deep.QuietTactic
import Derived.BigQuiet
namespace Go.Proofs.Ytaofolbnommpgaa
open Go.RowKit
set_option linter.unusedVariables false
set_option linter.unusedSimpArgs false

/-- The register's own cells and the step's. -/
def ReB (W : World) (g b : Nat) (ck : Int) (va vp : Value) (bg : Bool) (cl : Int) (wr : Bool) (vl : ByteArray) (oi ni : Int) : Prop := Bx W g [.int .i64 ck, va, vp] ∧ Bx W b [.bool bg, .int .i64 cl, .bool wr, .string vl, .int .i64 oi, .int .i64 ni]
theorem ReB.next {W W' : World} {g b : Nat} {ck : Int} {va vp : Value} {bg : Bool} {cl : Int} {wr : Bool} {vl : ByteArray} {oi ni : Int} (h : ReB W g b ck va vp bg cl wr vl oi ni) (hb : Below W.heap.size W W') : ReB W' g b ck va vp bg cl wr vl oi ni := ⟨h.1.next hb, h.2.next hb⟩

set_option maxRecDepth 100000 in
set_option maxHeartbeats 4000000 in
theorem goOn_out (g : Nat) (ck : Int) (a1 : Option Addr) (n1 k1 : Nat) (a2 : Option Addr) (n2 k2 : Nat) (bg : Bool) (cl : Int) (wr : Bool) (vl : ByteArray) (oi ni : Int) (W : World) (h1 : n1 ≤ 12) (h2 : n2 ≤ 7) (h : Bx W g [.int .i64 ck, .slice a1 n1 k1, .slice a2 n2 k2]) (hn : ¬ ((0 ≤ oi ∧ oi ≤ (n2 : Int) - 1) ∧ (0 ≤ ni ∧ ni ≤ (n1 : Int) - 1))) :
    Calls Try.prog 104 #[.pointer (some ⟨g, 0, none⟩), .agg #[.bool bg, .int .i64 cl, .bool wr, .string vl, .int .i64 oi, .int .i64 ni]] W fun r w' => r = .returned (.bool false) ∧ Below W.heap.size W w' := by
  obtain ⟨w1, hw1⟩ : ∃ x, x = W.alloc (.cells #[.bool bg, .int .i64 cl, .bool wr, .string vl, .int .i64 oi, .int .i64 ni] 42) := ⟨_, rfl⟩
  have H1 : Hid (ReB w1 g W.heap.size ck (.slice a1 n1 k1) (.slice a2 n2 k2) bg cl wr vl oi ni ∧ Below W.heap.size W w1) := ⟨⟨hw1 ▸ h.alloc _, hw1 ▸ Bx.new W [_, _, _, _, _, _] _⟩, hw1 ▸ Go.Joins.below_alloc1 _ _⟩
  have s0 := (H1.out.1.1).cell 0 rfl; have s1 := (H1.out.1.1).cell 1 rfl; have s2 := (H1.out.1.1).cell 2 rfl; have sz := (H1.out.1.1).2
  have t0 := (H1.out.1.2).cell 0 rfl; have t1 := (H1.out.1.2).cell 1 rfl; have t2 := (H1.out.1.2).cell 2 rfl; have t3 := (H1.out.1.2).cell 3 rfl; have t4 := (H1.out.1.2).cell 4 rfl; have t5 := (H1.out.1.2).cell 5 rfl; have tz := (H1.out.1.2).2
  have e1 : IntKind.i64.wrap ((n1 : Int) - 1) = (n1 : Int) - 1 := w64 (by omega) (by omega)
  have e2 : IntKind.i64.wrap ((n2 : Int) - 1) = (n2 : Int) - 1 := w64 (by omega) (by omega)
  have HN := Hid.intro hn
  clear h hn h1 h2
  cases c1 : inR oi 0 ((n2 : Int) - 1)
  · have HC : Hid (inR oi 0 ((n2 : Int) - 1) = false) := c1
    clear c1
    go_enter Try.func104, Try.ntmps104
    go_upto_region 1 with fail
    rw [← hw1]
    clear hw1
    have HW : Hid (ReB w1.drew g W.heap.size ck (.slice a1 n1 k1) (.slice a2 n2 k2) bg cl wr vl oi ni ∧ Below W.heap.size W w1.drew) := ⟨H1.out.1.next (below_drew _), below_next H1.out.2 (below_drew _)⟩
    clear s0 s1 s2 sz t0 t1 t2 t3 t4 t5 tz H1
    refine wp_region_noPanic ?_
    refine wp_region_held_drew (S := fun X => ReB X g W.heap.size ck (.slice a1 n1 k1) (.slice a2 n2 k2) bg cl wr vl oi ni ∧ Below W.heap.size W X) (by kernel_rfl) HW.out (fun hHeld => ?_)
    refine take_v (v := ?_) 0 ⟨some 10, Op.fieldAddr 42 (Operand.tmp 3) 4, _, _, _, none⟩ rfl (fun _ _ _ h => h) ?_ hHeld ?_
    rotate_left
    · (intro W _; go_simp <;> (try with_reducible rfl))
    refine take_v (v := ?_) 1 ⟨some 11, Op.load 3 (Operand.tmp 10), _, _, _, none⟩ rfl (fun _ _ _ h => h) ?_ hHeld ?_
    rotate_left
    · (intro W hSW; (have s0 := hSW.1.1.cell 0 rfl; have s1 := hSW.1.1.cell 1 rfl; have s2 := hSW.1.1.cell 2 rfl; have sz := hSW.1.1.2; have t0 := hSW.1.2.cell 0 rfl; have t1 := hSW.1.2.cell 1 rfl; have t2 := hSW.1.2.cell 2 rfl; have t3 := hSW.1.2.cell 3 rfl; have t4 := hSW.1.2.cell 4 rfl; have t5 := hSW.1.2.cell 5 rfl; have tz := hSW.1.2.2); go_simp <;> (try with_reducible rfl))
    refine take_v (v := ?_) 2 ⟨some 12, Op.move (Operand.tmp 0), _, _, _, none⟩ rfl (fun _ _ _ h => h) ?_ hHeld ?_
    rotate_left
    · (intro W _; go_simp <;> (try with_reducible rfl))
    refine take_v (v := ?_) 3 ⟨some 13, Op.nilCheck (Operand.tmp 12), _, _, _, none⟩ rfl (fun _ _ _ h => h) ?_ hHeld ?_
    rotate_left
    · (intro W _; go_simp <;> (try with_reducible rfl))
    refine take_v (v := ?_) 4 ⟨some 14, Op.fieldAddr 29 (Operand.tmp 13) 2, _, _, _, none⟩ rfl (fun _ _ _ h => h) ?_ hHeld ?_
    rotate_left
    · (intro W _; go_simp <;> (try with_reducible rfl))
    refine take_v (v := ?_) 5 ⟨some 15, Op.load 27 (Operand.tmp 14), _, _, _, none⟩ rfl (fun _ _ _ h => h) ?_ hHeld ?_
    rotate_left
    · (intro W hSW; (have s0 := hSW.1.1.cell 0 rfl; have s1 := hSW.1.1.cell 1 rfl; have s2 := hSW.1.1.cell 2 rfl; have sz := hSW.1.1.2; have t0 := hSW.1.2.cell 0 rfl; have t1 := hSW.1.2.cell 1 rfl; have t2 := hSW.1.2.cell 2 rfl; have t3 := hSW.1.2.cell 3 rfl; have t4 := hSW.1.2.cell 4 rfl; have t5 := hSW.1.2.cell 5 rfl; have tz := hSW.1.2.2); go_simp <;> (try with_reducible rfl))
    refine take_v (v := ?_) 6 ⟨some 16, Op.call { callee := Callee.builtin Builtin.len, args := #[Operand.tmp 15], argTypes := #[27] }, _, _, _, none⟩ rfl (fun _ _ _ h => h) ?_ hHeld ?_
    rotate_left
    · (intro W _; go_simp <;> (try with_reducible rfl))
    refine take_v (v := ?_) 7 ⟨some 17, Op.binOp BinOp.sub 3 (Operand.tmp 16) (Operand.const (Value.int IntKind.i64 1)) 3, _, _, _, none⟩ rfl (fun _ _ _ h => h) ?_ hHeld ?_
    rotate_left
    · (intro W _; go_simp <;> (try with_reducible rfl))
    refine ready_call 8 ⟨some 18, Op.call { callee := Callee.value (Operand.func 54), args := #[Operand.tmp 11, Operand.const (Value.int IntKind.i64 0), Operand.tmp 17], argTypes := #[3, 3, 3] }, _, _, _, none⟩ (by kernel_rfl) rfl (by kernel_rfl) (fun KC hK => ?_)
    go_wp2_with fail
    refine (HC.out ▸ inRange_any _ _ _ _).mono ?_
    rintro r X1 ⟨rfl, hw⟩
    have hw := hw.symm
    subst hw
    refine hK.out _ _ hHeld (fun hHeld => ?_)
    clear hK KC
    refine take_v (v := ?_) 9 ⟨some 19, Op.unOp UnOp.not 4 (Operand.tmp 18), _, _, _, none⟩ rfl (fun _ _ _ h => h) ?_ hHeld ?_
    rotate_left
    · (intro W _; go_simp <;> (try with_reducible rfl))
    refine take_v (v := ?_) 10 ⟨some 20, Op.move (Operand.tmp 19), _, _, _, none⟩ rfl (fun _ _ _ h => h) ?_ hHeld ?_
    rotate_left
    · (intro W _; go_simp <;> (try with_reducible rfl))
    refine take_n 11 ⟨some 21, Op.fieldAddr 42 (Operand.tmp 3) 5, _, _, _, some (10, false)⟩ rfl (fun _ _ _ h => h) hHeld ?_
    refine take_n 12 ⟨some 22, Op.load 3 (Operand.tmp 21), _, _, _, some (10, false)⟩ rfl (fun _ _ _ h => h) hHeld ?_
    refine take_n 13 ⟨some 23, Op.move (Operand.tmp 0), _, _, _, some (10, false)⟩ rfl (fun _ _ _ h => h) hHeld ?_
    refine take_n 14 ⟨some 24, Op.nilCheck (Operand.tmp 23), _, _, _, some (10, false)⟩ rfl (fun _ _ _ h => h) hHeld ?_
    refine take_n 15 ⟨some 25, Op.fieldAddr 29 (Operand.tmp 24) 1, _, _, _, some (10, false)⟩ rfl (fun _ _ _ h => h) hHeld ?_
    refine take_n 16 ⟨some 26, Op.load 26 (Operand.tmp 25), _, _, _, some (10, false)⟩ rfl (fun _ _ _ h => h) hHeld ?_
    refine take_n 17 ⟨some 27, Op.call { callee := Callee.builtin Builtin.len, args := #[Operand.tmp 26], argTypes := #[26] }, _, _, _, some (10, false)⟩ rfl (fun _ _ _ h => h) hHeld ?_
    refine take_n 18 ⟨some 28, Op.binOp BinOp.sub 3 (Operand.tmp 27) (Operand.const (Value.int IntKind.i64 1)) 3, _, _, _, some (10, false)⟩ rfl (fun _ _ _ h => h) hHeld ?_
    refine take_n 19 ⟨some 29, Op.call { callee := Callee.value (Operand.func 54), args := #[Operand.tmp 22, Operand.const (Value.int IntKind.i64 0), Operand.tmp 28], argTypes := #[3, 3, 3] }, _, _, _, some (10, false)⟩ rfl (fun _ _ _ h => h) hHeld ?_
    refine take_n 20 ⟨some 30, Op.unOp UnOp.not 4 (Operand.tmp 29), _, _, _, some (10, false)⟩ rfl (fun _ _ _ h => h) hHeld ?_
    refine take_v (v := ?_) 21 ⟨some 31, Op.pick (Operand.tmp 20) (Operand.const (Value.bool true)) (Operand.tmp 30), _, _, _, none⟩ rfl (fun _ _ _ h => h) ?_ hHeld ?_
    rotate_left
    · (intro W _; go_simp <;> (try with_reducible rfl))
    refine wpAnyH_done (by kernel_rfl) ?_ _
    refine NoPanic.normal ?_
    go_wp2
    go_ret
    exact ⟨rfl, hHeld.2⟩
  · have c2 : inR ni 0 ((n1 : Int) - 1) = false := by
      cases h : inR ni 0 ((n1 : Int) - 1)
      · rfl
      · exact absurd ⟨inR_iff.1 c1, inR_iff.1 h⟩ HN.out
    have HC : Hid (inR oi 0 ((n2 : Int) - 1) = true) := c1
    have HC2 : Hid (inR ni 0 ((n1 : Int) - 1) = false) := c2
    clear c1 c2
    go_enter Try.func104, Try.ntmps104
    go_upto_region 1 with fail
    rw [← hw1]
    clear hw1
    have HW : Hid (ReB w1.drew g W.heap.size ck (.slice a1 n1 k1) (.slice a2 n2 k2) bg cl wr vl oi ni ∧ Below W.heap.size W w1.drew) := ⟨H1.out.1.next (below_drew _), below_next H1.out.2 (below_drew _)⟩
    clear s0 s1 s2 sz t0 t1 t2 t3 t4 t5 tz H1
    refine wp_region_noPanic ?_
    refine wp_region_held_drew (S := fun X => ReB X g W.heap.size ck (.slice a1 n1 k1) (.slice a2 n2 k2) bg cl wr vl oi ni ∧ Below W.heap.size W X) (by kernel_rfl) HW.out (fun hHeld => ?_)
    refine take_v (v := ?_) 0 ⟨some 10, Op.fieldAddr 42 (Operand.tmp 3) 4, _, _, _, none⟩ rfl (fun _ _ _ h => h) ?_ hHeld ?_
    rotate_left
    · (intro W _; go_simp <;> (try with_reducible rfl))
    refine take_v (v := ?_) 1 ⟨some 11, Op.load 3 (Operand.tmp 10), _, _, _, none⟩ rfl (fun _ _ _ h => h) ?_ hHeld ?_
    rotate_left
    · (intro W hSW; (have s0 := hSW.1.1.cell 0 rfl; have s1 := hSW.1.1.cell 1 rfl; have s2 := hSW.1.1.cell 2 rfl; have sz := hSW.1.1.2; have t0 := hSW.1.2.cell 0 rfl; have t1 := hSW.1.2.cell 1 rfl; have t2 := hSW.1.2.cell 2 rfl; have t3 := hSW.1.2.cell 3 rfl; have t4 := hSW.1.2.cell 4 rfl; have t5 := hSW.1.2.cell 5 rfl; have tz := hSW.1.2.2); go_simp <;> (try with_reducible rfl))
    refine take_v (v := ?_) 2 ⟨some 12, Op.move (Operand.tmp 0), _, _, _, none⟩ rfl (fun _ _ _ h => h) ?_ hHeld ?_
    rotate_left
    · (intro W _; go_simp <;> (try with_reducible rfl))
    refine take_v (v := ?_) 3 ⟨some 13, Op.nilCheck (Operand.tmp 12), _, _, _, none⟩ rfl (fun _ _ _ h => h) ?_ hHeld ?_
    rotate_left
    · (intro W _; go_simp <;> (try with_reducible rfl))
    refine take_v (v := ?_) 4 ⟨some 14, Op.fieldAddr 29 (Operand.tmp 13) 2, _, _, _, none⟩ rfl (fun _ _ _ h => h) ?_ hHeld ?_
    rotate_left
    · (intro W _; go_simp <;> (try with_reducible rfl))
    refine take_v (v := ?_) 5 ⟨some 15, Op.load 27 (Operand.tmp 14), _, _, _, none⟩ rfl (fun _ _ _ h => h) ?_ hHeld ?_
    rotate_left
    · (intro W hSW; (have s0 := hSW.1.1.cell 0 rfl; have s1 := hSW.1.1.cell 1 rfl; have s2 := hSW.1.1.cell 2 rfl; have sz := hSW.1.1.2; have t0 := hSW.1.2.cell 0 rfl; have t1 := hSW.1.2.cell 1 rfl; have t2 := hSW.1.2.cell 2 rfl; have t3 := hSW.1.2.cell 3 rfl; have t4 := hSW.1.2.cell 4 rfl; have t5 := hSW.1.2.cell 5 rfl; have tz := hSW.1.2.2); go_simp <;> (try with_reducible rfl))
    refine take_v (v := ?_) 6 ⟨some 16, Op.call { callee := Callee.builtin Builtin.len, args := #[Operand.tmp 15], argTypes := #[27] }, _, _, _, none⟩ rfl (fun _ _ _ h => h) ?_ hHeld ?_
    rotate_left
    · (intro W _; go_simp <;> (try with_reducible rfl))
    refine take_v (v := ?_) 7 ⟨some 17, Op.binOp BinOp.sub 3 (Operand.tmp 16) (Operand.const (Value.int IntKind.i64 1)) 3, _, _, _, none⟩ rfl (fun _ _ _ h => h) ?_ hHeld ?_
    rotate_left
    · (intro W _; go_simp <;> (try with_reducible rfl))
    refine ready_call 8 ⟨some 18, Op.call { callee := Callee.value (Operand.func 54), args := #[Operand.tmp 11, Operand.const (Value.int IntKind.i64 0), Operand.tmp 17], argTypes := #[3, 3, 3] }, _, _, _, none⟩ (by kernel_rfl) rfl (by kernel_rfl) (fun KC hK => ?_)
    go_wp2_with fail
    refine (HC.out ▸ inRange_any oi 0 ((n2 : Int) - 1) _).mono ?_
    rintro r X1 ⟨rfl, hw⟩
    have hw := hw.symm
    subst hw
    clear HC
    refine hK.out _ _ hHeld (fun hHeld => ?_)
    clear hK KC
    refine take_v (v := ?_) 9 ⟨some 19, Op.unOp UnOp.not 4 (Operand.tmp 18), _, _, _, none⟩ rfl (fun _ _ _ h => h) ?_ hHeld ?_
    rotate_left
    · (intro W _; go_simp <;> (try with_reducible rfl))
    refine take_v (v := ?_) 10 ⟨some 20, Op.move (Operand.tmp 19), _, _, _, none⟩ rfl (fun _ _ _ h => h) ?_ hHeld ?_
    rotate_left
    · (intro W _; go_simp <;> (try with_reducible rfl))
    refine take_v (v := ?_) 11 ⟨some 21, Op.fieldAddr 42 (Operand.tmp 3) 5, _, _, _, some (10, false)⟩ rfl (fun _ _ _ h => h) ?_ hHeld ?_
    rotate_left
    · (intro W _; go_simp <;> (try with_reducible rfl))
    refine take_v (v := ?_) 12 ⟨some 22, Op.load 3 (Operand.tmp 21), _, _, _, some (10, false)⟩ rfl (fun _ _ _ h => h) ?_ hHeld ?_
    rotate_left
    · (intro W hSW; (have s0 := hSW.1.1.cell 0 rfl; have s1 := hSW.1.1.cell 1 rfl; have s2 := hSW.1.1.cell 2 rfl; have sz := hSW.1.1.2; have t0 := hSW.1.2.cell 0 rfl; have t1 := hSW.1.2.cell 1 rfl; have t2 := hSW.1.2.cell 2 rfl; have t3 := hSW.1.2.cell 3 rfl; have t4 := hSW.1.2.cell 4 rfl; have t5 := hSW.1.2.cell 5 rfl; have tz := hSW.1.2.2); go_simp <;> (try with_reducible rfl))
    refine take_v (v := ?_) 13 ⟨some 23, Op.move (Operand.tmp 0), _, _, _, some (10, false)⟩ rfl (fun _ _ _ h => h) ?_ hHeld ?_
    rotate_left
    · (intro W _; go_simp <;> (try with_reducible rfl))
    refine take_v (v := ?_) 14 ⟨some 24, Op.nilCheck (Operand.tmp 23), _, _, _, some (10, false)⟩ rfl (fun _ _ _ h => h) ?_ hHeld ?_
    rotate_left
    · (intro W _; go_simp <;> (try with_reducible rfl))
    refine take_v (v := ?_) 15 ⟨some 25, Op.fieldAddr 29 (Operand.tmp 24) 1, _, _, _, some (10, false)⟩ rfl (fun _ _ _ h => h) ?_ hHeld ?_
    rotate_left
    · (intro W _; go_simp <;> (try with_reducible rfl))
    refine take_v (v := ?_) 16 ⟨some 26, Op.load 26 (Operand.tmp 25), _, _, _, some (10, false)⟩ rfl (fun _ _ _ h => h) ?_ hHeld ?_
    rotate_left
    · (intro W hSW; (have s0 := hSW.1.1.cell 0 rfl; have s1 := hSW.1.1.cell 1 rfl; have s2 := hSW.1.1.cell 2 rfl; have sz := hSW.1.1.2; have t0 := hSW.1.2.cell 0 rfl; have t1 := hSW.1.2.cell 1 rfl; have t2 := hSW.1.2.cell 2 rfl; have t3 := hSW.1.2.cell 3 rfl; have t4 := hSW.1.2.cell 4 rfl; have t5 := hSW.1.2.cell 5 rfl; have tz := hSW.1.2.2); go_simp <;> (try with_reducible rfl))
    refine take_v (v := ?_) 17 ⟨some 27, Op.call { callee := Callee.builtin Builtin.len, args := #[Operand.tmp 26], argTypes := #[26] }, _, _, _, some (10, false)⟩ rfl (fun _ _ _ h => h) ?_ hHeld ?_
    rotate_left
    · (intro W _; go_simp <;> (try with_reducible rfl))
    refine take_v (v := ?_) 18 ⟨some 28, Op.binOp BinOp.sub 3 (Operand.tmp 27) (Operand.const (Value.int IntKind.i64 1)) 3, _, _, _, some (10, false)⟩ rfl (fun _ _ _ h => h) ?_ hHeld ?_
    rotate_left
    · (intro W _; go_simp <;> (try with_reducible rfl))
    refine ready_call 19 ⟨some 29, Op.call { callee := Callee.value (Operand.func 54), args := #[Operand.tmp 22, Operand.const (Value.int IntKind.i64 0), Operand.tmp 28], argTypes := #[3, 3, 3] }, _, _, _, some (10, false)⟩ (by kernel_rfl) rfl (by kernel_rfl) (fun KC hK => ?_)
    go_wp2_with fail
    refine (HC2.out ▸ inRange_any ni 0 ((n1 : Int) - 1) _).mono ?_
    rintro r X1 ⟨rfl, hw⟩
    have hw := hw.symm
    subst hw
    refine hK.out _ _ hHeld (fun hHeld => ?_)
    clear hK KC
    refine take_v (v := ?_) 20 ⟨some 30, Op.unOp UnOp.not 4 (Operand.tmp 29), _, _, _, some (10, false)⟩ rfl (fun _ _ _ h => h) ?_ hHeld ?_
    rotate_left
    · (intro W _; go_simp <;> (try with_reducible rfl))
    refine take_v (v := ?_) 21 ⟨some 31, Op.pick (Operand.tmp 20) (Operand.const (Value.bool true)) (Operand.tmp 30), _, _, _, none⟩ rfl (fun _ _ _ h => h) ?_ hHeld ?_
    rotate_left
    · (intro W _; go_simp <;> (try with_reducible rfl))
    refine wpAnyH_done (by kernel_rfl) ?_ _
    refine NoPanic.normal ?_
    go_wp2
    go_ret
    exact ⟨rfl, hHeld.2⟩
end Go.Proofs.Ytaofolbnommpgaa
