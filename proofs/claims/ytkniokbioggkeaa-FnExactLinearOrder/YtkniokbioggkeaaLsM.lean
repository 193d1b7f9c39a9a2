/- The contract of the specification's (*l7S).may. Written by tools/mkLsM.py. -/
import Derived.Test.YtkniokbioggkeaaLsO
namespace Go.Proofs.Ytkniokbioggkeaa
open Go.RowKit
set_option linter.unusedVariables false

/-- Call k is not done, and must be ahead of call i. -/
def waitK (V : Nat → CallV) (own : Bool) (ord : List Nat) (k i : Nat) : Bool := !ord.contains k && mustB own (V k) (V i)
theorem waitB_yes {V : Nat → CallV} {n : Nat} {own : Bool} {ord : List Nat} {i k : Nat} (hk : k < n) (h : waitK V own ord k i = true) : waitB V n own ord i = true := List.any_eq_true.2 ⟨k, List.mem_range.2 hk, h⟩
theorem waitB_no {V : Nat → CallV} {n : Nat} {own : Bool} {ord : List Nat} {i : Nat} (h : ∀ k, k < n → waitK V own ord k i = false) : waitB V n own ord i = false := by
  rw [waitB, List.any_eq_false]
  intro k hk e
  have := h k (List.mem_range.1 hk)
  rw [waitK] at this
  rw [this] at e; cases e
theorem mustB_no {own : Bool} {a b : CallV} (h : ¬ a.f5 < b.f4) : mustB own a b = false := by
  have : endB a b = false := by simp only [endB, decide_eq_false h]
  cases own
  · exact this
  · show ((a.f0 == b.f0) && endB a b) = false
    rw [this, Bool.and_false]
theorem mustB_yes {a b : CallV} (h : a.f5 < b.f4) : mustB false a b = true := by
  show endB a b = true
  simp only [endB, decide_eq_true h]
theorem mustB_at {a b : CallV} (h : a.f5 < b.f4) : mustB true a b = (a.f0 == b.f0) := by
  show ((a.f0 == b.f0) && endB a b) = _
  simp only [endB, decide_eq_true h, Bool.and_true]
theorem waitK_of {V : Nat → CallV} {own : Bool} {ord : List Nat} {k i : Nat} {x y : Bool} (h1 : ord.contains k = x) (h2 : mustB own (V k) (V i) = y) : waitK V own ord k i = (!x && y) := by rw [waitK, h1, h2]


set_option maxRecDepth 100000 in
set_option maxHeartbeats 8000000 in
theorem may_false (lo : Nat) (w0 w : World) (g ub : Nat) (a : Option Addr) (n cap : Nat) (V : Nat → CallV) (ord : List Nat) (L : List CellV) (ov lv : Value) (KB : List (Nat × Obj)) (i : Nat) (hC : TwoC lo w0 g ub a n cap V) (hi : i < n) (h1 : Two lo w g ub a n cap false ord ord L ov lv KB) (h2 : Sees V n ord L) (h3 : Below lo w0 w) :
    Calls Try.prog 77 #[.pointer (some ⟨g, 0, none⟩), .int .i64 (i : Int)] w fun r w' => r = .returned (.bool (fitB V ord i && !waitB V n false ord i)) ∧ Below w.heap.size w w' := by
  have h7 := hC.n7
  have hLl := h2.len
  obtain ⟨own, hown⟩ : ∃ o, o = false := ⟨_, rfl⟩
  have hi' : (i : Int) < (n : Int) := by omega
  rcases hC.at h3 with h | ⟨b, off, rfl, hbs, hE⟩
  · omega
  obtain ⟨la, lc, rfl, hlc, hrow⟩ := SRow.of (F := cellF (cV L)) (c := 2) h1.2.2.2.1
  have HK : Hid (Bx w g [.slice (some ⟨b, off, none⟩) n cap, .bool false, .slice (some ⟨ub, 0, none⟩) n n, ov, .slice la L.length lc] ∧ Bx w ub (usedC n ord) ∧ Elems w b off n 6 (callF V) ∧ b < w.heap.size ∧ Sl w la L.length 2 (cellF (cV L)) ∧ Sees V n ord L) := ⟨h1.1, h1.2.1, hE, hbs, hrow.sl, h2⟩
  have k0 := h1.1.cell 0 rfl
  have kz := h1.1.2
  clear h1 h2 h3 hC hE hrow hown own
  go_enter Try.func77, Try.ntmps77
  go_wp2
  clear k0
  go_loopw [12] (fun z wr => ∃ k : Nat, k ≤ n ∧ z = .int .i64 k ∧ (∀ j, j < k → waitK V false ord j i = false) ∧ Below w.heap.size w wr) (fun z _ => n - (intOf z).toNat)
  case atStart => exact ⟨0, Nat.zero_le _, rfl, fun j hj => absurd hj (by omega), Below.refl _ _⟩
  case round =>
    obtain ⟨k, hk, rfl, hno, hBr⟩ := hrel
    have HNo : Hid (∀ j, j < k → waitK V false ord j i = false) := hno
    have HBr : Hid (Below w.heap.size w wr) := hBr
    clear hno hBr
    by_cases hlt : k < n
    · have hlt' : (k : Int) < (n : Int) := by omega
      obtain ⟨d0, d1, d2, d3, d4, d5⟩ := call_cells (HK.out.2.2.1.below HBr.out HK.out.2.2.2.1) hlt
      have HU : Hid ((usedC n ord)[k]? = some (.bool (ord.contains k))) := usedC_at ord hlt
      have hd : Below wr.heap.size wr (wr.alloc (.cells #[.int .i64 (V k).f0, .bool (V k).f1, .string (V k).f2, .string (V k).f3, .int .i64 (V k).f4, .int .i64 (V k).f5] 28)).drew := (Go.Joins.below_alloc1 _ _).drew
      have HD : Hid ((Bx (wr.alloc (.cells #[.int .i64 (V k).f0, .bool (V k).f1, .string (V k).f2, .string (V k).f3, .int .i64 (V k).f4, .int .i64 (V k).f5] 28)).drew g [.slice (some ⟨b, off, none⟩) n cap, .bool false, .slice (some ⟨ub, 0, none⟩) n n, ov, .slice la L.length lc] ∧ Bx (wr.alloc (.cells #[.int .i64 (V k).f0, .bool (V k).f1, .string (V k).f2, .string (V k).f3, .int .i64 (V k).f4, .int .i64 (V k).f5] 28)).drew ub (usedC n ord) ∧ Bx (wr.alloc (.cells #[.int .i64 (V k).f0, .bool (V k).f1, .string (V k).f2, .string (V k).f3, .int .i64 (V k).f4, .int .i64 (V k).f5] 28)).drew wr.heap.size [.int .i64 (V k).f0, .bool (V k).f1, .string (V k).f2, .string (V k).f3, .int .i64 (V k).f4, .int .i64 (V k).f5] ∧ Elems (wr.alloc (.cells #[.int .i64 (V k).f0, .bool (V k).f1, .string (V k).f2, .string (V k).f3, .int .i64 (V k).f4, .int .i64 (V k).f5] 28)).drew b off n 6 (callF V) ∧ b < (wr.alloc (.cells #[.int .i64 (V k).f0, .bool (V k).f1, .string (V k).f2, .string (V k).f3, .int .i64 (V k).f4, .int .i64 (V k).f5] 28)).drew.heap.size) ∧ Below w.heap.size w (wr.alloc (.cells #[.int .i64 (V k).f0, .bool (V k).f1, .string (V k).f2, .string (V k).f3, .int .i64 (V k).f4, .int .i64 (V k).f5] 28)).drew) :=
        ⟨⟨(HK.out.1.next HBr.out).next hd, (HK.out.2.1.next HBr.out).next hd, (Bx.new wr [.int .i64 (V k).f0, .bool (V k).f1, .string (V k).f2, .string (V k).f3, .int .i64 (V k).f4, .int .i64 (V k).f5] 28).next (Below.refl _ _).drew, HK.out.2.2.1.below (below_nx HBr.out hd) HK.out.2.2.2.1, Nat.lt_of_lt_of_le HK.out.2.2.2.1 (below_nx HBr.out hd).size⟩, below_nx HBr.out hd⟩
      clear hd
      go_upto_region 4 with fail
      clear d0 d1 d2 d3 d4 d5
      cases eu : ord.contains k
      case true =>
        rw [eu] at HU

        refine wp_region_noPanic ?_
        refine wp_region_held_drew (S := fun W => Bx W g [.slice (some ⟨b, off, none⟩) n cap, .bool false, .slice (some ⟨ub, 0, none⟩) n n, ov, .slice la L.length lc] ∧ Bx W ub (usedC n ord) ∧ Bx W wr.heap.size [.int .i64 (V k).f0, .bool (V k).f1, .string (V k).f2, .string (V k).f3, .int .i64 (V k).f4, .int .i64 (V k).f5] ∧ Elems W b off n 6 (callF V) ∧ b < W.heap.size) (by kernel_rfl) HD.out.1 (fun hHeld => ?_)
        refine take_v (v := ?_) 0 ⟨some 17, Op.move (Operand.tmp 0), _, _, _, none⟩ rfl (fun _ _ _ h => h) ?_ hHeld ?_
        rotate_left
        · (intro W _; go_simp <;> (try with_reducible rfl))
        refine take_v (v := ?_) 1 ⟨some 18, Op.nilCheck (Operand.tmp 17), _, _, _, none⟩ rfl (fun _ _ _ h => h) ?_ hHeld ?_
        rotate_left
        · (intro W _; go_simp <;> (try with_reducible rfl))
        refine take_v (v := ?_) 2 ⟨some 19, Op.fieldAddr 82 (Operand.tmp 18) 2, _, _, _, none⟩ rfl (fun _ _ _ h => h) ?_ hHeld ?_
        rotate_left
        · (intro W _; go_simp <;> (try with_reducible rfl))
        refine take_v (v := ?_) 3 ⟨some 20, Op.load 80 (Operand.tmp 19), _, _, _, none⟩ rfl (fun _ _ _ h => h) ?_ hHeld ?_
        rotate_left
        · (intro W hSW; (have s0 := hSW.1.cell 0 rfl; have s1 := hSW.1.cell 1 rfl; have s2 := hSW.1.cell 2 rfl; have sz := hSW.1.2; have t0 := hSW.2.1.cell k HU.out; have tz := hSW.2.1.2; have o0 := hSW.2.2.1.cell 0 rfl; have o5 := hSW.2.2.1.cell 5 rfl; have oz := hSW.2.2.1.2; obtain ⟨c0, c1, c2, c3, c4, c5⟩ := call_cells hSW.2.2.2.1 hi; have bz := hSW.2.2.2.2); go_simp <;> (try with_reducible rfl))
        refine take_v (v := ?_) 4 ⟨some 21, Op.move (Operand.tmp 5), _, _, _, none⟩ rfl (fun _ _ _ h => h) ?_ hHeld ?_
        rotate_left
        · (intro W _; go_simp <;> (try with_reducible rfl))
        refine take_v (v := ?_) 5 ⟨some 22, Op.indexAddr 80 (Operand.tmp 20) (Operand.tmp 21), _, _, _, none⟩ rfl (fun _ _ _ h => h) ?_ hHeld ?_
        rotate_left
        · (intro W _; go_simp <;> (try with_reducible rfl))
        refine take_v (v := ?_) 6 ⟨some 23, Op.load 4 (Operand.tmp 22), _, _, _, none⟩ rfl (fun _ _ _ h => h) ?_ hHeld ?_
        rotate_left
        · (intro W hSW; (have s0 := hSW.1.cell 0 rfl; have s1 := hSW.1.cell 1 rfl; have s2 := hSW.1.cell 2 rfl; have sz := hSW.1.2; have t0 := hSW.2.1.cell k HU.out; have tz := hSW.2.1.2; have o0 := hSW.2.2.1.cell 0 rfl; have o5 := hSW.2.2.1.cell 5 rfl; have oz := hSW.2.2.1.2; obtain ⟨c0, c1, c2, c3, c4, c5⟩ := call_cells hSW.2.2.2.1 hi; have bz := hSW.2.2.2.2); go_simp <;> (try with_reducible rfl))
        refine take_v (v := ?_) 7 ⟨some 24, Op.unOp UnOp.not 4 (Operand.tmp 23), _, _, _, none⟩ rfl (fun _ _ _ h => h) ?_ hHeld ?_
        rotate_left
        · (intro W _; go_simp <;> (try with_reducible rfl))
        refine take_v (v := ?_) 8 ⟨some 25, Op.move (Operand.tmp 24), _, _, _, none⟩ rfl (fun _ _ _ h => h) ?_ hHeld ?_
        rotate_left
        · (intro W _; go_simp <;> (try with_reducible rfl))
        refine take_n 9 ⟨some 26, Op.fieldAddr 28 (Operand.tmp 6) 5, _, _, _, some (8, true)⟩ rfl (fun _ _ _ h => h) hHeld ?_
        refine take_n 10 ⟨some 27, Op.load 3 (Operand.tmp 26), _, _, _, some (8, true)⟩ rfl (fun _ _ _ h => h) hHeld ?_
        refine take_n 11 ⟨some 28, Op.move (Operand.tmp 0), _, _, _, some (8, true)⟩ rfl (fun _ _ _ h => h) hHeld ?_
        refine take_n 12 ⟨some 29, Op.nilCheck (Operand.tmp 28), _, _, _, some (8, true)⟩ rfl (fun _ _ _ h => h) hHeld ?_
        refine take_n 13 ⟨some 30, Op.fieldAddr 82 (Operand.tmp 29) 0, _, _, _, some (8, true)⟩ rfl (fun _ _ _ h => h) hHeld ?_
        refine take_n 14 ⟨some 31, Op.load 23 (Operand.tmp 30), _, _, _, some (8, true)⟩ rfl (fun _ _ _ h => h) hHeld ?_
        refine take_n 15 ⟨some 32, Op.move (Operand.tmp 1), _, _, _, some (8, true)⟩ rfl (fun _ _ _ h => h) hHeld ?_
        refine take_n 16 ⟨some 33, Op.indexAddr 23 (Operand.tmp 31) (Operand.tmp 32), _, _, _, some (8, true)⟩ rfl (fun _ _ _ h => h) hHeld ?_
        refine take_n 17 ⟨some 34, Op.fieldAddr 28 (Operand.tmp 33) 4, _, _, _, some (8, true)⟩ rfl (fun _ _ _ h => h) hHeld ?_
        refine take_n 18 ⟨some 35, Op.load 3 (Operand.tmp 34), _, _, _, some (8, true)⟩ rfl (fun _ _ _ h => h) hHeld ?_
        refine take_n 19 ⟨some 36, Op.binOp BinOp.lss 3 (Operand.tmp 27) (Operand.tmp 35) 3, _, _, _, some (8, true)⟩ rfl (fun _ _ _ h => h) hHeld ?_
        refine take_v (v := ?_) 20 ⟨some 37, Op.pick (Operand.tmp 25) (Operand.tmp 36) (Operand.const (Value.bool false)), _, _, _, none⟩ rfl (fun _ _ _ h => h) ?_ hHeld ?_
        rotate_left
        · (intro W _; go_simp <;> (try with_reducible rfl))
        refine take_v (v := ?_) 21 ⟨some 38, Op.move (Operand.tmp 37), _, _, _, none⟩ rfl (fun _ _ _ h => h) ?_ hHeld ?_
        rotate_left
        · (intro W _; go_simp <;> (try with_reducible rfl))
        refine take_n 22 ⟨some 39, Op.move (Operand.tmp 0), _, _, _, some (21, true)⟩ rfl (fun _ _ _ h => h) hHeld ?_
        refine take_n 23 ⟨some 40, Op.nilCheck (Operand.tmp 39), _, _, _, some (21, true)⟩ rfl (fun _ _ _ h => h) hHeld ?_
        refine take_n 24 ⟨some 41, Op.fieldAddr 82 (Operand.tmp 40) 1, _, _, _, some (21, true)⟩ rfl (fun _ _ _ h => h) hHeld ?_
        refine take_n 25 ⟨some 42, Op.load 4 (Operand.tmp 41), _, _, _, some (21, true)⟩ rfl (fun _ _ _ h => h) hHeld ?_
        refine take_n 26 ⟨some 43, Op.unOp UnOp.not 4 (Operand.tmp 42), _, _, _, some (21, true)⟩ rfl (fun _ _ _ h => h) hHeld ?_
        refine take_n 27 ⟨some 44, Op.move (Operand.tmp 43), _, _, _, some (21, true)⟩ rfl (fun _ _ _ h => h) hHeld ?_
        refine take_n 28 ⟨some 45, Op.fieldAddr 28 (Operand.tmp 6) 0, _, _, _, some (27, false)⟩ rfl (fun _ _ _ h => h) hHeld ?_
        refine take_n 29 ⟨some 46, Op.load 3 (Operand.tmp 45), _, _, _, some (27, false)⟩ rfl (fun _ _ _ h => h) hHeld ?_
        refine take_n 30 ⟨some 47, Op.move (Operand.tmp 0), _, _, _, some (27, false)⟩ rfl (fun _ _ _ h => h) hHeld ?_
        refine take_n 31 ⟨some 48, Op.nilCheck (Operand.tmp 47), _, _, _, some (27, false)⟩ rfl (fun _ _ _ h => h) hHeld ?_
        refine take_n 32 ⟨some 49, Op.fieldAddr 82 (Operand.tmp 48) 0, _, _, _, some (27, false)⟩ rfl (fun _ _ _ h => h) hHeld ?_
        refine take_n 33 ⟨some 50, Op.load 23 (Operand.tmp 49), _, _, _, some (27, false)⟩ rfl (fun _ _ _ h => h) hHeld ?_
        refine take_n 34 ⟨some 51, Op.move (Operand.tmp 1), _, _, _, some (27, false)⟩ rfl (fun _ _ _ h => h) hHeld ?_
        refine take_n 35 ⟨some 52, Op.indexAddr 23 (Operand.tmp 50) (Operand.tmp 51), _, _, _, some (27, false)⟩ rfl (fun _ _ _ h => h) hHeld ?_
        refine take_n 36 ⟨some 53, Op.fieldAddr 28 (Operand.tmp 52) 0, _, _, _, some (27, false)⟩ rfl (fun _ _ _ h => h) hHeld ?_
        refine take_n 37 ⟨some 54, Op.load 3 (Operand.tmp 53), _, _, _, some (27, false)⟩ rfl (fun _ _ _ h => h) hHeld ?_
        refine take_n 38 ⟨some 55, Op.binOp BinOp.eql 3 (Operand.tmp 46) (Operand.tmp 54) 3, _, _, _, some (27, false)⟩ rfl (fun _ _ _ h => h) hHeld ?_
        refine take_n 39 ⟨some 56, Op.pick (Operand.tmp 44) (Operand.const (Value.bool true)) (Operand.tmp 55), _, _, _, some (21, true)⟩ rfl (fun _ _ _ h => h) hHeld ?_
        refine take_v (v := ?_) 40 ⟨some 57, Op.pick (Operand.tmp 38) (Operand.tmp 56) (Operand.const (Value.bool false)), _, _, _, none⟩ rfl (fun _ _ _ h => h) ?_ hHeld ?_
        rotate_left
        · (intro W _; go_simp <;> (try with_reducible rfl))
        refine wpAnyH_done (by kernel_rfl) ?_ _
        refine NoPanic.normal ?_
        clear hHeld
        have HV : Hid (waitK V false ord k i = false) := by show _ = _; rw [waitK, eu]; rfl
        go_wp2
        go_roundw
        case rel => exact ⟨k + 1, by omega, by go_num, upto_succ HNo.out HV.out, HD.out.2⟩
        case measure => simp [intOf]; omega
      rw [eu] at HU
      by_cases el : (V k).f5 < (V i).f4
      case neg =>
        have eld : decide ((V k).f5 < (V i).f4) = false := decide_eq_false el
        refine wp_region_noPanic ?_
        refine wp_region_held_drew (S := fun W => Bx W g [.slice (some ⟨b, off, none⟩) n cap, .bool false, .slice (some ⟨ub, 0, none⟩) n n, ov, .slice la L.length lc] ∧ Bx W ub (usedC n ord) ∧ Bx W wr.heap.size [.int .i64 (V k).f0, .bool (V k).f1, .string (V k).f2, .string (V k).f3, .int .i64 (V k).f4, .int .i64 (V k).f5] ∧ Elems W b off n 6 (callF V) ∧ b < W.heap.size) (by kernel_rfl) HD.out.1 (fun hHeld => ?_)
        refine take_v (v := ?_) 0 ⟨some 17, Op.move (Operand.tmp 0), _, _, _, none⟩ rfl (fun _ _ _ h => h) ?_ hHeld ?_
        rotate_left
        · (intro W _; go_simp <;> (try with_reducible rfl))
        refine take_v (v := ?_) 1 ⟨some 18, Op.nilCheck (Operand.tmp 17), _, _, _, none⟩ rfl (fun _ _ _ h => h) ?_ hHeld ?_
        rotate_left
        · (intro W _; go_simp <;> (try with_reducible rfl))
        refine take_v (v := ?_) 2 ⟨some 19, Op.fieldAddr 82 (Operand.tmp 18) 2, _, _, _, none⟩ rfl (fun _ _ _ h => h) ?_ hHeld ?_
        rotate_left
        · (intro W _; go_simp <;> (try with_reducible rfl))
        refine take_v (v := ?_) 3 ⟨some 20, Op.load 80 (Operand.tmp 19), _, _, _, none⟩ rfl (fun _ _ _ h => h) ?_ hHeld ?_
        rotate_left
        · (intro W hSW; (have s0 := hSW.1.cell 0 rfl; have s1 := hSW.1.cell 1 rfl; have s2 := hSW.1.cell 2 rfl; have sz := hSW.1.2; have t0 := hSW.2.1.cell k HU.out; have tz := hSW.2.1.2; have o0 := hSW.2.2.1.cell 0 rfl; have o5 := hSW.2.2.1.cell 5 rfl; have oz := hSW.2.2.1.2; obtain ⟨c0, c1, c2, c3, c4, c5⟩ := call_cells hSW.2.2.2.1 hi; have bz := hSW.2.2.2.2); go_simp <;> (try with_reducible rfl))
        refine take_v (v := ?_) 4 ⟨some 21, Op.move (Operand.tmp 5), _, _, _, none⟩ rfl (fun _ _ _ h => h) ?_ hHeld ?_
        rotate_left
        · (intro W _; go_simp <;> (try with_reducible rfl))
        refine take_v (v := ?_) 5 ⟨some 22, Op.indexAddr 80 (Operand.tmp 20) (Operand.tmp 21), _, _, _, none⟩ rfl (fun _ _ _ h => h) ?_ hHeld ?_
        rotate_left
        · (intro W _; go_simp <;> (try with_reducible rfl))
        refine take_v (v := ?_) 6 ⟨some 23, Op.load 4 (Operand.tmp 22), _, _, _, none⟩ rfl (fun _ _ _ h => h) ?_ hHeld ?_
        rotate_left
        · (intro W hSW; (have s0 := hSW.1.cell 0 rfl; have s1 := hSW.1.cell 1 rfl; have s2 := hSW.1.cell 2 rfl; have sz := hSW.1.2; have t0 := hSW.2.1.cell k HU.out; have tz := hSW.2.1.2; have o0 := hSW.2.2.1.cell 0 rfl; have o5 := hSW.2.2.1.cell 5 rfl; have oz := hSW.2.2.1.2; obtain ⟨c0, c1, c2, c3, c4, c5⟩ := call_cells hSW.2.2.2.1 hi; have bz := hSW.2.2.2.2); go_simp <;> (try with_reducible rfl))
        refine take_v (v := ?_) 7 ⟨some 24, Op.unOp UnOp.not 4 (Operand.tmp 23), _, _, _, none⟩ rfl (fun _ _ _ h => h) ?_ hHeld ?_
        rotate_left
        · (intro W _; go_simp <;> (try with_reducible rfl))
        refine take_v (v := ?_) 8 ⟨some 25, Op.move (Operand.tmp 24), _, _, _, none⟩ rfl (fun _ _ _ h => h) ?_ hHeld ?_
        rotate_left
        · (intro W _; go_simp <;> (try with_reducible rfl))
        refine take_v (v := ?_) 9 ⟨some 26, Op.fieldAddr 28 (Operand.tmp 6) 5, _, _, _, some (8, true)⟩ rfl (fun _ _ _ h => h) ?_ hHeld ?_
        rotate_left
        · (intro W _; go_simp <;> (try with_reducible rfl))
        refine take_v (v := ?_) 10 ⟨some 27, Op.load 3 (Operand.tmp 26), _, _, _, some (8, true)⟩ rfl (fun _ _ _ h => h) ?_ hHeld ?_
        rotate_left
        · (intro W hSW; (have s0 := hSW.1.cell 0 rfl; have s1 := hSW.1.cell 1 rfl; have s2 := hSW.1.cell 2 rfl; have sz := hSW.1.2; have t0 := hSW.2.1.cell k HU.out; have tz := hSW.2.1.2; have o0 := hSW.2.2.1.cell 0 rfl; have o5 := hSW.2.2.1.cell 5 rfl; have oz := hSW.2.2.1.2; obtain ⟨c0, c1, c2, c3, c4, c5⟩ := call_cells hSW.2.2.2.1 hi; have bz := hSW.2.2.2.2); go_simp <;> (try with_reducible rfl))
        refine take_v (v := ?_) 11 ⟨some 28, Op.move (Operand.tmp 0), _, _, _, some (8, true)⟩ rfl (fun _ _ _ h => h) ?_ hHeld ?_
        rotate_left
        · (intro W _; go_simp <;> (try with_reducible rfl))
        refine take_v (v := ?_) 12 ⟨some 29, Op.nilCheck (Operand.tmp 28), _, _, _, some (8, true)⟩ rfl (fun _ _ _ h => h) ?_ hHeld ?_
        rotate_left
        · (intro W _; go_simp <;> (try with_reducible rfl))
        refine take_v (v := ?_) 13 ⟨some 30, Op.fieldAddr 82 (Operand.tmp 29) 0, _, _, _, some (8, true)⟩ rfl (fun _ _ _ h => h) ?_ hHeld ?_
        rotate_left
        · (intro W _; go_simp <;> (try with_reducible rfl))
        refine take_v (v := ?_) 14 ⟨some 31, Op.load 23 (Operand.tmp 30), _, _, _, some (8, true)⟩ rfl (fun _ _ _ h => h) ?_ hHeld ?_
        rotate_left
        · (intro W hSW; (have s0 := hSW.1.cell 0 rfl; have s1 := hSW.1.cell 1 rfl; have s2 := hSW.1.cell 2 rfl; have sz := hSW.1.2; have t0 := hSW.2.1.cell k HU.out; have tz := hSW.2.1.2; have o0 := hSW.2.2.1.cell 0 rfl; have o5 := hSW.2.2.1.cell 5 rfl; have oz := hSW.2.2.1.2; obtain ⟨c0, c1, c2, c3, c4, c5⟩ := call_cells hSW.2.2.2.1 hi; have bz := hSW.2.2.2.2); go_simp <;> (try with_reducible rfl))
        refine take_v (v := ?_) 15 ⟨some 32, Op.move (Operand.tmp 1), _, _, _, some (8, true)⟩ rfl (fun _ _ _ h => h) ?_ hHeld ?_
        rotate_left
        · (intro W _; go_simp <;> (try with_reducible rfl))
        refine take_v (v := ?_) 16 ⟨some 33, Op.indexAddr 23 (Operand.tmp 31) (Operand.tmp 32), _, _, _, some (8, true)⟩ rfl (fun _ _ _ h => h) ?_ hHeld ?_
        rotate_left
        · (intro W _; go_simp <;> (try with_reducible rfl))
        refine take_v (v := ?_) 17 ⟨some 34, Op.fieldAddr 28 (Operand.tmp 33) 4, _, _, _, some (8, true)⟩ rfl (fun _ _ _ h => h) ?_ hHeld ?_
        rotate_left
        · (intro W _; go_simp <;> (try with_reducible rfl))
        refine take_v (v := ?_) 18 ⟨some 35, Op.load 3 (Operand.tmp 34), _, _, _, some (8, true)⟩ rfl (fun _ _ _ h => h) ?_ hHeld ?_
        rotate_left
        · (intro W hSW; (have s0 := hSW.1.cell 0 rfl; have s1 := hSW.1.cell 1 rfl; have s2 := hSW.1.cell 2 rfl; have sz := hSW.1.2; have t0 := hSW.2.1.cell k HU.out; have tz := hSW.2.1.2; have o0 := hSW.2.2.1.cell 0 rfl; have o5 := hSW.2.2.1.cell 5 rfl; have oz := hSW.2.2.1.2; obtain ⟨c0, c1, c2, c3, c4, c5⟩ := call_cells hSW.2.2.2.1 hi; have bz := hSW.2.2.2.2); go_simp <;> (try with_reducible rfl))
        refine take_v (v := ?_) 19 ⟨some 36, Op.binOp BinOp.lss 3 (Operand.tmp 27) (Operand.tmp 35) 3, _, _, _, some (8, true)⟩ rfl (fun _ _ _ h => h) ?_ hHeld ?_
        rotate_left
        · (intro W _; go_simp <;> (try with_reducible rfl))
        refine take_v (v := ?_) 20 ⟨some 37, Op.pick (Operand.tmp 25) (Operand.tmp 36) (Operand.const (Value.bool false)), _, _, _, none⟩ rfl (fun _ _ _ h => h) ?_ hHeld ?_
        rotate_left
        · (intro W _; go_simp <;> (try with_reducible rfl))
        refine take_v (v := ?_) 21 ⟨some 38, Op.move (Operand.tmp 37), _, _, _, none⟩ rfl (fun _ _ _ h => h) ?_ hHeld ?_
        rotate_left
        · (intro W _; go_simp <;> (try with_reducible rfl))
        refine take_n 22 ⟨some 39, Op.move (Operand.tmp 0), _, _, _, some (21, true)⟩ rfl (fun _ _ _ h => h) hHeld ?_
        refine take_n 23 ⟨some 40, Op.nilCheck (Operand.tmp 39), _, _, _, some (21, true)⟩ rfl (fun _ _ _ h => h) hHeld ?_
        refine take_n 24 ⟨some 41, Op.fieldAddr 82 (Operand.tmp 40) 1, _, _, _, some (21, true)⟩ rfl (fun _ _ _ h => h) hHeld ?_
        refine take_n 25 ⟨some 42, Op.load 4 (Operand.tmp 41), _, _, _, some (21, true)⟩ rfl (fun _ _ _ h => h) hHeld ?_
        refine take_n 26 ⟨some 43, Op.unOp UnOp.not 4 (Operand.tmp 42), _, _, _, some (21, true)⟩ rfl (fun _ _ _ h => h) hHeld ?_
        refine take_n 27 ⟨some 44, Op.move (Operand.tmp 43), _, _, _, some (21, true)⟩ rfl (fun _ _ _ h => h) hHeld ?_
        refine take_n 28 ⟨some 45, Op.fieldAddr 28 (Operand.tmp 6) 0, _, _, _, some (27, false)⟩ rfl (fun _ _ _ h => h) hHeld ?_
        refine take_n 29 ⟨some 46, Op.load 3 (Operand.tmp 45), _, _, _, some (27, false)⟩ rfl (fun _ _ _ h => h) hHeld ?_
        refine take_n 30 ⟨some 47, Op.move (Operand.tmp 0), _, _, _, some (27, false)⟩ rfl (fun _ _ _ h => h) hHeld ?_
        refine take_n 31 ⟨some 48, Op.nilCheck (Operand.tmp 47), _, _, _, some (27, false)⟩ rfl (fun _ _ _ h => h) hHeld ?_
        refine take_n 32 ⟨some 49, Op.fieldAddr 82 (Operand.tmp 48) 0, _, _, _, some (27, false)⟩ rfl (fun _ _ _ h => h) hHeld ?_
        refine take_n 33 ⟨some 50, Op.load 23 (Operand.tmp 49), _, _, _, some (27, false)⟩ rfl (fun _ _ _ h => h) hHeld ?_
        refine take_n 34 ⟨some 51, Op.move (Operand.tmp 1), _, _, _, some (27, false)⟩ rfl (fun _ _ _ h => h) hHeld ?_
        refine take_n 35 ⟨some 52, Op.indexAddr 23 (Operand.tmp 50) (Operand.tmp 51), _, _, _, some (27, false)⟩ rfl (fun _ _ _ h => h) hHeld ?_
        refine take_n 36 ⟨some 53, Op.fieldAddr 28 (Operand.tmp 52) 0, _, _, _, some (27, false)⟩ rfl (fun _ _ _ h => h) hHeld ?_
        refine take_n 37 ⟨some 54, Op.load 3 (Operand.tmp 53), _, _, _, some (27, false)⟩ rfl (fun _ _ _ h => h) hHeld ?_
        refine take_n 38 ⟨some 55, Op.binOp BinOp.eql 3 (Operand.tmp 46) (Operand.tmp 54) 3, _, _, _, some (27, false)⟩ rfl (fun _ _ _ h => h) hHeld ?_
        refine take_n 39 ⟨some 56, Op.pick (Operand.tmp 44) (Operand.const (Value.bool true)) (Operand.tmp 55), _, _, _, some (21, true)⟩ rfl (fun _ _ _ h => h) hHeld ?_
        refine take_v (v := ?_) 40 ⟨some 57, Op.pick (Operand.tmp 38) (Operand.tmp 56) (Operand.const (Value.bool false)), _, _, _, none⟩ rfl (fun _ _ _ h => h) ?_ hHeld ?_
        rotate_left
        · (intro W _; go_simp <;> (try with_reducible rfl))
        refine wpAnyH_done (by kernel_rfl) ?_ _
        refine NoPanic.normal ?_
        clear hHeld
        have HV : Hid (waitK V false ord k i = false) := (waitK_of eu (mustB_no el))
        go_wp2
        go_roundw
        case rel => exact ⟨k + 1, by omega, by go_num, upto_succ HNo.out HV.out, HD.out.2⟩
        case measure => simp [intOf]; omega
      have eld : decide ((V k).f5 < (V i).f4) = true := decide_eq_true el
      refine wp_region_noPanic ?_
      refine wp_region_held_drew (S := fun W => Bx W g [.slice (some ⟨b, off, none⟩) n cap, .bool false, .slice (some ⟨ub, 0, none⟩) n n, ov, .slice la L.length lc] ∧ Bx W ub (usedC n ord) ∧ Bx W wr.heap.size [.int .i64 (V k).f0, .bool (V k).f1, .string (V k).f2, .string (V k).f3, .int .i64 (V k).f4, .int .i64 (V k).f5] ∧ Elems W b off n 6 (callF V) ∧ b < W.heap.size) (by kernel_rfl) HD.out.1 (fun hHeld => ?_)
      refine take_v (v := ?_) 0 ⟨some 17, Op.move (Operand.tmp 0), _, _, _, none⟩ rfl (fun _ _ _ h => h) ?_ hHeld ?_
      rotate_left
      · (intro W _; go_simp <;> (try with_reducible rfl))
      refine take_v (v := ?_) 1 ⟨some 18, Op.nilCheck (Operand.tmp 17), _, _, _, none⟩ rfl (fun _ _ _ h => h) ?_ hHeld ?_
      rotate_left
      · (intro W _; go_simp <;> (try with_reducible rfl))
      refine take_v (v := ?_) 2 ⟨some 19, Op.fieldAddr 82 (Operand.tmp 18) 2, _, _, _, none⟩ rfl (fun _ _ _ h => h) ?_ hHeld ?_
      rotate_left
      · (intro W _; go_simp <;> (try with_reducible rfl))
      refine take_v (v := ?_) 3 ⟨some 20, Op.load 80 (Operand.tmp 19), _, _, _, none⟩ rfl (fun _ _ _ h => h) ?_ hHeld ?_
      rotate_left
      · (intro W hSW; (have s0 := hSW.1.cell 0 rfl; have s1 := hSW.1.cell 1 rfl; have s2 := hSW.1.cell 2 rfl; have sz := hSW.1.2; have t0 := hSW.2.1.cell k HU.out; have tz := hSW.2.1.2; have o0 := hSW.2.2.1.cell 0 rfl; have o5 := hSW.2.2.1.cell 5 rfl; have oz := hSW.2.2.1.2; obtain ⟨c0, c1, c2, c3, c4, c5⟩ := call_cells hSW.2.2.2.1 hi; have bz := hSW.2.2.2.2); go_simp <;> (try with_reducible rfl))
      refine take_v (v := ?_) 4 ⟨some 21, Op.move (Operand.tmp 5), _, _, _, none⟩ rfl (fun _ _ _ h => h) ?_ hHeld ?_
      rotate_left
      · (intro W _; go_simp <;> (try with_reducible rfl))
      refine take_v (v := ?_) 5 ⟨some 22, Op.indexAddr 80 (Operand.tmp 20) (Operand.tmp 21), _, _, _, none⟩ rfl (fun _ _ _ h => h) ?_ hHeld ?_
      rotate_left
      · (intro W _; go_simp <;> (try with_reducible rfl))
      refine take_v (v := ?_) 6 ⟨some 23, Op.load 4 (Operand.tmp 22), _, _, _, none⟩ rfl (fun _ _ _ h => h) ?_ hHeld ?_
      rotate_left
      · (intro W hSW; (have s0 := hSW.1.cell 0 rfl; have s1 := hSW.1.cell 1 rfl; have s2 := hSW.1.cell 2 rfl; have sz := hSW.1.2; have t0 := hSW.2.1.cell k HU.out; have tz := hSW.2.1.2; have o0 := hSW.2.2.1.cell 0 rfl; have o5 := hSW.2.2.1.cell 5 rfl; have oz := hSW.2.2.1.2; obtain ⟨c0, c1, c2, c3, c4, c5⟩ := call_cells hSW.2.2.2.1 hi; have bz := hSW.2.2.2.2); go_simp <;> (try with_reducible rfl))
      refine take_v (v := ?_) 7 ⟨some 24, Op.unOp UnOp.not 4 (Operand.tmp 23), _, _, _, none⟩ rfl (fun _ _ _ h => h) ?_ hHeld ?_
      rotate_left
      · (intro W _; go_simp <;> (try with_reducible rfl))
      refine take_v (v := ?_) 8 ⟨some 25, Op.move (Operand.tmp 24), _, _, _, none⟩ rfl (fun _ _ _ h => h) ?_ hHeld ?_
      rotate_left
      · (intro W _; go_simp <;> (try with_reducible rfl))
      refine take_v (v := ?_) 9 ⟨some 26, Op.fieldAddr 28 (Operand.tmp 6) 5, _, _, _, some (8, true)⟩ rfl (fun _ _ _ h => h) ?_ hHeld ?_
      rotate_left
      · (intro W _; go_simp <;> (try with_reducible rfl))
      refine take_v (v := ?_) 10 ⟨some 27, Op.load 3 (Operand.tmp 26), _, _, _, some (8, true)⟩ rfl (fun _ _ _ h => h) ?_ hHeld ?_
      rotate_left
      · (intro W hSW; (have s0 := hSW.1.cell 0 rfl; have s1 := hSW.1.cell 1 rfl; have s2 := hSW.1.cell 2 rfl; have sz := hSW.1.2; have t0 := hSW.2.1.cell k HU.out; have tz := hSW.2.1.2; have o0 := hSW.2.2.1.cell 0 rfl; have o5 := hSW.2.2.1.cell 5 rfl; have oz := hSW.2.2.1.2; obtain ⟨c0, c1, c2, c3, c4, c5⟩ := call_cells hSW.2.2.2.1 hi; have bz := hSW.2.2.2.2); go_simp <;> (try with_reducible rfl))
      refine take_v (v := ?_) 11 ⟨some 28, Op.move (Operand.tmp 0), _, _, _, some (8, true)⟩ rfl (fun _ _ _ h => h) ?_ hHeld ?_
      rotate_left
      · (intro W _; go_simp <;> (try with_reducible rfl))
      refine take_v (v := ?_) 12 ⟨some 29, Op.nilCheck (Operand.tmp 28), _, _, _, some (8, true)⟩ rfl (fun _ _ _ h => h) ?_ hHeld ?_
      rotate_left
      · (intro W _; go_simp <;> (try with_reducible rfl))
      refine take_v (v := ?_) 13 ⟨some 30, Op.fieldAddr 82 (Operand.tmp 29) 0, _, _, _, some (8, true)⟩ rfl (fun _ _ _ h => h) ?_ hHeld ?_
      rotate_left
      · (intro W _; go_simp <;> (try with_reducible rfl))
      refine take_v (v := ?_) 14 ⟨some 31, Op.load 23 (Operand.tmp 30), _, _, _, some (8, true)⟩ rfl (fun _ _ _ h => h) ?_ hHeld ?_
      rotate_left
      · (intro W hSW; (have s0 := hSW.1.cell 0 rfl; have s1 := hSW.1.cell 1 rfl; have s2 := hSW.1.cell 2 rfl; have sz := hSW.1.2; have t0 := hSW.2.1.cell k HU.out; have tz := hSW.2.1.2; have o0 := hSW.2.2.1.cell 0 rfl; have o5 := hSW.2.2.1.cell 5 rfl; have oz := hSW.2.2.1.2; obtain ⟨c0, c1, c2, c3, c4, c5⟩ := call_cells hSW.2.2.2.1 hi; have bz := hSW.2.2.2.2); go_simp <;> (try with_reducible rfl))
      refine take_v (v := ?_) 15 ⟨some 32, Op.move (Operand.tmp 1), _, _, _, some (8, true)⟩ rfl (fun _ _ _ h => h) ?_ hHeld ?_
      rotate_left
      · (intro W _; go_simp <;> (try with_reducible rfl))
      refine take_v (v := ?_) 16 ⟨some 33, Op.indexAddr 23 (Operand.tmp 31) (Operand.tmp 32), _, _, _, some (8, true)⟩ rfl (fun _ _ _ h => h) ?_ hHeld ?_
      rotate_left
      · (intro W _; go_simp <;> (try with_reducible rfl))
      refine take_v (v := ?_) 17 ⟨some 34, Op.fieldAddr 28 (Operand.tmp 33) 4, _, _, _, some (8, true)⟩ rfl (fun _ _ _ h => h) ?_ hHeld ?_
      rotate_left
      · (intro W _; go_simp <;> (try with_reducible rfl))
      refine take_v (v := ?_) 18 ⟨some 35, Op.load 3 (Operand.tmp 34), _, _, _, some (8, true)⟩ rfl (fun _ _ _ h => h) ?_ hHeld ?_
      rotate_left
      · (intro W hSW; (have s0 := hSW.1.cell 0 rfl; have s1 := hSW.1.cell 1 rfl; have s2 := hSW.1.cell 2 rfl; have sz := hSW.1.2; have t0 := hSW.2.1.cell k HU.out; have tz := hSW.2.1.2; have o0 := hSW.2.2.1.cell 0 rfl; have o5 := hSW.2.2.1.cell 5 rfl; have oz := hSW.2.2.1.2; obtain ⟨c0, c1, c2, c3, c4, c5⟩ := call_cells hSW.2.2.2.1 hi; have bz := hSW.2.2.2.2); go_simp <;> (try with_reducible rfl))
      refine take_v (v := ?_) 19 ⟨some 36, Op.binOp BinOp.lss 3 (Operand.tmp 27) (Operand.tmp 35) 3, _, _, _, some (8, true)⟩ rfl (fun _ _ _ h => h) ?_ hHeld ?_
      rotate_left
      · (intro W _; go_simp <;> (try with_reducible rfl))
      refine take_v (v := ?_) 20 ⟨some 37, Op.pick (Operand.tmp 25) (Operand.tmp 36) (Operand.const (Value.bool false)), _, _, _, none⟩ rfl (fun _ _ _ h => h) ?_ hHeld ?_
      rotate_left
      · (intro W _; go_simp <;> (try with_reducible rfl))
      refine take_v (v := ?_) 21 ⟨some 38, Op.move (Operand.tmp 37), _, _, _, none⟩ rfl (fun _ _ _ h => h) ?_ hHeld ?_
      rotate_left
      · (intro W _; go_simp <;> (try with_reducible rfl))
      refine take_v (v := ?_) 22 ⟨some 39, Op.move (Operand.tmp 0), _, _, _, some (21, true)⟩ rfl (fun _ _ _ h => h) ?_ hHeld ?_
      rotate_left
      · (intro W _; go_simp <;> (try with_reducible rfl))
      refine take_v (v := ?_) 23 ⟨some 40, Op.nilCheck (Operand.tmp 39), _, _, _, some (21, true)⟩ rfl (fun _ _ _ h => h) ?_ hHeld ?_
      rotate_left
      · (intro W _; go_simp <;> (try with_reducible rfl))
      refine take_v (v := ?_) 24 ⟨some 41, Op.fieldAddr 82 (Operand.tmp 40) 1, _, _, _, some (21, true)⟩ rfl (fun _ _ _ h => h) ?_ hHeld ?_
      rotate_left
      · (intro W _; go_simp <;> (try with_reducible rfl))
      refine take_v (v := ?_) 25 ⟨some 42, Op.load 4 (Operand.tmp 41), _, _, _, some (21, true)⟩ rfl (fun _ _ _ h => h) ?_ hHeld ?_
      rotate_left
      · (intro W hSW; (have s0 := hSW.1.cell 0 rfl; have s1 := hSW.1.cell 1 rfl; have s2 := hSW.1.cell 2 rfl; have sz := hSW.1.2; have t0 := hSW.2.1.cell k HU.out; have tz := hSW.2.1.2; have o0 := hSW.2.2.1.cell 0 rfl; have o5 := hSW.2.2.1.cell 5 rfl; have oz := hSW.2.2.1.2; obtain ⟨c0, c1, c2, c3, c4, c5⟩ := call_cells hSW.2.2.2.1 hi; have bz := hSW.2.2.2.2); go_simp <;> (try with_reducible rfl))
      refine take_v (v := ?_) 26 ⟨some 43, Op.unOp UnOp.not 4 (Operand.tmp 42), _, _, _, some (21, true)⟩ rfl (fun _ _ _ h => h) ?_ hHeld ?_
      rotate_left
      · (intro W _; go_simp <;> (try with_reducible rfl))
      refine take_v (v := ?_) 27 ⟨some 44, Op.move (Operand.tmp 43), _, _, _, some (21, true)⟩ rfl (fun _ _ _ h => h) ?_ hHeld ?_
      rotate_left
      · (intro W _; go_simp <;> (try with_reducible rfl))
      refine take_n 28 ⟨some 45, Op.fieldAddr 28 (Operand.tmp 6) 0, _, _, _, some (27, false)⟩ rfl (fun _ _ _ h => h) hHeld ?_
      refine take_n 29 ⟨some 46, Op.load 3 (Operand.tmp 45), _, _, _, some (27, false)⟩ rfl (fun _ _ _ h => h) hHeld ?_
      refine take_n 30 ⟨some 47, Op.move (Operand.tmp 0), _, _, _, some (27, false)⟩ rfl (fun _ _ _ h => h) hHeld ?_
      refine take_n 31 ⟨some 48, Op.nilCheck (Operand.tmp 47), _, _, _, some (27, false)⟩ rfl (fun _ _ _ h => h) hHeld ?_
      refine take_n 32 ⟨some 49, Op.fieldAddr 82 (Operand.tmp 48) 0, _, _, _, some (27, false)⟩ rfl (fun _ _ _ h => h) hHeld ?_
      refine take_n 33 ⟨some 50, Op.load 23 (Operand.tmp 49), _, _, _, some (27, false)⟩ rfl (fun _ _ _ h => h) hHeld ?_
      refine take_n 34 ⟨some 51, Op.move (Operand.tmp 1), _, _, _, some (27, false)⟩ rfl (fun _ _ _ h => h) hHeld ?_
      refine take_n 35 ⟨some 52, Op.indexAddr 23 (Operand.tmp 50) (Operand.tmp 51), _, _, _, some (27, false)⟩ rfl (fun _ _ _ h => h) hHeld ?_
      refine take_n 36 ⟨some 53, Op.fieldAddr 28 (Operand.tmp 52) 0, _, _, _, some (27, false)⟩ rfl (fun _ _ _ h => h) hHeld ?_
      refine take_n 37 ⟨some 54, Op.load 3 (Operand.tmp 53), _, _, _, some (27, false)⟩ rfl (fun _ _ _ h => h) hHeld ?_
      refine take_n 38 ⟨some 55, Op.binOp BinOp.eql 3 (Operand.tmp 46) (Operand.tmp 54) 3, _, _, _, some (27, false)⟩ rfl (fun _ _ _ h => h) hHeld ?_
      refine take_v (v := ?_) 39 ⟨some 56, Op.pick (Operand.tmp 44) (Operand.const (Value.bool true)) (Operand.tmp 55), _, _, _, some (21, true)⟩ rfl (fun _ _ _ h => h) ?_ hHeld ?_
      rotate_left
      · (intro W _; go_simp <;> (try with_reducible rfl))
      refine take_v (v := ?_) 40 ⟨some 57, Op.pick (Operand.tmp 38) (Operand.tmp 56) (Operand.const (Value.bool false)), _, _, _, none⟩ rfl (fun _ _ _ h => h) ?_ hHeld ?_
      rotate_left
      · (intro W _; go_simp <;> (try with_reducible rfl))
      refine wpAnyH_done (by kernel_rfl) ?_ _
      refine NoPanic.normal ?_
      clear hHeld
      have HV : Hid (waitB V n false ord i = true) := waitB_yes hlt (waitK_of eu (mustB_yes el))
      go_wp2
      go_ret
      exact ⟨ret_bool (by rw [HV.out]; simp), HD.out.2⟩
    · have hkn : k = n := by omega
      have hlt' : ¬ (k : Int) < (n : Int) := by omega
      have HW : Hid (waitB V n false ord i = false) := waitB_no (by rw [← hkn]; exact HNo.out)
      have HZ : Hid (valL L (V i).f2.toList = valO V ord (V i).f2.toList) := HK.out.2.2.2.2.2.2.1 _
      have HD : Hid (Bx wr.drew g [.slice (some ⟨b, off, none⟩) n cap, .bool false, .slice (some ⟨ub, 0, none⟩) n n, ov, .slice la L.length lc] ∧ Elems wr.drew b off n 6 (callF V) ∧ b < wr.drew.heap.size ∧ Sl wr.drew la L.length 2 (cellF (cV L)) ∧ Below w.heap.size w wr.drew) := ⟨HK.out.1.next HBr.out.drew, HK.out.2.2.1.below HBr.out.drew HK.out.2.2.2.1, Nat.lt_of_lt_of_le HK.out.2.2.2.1 HBr.out.drew.size, HK.out.2.2.2.2.1.below HBr.out.drew (Nat.le_refl _), HBr.out.drew⟩
      clear hkn
      go_upto_region 7 with fail
      cases hw : (V i).f1
      · have HF : Hid (fitB V ord i = ((valO V ord (V i).f2.toList).toList == (V i).f3.toList)) := fit_read hw
        refine wp_region_noPanic ?_
        refine wp_region_held_drew (S := fun W => Bx W g [.slice (some ⟨b, off, none⟩) n cap, .bool false, .slice (some ⟨ub, 0, none⟩) n n, ov, .slice la L.length lc] ∧ Elems W b off n 6 (callF V) ∧ b < W.heap.size) (by kernel_rfl) ⟨HD.out.1, HD.out.2.1, HD.out.2.2.1⟩ (fun hHeld => ?_)
        refine take_v (v := ?_) 0 ⟨some 59, Op.move (Operand.tmp 0), _, _, _, none⟩ rfl (fun _ _ _ h => h) ?_ hHeld ?_
        rotate_left
        · (intro W _; go_simp <;> (try with_reducible rfl))
        refine take_v (v := ?_) 1 ⟨some 60, Op.nilCheck (Operand.tmp 59), _, _, _, none⟩ rfl (fun _ _ _ h => h) ?_ hHeld ?_
        rotate_left
        · (intro W _; go_simp <;> (try with_reducible rfl))
        refine take_v (v := ?_) 2 ⟨some 61, Op.fieldAddr 82 (Operand.tmp 60) 0, _, _, _, none⟩ rfl (fun _ _ _ h => h) ?_ hHeld ?_
        rotate_left
        · (intro W _; go_simp <;> (try with_reducible rfl))
        refine take_v (v := ?_) 3 ⟨some 62, Op.load 23 (Operand.tmp 61), _, _, _, none⟩ rfl (fun _ _ _ h => h) ?_ hHeld ?_
        rotate_left
        · (intro W hSW; (have s0 := hSW.1.cell 0 rfl; have s4 := hSW.1.cell 4 rfl; have sz := hSW.1.2; obtain ⟨c0, c1, c2, c3, c4, c5⟩ := call_cells hSW.2.1 hi; rw [hw] at c1; have bz := hSW.2.2); go_simp <;> (try with_reducible rfl))
        refine take_v (v := ?_) 4 ⟨some 63, Op.move (Operand.tmp 1), _, _, _, none⟩ rfl (fun _ _ _ h => h) ?_ hHeld ?_
        rotate_left
        · (intro W _; go_simp <;> (try with_reducible rfl))
        refine take_v (v := ?_) 5 ⟨some 64, Op.indexAddr 23 (Operand.tmp 62) (Operand.tmp 63), _, _, _, none⟩ rfl (fun _ _ _ h => h) ?_ hHeld ?_
        rotate_left
        · (intro W _; go_simp <;> (try with_reducible rfl))
        refine take_v (v := ?_) 6 ⟨some 65, Op.fieldAddr 28 (Operand.tmp 64) 1, _, _, _, none⟩ rfl (fun _ _ _ h => h) ?_ hHeld ?_
        rotate_left
        · (intro W _; go_simp <;> (try with_reducible rfl))
        refine take_v (v := ?_) 7 ⟨some 66, Op.load 4 (Operand.tmp 65), _, _, _, none⟩ rfl (fun _ _ _ h => h) ?_ hHeld ?_
        rotate_left
        · (intro W hSW; (have s0 := hSW.1.cell 0 rfl; have s4 := hSW.1.cell 4 rfl; have sz := hSW.1.2; obtain ⟨c0, c1, c2, c3, c4, c5⟩ := call_cells hSW.2.1 hi; rw [hw] at c1; have bz := hSW.2.2); go_simp <;> (try with_reducible rfl))
        refine take_v (v := ?_) 8 ⟨some 67, Op.move (Operand.tmp 66), _, _, _, none⟩ rfl (fun _ _ _ h => h) ?_ hHeld ?_
        rotate_left
        · (intro W _; go_simp <;> (try with_reducible rfl))
        refine take_v (v := ?_) 9 ⟨some 68, Op.move (Operand.tmp 0), _, _, _, some (8, false)⟩ rfl (fun _ _ _ h => h) ?_ hHeld ?_
        rotate_left
        · (intro W _; go_simp <;> (try with_reducible rfl))
        refine take_v (v := ?_) 10 ⟨some 69, Op.nilCheck (Operand.tmp 68), _, _, _, some (8, false)⟩ rfl (fun _ _ _ h => h) ?_ hHeld ?_
        rotate_left
        · (intro W _; go_simp <;> (try with_reducible rfl))
        refine take_v (v := ?_) 11 ⟨some 70, Op.fieldAddr 82 (Operand.tmp 69) 4, _, _, _, some (8, false)⟩ rfl (fun _ _ _ h => h) ?_ hHeld ?_
        rotate_left
        · (intro W _; go_simp <;> (try with_reducible rfl))
        refine take_v (v := ?_) 12 ⟨some 71, Op.load 56 (Operand.tmp 70), _, _, _, some (8, false)⟩ rfl (fun _ _ _ h => h) ?_ hHeld ?_
        rotate_left
        · (intro W hSW; (have s0 := hSW.1.cell 0 rfl; have s4 := hSW.1.cell 4 rfl; have sz := hSW.1.2; obtain ⟨c0, c1, c2, c3, c4, c5⟩ := call_cells hSW.2.1 hi; rw [hw] at c1; have bz := hSW.2.2); go_simp <;> (try with_reducible rfl))
        refine take_v (v := ?_) 13 ⟨some 72, Op.move (Operand.tmp 0), _, _, _, some (8, false)⟩ rfl (fun _ _ _ h => h) ?_ hHeld ?_
        rotate_left
        · (intro W _; go_simp <;> (try with_reducible rfl))
        refine take_v (v := ?_) 14 ⟨some 73, Op.nilCheck (Operand.tmp 72), _, _, _, some (8, false)⟩ rfl (fun _ _ _ h => h) ?_ hHeld ?_
        rotate_left
        · (intro W _; go_simp <;> (try with_reducible rfl))
        refine take_v (v := ?_) 15 ⟨some 74, Op.fieldAddr 82 (Operand.tmp 73) 0, _, _, _, some (8, false)⟩ rfl (fun _ _ _ h => h) ?_ hHeld ?_
        rotate_left
        · (intro W _; go_simp <;> (try with_reducible rfl))
        refine take_v (v := ?_) 16 ⟨some 75, Op.load 23 (Operand.tmp 74), _, _, _, some (8, false)⟩ rfl (fun _ _ _ h => h) ?_ hHeld ?_
        rotate_left
        · (intro W hSW; (have s0 := hSW.1.cell 0 rfl; have s4 := hSW.1.cell 4 rfl; have sz := hSW.1.2; obtain ⟨c0, c1, c2, c3, c4, c5⟩ := call_cells hSW.2.1 hi; rw [hw] at c1; have bz := hSW.2.2); go_simp <;> (try with_reducible rfl))
        refine take_v (v := ?_) 17 ⟨some 76, Op.move (Operand.tmp 1), _, _, _, some (8, false)⟩ rfl (fun _ _ _ h => h) ?_ hHeld ?_
        rotate_left
        · (intro W _; go_simp <;> (try with_reducible rfl))
        refine take_v (v := ?_) 18 ⟨some 77, Op.indexAddr 23 (Operand.tmp 75) (Operand.tmp 76), _, _, _, some (8, false)⟩ rfl (fun _ _ _ h => h) ?_ hHeld ?_
        rotate_left
        · (intro W _; go_simp <;> (try with_reducible rfl))
        refine take_v (v := ?_) 19 ⟨some 78, Op.fieldAddr 28 (Operand.tmp 77) 2, _, _, _, some (8, false)⟩ rfl (fun _ _ _ h => h) ?_ hHeld ?_
        rotate_left
        · (intro W _; go_simp <;> (try with_reducible rfl))
        refine take_v (v := ?_) 20 ⟨some 79, Op.load 9 (Operand.tmp 78), _, _, _, some (8, false)⟩ rfl (fun _ _ _ h => h) ?_ hHeld ?_
        rotate_left
        · (intro W hSW; (have s0 := hSW.1.cell 0 rfl; have s4 := hSW.1.cell 4 rfl; have sz := hSW.1.2; obtain ⟨c0, c1, c2, c3, c4, c5⟩ := call_cells hSW.2.1 hi; rw [hw] at c1; have bz := hSW.2.2); go_simp <;> (try with_reducible rfl))
        refine take_v (v := ?_) 22 ⟨some 81, Op.move (Operand.tmp 0), _, _, _, some (8, false)⟩ rfl (fun _ _ _ h => h) ?_ hHeld ?_
        rotate_left
        · (intro W _; go_simp <;> (try with_reducible rfl))
        refine take_v (v := ?_) 23 ⟨some 82, Op.nilCheck (Operand.tmp 81), _, _, _, some (8, false)⟩ rfl (fun _ _ _ h => h) ?_ hHeld ?_
        rotate_left
        · (intro W _; go_simp <;> (try with_reducible rfl))
        refine take_v (v := ?_) 24 ⟨some 83, Op.fieldAddr 82 (Operand.tmp 82) 0, _, _, _, some (8, false)⟩ rfl (fun _ _ _ h => h) ?_ hHeld ?_
        rotate_left
        · (intro W _; go_simp <;> (try with_reducible rfl))
        refine take_v (v := ?_) 25 ⟨some 84, Op.load 23 (Operand.tmp 83), _, _, _, some (8, false)⟩ rfl (fun _ _ _ h => h) ?_ hHeld ?_
        rotate_left
        · (intro W hSW; (have s0 := hSW.1.cell 0 rfl; have s4 := hSW.1.cell 4 rfl; have sz := hSW.1.2; obtain ⟨c0, c1, c2, c3, c4, c5⟩ := call_cells hSW.2.1 hi; rw [hw] at c1; have bz := hSW.2.2); go_simp <;> (try with_reducible rfl))
        refine take_v (v := ?_) 26 ⟨some 85, Op.move (Operand.tmp 1), _, _, _, some (8, false)⟩ rfl (fun _ _ _ h => h) ?_ hHeld ?_
        rotate_left
        · (intro W _; go_simp <;> (try with_reducible rfl))
        refine take_v (v := ?_) 27 ⟨some 86, Op.indexAddr 23 (Operand.tmp 84) (Operand.tmp 85), _, _, _, some (8, false)⟩ rfl (fun _ _ _ h => h) ?_ hHeld ?_
        rotate_left
        · (intro W _; go_simp <;> (try with_reducible rfl))
        refine take_v (v := ?_) 28 ⟨some 87, Op.fieldAddr 28 (Operand.tmp 86) 3, _, _, _, some (8, false)⟩ rfl (fun _ _ _ h => h) ?_ hHeld ?_
        rotate_left
        · (intro W _; go_simp <;> (try with_reducible rfl))
        refine take_v (v := ?_) 29 ⟨some 88, Op.load 9 (Operand.tmp 87), _, _, _, some (8, false)⟩ rfl (fun _ _ _ h => h) ?_ hHeld ?_
        rotate_left
        · (intro W hSW; (have s0 := hSW.1.cell 0 rfl; have s4 := hSW.1.cell 4 rfl; have sz := hSW.1.2; obtain ⟨c0, c1, c2, c3, c4, c5⟩ := call_cells hSW.2.1 hi; rw [hw] at c1; have bz := hSW.2.2); go_simp <;> (try with_reducible rfl))
        refine ready_call 21 ⟨some 80, Op.call { callee := Callee.value (Operand.func 50), args := #[Operand.tmp 71, Operand.tmp 79], argTypes := #[56, 9] }, _, _, _, some (8, false)⟩ (by kernel_rfl) rfl (by kernel_rfl) (fun KC hK => ?_)
        go_wp2_with fail
        refine (l3Value_any _ _ L (V i).f2 _ (by omega) HD.out.2.2.2.1).mono ?_
        rintro r w2 ⟨rfl, hb⟩
        have H2 : Hid ((Bx w2 g [.slice (some ⟨b, off, none⟩) n cap, .bool false, .slice (some ⟨ub, 0, none⟩) n n, ov, .slice la L.length lc] ∧ Elems w2 b off n 6 (callF V) ∧ b < w2.heap.size) ∧ Below w.heap.size w w2) := ⟨⟨HD.out.1.next hb, HD.out.2.1.below hb HD.out.2.2.1, Nat.lt_of_lt_of_le HD.out.2.2.1 hb.size⟩, below_nx HD.out.2.2.2.2 hb⟩
        rw [HZ.out]
        clear hb
        refine hK.out _ _ H2.out.1 (fun hHeld => ?_)
        clear hK KC
        refine take_v (v := ?_) 30 ⟨some 89, Op.binOp BinOp.eql 9 (Operand.tmp 80) (Operand.tmp 88) 9, _, _, _, some (8, false)⟩ rfl (fun _ _ _ h => h) ?_ hHeld ?_
        rotate_left
        · (intro W _; go_simp <;> (try with_reducible rfl))
        refine take_v (v := ?_) 31 ⟨some 90, Op.pick (Operand.tmp 67) (Operand.const (Value.bool true)) (Operand.tmp 89), _, _, _, none⟩ rfl (fun _ _ _ h => h) ?_ hHeld ?_
        rotate_left
        · (intro W _; go_simp <;> (try with_reducible rfl))
        refine take_v (v := ?_) 32 ⟨some 4, Op.assign (Operand.tmp 90), _, _, _, none⟩ rfl (fun _ _ _ h => h) ?_ hHeld ?_
        rotate_left
        · (intro W _; go_simp <;> (try with_reducible rfl))
        refine wpAnyH_done (by kernel_rfl) ?_ _
        refine NoPanic.normal ?_
        clear hHeld
        go_wp2
        go_ret
        exact ⟨ret_bool (by rw [HW.out, HF.out]; simp), H2.out.2⟩
      · have HF : Hid (fitB V ord i = true) := fit_write hw
        refine wp_region_noPanic ?_
        refine wp_region_held_drew (S := fun W => Bx W g [.slice (some ⟨b, off, none⟩) n cap, .bool false, .slice (some ⟨ub, 0, none⟩) n n, ov, .slice la L.length lc] ∧ Elems W b off n 6 (callF V) ∧ b < W.heap.size) (by kernel_rfl) ⟨HD.out.1, HD.out.2.1, HD.out.2.2.1⟩ (fun hHeld => ?_)
        refine take_v (v := ?_) 0 ⟨some 59, Op.move (Operand.tmp 0), _, _, _, none⟩ rfl (fun _ _ _ h => h) ?_ hHeld ?_
        rotate_left
        · (intro W _; go_simp <;> (try with_reducible rfl))
        refine take_v (v := ?_) 1 ⟨some 60, Op.nilCheck (Operand.tmp 59), _, _, _, none⟩ rfl (fun _ _ _ h => h) ?_ hHeld ?_
        rotate_left
        · (intro W _; go_simp <;> (try with_reducible rfl))
        refine take_v (v := ?_) 2 ⟨some 61, Op.fieldAddr 82 (Operand.tmp 60) 0, _, _, _, none⟩ rfl (fun _ _ _ h => h) ?_ hHeld ?_
        rotate_left
        · (intro W _; go_simp <;> (try with_reducible rfl))
        refine take_v (v := ?_) 3 ⟨some 62, Op.load 23 (Operand.tmp 61), _, _, _, none⟩ rfl (fun _ _ _ h => h) ?_ hHeld ?_
        rotate_left
        · (intro W hSW; (have s0 := hSW.1.cell 0 rfl; have s4 := hSW.1.cell 4 rfl; have sz := hSW.1.2; obtain ⟨c0, c1, c2, c3, c4, c5⟩ := call_cells hSW.2.1 hi; rw [hw] at c1; have bz := hSW.2.2); go_simp <;> (try with_reducible rfl))
        refine take_v (v := ?_) 4 ⟨some 63, Op.move (Operand.tmp 1), _, _, _, none⟩ rfl (fun _ _ _ h => h) ?_ hHeld ?_
        rotate_left
        · (intro W _; go_simp <;> (try with_reducible rfl))
        refine take_v (v := ?_) 5 ⟨some 64, Op.indexAddr 23 (Operand.tmp 62) (Operand.tmp 63), _, _, _, none⟩ rfl (fun _ _ _ h => h) ?_ hHeld ?_
        rotate_left
        · (intro W _; go_simp <;> (try with_reducible rfl))
        refine take_v (v := ?_) 6 ⟨some 65, Op.fieldAddr 28 (Operand.tmp 64) 1, _, _, _, none⟩ rfl (fun _ _ _ h => h) ?_ hHeld ?_
        rotate_left
        · (intro W _; go_simp <;> (try with_reducible rfl))
        refine take_v (v := ?_) 7 ⟨some 66, Op.load 4 (Operand.tmp 65), _, _, _, none⟩ rfl (fun _ _ _ h => h) ?_ hHeld ?_
        rotate_left
        · (intro W hSW; (have s0 := hSW.1.cell 0 rfl; have s4 := hSW.1.cell 4 rfl; have sz := hSW.1.2; obtain ⟨c0, c1, c2, c3, c4, c5⟩ := call_cells hSW.2.1 hi; rw [hw] at c1; have bz := hSW.2.2); go_simp <;> (try with_reducible rfl))
        refine take_v (v := ?_) 8 ⟨some 67, Op.move (Operand.tmp 66), _, _, _, none⟩ rfl (fun _ _ _ h => h) ?_ hHeld ?_
        rotate_left
        · (intro W _; go_simp <;> (try with_reducible rfl))
        refine take_n 9 ⟨some 68, Op.move (Operand.tmp 0), _, _, _, some (8, false)⟩ rfl (fun _ _ _ h => h) hHeld ?_
        refine take_n 10 ⟨some 69, Op.nilCheck (Operand.tmp 68), _, _, _, some (8, false)⟩ rfl (fun _ _ _ h => h) hHeld ?_
        refine take_n 11 ⟨some 70, Op.fieldAddr 82 (Operand.tmp 69) 4, _, _, _, some (8, false)⟩ rfl (fun _ _ _ h => h) hHeld ?_
        refine take_n 12 ⟨some 71, Op.load 56 (Operand.tmp 70), _, _, _, some (8, false)⟩ rfl (fun _ _ _ h => h) hHeld ?_
        refine take_n 13 ⟨some 72, Op.move (Operand.tmp 0), _, _, _, some (8, false)⟩ rfl (fun _ _ _ h => h) hHeld ?_
        refine take_n 14 ⟨some 73, Op.nilCheck (Operand.tmp 72), _, _, _, some (8, false)⟩ rfl (fun _ _ _ h => h) hHeld ?_
        refine take_n 15 ⟨some 74, Op.fieldAddr 82 (Operand.tmp 73) 0, _, _, _, some (8, false)⟩ rfl (fun _ _ _ h => h) hHeld ?_
        refine take_n 16 ⟨some 75, Op.load 23 (Operand.tmp 74), _, _, _, some (8, false)⟩ rfl (fun _ _ _ h => h) hHeld ?_
        refine take_n 17 ⟨some 76, Op.move (Operand.tmp 1), _, _, _, some (8, false)⟩ rfl (fun _ _ _ h => h) hHeld ?_
        refine take_n 18 ⟨some 77, Op.indexAddr 23 (Operand.tmp 75) (Operand.tmp 76), _, _, _, some (8, false)⟩ rfl (fun _ _ _ h => h) hHeld ?_
        refine take_n 19 ⟨some 78, Op.fieldAddr 28 (Operand.tmp 77) 2, _, _, _, some (8, false)⟩ rfl (fun _ _ _ h => h) hHeld ?_
        refine take_n 20 ⟨some 79, Op.load 9 (Operand.tmp 78), _, _, _, some (8, false)⟩ rfl (fun _ _ _ h => h) hHeld ?_
        refine take_n 21 ⟨some 80, Op.call { callee := Callee.value (Operand.func 50), args := #[Operand.tmp 71, Operand.tmp 79], argTypes := #[56, 9] }, _, _, _, some (8, false)⟩ rfl (fun _ _ _ h => h) hHeld ?_
        refine take_n 22 ⟨some 81, Op.move (Operand.tmp 0), _, _, _, some (8, false)⟩ rfl (fun _ _ _ h => h) hHeld ?_
        refine take_n 23 ⟨some 82, Op.nilCheck (Operand.tmp 81), _, _, _, some (8, false)⟩ rfl (fun _ _ _ h => h) hHeld ?_
        refine take_n 24 ⟨some 83, Op.fieldAddr 82 (Operand.tmp 82) 0, _, _, _, some (8, false)⟩ rfl (fun _ _ _ h => h) hHeld ?_
        refine take_n 25 ⟨some 84, Op.load 23 (Operand.tmp 83), _, _, _, some (8, false)⟩ rfl (fun _ _ _ h => h) hHeld ?_
        refine take_n 26 ⟨some 85, Op.move (Operand.tmp 1), _, _, _, some (8, false)⟩ rfl (fun _ _ _ h => h) hHeld ?_
        refine take_n 27 ⟨some 86, Op.indexAddr 23 (Operand.tmp 84) (Operand.tmp 85), _, _, _, some (8, false)⟩ rfl (fun _ _ _ h => h) hHeld ?_
        refine take_n 28 ⟨some 87, Op.fieldAddr 28 (Operand.tmp 86) 3, _, _, _, some (8, false)⟩ rfl (fun _ _ _ h => h) hHeld ?_
        refine take_n 29 ⟨some 88, Op.load 9 (Operand.tmp 87), _, _, _, some (8, false)⟩ rfl (fun _ _ _ h => h) hHeld ?_
        refine take_n 30 ⟨some 89, Op.binOp BinOp.eql 9 (Operand.tmp 80) (Operand.tmp 88) 9, _, _, _, some (8, false)⟩ rfl (fun _ _ _ h => h) hHeld ?_
        refine take_v (v := ?_) 31 ⟨some 90, Op.pick (Operand.tmp 67) (Operand.const (Value.bool true)) (Operand.tmp 89), _, _, _, none⟩ rfl (fun _ _ _ h => h) ?_ hHeld ?_
        rotate_left
        · (intro W _; go_simp <;> (try with_reducible rfl))
        refine take_v (v := ?_) 32 ⟨some 4, Op.assign (Operand.tmp 90), _, _, _, none⟩ rfl (fun _ _ _ h => h) ?_ hHeld ?_
        rotate_left
        · (intro W _; go_simp <;> (try with_reducible rfl))
        refine wpAnyH_done (by kernel_rfl) ?_ _
        refine NoPanic.normal ?_
        clear hHeld
        go_wp2
        go_ret
        exact ⟨ret_bool (by rw [HW.out, HF.out]; rfl), HD.out.2.2.2.2⟩

set_option maxRecDepth 100000 in
set_option maxHeartbeats 8000000 in
theorem may_true (lo : Nat) (w0 w : World) (g ub : Nat) (a : Option Addr) (n cap : Nat) (V : Nat → CallV) (ord : List Nat) (L : List CellV) (ov lv : Value) (KB : List (Nat × Obj)) (i : Nat) (hC : TwoC lo w0 g ub a n cap V) (hi : i < n) (h1 : Two lo w g ub a n cap true ord ord L ov lv KB) (h2 : Sees V n ord L) (h3 : Below lo w0 w) :
    Calls Try.prog 77 #[.pointer (some ⟨g, 0, none⟩), .int .i64 (i : Int)] w fun r w' => r = .returned (.bool (fitB V ord i && !waitB V n true ord i)) ∧ Below w.heap.size w w' := by
  have h7 := hC.n7
  have hLl := h2.len
  obtain ⟨own, hown⟩ : ∃ o, o = true := ⟨_, rfl⟩
  have hi' : (i : Int) < (n : Int) := by omega
  rcases hC.at h3 with h | ⟨b, off, rfl, hbs, hE⟩
  · omega
  obtain ⟨la, lc, rfl, hlc, hrow⟩ := SRow.of (F := cellF (cV L)) (c := 2) h1.2.2.2.1
  have HK : Hid (Bx w g [.slice (some ⟨b, off, none⟩) n cap, .bool true, .slice (some ⟨ub, 0, none⟩) n n, ov, .slice la L.length lc] ∧ Bx w ub (usedC n ord) ∧ Elems w b off n 6 (callF V) ∧ b < w.heap.size ∧ Sl w la L.length 2 (cellF (cV L)) ∧ Sees V n ord L) := ⟨h1.1, h1.2.1, hE, hbs, hrow.sl, h2⟩
  have k0 := h1.1.cell 0 rfl
  have kz := h1.1.2
  clear h1 h2 h3 hC hE hrow hown own
  go_enter Try.func77, Try.ntmps77
  go_wp2
  clear k0
  go_loopw [12] (fun z wr => ∃ k : Nat, k ≤ n ∧ z = .int .i64 k ∧ (∀ j, j < k → waitK V true ord j i = false) ∧ Below w.heap.size w wr) (fun z _ => n - (intOf z).toNat)
  case atStart => exact ⟨0, Nat.zero_le _, rfl, fun j hj => absurd hj (by omega), Below.refl _ _⟩
  case round =>
    obtain ⟨k, hk, rfl, hno, hBr⟩ := hrel
    have HNo : Hid (∀ j, j < k → waitK V true ord j i = false) := hno
    have HBr : Hid (Below w.heap.size w wr) := hBr
    clear hno hBr
    by_cases hlt : k < n
    · have hlt' : (k : Int) < (n : Int) := by omega
      obtain ⟨d0, d1, d2, d3, d4, d5⟩ := call_cells (HK.out.2.2.1.below HBr.out HK.out.2.2.2.1) hlt
      have HU : Hid ((usedC n ord)[k]? = some (.bool (ord.contains k))) := usedC_at ord hlt
      have hd : Below wr.heap.size wr (wr.alloc (.cells #[.int .i64 (V k).f0, .bool (V k).f1, .string (V k).f2, .string (V k).f3, .int .i64 (V k).f4, .int .i64 (V k).f5] 28)).drew := (Go.Joins.below_alloc1 _ _).drew
      have HD : Hid ((Bx (wr.alloc (.cells #[.int .i64 (V k).f0, .bool (V k).f1, .string (V k).f2, .string (V k).f3, .int .i64 (V k).f4, .int .i64 (V k).f5] 28)).drew g [.slice (some ⟨b, off, none⟩) n cap, .bool true, .slice (some ⟨ub, 0, none⟩) n n, ov, .slice la L.length lc] ∧ Bx (wr.alloc (.cells #[.int .i64 (V k).f0, .bool (V k).f1, .string (V k).f2, .string (V k).f3, .int .i64 (V k).f4, .int .i64 (V k).f5] 28)).drew ub (usedC n ord) ∧ Bx (wr.alloc (.cells #[.int .i64 (V k).f0, .bool (V k).f1, .string (V k).f2, .string (V k).f3, .int .i64 (V k).f4, .int .i64 (V k).f5] 28)).drew wr.heap.size [.int .i64 (V k).f0, .bool (V k).f1, .string (V k).f2, .string (V k).f3, .int .i64 (V k).f4, .int .i64 (V k).f5] ∧ Elems (wr.alloc (.cells #[.int .i64 (V k).f0, .bool (V k).f1, .string (V k).f2, .string (V k).f3, .int .i64 (V k).f4, .int .i64 (V k).f5] 28)).drew b off n 6 (callF V) ∧ b < (wr.alloc (.cells #[.int .i64 (V k).f0, .bool (V k).f1, .string (V k).f2, .string (V k).f3, .int .i64 (V k).f4, .int .i64 (V k).f5] 28)).drew.heap.size) ∧ Below w.heap.size w (wr.alloc (.cells #[.int .i64 (V k).f0, .bool (V k).f1, .string (V k).f2, .string (V k).f3, .int .i64 (V k).f4, .int .i64 (V k).f5] 28)).drew) :=
        ⟨⟨(HK.out.1.next HBr.out).next hd, (HK.out.2.1.next HBr.out).next hd, (Bx.new wr [.int .i64 (V k).f0, .bool (V k).f1, .string (V k).f2, .string (V k).f3, .int .i64 (V k).f4, .int .i64 (V k).f5] 28).next (Below.refl _ _).drew, HK.out.2.2.1.below (below_nx HBr.out hd) HK.out.2.2.2.1, Nat.lt_of_lt_of_le HK.out.2.2.2.1 (below_nx HBr.out hd).size⟩, below_nx HBr.out hd⟩
      clear hd
      go_upto_region 4 with fail
      clear d0 d1 d2 d3 d4 d5
      cases eu : ord.contains k
      case true =>
        rw [eu] at HU

        refine wp_region_noPanic ?_
        refine wp_region_held_drew (S := fun W => Bx W g [.slice (some ⟨b, off, none⟩) n cap, .bool true, .slice (some ⟨ub, 0, none⟩) n n, ov, .slice la L.length lc] ∧ Bx W ub (usedC n ord) ∧ Bx W wr.heap.size [.int .i64 (V k).f0, .bool (V k).f1, .string (V k).f2, .string (V k).f3, .int .i64 (V k).f4, .int .i64 (V k).f5] ∧ Elems W b off n 6 (callF V) ∧ b < W.heap.size) (by kernel_rfl) HD.out.1 (fun hHeld => ?_)
        refine take_v (v := ?_) 0 ⟨some 17, Op.move (Operand.tmp 0), _, _, _, none⟩ rfl (fun _ _ _ h => h) ?_ hHeld ?_
        rotate_left
        · (intro W _; go_simp <;> (try with_reducible rfl))
        refine take_v (v := ?_) 1 ⟨some 18, Op.nilCheck (Operand.tmp 17), _, _, _, none⟩ rfl (fun _ _ _ h => h) ?_ hHeld ?_
        rotate_left
        · (intro W _; go_simp <;> (try with_reducible rfl))
        refine take_v (v := ?_) 2 ⟨some 19, Op.fieldAddr 82 (Operand.tmp 18) 2, _, _, _, none⟩ rfl (fun _ _ _ h => h) ?_ hHeld ?_
        rotate_left
        · (intro W _; go_simp <;> (try with_reducible rfl))
        refine take_v (v := ?_) 3 ⟨some 20, Op.load 80 (Operand.tmp 19), _, _, _, none⟩ rfl (fun _ _ _ h => h) ?_ hHeld ?_
        rotate_left
        · (intro W hSW; (have s0 := hSW.1.cell 0 rfl; have s1 := hSW.1.cell 1 rfl; have s2 := hSW.1.cell 2 rfl; have sz := hSW.1.2; have t0 := hSW.2.1.cell k HU.out; have tz := hSW.2.1.2; have o0 := hSW.2.2.1.cell 0 rfl; have o5 := hSW.2.2.1.cell 5 rfl; have oz := hSW.2.2.1.2; obtain ⟨c0, c1, c2, c3, c4, c5⟩ := call_cells hSW.2.2.2.1 hi; have bz := hSW.2.2.2.2); go_simp <;> (try with_reducible rfl))
        refine take_v (v := ?_) 4 ⟨some 21, Op.move (Operand.tmp 5), _, _, _, none⟩ rfl (fun _ _ _ h => h) ?_ hHeld ?_
        rotate_left
        · (intro W _; go_simp <;> (try with_reducible rfl))
        refine take_v (v := ?_) 5 ⟨some 22, Op.indexAddr 80 (Operand.tmp 20) (Operand.tmp 21), _, _, _, none⟩ rfl (fun _ _ _ h => h) ?_ hHeld ?_
        rotate_left
        · (intro W _; go_simp <;> (try with_reducible rfl))
        refine take_v (v := ?_) 6 ⟨some 23, Op.load 4 (Operand.tmp 22), _, _, _, none⟩ rfl (fun _ _ _ h => h) ?_ hHeld ?_
        rotate_left
        · (intro W hSW; (have s0 := hSW.1.cell 0 rfl; have s1 := hSW.1.cell 1 rfl; have s2 := hSW.1.cell 2 rfl; have sz := hSW.1.2; have t0 := hSW.2.1.cell k HU.out; have tz := hSW.2.1.2; have o0 := hSW.2.2.1.cell 0 rfl; have o5 := hSW.2.2.1.cell 5 rfl; have oz := hSW.2.2.1.2; obtain ⟨c0, c1, c2, c3, c4, c5⟩ := call_cells hSW.2.2.2.1 hi; have bz := hSW.2.2.2.2); go_simp <;> (try with_reducible rfl))
        refine take_v (v := ?_) 7 ⟨some 24, Op.unOp UnOp.not 4 (Operand.tmp 23), _, _, _, none⟩ rfl (fun _ _ _ h => h) ?_ hHeld ?_
        rotate_left
        · (intro W _; go_simp <;> (try with_reducible rfl))
        refine take_v (v := ?_) 8 ⟨some 25, Op.move (Operand.tmp 24), _, _, _, none⟩ rfl (fun _ _ _ h => h) ?_ hHeld ?_
        rotate_left
        · (intro W _; go_simp <;> (try with_reducible rfl))
        refine take_n 9 ⟨some 26, Op.fieldAddr 28 (Operand.tmp 6) 5, _, _, _, some (8, true)⟩ rfl (fun _ _ _ h => h) hHeld ?_
        refine take_n 10 ⟨some 27, Op.load 3 (Operand.tmp 26), _, _, _, some (8, true)⟩ rfl (fun _ _ _ h => h) hHeld ?_
        refine take_n 11 ⟨some 28, Op.move (Operand.tmp 0), _, _, _, some (8, true)⟩ rfl (fun _ _ _ h => h) hHeld ?_
        refine take_n 12 ⟨some 29, Op.nilCheck (Operand.tmp 28), _, _, _, some (8, true)⟩ rfl (fun _ _ _ h => h) hHeld ?_
        refine take_n 13 ⟨some 30, Op.fieldAddr 82 (Operand.tmp 29) 0, _, _, _, some (8, true)⟩ rfl (fun _ _ _ h => h) hHeld ?_
        refine take_n 14 ⟨some 31, Op.load 23 (Operand.tmp 30), _, _, _, some (8, true)⟩ rfl (fun _ _ _ h => h) hHeld ?_
        refine take_n 15 ⟨some 32, Op.move (Operand.tmp 1), _, _, _, some (8, true)⟩ rfl (fun _ _ _ h => h) hHeld ?_
        refine take_n 16 ⟨some 33, Op.indexAddr 23 (Operand.tmp 31) (Operand.tmp 32), _, _, _, some (8, true)⟩ rfl (fun _ _ _ h => h) hHeld ?_
        refine take_n 17 ⟨some 34, Op.fieldAddr 28 (Operand.tmp 33) 4, _, _, _, some (8, true)⟩ rfl (fun _ _ _ h => h) hHeld ?_
        refine take_n 18 ⟨some 35, Op.load 3 (Operand.tmp 34), _, _, _, some (8, true)⟩ rfl (fun _ _ _ h => h) hHeld ?_
        refine take_n 19 ⟨some 36, Op.binOp BinOp.lss 3 (Operand.tmp 27) (Operand.tmp 35) 3, _, _, _, some (8, true)⟩ rfl (fun _ _ _ h => h) hHeld ?_
        refine take_v (v := ?_) 20 ⟨some 37, Op.pick (Operand.tmp 25) (Operand.tmp 36) (Operand.const (Value.bool false)), _, _, _, none⟩ rfl (fun _ _ _ h => h) ?_ hHeld ?_
        rotate_left
        · (intro W _; go_simp <;> (try with_reducible rfl))
        refine take_v (v := ?_) 21 ⟨some 38, Op.move (Operand.tmp 37), _, _, _, none⟩ rfl (fun _ _ _ h => h) ?_ hHeld ?_
        rotate_left
        · (intro W _; go_simp <;> (try with_reducible rfl))
        refine take_n 22 ⟨some 39, Op.move (Operand.tmp 0), _, _, _, some (21, true)⟩ rfl (fun _ _ _ h => h) hHeld ?_
        refine take_n 23 ⟨some 40, Op.nilCheck (Operand.tmp 39), _, _, _, some (21, true)⟩ rfl (fun _ _ _ h => h) hHeld ?_
        refine take_n 24 ⟨some 41, Op.fieldAddr 82 (Operand.tmp 40) 1, _, _, _, some (21, true)⟩ rfl (fun _ _ _ h => h) hHeld ?_
        refine take_n 25 ⟨some 42, Op.load 4 (Operand.tmp 41), _, _, _, some (21, true)⟩ rfl (fun _ _ _ h => h) hHeld ?_
        refine take_n 26 ⟨some 43, Op.unOp UnOp.not 4 (Operand.tmp 42), _, _, _, some (21, true)⟩ rfl (fun _ _ _ h => h) hHeld ?_
        refine take_n 27 ⟨some 44, Op.move (Operand.tmp 43), _, _, _, some (21, true)⟩ rfl (fun _ _ _ h => h) hHeld ?_
        refine take_n 28 ⟨some 45, Op.fieldAddr 28 (Operand.tmp 6) 0, _, _, _, some (27, false)⟩ rfl (fun _ _ _ h => h) hHeld ?_
        refine take_n 29 ⟨some 46, Op.load 3 (Operand.tmp 45), _, _, _, some (27, false)⟩ rfl (fun _ _ _ h => h) hHeld ?_
        refine take_n 30 ⟨some 47, Op.move (Operand.tmp 0), _, _, _, some (27, false)⟩ rfl (fun _ _ _ h => h) hHeld ?_
        refine take_n 31 ⟨some 48, Op.nilCheck (Operand.tmp 47), _, _, _, some (27, false)⟩ rfl (fun _ _ _ h => h) hHeld ?_
        refine take_n 32 ⟨some 49, Op.fieldAddr 82 (Operand.tmp 48) 0, _, _, _, some (27, false)⟩ rfl (fun _ _ _ h => h) hHeld ?_
        refine take_n 33 ⟨some 50, Op.load 23 (Operand.tmp 49), _, _, _, some (27, false)⟩ rfl (fun _ _ _ h => h) hHeld ?_
        refine take_n 34 ⟨some 51, Op.move (Operand.tmp 1), _, _, _, some (27, false)⟩ rfl (fun _ _ _ h => h) hHeld ?_
        refine take_n 35 ⟨some 52, Op.indexAddr 23 (Operand.tmp 50) (Operand.tmp 51), _, _, _, some (27, false)⟩ rfl (fun _ _ _ h => h) hHeld ?_
        refine take_n 36 ⟨some 53, Op.fieldAddr 28 (Operand.tmp 52) 0, _, _, _, some (27, false)⟩ rfl (fun _ _ _ h => h) hHeld ?_
        refine take_n 37 ⟨some 54, Op.load 3 (Operand.tmp 53), _, _, _, some (27, false)⟩ rfl (fun _ _ _ h => h) hHeld ?_
        refine take_n 38 ⟨some 55, Op.binOp BinOp.eql 3 (Operand.tmp 46) (Operand.tmp 54) 3, _, _, _, some (27, false)⟩ rfl (fun _ _ _ h => h) hHeld ?_
        refine take_n 39 ⟨some 56, Op.pick (Operand.tmp 44) (Operand.const (Value.bool true)) (Operand.tmp 55), _, _, _, some (21, true)⟩ rfl (fun _ _ _ h => h) hHeld ?_
        refine take_v (v := ?_) 40 ⟨some 57, Op.pick (Operand.tmp 38) (Operand.tmp 56) (Operand.const (Value.bool false)), _, _, _, none⟩ rfl (fun _ _ _ h => h) ?_ hHeld ?_
        rotate_left
        · (intro W _; go_simp <;> (try with_reducible rfl))
        refine wpAnyH_done (by kernel_rfl) ?_ _
        refine NoPanic.normal ?_
        clear hHeld
        have HV : Hid (waitK V true ord k i = false) := by show _ = _; rw [waitK, eu]; rfl
        go_wp2
        go_roundw
        case rel => exact ⟨k + 1, by omega, by go_num, upto_succ HNo.out HV.out, HD.out.2⟩
        case measure => simp [intOf]; omega
      rw [eu] at HU
      by_cases el : (V k).f5 < (V i).f4
      case neg =>
        have eld : decide ((V k).f5 < (V i).f4) = false := decide_eq_false el
        refine wp_region_noPanic ?_
        refine wp_region_held_drew (S := fun W => Bx W g [.slice (some ⟨b, off, none⟩) n cap, .bool true, .slice (some ⟨ub, 0, none⟩) n n, ov, .slice la L.length lc] ∧ Bx W ub (usedC n ord) ∧ Bx W wr.heap.size [.int .i64 (V k).f0, .bool (V k).f1, .string (V k).f2, .string (V k).f3, .int .i64 (V k).f4, .int .i64 (V k).f5] ∧ Elems W b off n 6 (callF V) ∧ b < W.heap.size) (by kernel_rfl) HD.out.1 (fun hHeld => ?_)
        refine take_v (v := ?_) 0 ⟨some 17, Op.move (Operand.tmp 0), _, _, _, none⟩ rfl (fun _ _ _ h => h) ?_ hHeld ?_
        rotate_left
        · (intro W _; go_simp <;> (try with_reducible rfl))
        refine take_v (v := ?_) 1 ⟨some 18, Op.nilCheck (Operand.tmp 17), _, _, _, none⟩ rfl (fun _ _ _ h => h) ?_ hHeld ?_
        rotate_left
        · (intro W _; go_simp <;> (try with_reducible rfl))
        refine take_v (v := ?_) 2 ⟨some 19, Op.fieldAddr 82 (Operand.tmp 18) 2, _, _, _, none⟩ rfl (fun _ _ _ h => h) ?_ hHeld ?_
        rotate_left
        · (intro W _; go_simp <;> (try with_reducible rfl))
        refine take_v (v := ?_) 3 ⟨some 20, Op.load 80 (Operand.tmp 19), _, _, _, none⟩ rfl (fun _ _ _ h => h) ?_ hHeld ?_
        rotate_left
        · (intro W hSW; (have s0 := hSW.1.cell 0 rfl; have s1 := hSW.1.cell 1 rfl; have s2 := hSW.1.cell 2 rfl; have sz := hSW.1.2; have t0 := hSW.2.1.cell k HU.out; have tz := hSW.2.1.2; have o0 := hSW.2.2.1.cell 0 rfl; have o5 := hSW.2.2.1.cell 5 rfl; have oz := hSW.2.2.1.2; obtain ⟨c0, c1, c2, c3, c4, c5⟩ := call_cells hSW.2.2.2.1 hi; have bz := hSW.2.2.2.2); go_simp <;> (try with_reducible rfl))
        refine take_v (v := ?_) 4 ⟨some 21, Op.move (Operand.tmp 5), _, _, _, none⟩ rfl (fun _ _ _ h => h) ?_ hHeld ?_
        rotate_left
        · (intro W _; go_simp <;> (try with_reducible rfl))
        refine take_v (v := ?_) 5 ⟨some 22, Op.indexAddr 80 (Operand.tmp 20) (Operand.tmp 21), _, _, _, none⟩ rfl (fun _ _ _ h => h) ?_ hHeld ?_
        rotate_left
        · (intro W _; go_simp <;> (try with_reducible rfl))
        refine take_v (v := ?_) 6 ⟨some 23, Op.load 4 (Operand.tmp 22), _, _, _, none⟩ rfl (fun _ _ _ h => h) ?_ hHeld ?_
        rotate_left
        · (intro W hSW; (have s0 := hSW.1.cell 0 rfl; have s1 := hSW.1.cell 1 rfl; have s2 := hSW.1.cell 2 rfl; have sz := hSW.1.2; have t0 := hSW.2.1.cell k HU.out; have tz := hSW.2.1.2; have o0 := hSW.2.2.1.cell 0 rfl; have o5 := hSW.2.2.1.cell 5 rfl; have oz := hSW.2.2.1.2; obtain ⟨c0, c1, c2, c3, c4, c5⟩ := call_cells hSW.2.2.2.1 hi; have bz := hSW.2.2.2.2); go_simp <;> (try with_reducible rfl))
        refine take_v (v := ?_) 7 ⟨some 24, Op.unOp UnOp.not 4 (Operand.tmp 23), _, _, _, none⟩ rfl (fun _ _ _ h => h) ?_ hHeld ?_
        rotate_left
        · (intro W _; go_simp <;> (try with_reducible rfl))
        refine take_v (v := ?_) 8 ⟨some 25, Op.move (Operand.tmp 24), _, _, _, none⟩ rfl (fun _ _ _ h => h) ?_ hHeld ?_
        rotate_left
        · (intro W _; go_simp <;> (try with_reducible rfl))
        refine take_v (v := ?_) 9 ⟨some 26, Op.fieldAddr 28 (Operand.tmp 6) 5, _, _, _, some (8, true)⟩ rfl (fun _ _ _ h => h) ?_ hHeld ?_
        rotate_left
        · (intro W _; go_simp <;> (try with_reducible rfl))
        refine take_v (v := ?_) 10 ⟨some 27, Op.load 3 (Operand.tmp 26), _, _, _, some (8, true)⟩ rfl (fun _ _ _ h => h) ?_ hHeld ?_
        rotate_left
        · (intro W hSW; (have s0 := hSW.1.cell 0 rfl; have s1 := hSW.1.cell 1 rfl; have s2 := hSW.1.cell 2 rfl; have sz := hSW.1.2; have t0 := hSW.2.1.cell k HU.out; have tz := hSW.2.1.2; have o0 := hSW.2.2.1.cell 0 rfl; have o5 := hSW.2.2.1.cell 5 rfl; have oz := hSW.2.2.1.2; obtain ⟨c0, c1, c2, c3, c4, c5⟩ := call_cells hSW.2.2.2.1 hi; have bz := hSW.2.2.2.2); go_simp <;> (try with_reducible rfl))
        refine take_v (v := ?_) 11 ⟨some 28, Op.move (Operand.tmp 0), _, _, _, some (8, true)⟩ rfl (fun _ _ _ h => h) ?_ hHeld ?_
        rotate_left
        · (intro W _; go_simp <;> (try with_reducible rfl))
        refine take_v (v := ?_) 12 ⟨some 29, Op.nilCheck (Operand.tmp 28), _, _, _, some (8, true)⟩ rfl (fun _ _ _ h => h) ?_ hHeld ?_
        rotate_left
        · (intro W _; go_simp <;> (try with_reducible rfl))
        refine take_v (v := ?_) 13 ⟨some 30, Op.fieldAddr 82 (Operand.tmp 29) 0, _, _, _, some (8, true)⟩ rfl (fun _ _ _ h => h) ?_ hHeld ?_
        rotate_left
        · (intro W _; go_simp <;> (try with_reducible rfl))
        refine take_v (v := ?_) 14 ⟨some 31, Op.load 23 (Operand.tmp 30), _, _, _, some (8, true)⟩ rfl (fun _ _ _ h => h) ?_ hHeld ?_
        rotate_left
        · (intro W hSW; (have s0 := hSW.1.cell 0 rfl; have s1 := hSW.1.cell 1 rfl; have s2 := hSW.1.cell 2 rfl; have sz := hSW.1.2; have t0 := hSW.2.1.cell k HU.out; have tz := hSW.2.1.2; have o0 := hSW.2.2.1.cell 0 rfl; have o5 := hSW.2.2.1.cell 5 rfl; have oz := hSW.2.2.1.2; obtain ⟨c0, c1, c2, c3, c4, c5⟩ := call_cells hSW.2.2.2.1 hi; have bz := hSW.2.2.2.2); go_simp <;> (try with_reducible rfl))
        refine take_v (v := ?_) 15 ⟨some 32, Op.move (Operand.tmp 1), _, _, _, some (8, true)⟩ rfl (fun _ _ _ h => h) ?_ hHeld ?_
        rotate_left
        · (intro W _; go_simp <;> (try with_reducible rfl))
        refine take_v (v := ?_) 16 ⟨some 33, Op.indexAddr 23 (Operand.tmp 31) (Operand.tmp 32), _, _, _, some (8, true)⟩ rfl (fun _ _ _ h => h) ?_ hHeld ?_
        rotate_left
        · (intro W _; go_simp <;> (try with_reducible rfl))
        refine take_v (v := ?_) 17 ⟨some 34, Op.fieldAddr 28 (Operand.tmp 33) 4, _, _, _, some (8, true)⟩ rfl (fun _ _ _ h => h) ?_ hHeld ?_
        rotate_left
        · (intro W _; go_simp <;> (try with_reducible rfl))
        refine take_v (v := ?_) 18 ⟨some 35, Op.load 3 (Operand.tmp 34), _, _, _, some (8, true)⟩ rfl (fun _ _ _ h => h) ?_ hHeld ?_
        rotate_left
        · (intro W hSW; (have s0 := hSW.1.cell 0 rfl; have s1 := hSW.1.cell 1 rfl; have s2 := hSW.1.cell 2 rfl; have sz := hSW.1.2; have t0 := hSW.2.1.cell k HU.out; have tz := hSW.2.1.2; have o0 := hSW.2.2.1.cell 0 rfl; have o5 := hSW.2.2.1.cell 5 rfl; have oz := hSW.2.2.1.2; obtain ⟨c0, c1, c2, c3, c4, c5⟩ := call_cells hSW.2.2.2.1 hi; have bz := hSW.2.2.2.2); go_simp <;> (try with_reducible rfl))
        refine take_v (v := ?_) 19 ⟨some 36, Op.binOp BinOp.lss 3 (Operand.tmp 27) (Operand.tmp 35) 3, _, _, _, some (8, true)⟩ rfl (fun _ _ _ h => h) ?_ hHeld ?_
        rotate_left
        · (intro W _; go_simp <;> (try with_reducible rfl))
        refine take_v (v := ?_) 20 ⟨some 37, Op.pick (Operand.tmp 25) (Operand.tmp 36) (Operand.const (Value.bool false)), _, _, _, none⟩ rfl (fun _ _ _ h => h) ?_ hHeld ?_
        rotate_left
        · (intro W _; go_simp <;> (try with_reducible rfl))
        refine take_v (v := ?_) 21 ⟨some 38, Op.move (Operand.tmp 37), _, _, _, none⟩ rfl (fun _ _ _ h => h) ?_ hHeld ?_
        rotate_left
        · (intro W _; go_simp <;> (try with_reducible rfl))
        refine take_n 22 ⟨some 39, Op.move (Operand.tmp 0), _, _, _, some (21, true)⟩ rfl (fun _ _ _ h => h) hHeld ?_
        refine take_n 23 ⟨some 40, Op.nilCheck (Operand.tmp 39), _, _, _, some (21, true)⟩ rfl (fun _ _ _ h => h) hHeld ?_
        refine take_n 24 ⟨some 41, Op.fieldAddr 82 (Operand.tmp 40) 1, _, _, _, some (21, true)⟩ rfl (fun _ _ _ h => h) hHeld ?_
        refine take_n 25 ⟨some 42, Op.load 4 (Operand.tmp 41), _, _, _, some (21, true)⟩ rfl (fun _ _ _ h => h) hHeld ?_
        refine take_n 26 ⟨some 43, Op.unOp UnOp.not 4 (Operand.tmp 42), _, _, _, some (21, true)⟩ rfl (fun _ _ _ h => h) hHeld ?_
        refine take_n 27 ⟨some 44, Op.move (Operand.tmp 43), _, _, _, some (21, true)⟩ rfl (fun _ _ _ h => h) hHeld ?_
        refine take_n 28 ⟨some 45, Op.fieldAddr 28 (Operand.tmp 6) 0, _, _, _, some (27, false)⟩ rfl (fun _ _ _ h => h) hHeld ?_
        refine take_n 29 ⟨some 46, Op.load 3 (Operand.tmp 45), _, _, _, some (27, false)⟩ rfl (fun _ _ _ h => h) hHeld ?_
        refine take_n 30 ⟨some 47, Op.move (Operand.tmp 0), _, _, _, some (27, false)⟩ rfl (fun _ _ _ h => h) hHeld ?_
        refine take_n 31 ⟨some 48, Op.nilCheck (Operand.tmp 47), _, _, _, some (27, false)⟩ rfl (fun _ _ _ h => h) hHeld ?_
        refine take_n 32 ⟨some 49, Op.fieldAddr 82 (Operand.tmp 48) 0, _, _, _, some (27, false)⟩ rfl (fun _ _ _ h => h) hHeld ?_
        refine take_n 33 ⟨some 50, Op.load 23 (Operand.tmp 49), _, _, _, some (27, false)⟩ rfl (fun _ _ _ h => h) hHeld ?_
        refine take_n 34 ⟨some 51, Op.move (Operand.tmp 1), _, _, _, some (27, false)⟩ rfl (fun _ _ _ h => h) hHeld ?_
        refine take_n 35 ⟨some 52, Op.indexAddr 23 (Operand.tmp 50) (Operand.tmp 51), _, _, _, some (27, false)⟩ rfl (fun _ _ _ h => h) hHeld ?_
        refine take_n 36 ⟨some 53, Op.fieldAddr 28 (Operand.tmp 52) 0, _, _, _, some (27, false)⟩ rfl (fun _ _ _ h => h) hHeld ?_
        refine take_n 37 ⟨some 54, Op.load 3 (Operand.tmp 53), _, _, _, some (27, false)⟩ rfl (fun _ _ _ h => h) hHeld ?_
        refine take_n 38 ⟨some 55, Op.binOp BinOp.eql 3 (Operand.tmp 46) (Operand.tmp 54) 3, _, _, _, some (27, false)⟩ rfl (fun _ _ _ h => h) hHeld ?_
        refine take_n 39 ⟨some 56, Op.pick (Operand.tmp 44) (Operand.const (Value.bool true)) (Operand.tmp 55), _, _, _, some (21, true)⟩ rfl (fun _ _ _ h => h) hHeld ?_
        refine take_v (v := ?_) 40 ⟨some 57, Op.pick (Operand.tmp 38) (Operand.tmp 56) (Operand.const (Value.bool false)), _, _, _, none⟩ rfl (fun _ _ _ h => h) ?_ hHeld ?_
        rotate_left
        · (intro W _; go_simp <;> (try with_reducible rfl))
        refine wpAnyH_done (by kernel_rfl) ?_ _
        refine NoPanic.normal ?_
        clear hHeld
        have HV : Hid (waitK V true ord k i = false) := (waitK_of eu (mustB_no el))
        go_wp2
        go_roundw
        case rel => exact ⟨k + 1, by omega, by go_num, upto_succ HNo.out HV.out, HD.out.2⟩
        case measure => simp [intOf]; omega
      have eld : decide ((V k).f5 < (V i).f4) = true := decide_eq_true el
      cases ep : ((V k).f0 == (V i).f0)
      case false =>
        refine wp_region_noPanic ?_
        refine wp_region_held_drew (S := fun W => Bx W g [.slice (some ⟨b, off, none⟩) n cap, .bool true, .slice (some ⟨ub, 0, none⟩) n n, ov, .slice la L.length lc] ∧ Bx W ub (usedC n ord) ∧ Bx W wr.heap.size [.int .i64 (V k).f0, .bool (V k).f1, .string (V k).f2, .string (V k).f3, .int .i64 (V k).f4, .int .i64 (V k).f5] ∧ Elems W b off n 6 (callF V) ∧ b < W.heap.size) (by kernel_rfl) HD.out.1 (fun hHeld => ?_)
        refine take_v (v := ?_) 0 ⟨some 17, Op.move (Operand.tmp 0), _, _, _, none⟩ rfl (fun _ _ _ h => h) ?_ hHeld ?_
        rotate_left
        · (intro W _; go_simp <;> (try with_reducible rfl))
        refine take_v (v := ?_) 1 ⟨some 18, Op.nilCheck (Operand.tmp 17), _, _, _, none⟩ rfl (fun _ _ _ h => h) ?_ hHeld ?_
        rotate_left
        · (intro W _; go_simp <;> (try with_reducible rfl))
        refine take_v (v := ?_) 2 ⟨some 19, Op.fieldAddr 82 (Operand.tmp 18) 2, _, _, _, none⟩ rfl (fun _ _ _ h => h) ?_ hHeld ?_
        rotate_left
        · (intro W _; go_simp <;> (try with_reducible rfl))
        refine take_v (v := ?_) 3 ⟨some 20, Op.load 80 (Operand.tmp 19), _, _, _, none⟩ rfl (fun _ _ _ h => h) ?_ hHeld ?_
        rotate_left
        · (intro W hSW; (have s0 := hSW.1.cell 0 rfl; have s1 := hSW.1.cell 1 rfl; have s2 := hSW.1.cell 2 rfl; have sz := hSW.1.2; have t0 := hSW.2.1.cell k HU.out; have tz := hSW.2.1.2; have o0 := hSW.2.2.1.cell 0 rfl; have o5 := hSW.2.2.1.cell 5 rfl; have oz := hSW.2.2.1.2; obtain ⟨c0, c1, c2, c3, c4, c5⟩ := call_cells hSW.2.2.2.1 hi; have bz := hSW.2.2.2.2); go_simp <;> (try with_reducible rfl))
        refine take_v (v := ?_) 4 ⟨some 21, Op.move (Operand.tmp 5), _, _, _, none⟩ rfl (fun _ _ _ h => h) ?_ hHeld ?_
        rotate_left
        · (intro W _; go_simp <;> (try with_reducible rfl))
        refine take_v (v := ?_) 5 ⟨some 22, Op.indexAddr 80 (Operand.tmp 20) (Operand.tmp 21), _, _, _, none⟩ rfl (fun _ _ _ h => h) ?_ hHeld ?_
        rotate_left
        · (intro W _; go_simp <;> (try with_reducible rfl))
        refine take_v (v := ?_) 6 ⟨some 23, Op.load 4 (Operand.tmp 22), _, _, _, none⟩ rfl (fun _ _ _ h => h) ?_ hHeld ?_
        rotate_left
        · (intro W hSW; (have s0 := hSW.1.cell 0 rfl; have s1 := hSW.1.cell 1 rfl; have s2 := hSW.1.cell 2 rfl; have sz := hSW.1.2; have t0 := hSW.2.1.cell k HU.out; have tz := hSW.2.1.2; have o0 := hSW.2.2.1.cell 0 rfl; have o5 := hSW.2.2.1.cell 5 rfl; have oz := hSW.2.2.1.2; obtain ⟨c0, c1, c2, c3, c4, c5⟩ := call_cells hSW.2.2.2.1 hi; have bz := hSW.2.2.2.2); go_simp <;> (try with_reducible rfl))
        refine take_v (v := ?_) 7 ⟨some 24, Op.unOp UnOp.not 4 (Operand.tmp 23), _, _, _, none⟩ rfl (fun _ _ _ h => h) ?_ hHeld ?_
        rotate_left
        · (intro W _; go_simp <;> (try with_reducible rfl))
        refine take_v (v := ?_) 8 ⟨some 25, Op.move (Operand.tmp 24), _, _, _, none⟩ rfl (fun _ _ _ h => h) ?_ hHeld ?_
        rotate_left
        · (intro W _; go_simp <;> (try with_reducible rfl))
        refine take_v (v := ?_) 9 ⟨some 26, Op.fieldAddr 28 (Operand.tmp 6) 5, _, _, _, some (8, true)⟩ rfl (fun _ _ _ h => h) ?_ hHeld ?_
        rotate_left
        · (intro W _; go_simp <;> (try with_reducible rfl))
        refine take_v (v := ?_) 10 ⟨some 27, Op.load 3 (Operand.tmp 26), _, _, _, some (8, true)⟩ rfl (fun _ _ _ h => h) ?_ hHeld ?_
        rotate_left
        · (intro W hSW; (have s0 := hSW.1.cell 0 rfl; have s1 := hSW.1.cell 1 rfl; have s2 := hSW.1.cell 2 rfl; have sz := hSW.1.2; have t0 := hSW.2.1.cell k HU.out; have tz := hSW.2.1.2; have o0 := hSW.2.2.1.cell 0 rfl; have o5 := hSW.2.2.1.cell 5 rfl; have oz := hSW.2.2.1.2; obtain ⟨c0, c1, c2, c3, c4, c5⟩ := call_cells hSW.2.2.2.1 hi; have bz := hSW.2.2.2.2); go_simp <;> (try with_reducible rfl))
        refine take_v (v := ?_) 11 ⟨some 28, Op.move (Operand.tmp 0), _, _, _, some (8, true)⟩ rfl (fun _ _ _ h => h) ?_ hHeld ?_
        rotate_left
        · (intro W _; go_simp <;> (try with_reducible rfl))
        refine take_v (v := ?_) 12 ⟨some 29, Op.nilCheck (Operand.tmp 28), _, _, _, some (8, true)⟩ rfl (fun _ _ _ h => h) ?_ hHeld ?_
        rotate_left
        · (intro W _; go_simp <;> (try with_reducible rfl))
        refine take_v (v := ?_) 13 ⟨some 30, Op.fieldAddr 82 (Operand.tmp 29) 0, _, _, _, some (8, true)⟩ rfl (fun _ _ _ h => h) ?_ hHeld ?_
        rotate_left
        · (intro W _; go_simp <;> (try with_reducible rfl))
        refine take_v (v := ?_) 14 ⟨some 31, Op.load 23 (Operand.tmp 30), _, _, _, some (8, true)⟩ rfl (fun _ _ _ h => h) ?_ hHeld ?_
        rotate_left
        · (intro W hSW; (have s0 := hSW.1.cell 0 rfl; have s1 := hSW.1.cell 1 rfl; have s2 := hSW.1.cell 2 rfl; have sz := hSW.1.2; have t0 := hSW.2.1.cell k HU.out; have tz := hSW.2.1.2; have o0 := hSW.2.2.1.cell 0 rfl; have o5 := hSW.2.2.1.cell 5 rfl; have oz := hSW.2.2.1.2; obtain ⟨c0, c1, c2, c3, c4, c5⟩ := call_cells hSW.2.2.2.1 hi; have bz := hSW.2.2.2.2); go_simp <;> (try with_reducible rfl))
        refine take_v (v := ?_) 15 ⟨some 32, Op.move (Operand.tmp 1), _, _, _, some (8, true)⟩ rfl (fun _ _ _ h => h) ?_ hHeld ?_
        rotate_left
        · (intro W _; go_simp <;> (try with_reducible rfl))
        refine take_v (v := ?_) 16 ⟨some 33, Op.indexAddr 23 (Operand.tmp 31) (Operand.tmp 32), _, _, _, some (8, true)⟩ rfl (fun _ _ _ h => h) ?_ hHeld ?_
        rotate_left
        · (intro W _; go_simp <;> (try with_reducible rfl))
        refine take_v (v := ?_) 17 ⟨some 34, Op.fieldAddr 28 (Operand.tmp 33) 4, _, _, _, some (8, true)⟩ rfl (fun _ _ _ h => h) ?_ hHeld ?_
        rotate_left
        · (intro W _; go_simp <;> (try with_reducible rfl))
        refine take_v (v := ?_) 18 ⟨some 35, Op.load 3 (Operand.tmp 34), _, _, _, some (8, true)⟩ rfl (fun _ _ _ h => h) ?_ hHeld ?_
        rotate_left
        · (intro W hSW; (have s0 := hSW.1.cell 0 rfl; have s1 := hSW.1.cell 1 rfl; have s2 := hSW.1.cell 2 rfl; have sz := hSW.1.2; have t0 := hSW.2.1.cell k HU.out; have tz := hSW.2.1.2; have o0 := hSW.2.2.1.cell 0 rfl; have o5 := hSW.2.2.1.cell 5 rfl; have oz := hSW.2.2.1.2; obtain ⟨c0, c1, c2, c3, c4, c5⟩ := call_cells hSW.2.2.2.1 hi; have bz := hSW.2.2.2.2); go_simp <;> (try with_reducible rfl))
        refine take_v (v := ?_) 19 ⟨some 36, Op.binOp BinOp.lss 3 (Operand.tmp 27) (Operand.tmp 35) 3, _, _, _, some (8, true)⟩ rfl (fun _ _ _ h => h) ?_ hHeld ?_
        rotate_left
        · (intro W _; go_simp <;> (try with_reducible rfl))
        refine take_v (v := ?_) 20 ⟨some 37, Op.pick (Operand.tmp 25) (Operand.tmp 36) (Operand.const (Value.bool false)), _, _, _, none⟩ rfl (fun _ _ _ h => h) ?_ hHeld ?_
        rotate_left
        · (intro W _; go_simp <;> (try with_reducible rfl))
        refine take_v (v := ?_) 21 ⟨some 38, Op.move (Operand.tmp 37), _, _, _, none⟩ rfl (fun _ _ _ h => h) ?_ hHeld ?_
        rotate_left
        · (intro W _; go_simp <;> (try with_reducible rfl))
        refine take_v (v := ?_) 22 ⟨some 39, Op.move (Operand.tmp 0), _, _, _, some (21, true)⟩ rfl (fun _ _ _ h => h) ?_ hHeld ?_
        rotate_left
        · (intro W _; go_simp <;> (try with_reducible rfl))
        refine take_v (v := ?_) 23 ⟨some 40, Op.nilCheck (Operand.tmp 39), _, _, _, some (21, true)⟩ rfl (fun _ _ _ h => h) ?_ hHeld ?_
        rotate_left
        · (intro W _; go_simp <;> (try with_reducible rfl))
        refine take_v (v := ?_) 24 ⟨some 41, Op.fieldAddr 82 (Operand.tmp 40) 1, _, _, _, some (21, true)⟩ rfl (fun _ _ _ h => h) ?_ hHeld ?_
        rotate_left
        · (intro W _; go_simp <;> (try with_reducible rfl))
        refine take_v (v := ?_) 25 ⟨some 42, Op.load 4 (Operand.tmp 41), _, _, _, some (21, true)⟩ rfl (fun _ _ _ h => h) ?_ hHeld ?_
        rotate_left
        · (intro W hSW; (have s0 := hSW.1.cell 0 rfl; have s1 := hSW.1.cell 1 rfl; have s2 := hSW.1.cell 2 rfl; have sz := hSW.1.2; have t0 := hSW.2.1.cell k HU.out; have tz := hSW.2.1.2; have o0 := hSW.2.2.1.cell 0 rfl; have o5 := hSW.2.2.1.cell 5 rfl; have oz := hSW.2.2.1.2; obtain ⟨c0, c1, c2, c3, c4, c5⟩ := call_cells hSW.2.2.2.1 hi; have bz := hSW.2.2.2.2); go_simp <;> (try with_reducible rfl))
        refine take_v (v := ?_) 26 ⟨some 43, Op.unOp UnOp.not 4 (Operand.tmp 42), _, _, _, some (21, true)⟩ rfl (fun _ _ _ h => h) ?_ hHeld ?_
        rotate_left
        · (intro W _; go_simp <;> (try with_reducible rfl))
        refine take_v (v := ?_) 27 ⟨some 44, Op.move (Operand.tmp 43), _, _, _, some (21, true)⟩ rfl (fun _ _ _ h => h) ?_ hHeld ?_
        rotate_left
        · (intro W _; go_simp <;> (try with_reducible rfl))
        refine take_v (v := ?_) 28 ⟨some 45, Op.fieldAddr 28 (Operand.tmp 6) 0, _, _, _, some (27, false)⟩ rfl (fun _ _ _ h => h) ?_ hHeld ?_
        rotate_left
        · (intro W _; go_simp <;> (try with_reducible rfl))
        refine take_v (v := ?_) 29 ⟨some 46, Op.load 3 (Operand.tmp 45), _, _, _, some (27, false)⟩ rfl (fun _ _ _ h => h) ?_ hHeld ?_
        rotate_left
        · (intro W hSW; (have s0 := hSW.1.cell 0 rfl; have s1 := hSW.1.cell 1 rfl; have s2 := hSW.1.cell 2 rfl; have sz := hSW.1.2; have t0 := hSW.2.1.cell k HU.out; have tz := hSW.2.1.2; have o0 := hSW.2.2.1.cell 0 rfl; have o5 := hSW.2.2.1.cell 5 rfl; have oz := hSW.2.2.1.2; obtain ⟨c0, c1, c2, c3, c4, c5⟩ := call_cells hSW.2.2.2.1 hi; have bz := hSW.2.2.2.2); go_simp <;> (try with_reducible rfl))
        refine take_v (v := ?_) 30 ⟨some 47, Op.move (Operand.tmp 0), _, _, _, some (27, false)⟩ rfl (fun _ _ _ h => h) ?_ hHeld ?_
        rotate_left
        · (intro W _; go_simp <;> (try with_reducible rfl))
        refine take_v (v := ?_) 31 ⟨some 48, Op.nilCheck (Operand.tmp 47), _, _, _, some (27, false)⟩ rfl (fun _ _ _ h => h) ?_ hHeld ?_
        rotate_left
        · (intro W _; go_simp <;> (try with_reducible rfl))
        refine take_v (v := ?_) 32 ⟨some 49, Op.fieldAddr 82 (Operand.tmp 48) 0, _, _, _, some (27, false)⟩ rfl (fun _ _ _ h => h) ?_ hHeld ?_
        rotate_left
        · (intro W _; go_simp <;> (try with_reducible rfl))
        refine take_v (v := ?_) 33 ⟨some 50, Op.load 23 (Operand.tmp 49), _, _, _, some (27, false)⟩ rfl (fun _ _ _ h => h) ?_ hHeld ?_
        rotate_left
        · (intro W hSW; (have s0 := hSW.1.cell 0 rfl; have s1 := hSW.1.cell 1 rfl; have s2 := hSW.1.cell 2 rfl; have sz := hSW.1.2; have t0 := hSW.2.1.cell k HU.out; have tz := hSW.2.1.2; have o0 := hSW.2.2.1.cell 0 rfl; have o5 := hSW.2.2.1.cell 5 rfl; have oz := hSW.2.2.1.2; obtain ⟨c0, c1, c2, c3, c4, c5⟩ := call_cells hSW.2.2.2.1 hi; have bz := hSW.2.2.2.2); go_simp <;> (try with_reducible rfl))
        refine take_v (v := ?_) 34 ⟨some 51, Op.move (Operand.tmp 1), _, _, _, some (27, false)⟩ rfl (fun _ _ _ h => h) ?_ hHeld ?_
        rotate_left
        · (intro W _; go_simp <;> (try with_reducible rfl))
        refine take_v (v := ?_) 35 ⟨some 52, Op.indexAddr 23 (Operand.tmp 50) (Operand.tmp 51), _, _, _, some (27, false)⟩ rfl (fun _ _ _ h => h) ?_ hHeld ?_
        rotate_left
        · (intro W _; go_simp <;> (try with_reducible rfl))
        refine take_v (v := ?_) 36 ⟨some 53, Op.fieldAddr 28 (Operand.tmp 52) 0, _, _, _, some (27, false)⟩ rfl (fun _ _ _ h => h) ?_ hHeld ?_
        rotate_left
        · (intro W _; go_simp <;> (try with_reducible rfl))
        refine take_v (v := ?_) 37 ⟨some 54, Op.load 3 (Operand.tmp 53), _, _, _, some (27, false)⟩ rfl (fun _ _ _ h => h) ?_ hHeld ?_
        rotate_left
        · (intro W hSW; (have s0 := hSW.1.cell 0 rfl; have s1 := hSW.1.cell 1 rfl; have s2 := hSW.1.cell 2 rfl; have sz := hSW.1.2; have t0 := hSW.2.1.cell k HU.out; have tz := hSW.2.1.2; have o0 := hSW.2.2.1.cell 0 rfl; have o5 := hSW.2.2.1.cell 5 rfl; have oz := hSW.2.2.1.2; obtain ⟨c0, c1, c2, c3, c4, c5⟩ := call_cells hSW.2.2.2.1 hi; have bz := hSW.2.2.2.2); go_simp <;> (try with_reducible rfl))
        refine take_v (v := ?_) 38 ⟨some 55, Op.binOp BinOp.eql 3 (Operand.tmp 46) (Operand.tmp 54) 3, _, _, _, some (27, false)⟩ rfl (fun _ _ _ h => h) ?_ hHeld ?_
        rotate_left
        · (intro W _; go_simp <;> (try with_reducible rfl))
        refine take_v (v := ?_) 39 ⟨some 56, Op.pick (Operand.tmp 44) (Operand.const (Value.bool true)) (Operand.tmp 55), _, _, _, some (21, true)⟩ rfl (fun _ _ _ h => h) ?_ hHeld ?_
        rotate_left
        · (intro W _; go_simp <;> (try with_reducible rfl))
        refine take_v (v := ?_) 40 ⟨some 57, Op.pick (Operand.tmp 38) (Operand.tmp 56) (Operand.const (Value.bool false)), _, _, _, none⟩ rfl (fun _ _ _ h => h) ?_ hHeld ?_
        rotate_left
        · (intro W _; go_simp <;> (try with_reducible rfl))
        refine wpAnyH_done (by kernel_rfl) ?_ _
        refine NoPanic.normal ?_
        clear hHeld
        have HV : Hid (waitK V true ord k i = false) := (waitK_of eu ((mustB_at el).trans ep))
        go_wp2
        go_roundw
        case rel => exact ⟨k + 1, by omega, by go_num, upto_succ HNo.out HV.out, HD.out.2⟩
        case measure => simp [intOf]; omega
      refine wp_region_noPanic ?_
      refine wp_region_held_drew (S := fun W => Bx W g [.slice (some ⟨b, off, none⟩) n cap, .bool true, .slice (some ⟨ub, 0, none⟩) n n, ov, .slice la L.length lc] ∧ Bx W ub (usedC n ord) ∧ Bx W wr.heap.size [.int .i64 (V k).f0, .bool (V k).f1, .string (V k).f2, .string (V k).f3, .int .i64 (V k).f4, .int .i64 (V k).f5] ∧ Elems W b off n 6 (callF V) ∧ b < W.heap.size) (by kernel_rfl) HD.out.1 (fun hHeld => ?_)
      refine take_v (v := ?_) 0 ⟨some 17, Op.move (Operand.tmp 0), _, _, _, none⟩ rfl (fun _ _ _ h => h) ?_ hHeld ?_
      rotate_left
      · (intro W _; go_simp <;> (try with_reducible rfl))
      refine take_v (v := ?_) 1 ⟨some 18, Op.nilCheck (Operand.tmp 17), _, _, _, none⟩ rfl (fun _ _ _ h => h) ?_ hHeld ?_
      rotate_left
      · (intro W _; go_simp <;> (try with_reducible rfl))
      refine take_v (v := ?_) 2 ⟨some 19, Op.fieldAddr 82 (Operand.tmp 18) 2, _, _, _, none⟩ rfl (fun _ _ _ h => h) ?_ hHeld ?_
      rotate_left
      · (intro W _; go_simp <;> (try with_reducible rfl))
      refine take_v (v := ?_) 3 ⟨some 20, Op.load 80 (Operand.tmp 19), _, _, _, none⟩ rfl (fun _ _ _ h => h) ?_ hHeld ?_
      rotate_left
      · (intro W hSW; (have s0 := hSW.1.cell 0 rfl; have s1 := hSW.1.cell 1 rfl; have s2 := hSW.1.cell 2 rfl; have sz := hSW.1.2; have t0 := hSW.2.1.cell k HU.out; have tz := hSW.2.1.2; have o0 := hSW.2.2.1.cell 0 rfl; have o5 := hSW.2.2.1.cell 5 rfl; have oz := hSW.2.2.1.2; obtain ⟨c0, c1, c2, c3, c4, c5⟩ := call_cells hSW.2.2.2.1 hi; have bz := hSW.2.2.2.2); go_simp <;> (try with_reducible rfl))
      refine take_v (v := ?_) 4 ⟨some 21, Op.move (Operand.tmp 5), _, _, _, none⟩ rfl (fun _ _ _ h => h) ?_ hHeld ?_
      rotate_left
      · (intro W _; go_simp <;> (try with_reducible rfl))
      refine take_v (v := ?_) 5 ⟨some 22, Op.indexAddr 80 (Operand.tmp 20) (Operand.tmp 21), _, _, _, none⟩ rfl (fun _ _ _ h => h) ?_ hHeld ?_
      rotate_left
      · (intro W _; go_simp <;> (try with_reducible rfl))
      refine take_v (v := ?_) 6 ⟨some 23, Op.load 4 (Operand.tmp 22), _, _, _, none⟩ rfl (fun _ _ _ h => h) ?_ hHeld ?_
      rotate_left
      · (intro W hSW; (have s0 := hSW.1.cell 0 rfl; have s1 := hSW.1.cell 1 rfl; have s2 := hSW.1.cell 2 rfl; have sz := hSW.1.2; have t0 := hSW.2.1.cell k HU.out; have tz := hSW.2.1.2; have o0 := hSW.2.2.1.cell 0 rfl; have o5 := hSW.2.2.1.cell 5 rfl; have oz := hSW.2.2.1.2; obtain ⟨c0, c1, c2, c3, c4, c5⟩ := call_cells hSW.2.2.2.1 hi; have bz := hSW.2.2.2.2); go_simp <;> (try with_reducible rfl))
      refine take_v (v := ?_) 7 ⟨some 24, Op.unOp UnOp.not 4 (Operand.tmp 23), _, _, _, none⟩ rfl (fun _ _ _ h => h) ?_ hHeld ?_
      rotate_left
      · (intro W _; go_simp <;> (try with_reducible rfl))
      refine take_v (v := ?_) 8 ⟨some 25, Op.move (Operand.tmp 24), _, _, _, none⟩ rfl (fun _ _ _ h => h) ?_ hHeld ?_
      rotate_left
      · (intro W _; go_simp <;> (try with_reducible rfl))
      refine take_v (v := ?_) 9 ⟨some 26, Op.fieldAddr 28 (Operand.tmp 6) 5, _, _, _, some (8, true)⟩ rfl (fun _ _ _ h => h) ?_ hHeld ?_
      rotate_left
      · (intro W _; go_simp <;> (try with_reducible rfl))
      refine take_v (v := ?_) 10 ⟨some 27, Op.load 3 (Operand.tmp 26), _, _, _, some (8, true)⟩ rfl (fun _ _ _ h => h) ?_ hHeld ?_
      rotate_left
      · (intro W hSW; (have s0 := hSW.1.cell 0 rfl; have s1 := hSW.1.cell 1 rfl; have s2 := hSW.1.cell 2 rfl; have sz := hSW.1.2; have t0 := hSW.2.1.cell k HU.out; have tz := hSW.2.1.2; have o0 := hSW.2.2.1.cell 0 rfl; have o5 := hSW.2.2.1.cell 5 rfl; have oz := hSW.2.2.1.2; obtain ⟨c0, c1, c2, c3, c4, c5⟩ := call_cells hSW.2.2.2.1 hi; have bz := hSW.2.2.2.2); go_simp <;> (try with_reducible rfl))
      refine take_v (v := ?_) 11 ⟨some 28, Op.move (Operand.tmp 0), _, _, _, some (8, true)⟩ rfl (fun _ _ _ h => h) ?_ hHeld ?_
      rotate_left
      · (intro W _; go_simp <;> (try with_reducible rfl))
      refine take_v (v := ?_) 12 ⟨some 29, Op.nilCheck (Operand.tmp 28), _, _, _, some (8, true)⟩ rfl (fun _ _ _ h => h) ?_ hHeld ?_
      rotate_left
      · (intro W _; go_simp <;> (try with_reducible rfl))
      refine take_v (v := ?_) 13 ⟨some 30, Op.fieldAddr 82 (Operand.tmp 29) 0, _, _, _, some (8, true)⟩ rfl (fun _ _ _ h => h) ?_ hHeld ?_
      rotate_left
      · (intro W _; go_simp <;> (try with_reducible rfl))
      refine take_v (v := ?_) 14 ⟨some 31, Op.load 23 (Operand.tmp 30), _, _, _, some (8, true)⟩ rfl (fun _ _ _ h => h) ?_ hHeld ?_
      rotate_left
      · (intro W hSW; (have s0 := hSW.1.cell 0 rfl; have s1 := hSW.1.cell 1 rfl; have s2 := hSW.1.cell 2 rfl; have sz := hSW.1.2; have t0 := hSW.2.1.cell k HU.out; have tz := hSW.2.1.2; have o0 := hSW.2.2.1.cell 0 rfl; have o5 := hSW.2.2.1.cell 5 rfl; have oz := hSW.2.2.1.2; obtain ⟨c0, c1, c2, c3, c4, c5⟩ := call_cells hSW.2.2.2.1 hi; have bz := hSW.2.2.2.2); go_simp <;> (try with_reducible rfl))
      refine take_v (v := ?_) 15 ⟨some 32, Op.move (Operand.tmp 1), _, _, _, some (8, true)⟩ rfl (fun _ _ _ h => h) ?_ hHeld ?_
      rotate_left
      · (intro W _; go_simp <;> (try with_reducible rfl))
      refine take_v (v := ?_) 16 ⟨some 33, Op.indexAddr 23 (Operand.tmp 31) (Operand.tmp 32), _, _, _, some (8, true)⟩ rfl (fun _ _ _ h => h) ?_ hHeld ?_
      rotate_left
      · (intro W _; go_simp <;> (try with_reducible rfl))
      refine take_v (v := ?_) 17 ⟨some 34, Op.fieldAddr 28 (Operand.tmp 33) 4, _, _, _, some (8, true)⟩ rfl (fun _ _ _ h => h) ?_ hHeld ?_
      rotate_left
      · (intro W _; go_simp <;> (try with_reducible rfl))
      refine take_v (v := ?_) 18 ⟨some 35, Op.load 3 (Operand.tmp 34), _, _, _, some (8, true)⟩ rfl (fun _ _ _ h => h) ?_ hHeld ?_
      rotate_left
      · (intro W hSW; (have s0 := hSW.1.cell 0 rfl; have s1 := hSW.1.cell 1 rfl; have s2 := hSW.1.cell 2 rfl; have sz := hSW.1.2; have t0 := hSW.2.1.cell k HU.out; have tz := hSW.2.1.2; have o0 := hSW.2.2.1.cell 0 rfl; have o5 := hSW.2.2.1.cell 5 rfl; have oz := hSW.2.2.1.2; obtain ⟨c0, c1, c2, c3, c4, c5⟩ := call_cells hSW.2.2.2.1 hi; have bz := hSW.2.2.2.2); go_simp <;> (try with_reducible rfl))
      refine take_v (v := ?_) 19 ⟨some 36, Op.binOp BinOp.lss 3 (Operand.tmp 27) (Operand.tmp 35) 3, _, _, _, some (8, true)⟩ rfl (fun _ _ _ h => h) ?_ hHeld ?_
      rotate_left
      · (intro W _; go_simp <;> (try with_reducible rfl))
      refine take_v (v := ?_) 20 ⟨some 37, Op.pick (Operand.tmp 25) (Operand.tmp 36) (Operand.const (Value.bool false)), _, _, _, none⟩ rfl (fun _ _ _ h => h) ?_ hHeld ?_
      rotate_left
      · (intro W _; go_simp <;> (try with_reducible rfl))
      refine take_v (v := ?_) 21 ⟨some 38, Op.move (Operand.tmp 37), _, _, _, none⟩ rfl (fun _ _ _ h => h) ?_ hHeld ?_
      rotate_left
      · (intro W _; go_simp <;> (try with_reducible rfl))
      refine take_v (v := ?_) 22 ⟨some 39, Op.move (Operand.tmp 0), _, _, _, some (21, true)⟩ rfl (fun _ _ _ h => h) ?_ hHeld ?_
      rotate_left
      · (intro W _; go_simp <;> (try with_reducible rfl))
      refine take_v (v := ?_) 23 ⟨some 40, Op.nilCheck (Operand.tmp 39), _, _, _, some (21, true)⟩ rfl (fun _ _ _ h => h) ?_ hHeld ?_
      rotate_left
      · (intro W _; go_simp <;> (try with_reducible rfl))
      refine take_v (v := ?_) 24 ⟨some 41, Op.fieldAddr 82 (Operand.tmp 40) 1, _, _, _, some (21, true)⟩ rfl (fun _ _ _ h => h) ?_ hHeld ?_
      rotate_left
      · (intro W _; go_simp <;> (try with_reducible rfl))
      refine take_v (v := ?_) 25 ⟨some 42, Op.load 4 (Operand.tmp 41), _, _, _, some (21, true)⟩ rfl (fun _ _ _ h => h) ?_ hHeld ?_
      rotate_left
      · (intro W hSW; (have s0 := hSW.1.cell 0 rfl; have s1 := hSW.1.cell 1 rfl; have s2 := hSW.1.cell 2 rfl; have sz := hSW.1.2; have t0 := hSW.2.1.cell k HU.out; have tz := hSW.2.1.2; have o0 := hSW.2.2.1.cell 0 rfl; have o5 := hSW.2.2.1.cell 5 rfl; have oz := hSW.2.2.1.2; obtain ⟨c0, c1, c2, c3, c4, c5⟩ := call_cells hSW.2.2.2.1 hi; have bz := hSW.2.2.2.2); go_simp <;> (try with_reducible rfl))
      refine take_v (v := ?_) 26 ⟨some 43, Op.unOp UnOp.not 4 (Operand.tmp 42), _, _, _, some (21, true)⟩ rfl (fun _ _ _ h => h) ?_ hHeld ?_
      rotate_left
      · (intro W _; go_simp <;> (try with_reducible rfl))
      refine take_v (v := ?_) 27 ⟨some 44, Op.move (Operand.tmp 43), _, _, _, some (21, true)⟩ rfl (fun _ _ _ h => h) ?_ hHeld ?_
      rotate_left
      · (intro W _; go_simp <;> (try with_reducible rfl))
      refine take_v (v := ?_) 28 ⟨some 45, Op.fieldAddr 28 (Operand.tmp 6) 0, _, _, _, some (27, false)⟩ rfl (fun _ _ _ h => h) ?_ hHeld ?_
      rotate_left
      · (intro W _; go_simp <;> (try with_reducible rfl))
      refine take_v (v := ?_) 29 ⟨some 46, Op.load 3 (Operand.tmp 45), _, _, _, some (27, false)⟩ rfl (fun _ _ _ h => h) ?_ hHeld ?_
      rotate_left
      · (intro W hSW; (have s0 := hSW.1.cell 0 rfl; have s1 := hSW.1.cell 1 rfl; have s2 := hSW.1.cell 2 rfl; have sz := hSW.1.2; have t0 := hSW.2.1.cell k HU.out; have tz := hSW.2.1.2; have o0 := hSW.2.2.1.cell 0 rfl; have o5 := hSW.2.2.1.cell 5 rfl; have oz := hSW.2.2.1.2; obtain ⟨c0, c1, c2, c3, c4, c5⟩ := call_cells hSW.2.2.2.1 hi; have bz := hSW.2.2.2.2); go_simp <;> (try with_reducible rfl))
      refine take_v (v := ?_) 30 ⟨some 47, Op.move (Operand.tmp 0), _, _, _, some (27, false)⟩ rfl (fun _ _ _ h => h) ?_ hHeld ?_
      rotate_left
      · (intro W _; go_simp <;> (try with_reducible rfl))
      refine take_v (v := ?_) 31 ⟨some 48, Op.nilCheck (Operand.tmp 47), _, _, _, some (27, false)⟩ rfl (fun _ _ _ h => h) ?_ hHeld ?_
      rotate_left
      · (intro W _; go_simp <;> (try with_reducible rfl))
      refine take_v (v := ?_) 32 ⟨some 49, Op.fieldAddr 82 (Operand.tmp 48) 0, _, _, _, some (27, false)⟩ rfl (fun _ _ _ h => h) ?_ hHeld ?_
      rotate_left
      · (intro W _; go_simp <;> (try with_reducible rfl))
      refine take_v (v := ?_) 33 ⟨some 50, Op.load 23 (Operand.tmp 49), _, _, _, some (27, false)⟩ rfl (fun _ _ _ h => h) ?_ hHeld ?_
      rotate_left
      · (intro W hSW; (have s0 := hSW.1.cell 0 rfl; have s1 := hSW.1.cell 1 rfl; have s2 := hSW.1.cell 2 rfl; have sz := hSW.1.2; have t0 := hSW.2.1.cell k HU.out; have tz := hSW.2.1.2; have o0 := hSW.2.2.1.cell 0 rfl; have o5 := hSW.2.2.1.cell 5 rfl; have oz := hSW.2.2.1.2; obtain ⟨c0, c1, c2, c3, c4, c5⟩ := call_cells hSW.2.2.2.1 hi; have bz := hSW.2.2.2.2); go_simp <;> (try with_reducible rfl))
      refine take_v (v := ?_) 34 ⟨some 51, Op.move (Operand.tmp 1), _, _, _, some (27, false)⟩ rfl (fun _ _ _ h => h) ?_ hHeld ?_
      rotate_left
      · (intro W _; go_simp <;> (try with_reducible rfl))
      refine take_v (v := ?_) 35 ⟨some 52, Op.indexAddr 23 (Operand.tmp 50) (Operand.tmp 51), _, _, _, some (27, false)⟩ rfl (fun _ _ _ h => h) ?_ hHeld ?_
      rotate_left
      · (intro W _; go_simp <;> (try with_reducible rfl))
      refine take_v (v := ?_) 36 ⟨some 53, Op.fieldAddr 28 (Operand.tmp 52) 0, _, _, _, some (27, false)⟩ rfl (fun _ _ _ h => h) ?_ hHeld ?_
      rotate_left
      · (intro W _; go_simp <;> (try with_reducible rfl))
      refine take_v (v := ?_) 37 ⟨some 54, Op.load 3 (Operand.tmp 53), _, _, _, some (27, false)⟩ rfl (fun _ _ _ h => h) ?_ hHeld ?_
      rotate_left
      · (intro W hSW; (have s0 := hSW.1.cell 0 rfl; have s1 := hSW.1.cell 1 rfl; have s2 := hSW.1.cell 2 rfl; have sz := hSW.1.2; have t0 := hSW.2.1.cell k HU.out; have tz := hSW.2.1.2; have o0 := hSW.2.2.1.cell 0 rfl; have o5 := hSW.2.2.1.cell 5 rfl; have oz := hSW.2.2.1.2; obtain ⟨c0, c1, c2, c3, c4, c5⟩ := call_cells hSW.2.2.2.1 hi; have bz := hSW.2.2.2.2); go_simp <;> (try with_reducible rfl))
      refine take_v (v := ?_) 38 ⟨some 55, Op.binOp BinOp.eql 3 (Operand.tmp 46) (Operand.tmp 54) 3, _, _, _, some (27, false)⟩ rfl (fun _ _ _ h => h) ?_ hHeld ?_
      rotate_left
      · (intro W _; go_simp <;> (try with_reducible rfl))
      refine take_v (v := ?_) 39 ⟨some 56, Op.pick (Operand.tmp 44) (Operand.const (Value.bool true)) (Operand.tmp 55), _, _, _, some (21, true)⟩ rfl (fun _ _ _ h => h) ?_ hHeld ?_
      rotate_left
      · (intro W _; go_simp <;> (try with_reducible rfl))
      refine take_v (v := ?_) 40 ⟨some 57, Op.pick (Operand.tmp 38) (Operand.tmp 56) (Operand.const (Value.bool false)), _, _, _, none⟩ rfl (fun _ _ _ h => h) ?_ hHeld ?_
      rotate_left
      · (intro W _; go_simp <;> (try with_reducible rfl))
      refine wpAnyH_done (by kernel_rfl) ?_ _
      refine NoPanic.normal ?_
      clear hHeld
      have HV : Hid (waitB V n true ord i = true) := waitB_yes hlt (waitK_of eu ((mustB_at el).trans ep))
      go_wp2
      go_ret
      exact ⟨ret_bool (by rw [HV.out]; simp), HD.out.2⟩
    · have hkn : k = n := by omega
      have hlt' : ¬ (k : Int) < (n : Int) := by omega
      have HW : Hid (waitB V n true ord i = false) := waitB_no (by rw [← hkn]; exact HNo.out)
      have HZ : Hid (valL L (V i).f2.toList = valO V ord (V i).f2.toList) := HK.out.2.2.2.2.2.2.1 _
      have HD : Hid (Bx wr.drew g [.slice (some ⟨b, off, none⟩) n cap, .bool true, .slice (some ⟨ub, 0, none⟩) n n, ov, .slice la L.length lc] ∧ Elems wr.drew b off n 6 (callF V) ∧ b < wr.drew.heap.size ∧ Sl wr.drew la L.length 2 (cellF (cV L)) ∧ Below w.heap.size w wr.drew) := ⟨HK.out.1.next HBr.out.drew, HK.out.2.2.1.below HBr.out.drew HK.out.2.2.2.1, Nat.lt_of_lt_of_le HK.out.2.2.2.1 HBr.out.drew.size, HK.out.2.2.2.2.1.below HBr.out.drew (Nat.le_refl _), HBr.out.drew⟩
      clear hkn
      go_upto_region 7 with fail
      cases hw : (V i).f1
      · have HF : Hid (fitB V ord i = ((valO V ord (V i).f2.toList).toList == (V i).f3.toList)) := fit_read hw
        refine wp_region_noPanic ?_
        refine wp_region_held_drew (S := fun W => Bx W g [.slice (some ⟨b, off, none⟩) n cap, .bool true, .slice (some ⟨ub, 0, none⟩) n n, ov, .slice la L.length lc] ∧ Elems W b off n 6 (callF V) ∧ b < W.heap.size) (by kernel_rfl) ⟨HD.out.1, HD.out.2.1, HD.out.2.2.1⟩ (fun hHeld => ?_)
        refine take_v (v := ?_) 0 ⟨some 59, Op.move (Operand.tmp 0), _, _, _, none⟩ rfl (fun _ _ _ h => h) ?_ hHeld ?_
        rotate_left
        · (intro W _; go_simp <;> (try with_reducible rfl))
        refine take_v (v := ?_) 1 ⟨some 60, Op.nilCheck (Operand.tmp 59), _, _, _, none⟩ rfl (fun _ _ _ h => h) ?_ hHeld ?_
        rotate_left
        · (intro W _; go_simp <;> (try with_reducible rfl))
        refine take_v (v := ?_) 2 ⟨some 61, Op.fieldAddr 82 (Operand.tmp 60) 0, _, _, _, none⟩ rfl (fun _ _ _ h => h) ?_ hHeld ?_
        rotate_left
        · (intro W _; go_simp <;> (try with_reducible rfl))
        refine take_v (v := ?_) 3 ⟨some 62, Op.load 23 (Operand.tmp 61), _, _, _, none⟩ rfl (fun _ _ _ h => h) ?_ hHeld ?_
        rotate_left
        · (intro W hSW; (have s0 := hSW.1.cell 0 rfl; have s4 := hSW.1.cell 4 rfl; have sz := hSW.1.2; obtain ⟨c0, c1, c2, c3, c4, c5⟩ := call_cells hSW.2.1 hi; rw [hw] at c1; have bz := hSW.2.2); go_simp <;> (try with_reducible rfl))
        refine take_v (v := ?_) 4 ⟨some 63, Op.move (Operand.tmp 1), _, _, _, none⟩ rfl (fun _ _ _ h => h) ?_ hHeld ?_
        rotate_left
        · (intro W _; go_simp <;> (try with_reducible rfl))
        refine take_v (v := ?_) 5 ⟨some 64, Op.indexAddr 23 (Operand.tmp 62) (Operand.tmp 63), _, _, _, none⟩ rfl (fun _ _ _ h => h) ?_ hHeld ?_
        rotate_left
        · (intro W _; go_simp <;> (try with_reducible rfl))
        refine take_v (v := ?_) 6 ⟨some 65, Op.fieldAddr 28 (Operand.tmp 64) 1, _, _, _, none⟩ rfl (fun _ _ _ h => h) ?_ hHeld ?_
        rotate_left
        · (intro W _; go_simp <;> (try with_reducible rfl))
        refine take_v (v := ?_) 7 ⟨some 66, Op.load 4 (Operand.tmp 65), _, _, _, none⟩ rfl (fun _ _ _ h => h) ?_ hHeld ?_
        rotate_left
        · (intro W hSW; (have s0 := hSW.1.cell 0 rfl; have s4 := hSW.1.cell 4 rfl; have sz := hSW.1.2; obtain ⟨c0, c1, c2, c3, c4, c5⟩ := call_cells hSW.2.1 hi; rw [hw] at c1; have bz := hSW.2.2); go_simp <;> (try with_reducible rfl))
        refine take_v (v := ?_) 8 ⟨some 67, Op.move (Operand.tmp 66), _, _, _, none⟩ rfl (fun _ _ _ h => h) ?_ hHeld ?_
        rotate_left
        · (intro W _; go_simp <;> (try with_reducible rfl))
        refine take_v (v := ?_) 9 ⟨some 68, Op.move (Operand.tmp 0), _, _, _, some (8, false)⟩ rfl (fun _ _ _ h => h) ?_ hHeld ?_
        rotate_left
        · (intro W _; go_simp <;> (try with_reducible rfl))
        refine take_v (v := ?_) 10 ⟨some 69, Op.nilCheck (Operand.tmp 68), _, _, _, some (8, false)⟩ rfl (fun _ _ _ h => h) ?_ hHeld ?_
        rotate_left
        · (intro W _; go_simp <;> (try with_reducible rfl))
        refine take_v (v := ?_) 11 ⟨some 70, Op.fieldAddr 82 (Operand.tmp 69) 4, _, _, _, some (8, false)⟩ rfl (fun _ _ _ h => h) ?_ hHeld ?_
        rotate_left
        · (intro W _; go_simp <;> (try with_reducible rfl))
        refine take_v (v := ?_) 12 ⟨some 71, Op.load 56 (Operand.tmp 70), _, _, _, some (8, false)⟩ rfl (fun _ _ _ h => h) ?_ hHeld ?_
        rotate_left
        · (intro W hSW; (have s0 := hSW.1.cell 0 rfl; have s4 := hSW.1.cell 4 rfl; have sz := hSW.1.2; obtain ⟨c0, c1, c2, c3, c4, c5⟩ := call_cells hSW.2.1 hi; rw [hw] at c1; have bz := hSW.2.2); go_simp <;> (try with_reducible rfl))
        refine take_v (v := ?_) 13 ⟨some 72, Op.move (Operand.tmp 0), _, _, _, some (8, false)⟩ rfl (fun _ _ _ h => h) ?_ hHeld ?_
        rotate_left
        · (intro W _; go_simp <;> (try with_reducible rfl))
        refine take_v (v := ?_) 14 ⟨some 73, Op.nilCheck (Operand.tmp 72), _, _, _, some (8, false)⟩ rfl (fun _ _ _ h => h) ?_ hHeld ?_
        rotate_left
        · (intro W _; go_simp <;> (try with_reducible rfl))
        refine take_v (v := ?_) 15 ⟨some 74, Op.fieldAddr 82 (Operand.tmp 73) 0, _, _, _, some (8, false)⟩ rfl (fun _ _ _ h => h) ?_ hHeld ?_
        rotate_left
        · (intro W _; go_simp <;> (try with_reducible rfl))
        refine take_v (v := ?_) 16 ⟨some 75, Op.load 23 (Operand.tmp 74), _, _, _, some (8, false)⟩ rfl (fun _ _ _ h => h) ?_ hHeld ?_
        rotate_left
        · (intro W hSW; (have s0 := hSW.1.cell 0 rfl; have s4 := hSW.1.cell 4 rfl; have sz := hSW.1.2; obtain ⟨c0, c1, c2, c3, c4, c5⟩ := call_cells hSW.2.1 hi; rw [hw] at c1; have bz := hSW.2.2); go_simp <;> (try with_reducible rfl))
        refine take_v (v := ?_) 17 ⟨some 76, Op.move (Operand.tmp 1), _, _, _, some (8, false)⟩ rfl (fun _ _ _ h => h) ?_ hHeld ?_
        rotate_left
        · (intro W _; go_simp <;> (try with_reducible rfl))
        refine take_v (v := ?_) 18 ⟨some 77, Op.indexAddr 23 (Operand.tmp 75) (Operand.tmp 76), _, _, _, some (8, false)⟩ rfl (fun _ _ _ h => h) ?_ hHeld ?_
        rotate_left
        · (intro W _; go_simp <;> (try with_reducible rfl))
        refine take_v (v := ?_) 19 ⟨some 78, Op.fieldAddr 28 (Operand.tmp 77) 2, _, _, _, some (8, false)⟩ rfl (fun _ _ _ h => h) ?_ hHeld ?_
        rotate_left
        · (intro W _; go_simp <;> (try with_reducible rfl))
        refine take_v (v := ?_) 20 ⟨some 79, Op.load 9 (Operand.tmp 78), _, _, _, some (8, false)⟩ rfl (fun _ _ _ h => h) ?_ hHeld ?_
        rotate_left
        · (intro W hSW; (have s0 := hSW.1.cell 0 rfl; have s4 := hSW.1.cell 4 rfl; have sz := hSW.1.2; obtain ⟨c0, c1, c2, c3, c4, c5⟩ := call_cells hSW.2.1 hi; rw [hw] at c1; have bz := hSW.2.2); go_simp <;> (try with_reducible rfl))
        refine take_v (v := ?_) 22 ⟨some 81, Op.move (Operand.tmp 0), _, _, _, some (8, false)⟩ rfl (fun _ _ _ h => h) ?_ hHeld ?_
        rotate_left
        · (intro W _; go_simp <;> (try with_reducible rfl))
        refine take_v (v := ?_) 23 ⟨some 82, Op.nilCheck (Operand.tmp 81), _, _, _, some (8, false)⟩ rfl (fun _ _ _ h => h) ?_ hHeld ?_
        rotate_left
        · (intro W _; go_simp <;> (try with_reducible rfl))
        refine take_v (v := ?_) 24 ⟨some 83, Op.fieldAddr 82 (Operand.tmp 82) 0, _, _, _, some (8, false)⟩ rfl (fun _ _ _ h => h) ?_ hHeld ?_
        rotate_left
        · (intro W _; go_simp <;> (try with_reducible rfl))
        refine take_v (v := ?_) 25 ⟨some 84, Op.load 23 (Operand.tmp 83), _, _, _, some (8, false)⟩ rfl (fun _ _ _ h => h) ?_ hHeld ?_
        rotate_left
        · (intro W hSW; (have s0 := hSW.1.cell 0 rfl; have s4 := hSW.1.cell 4 rfl; have sz := hSW.1.2; obtain ⟨c0, c1, c2, c3, c4, c5⟩ := call_cells hSW.2.1 hi; rw [hw] at c1; have bz := hSW.2.2); go_simp <;> (try with_reducible rfl))
        refine take_v (v := ?_) 26 ⟨some 85, Op.move (Operand.tmp 1), _, _, _, some (8, false)⟩ rfl (fun _ _ _ h => h) ?_ hHeld ?_
        rotate_left
        · (intro W _; go_simp <;> (try with_reducible rfl))
        refine take_v (v := ?_) 27 ⟨some 86, Op.indexAddr 23 (Operand.tmp 84) (Operand.tmp 85), _, _, _, some (8, false)⟩ rfl (fun _ _ _ h => h) ?_ hHeld ?_
        rotate_left
        · (intro W _; go_simp <;> (try with_reducible rfl))
        refine take_v (v := ?_) 28 ⟨some 87, Op.fieldAddr 28 (Operand.tmp 86) 3, _, _, _, some (8, false)⟩ rfl (fun _ _ _ h => h) ?_ hHeld ?_
        rotate_left
        · (intro W _; go_simp <;> (try with_reducible rfl))
        refine take_v (v := ?_) 29 ⟨some 88, Op.load 9 (Operand.tmp 87), _, _, _, some (8, false)⟩ rfl (fun _ _ _ h => h) ?_ hHeld ?_
        rotate_left
        · (intro W hSW; (have s0 := hSW.1.cell 0 rfl; have s4 := hSW.1.cell 4 rfl; have sz := hSW.1.2; obtain ⟨c0, c1, c2, c3, c4, c5⟩ := call_cells hSW.2.1 hi; rw [hw] at c1; have bz := hSW.2.2); go_simp <;> (try with_reducible rfl))
        refine ready_call 21 ⟨some 80, Op.call { callee := Callee.value (Operand.func 50), args := #[Operand.tmp 71, Operand.tmp 79], argTypes := #[56, 9] }, _, _, _, some (8, false)⟩ (by kernel_rfl) rfl (by kernel_rfl) (fun KC hK => ?_)
        go_wp2_with fail
        refine (l3Value_any _ _ L (V i).f2 _ (by omega) HD.out.2.2.2.1).mono ?_
        rintro r w2 ⟨rfl, hb⟩
        have H2 : Hid ((Bx w2 g [.slice (some ⟨b, off, none⟩) n cap, .bool true, .slice (some ⟨ub, 0, none⟩) n n, ov, .slice la L.length lc] ∧ Elems w2 b off n 6 (callF V) ∧ b < w2.heap.size) ∧ Below w.heap.size w w2) := ⟨⟨HD.out.1.next hb, HD.out.2.1.below hb HD.out.2.2.1, Nat.lt_of_lt_of_le HD.out.2.2.1 hb.size⟩, below_nx HD.out.2.2.2.2 hb⟩
        rw [HZ.out]
        clear hb
        refine hK.out _ _ H2.out.1 (fun hHeld => ?_)
        clear hK KC
        refine take_v (v := ?_) 30 ⟨some 89, Op.binOp BinOp.eql 9 (Operand.tmp 80) (Operand.tmp 88) 9, _, _, _, some (8, false)⟩ rfl (fun _ _ _ h => h) ?_ hHeld ?_
        rotate_left
        · (intro W _; go_simp <;> (try with_reducible rfl))
        refine take_v (v := ?_) 31 ⟨some 90, Op.pick (Operand.tmp 67) (Operand.const (Value.bool true)) (Operand.tmp 89), _, _, _, none⟩ rfl (fun _ _ _ h => h) ?_ hHeld ?_
        rotate_left
        · (intro W _; go_simp <;> (try with_reducible rfl))
        refine take_v (v := ?_) 32 ⟨some 4, Op.assign (Operand.tmp 90), _, _, _, none⟩ rfl (fun _ _ _ h => h) ?_ hHeld ?_
        rotate_left
        · (intro W _; go_simp <;> (try with_reducible rfl))
        refine wpAnyH_done (by kernel_rfl) ?_ _
        refine NoPanic.normal ?_
        clear hHeld
        go_wp2
        go_ret
        exact ⟨ret_bool (by rw [HW.out, HF.out]; simp), H2.out.2⟩
      · have HF : Hid (fitB V ord i = true) := fit_write hw
        refine wp_region_noPanic ?_
        refine wp_region_held_drew (S := fun W => Bx W g [.slice (some ⟨b, off, none⟩) n cap, .bool true, .slice (some ⟨ub, 0, none⟩) n n, ov, .slice la L.length lc] ∧ Elems W b off n 6 (callF V) ∧ b < W.heap.size) (by kernel_rfl) ⟨HD.out.1, HD.out.2.1, HD.out.2.2.1⟩ (fun hHeld => ?_)
        refine take_v (v := ?_) 0 ⟨some 59, Op.move (Operand.tmp 0), _, _, _, none⟩ rfl (fun _ _ _ h => h) ?_ hHeld ?_
        rotate_left
        · (intro W _; go_simp <;> (try with_reducible rfl))
        refine take_v (v := ?_) 1 ⟨some 60, Op.nilCheck (Operand.tmp 59), _, _, _, none⟩ rfl (fun _ _ _ h => h) ?_ hHeld ?_
        rotate_left
        · (intro W _; go_simp <;> (try with_reducible rfl))
        refine take_v (v := ?_) 2 ⟨some 61, Op.fieldAddr 82 (Operand.tmp 60) 0, _, _, _, none⟩ rfl (fun _ _ _ h => h) ?_ hHeld ?_
        rotate_left
        · (intro W _; go_simp <;> (try with_reducible rfl))
        refine take_v (v := ?_) 3 ⟨some 62, Op.load 23 (Operand.tmp 61), _, _, _, none⟩ rfl (fun _ _ _ h => h) ?_ hHeld ?_
        rotate_left
        · (intro W hSW; (have s0 := hSW.1.cell 0 rfl; have s4 := hSW.1.cell 4 rfl; have sz := hSW.1.2; obtain ⟨c0, c1, c2, c3, c4, c5⟩ := call_cells hSW.2.1 hi; rw [hw] at c1; have bz := hSW.2.2); go_simp <;> (try with_reducible rfl))
        refine take_v (v := ?_) 4 ⟨some 63, Op.move (Operand.tmp 1), _, _, _, none⟩ rfl (fun _ _ _ h => h) ?_ hHeld ?_
        rotate_left
        · (intro W _; go_simp <;> (try with_reducible rfl))
        refine take_v (v := ?_) 5 ⟨some 64, Op.indexAddr 23 (Operand.tmp 62) (Operand.tmp 63), _, _, _, none⟩ rfl (fun _ _ _ h => h) ?_ hHeld ?_
        rotate_left
        · (intro W _; go_simp <;> (try with_reducible rfl))
        refine take_v (v := ?_) 6 ⟨some 65, Op.fieldAddr 28 (Operand.tmp 64) 1, _, _, _, none⟩ rfl (fun _ _ _ h => h) ?_ hHeld ?_
        rotate_left
        · (intro W _; go_simp <;> (try with_reducible rfl))
        refine take_v (v := ?_) 7 ⟨some 66, Op.load 4 (Operand.tmp 65), _, _, _, none⟩ rfl (fun _ _ _ h => h) ?_ hHeld ?_
        rotate_left
        · (intro W hSW; (have s0 := hSW.1.cell 0 rfl; have s4 := hSW.1.cell 4 rfl; have sz := hSW.1.2; obtain ⟨c0, c1, c2, c3, c4, c5⟩ := call_cells hSW.2.1 hi; rw [hw] at c1; have bz := hSW.2.2); go_simp <;> (try with_reducible rfl))
        refine take_v (v := ?_) 8 ⟨some 67, Op.move (Operand.tmp 66), _, _, _, none⟩ rfl (fun _ _ _ h => h) ?_ hHeld ?_
        rotate_left
        · (intro W _; go_simp <;> (try with_reducible rfl))
        refine take_n 9 ⟨some 68, Op.move (Operand.tmp 0), _, _, _, some (8, false)⟩ rfl (fun _ _ _ h => h) hHeld ?_
        refine take_n 10 ⟨some 69, Op.nilCheck (Operand.tmp 68), _, _, _, some (8, false)⟩ rfl (fun _ _ _ h => h) hHeld ?_
        refine take_n 11 ⟨some 70, Op.fieldAddr 82 (Operand.tmp 69) 4, _, _, _, some (8, false)⟩ rfl (fun _ _ _ h => h) hHeld ?_
        refine take_n 12 ⟨some 71, Op.load 56 (Operand.tmp 70), _, _, _, some (8, false)⟩ rfl (fun _ _ _ h => h) hHeld ?_
        refine take_n 13 ⟨some 72, Op.move (Operand.tmp 0), _, _, _, some (8, false)⟩ rfl (fun _ _ _ h => h) hHeld ?_
        refine take_n 14 ⟨some 73, Op.nilCheck (Operand.tmp 72), _, _, _, some (8, false)⟩ rfl (fun _ _ _ h => h) hHeld ?_
        refine take_n 15 ⟨some 74, Op.fieldAddr 82 (Operand.tmp 73) 0, _, _, _, some (8, false)⟩ rfl (fun _ _ _ h => h) hHeld ?_
        refine take_n 16 ⟨some 75, Op.load 23 (Operand.tmp 74), _, _, _, some (8, false)⟩ rfl (fun _ _ _ h => h) hHeld ?_
        refine take_n 17 ⟨some 76, Op.move (Operand.tmp 1), _, _, _, some (8, false)⟩ rfl (fun _ _ _ h => h) hHeld ?_
        refine take_n 18 ⟨some 77, Op.indexAddr 23 (Operand.tmp 75) (Operand.tmp 76), _, _, _, some (8, false)⟩ rfl (fun _ _ _ h => h) hHeld ?_
        refine take_n 19 ⟨some 78, Op.fieldAddr 28 (Operand.tmp 77) 2, _, _, _, some (8, false)⟩ rfl (fun _ _ _ h => h) hHeld ?_
        refine take_n 20 ⟨some 79, Op.load 9 (Operand.tmp 78), _, _, _, some (8, false)⟩ rfl (fun _ _ _ h => h) hHeld ?_
        refine take_n 21 ⟨some 80, Op.call { callee := Callee.value (Operand.func 50), args := #[Operand.tmp 71, Operand.tmp 79], argTypes := #[56, 9] }, _, _, _, some (8, false)⟩ rfl (fun _ _ _ h => h) hHeld ?_
        refine take_n 22 ⟨some 81, Op.move (Operand.tmp 0), _, _, _, some (8, false)⟩ rfl (fun _ _ _ h => h) hHeld ?_
        refine take_n 23 ⟨some 82, Op.nilCheck (Operand.tmp 81), _, _, _, some (8, false)⟩ rfl (fun _ _ _ h => h) hHeld ?_
        refine take_n 24 ⟨some 83, Op.fieldAddr 82 (Operand.tmp 82) 0, _, _, _, some (8, false)⟩ rfl (fun _ _ _ h => h) hHeld ?_
        refine take_n 25 ⟨some 84, Op.load 23 (Operand.tmp 83), _, _, _, some (8, false)⟩ rfl (fun _ _ _ h => h) hHeld ?_
        refine take_n 26 ⟨some 85, Op.move (Operand.tmp 1), _, _, _, some (8, false)⟩ rfl (fun _ _ _ h => h) hHeld ?_
        refine take_n 27 ⟨some 86, Op.indexAddr 23 (Operand.tmp 84) (Operand.tmp 85), _, _, _, some (8, false)⟩ rfl (fun _ _ _ h => h) hHeld ?_
        refine take_n 28 ⟨some 87, Op.fieldAddr 28 (Operand.tmp 86) 3, _, _, _, some (8, false)⟩ rfl (fun _ _ _ h => h) hHeld ?_
        refine take_n 29 ⟨some 88, Op.load 9 (Operand.tmp 87), _, _, _, some (8, false)⟩ rfl (fun _ _ _ h => h) hHeld ?_
        refine take_n 30 ⟨some 89, Op.binOp BinOp.eql 9 (Operand.tmp 80) (Operand.tmp 88) 9, _, _, _, some (8, false)⟩ rfl (fun _ _ _ h => h) hHeld ?_
        refine take_v (v := ?_) 31 ⟨some 90, Op.pick (Operand.tmp 67) (Operand.const (Value.bool true)) (Operand.tmp 89), _, _, _, none⟩ rfl (fun _ _ _ h => h) ?_ hHeld ?_
        rotate_left
        · (intro W _; go_simp <;> (try with_reducible rfl))
        refine take_v (v := ?_) 32 ⟨some 4, Op.assign (Operand.tmp 90), _, _, _, none⟩ rfl (fun _ _ _ h => h) ?_ hHeld ?_
        rotate_left
        · (intro W _; go_simp <;> (try with_reducible rfl))
        refine wpAnyH_done (by kernel_rfl) ?_ _
        refine NoPanic.normal ?_
        clear hHeld
        go_wp2
        go_ret
        exact ⟨ret_bool (by rw [HW.out, HF.out]; rfl), HD.out.2.2.2.2⟩

theorem may_any (own : Bool) (lo : Nat) (w0 w : World) (g ub : Nat) (a : Option Addr) (n cap : Nat) (V : Nat → CallV) (ord : List Nat) (L : List CellV) (ov lv : Value) (KB : List (Nat × Obj)) (i : Nat) (hC : TwoC lo w0 g ub a n cap V) (hi : i < n) (h1 : Two lo w g ub a n cap own ord ord L ov lv KB) (h2 : Sees V n ord L) (h3 : Below lo w0 w) :
    Calls Try.prog 77 #[.pointer (some ⟨g, 0, none⟩), .int .i64 (i : Int)] w fun r w' => r = .returned (.bool (fitB V ord i && !waitB V n own ord i)) ∧ Below w.heap.size w w' := by
  cases own
  · exact may_false lo w0 w g ub a n cap V ord L ov lv KB i hC hi h1 h2 h3
  · exact may_true lo w0 w g ub a n cap V ord L ov lv KB i hC hi h1 h2 h3
end Go.Proofs.Ytkniokbioggkeaa
