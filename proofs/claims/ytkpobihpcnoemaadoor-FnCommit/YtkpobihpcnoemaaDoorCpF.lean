/- Commits: lockPrimary, copyTo. Written by tools/mkCpD.py. -/
import Derived.Test.YtkpobihpcnoemaaDoorCpD
namespace Go.Proofs.YtkpobihpcnoemaaDoor
open Go.RowKit
set_option linter.unusedVariables false
set_option linter.unusedSimpArgs false


set_option maxRecDepth 100000 in
set_option maxHeartbeats 4000000 in
theorem lockPrimary_n (b lo up : Nat) (v : Value) (ss : List Shd) (dr rc k i j : Int) (w : World) (hn : ss.length ≤ 1000) (hr : ∀ s ∈ ss, (srs s).length ≤ 1000) (hlo : 0 < lo ∧ lo ≤ b ∧ b < up) (hf : Flt w) (hx : CmX w b lo up v ss dr rc) :
    Calls Tryd.prog 78 #[.pointer (some ⟨b, 0, none⟩), .agg #[.int .i64 k, .int .i64 i, .int .i64 j]] w (StP lo up b v (stR ss dr rc 1 i j) w) := by
  obtain ⟨va, vc, hv⟩ := hx.form
  subst hv
  obtain ⟨w0, hw0⟩ : ∃ x, x = w.alloc (.cells #[.int .i64 k, .int .i64 i, .int .i64 j] 48) := ⟨_, rfl⟩
  have hb0 : Below w.heap.size w w0 := hw0 ▸ Go.Joins.below_alloc1 _ _
  have hlw : lo ≤ w.heap.size := Nat.le_of_lt (Nat.lt_of_le_of_lt hlo.2.1 hx.1.1.2)
  have HC : Hid (CmX w0 b lo up (.slice va ss.length vc) ss dr rc ∧ Bx w0 w.heap.size [.int .i64 k, .int .i64 i, .int .i64 j] ∧ TurnS (Btw lo up) w w0 ∧ Flt w0 ∧ lo ≤ w.heap.size ∧ lo ≤ w0.heap.size) := ⟨hx.next hb0, hw0 ▸ Bx.new w [_, _, _] _, TurnS.of_below hb0, hf.next hb0 hf.lt, hlw, Nat.le_trans hlw hb0.size⟩
  have HR := Hid.intro hr
  have HLO := Hid.intro hlo
  have HV : Hid (∃ p : Value, p = .slice va ss.length vc) := ⟨_, rfl⟩
  clear hb0 hx hf hr hlo hlw HV
  go_enter Tryd.func78, Tryd.ntmps78
  go_upto_region 1 with fail
  rw [← hw0]
  clear hw0
  by_cases hd : decN dr rc = 0
  case neg =>
    have HE : Hid (stR ss dr rc 1 i j = none) := Hid.intro (stR_open hd (by omega))
    have HD := Hid.intro hd
    clear hd
    go_wp2_with fail
    refine (mustBeOpen_n b va ss.length vc dr rc _ HD.out HC.out.2.2.2.1 HC.out.1.1.1).mono ?_
    rintro r w1 ⟨⟨p, rfl⟩, hb⟩
    have HC := (show Hid (CmX w1 b lo up (.slice va ss.length vc) ss dr rc ∧ Bx w1 w.heap.size [.int .i64 k, .int .i64 i, .int .i64 j] ∧ TurnS (Btw lo up) w w1 ∧ Flt w1 ∧ lo ≤ w.heap.size ∧ lo ≤ w1.heap.size) from ⟨HC.out.1.next hb, HC.out.2.1.next hb, HC.out.2.2.1.next hb, HC.out.2.2.2.1.next hb HC.out.2.2.2.1.lt, HC.out.2.2.2.2.1, Nat.le_trans HC.out.2.2.2.2.2 hb.size⟩)
    exact ⟨rfl, StP.no HE.out ⟨p, rfl⟩ HC.out.2.2.1⟩
  have HD := Hid.intro hd
  clear hd
  go_wp2_with fail
  refine (mustBeOpen_y b va ss.length vc dr rc _ HD.out HC.out.1.1.1).mono ?_
  rintro r w1 ⟨rfl, hb⟩
  have HC := (show Hid (CmX w1 b lo up (.slice va ss.length vc) ss dr rc ∧ Bx w1 w.heap.size [.int .i64 k, .int .i64 i, .int .i64 j] ∧ TurnS (Btw lo up) w w1 ∧ Flt w1 ∧ lo ≤ w.heap.size ∧ lo ≤ w1.heap.size) from ⟨HC.out.1.next hb, HC.out.2.1.next hb, HC.out.2.2.1.next hb, HC.out.2.2.2.1.next hb HC.out.2.2.2.1.lt, HC.out.2.2.2.2.1, Nat.le_trans HC.out.2.2.2.2.2 hb.size⟩)
  clear hb
  have s0 := (HC.out.2.1).cell 0 rfl; have s1 := (HC.out.2.1).cell 1 rfl; have s2 := (HC.out.2.1).cell 2 rfl; have sz := (HC.out.2.1).2
  go_wp2_with fail
  clear s0 s1 s2 sz
  refine (mustBeUp_x b lo up _ ss dr rc k i j _ hn HR.out HC.out.2.2.2.1 HC.out.1).mono ?_
  rintro r w2 ⟨hb, ⟨i', j', q, c, g, c2, l, y, hi, hj, rfl, rfl, hl, hy, hyd, hP, rfl⟩ | ⟨hno, p, rfl⟩⟩
  case inr =>
    have HC := (show Hid (CmX w2 b lo up (.slice va ss.length vc) ss dr rc ∧ Bx w2 w.heap.size [.int .i64 k, .int .i64 i, .int .i64 j] ∧ TurnS (Btw lo up) w w2 ∧ Flt w2 ∧ lo ≤ w.heap.size ∧ lo ≤ w2.heap.size) from ⟨HC.out.1.next hb, HC.out.2.1.next hb, HC.out.2.2.1.next hb, HC.out.2.2.2.1.next hb HC.out.2.2.2.1.lt, HC.out.2.2.2.2.1, Nat.le_trans HC.out.2.2.2.2.2 hb.size⟩)
    exact ⟨rfl, StP.no (hno 1) ⟨p, rfl⟩ HC.out.2.2.1⟩
  have hPn := hP.next HC.out.1 hi hl hj hy hb
  have HC := (show Hid (CmX w2 b lo up (.slice va ss.length vc) ss dr rc ∧ Bx w2 w.heap.size [.int .i64 k, .int .i64 (i' : Int), .int .i64 (j' : Int)] ∧ TurnS (Btw lo up) w w2 ∧ Flt w2 ∧ lo ≤ w.heap.size ∧ lo ≤ w2.heap.size) from ⟨HC.out.1.next hb, HC.out.2.1.next hb, HC.out.2.2.1.next hb, HC.out.2.2.2.1.next hb HC.out.2.2.2.1.lt, HC.out.2.2.2.2.1, Nat.le_trans HC.out.2.2.2.2.2 hb.size⟩)
  have HP := Hid.intro hPn
  have HU : Hid (stR ss dr rc 1 (i' : Int) (j' : Int) = (nxR ss dr rc (mkS l) j' y 1).map fun r' => (ss.set i' (mkS (l.set j' r')), dr, rc)) := Hid.intro (stR_up hi hl hj hy hyd)
  have HL : Hid (l.length ≤ 1000 ∧ rdn y = false ∧ i' < ss.length ∧ j' < l.length) := ⟨by have := HR.out _ (List.getElem_mem hi); rwa [hl] at this, hyd, hi, hj⟩
  obtain ⟨h, hh⟩ : ∃ h, rhs y = h := ⟨_, rfl⟩
  have HH : Hid (rhs y = h) := hh
  clear hb hP hPn hl hy hyd hi hj hh
  have hvq := HP.out.hv
  simp only [Value.slice.injEq, and_true, true_and] at hvq
  obtain ⟨rfl, hvc⟩ := hvq
  clear hvc
  have i0 : (0 : Int) ≤ (i' : Int) ∧ (i' : Int) < (ss.length : Int) := by have := HL.out.2.2.1; omega
  obtain ⟨pm, hpm⟩ : ∃ pm, prm (mkS l) = pm := ⟨_, rfl⟩
  have HPM := Hid.intro hpm
  clear hpm
  go_upto_region 3 with fail
  by_cases hp : pm = (j' : Int)
  case neg =>
    have hq : ((j' : Int) == pm) = false := by simpa using fun q => hp q.symm
    have HE : Hid (stR ss dr rc 1 (i' : Int) (j' : Int) = none) := Hid.intro (by rw [HU.out, show nxR ss dr rc (mkS l) j' y 1 = none from by unfold nxR; rw [if_pos rfl, if_neg (fun q => hp (by rw [← HPM.out]; exact q.2.1))]]; rfl)
    clear hp
    refine wp_region_held_drew (S := fun W => Below w2.heap.size w2 W) (by kernel_rfl) (below_drew _) (fun hHeld => ?_)
    refine take_vp (v := ?_) 0 ⟨some 10, Op.fieldAddr 48 (Operand.tmp 3) 2, _, _, _, none⟩ rfl (fun _ _ _ h => h) ?_ hHeld ?_
    rotate_left
    · (intro W _; go_simp <;> (try with_reducible rfl))
    refine take_vp (v := ?_) 1 ⟨some 11, Op.load 3 (Operand.tmp 10), _, _, _, none⟩ rfl (fun _ _ _ h => h) ?_ hHeld ?_
    rotate_left
    · (intro W hSW; (have s0 := (HC.out.2.1.next hSW).cell 0 rfl; have s1 := (HC.out.2.1.next hSW).cell 1 rfl; have s2 := (HC.out.2.1.next hSW).cell 2 rfl; have sz := (HC.out.2.1.next hSW).2; have u0 := (HC.out.1.1.1.next hSW).cell 0 rfl; have u1 := (HC.out.1.1.1.next hSW).cell 1 rfl; have u2 := (HC.out.1.1.1.next hSW).cell 2 rfl; have uz := (HC.out.1.1.1.next hSW).2; have qs := (hSW.cell (p := ⟨q, i', none⟩) HP.out.hq).trans HP.out.hs); go_simp <;> (try with_reducible rfl))
    refine take_vp (v := ?_) 2 ⟨some 12, Op.move (Operand.tmp 0), _, _, _, none⟩ rfl (fun _ _ _ h => h) ?_ hHeld ?_
    rotate_left
    · (intro W _; go_simp <;> (try with_reducible rfl))
    refine take_vp (v := ?_) 3 ⟨some 13, Op.nilCheck (Operand.tmp 12), _, _, _, none⟩ rfl (fun _ _ _ h => h) ?_ hHeld ?_
    rotate_left
    · (intro W _; go_simp <;> (try with_reducible rfl))
    refine take_vp (v := ?_) 4 ⟨some 14, Op.fieldAddr 29 (Operand.tmp 13) 0, _, _, _, none⟩ rfl (fun _ _ _ h => h) ?_ hHeld ?_
    rotate_left
    · (intro W _; go_simp <;> (try with_reducible rfl))
    refine take_vp (v := ?_) 5 ⟨some 15, Op.load 27 (Operand.tmp 14), _, _, _, none⟩ rfl (fun _ _ _ h => h) ?_ hHeld ?_
    rotate_left
    · (intro W hSW; (have s0 := (HC.out.2.1.next hSW).cell 0 rfl; have s1 := (HC.out.2.1.next hSW).cell 1 rfl; have s2 := (HC.out.2.1.next hSW).cell 2 rfl; have sz := (HC.out.2.1.next hSW).2; have u0 := (HC.out.1.1.1.next hSW).cell 0 rfl; have u1 := (HC.out.1.1.1.next hSW).cell 1 rfl; have u2 := (HC.out.1.1.1.next hSW).cell 2 rfl; have uz := (HC.out.1.1.1.next hSW).2; have qs := (hSW.cell (p := ⟨q, i', none⟩) HP.out.hq).trans HP.out.hs); go_simp <;> (try with_reducible rfl))
    refine take_vp (v := ?_) 6 ⟨some 16, Op.fieldAddr 48 (Operand.tmp 3) 1, _, _, _, none⟩ rfl (fun _ _ _ h => h) ?_ hHeld ?_
    rotate_left
    · (intro W _; go_simp <;> (try with_reducible rfl))
    refine take_vp (v := ?_) 7 ⟨some 17, Op.load 3 (Operand.tmp 16), _, _, _, none⟩ rfl (fun _ _ _ h => h) ?_ hHeld ?_
    rotate_left
    · (intro W hSW; (have s0 := (HC.out.2.1.next hSW).cell 0 rfl; have s1 := (HC.out.2.1.next hSW).cell 1 rfl; have s2 := (HC.out.2.1.next hSW).cell 2 rfl; have sz := (HC.out.2.1.next hSW).2; have u0 := (HC.out.1.1.1.next hSW).cell 0 rfl; have u1 := (HC.out.1.1.1.next hSW).cell 1 rfl; have u2 := (HC.out.1.1.1.next hSW).cell 2 rfl; have uz := (HC.out.1.1.1.next hSW).2; have qs := (hSW.cell (p := ⟨q, i', none⟩) HP.out.hq).trans HP.out.hs); go_simp <;> (try with_reducible rfl))
    refine take_vp (v := ?_) 8 ⟨some 18, Op.indexAddr 27 (Operand.tmp 15) (Operand.tmp 17), _, _, _, none⟩ rfl (fun _ _ _ h => h) ?_ hHeld ?_
    rotate_left
    · (intro W _; go_simp <;> (try with_reducible rfl))
    refine take_vp (v := ?_) 9 ⟨some 19, Op.load 42 (Operand.tmp 18), _, _, _, none⟩ rfl (fun _ _ _ h => h) ?_ hHeld ?_
    rotate_left
    · (intro W hSW; (have s0 := (HC.out.2.1.next hSW).cell 0 rfl; have s1 := (HC.out.2.1.next hSW).cell 1 rfl; have s2 := (HC.out.2.1.next hSW).cell 2 rfl; have sz := (HC.out.2.1.next hSW).2; have u0 := (HC.out.1.1.1.next hSW).cell 0 rfl; have u1 := (HC.out.1.1.1.next hSW).cell 1 rfl; have u2 := (HC.out.1.1.1.next hSW).cell 2 rfl; have uz := (HC.out.1.1.1.next hSW).2; have qs := (hSW.cell (p := ⟨q, i', none⟩) HP.out.hq).trans HP.out.hs); go_simp <;> (try with_reducible rfl))
    refine ready_call 10 ⟨some 20, Op.call { callee := Callee.value (Operand.func 65), args := #[Operand.tmp 19], argTypes := #[42] }, _, _, _, none⟩ (by kernel_rfl) rfl (by kernel_rfl) (fun KC hK => ?_)
    go_wp2_with fail
    refine (HPM.out ▸ primaryOf_n _ c2 l _ (Nat.le_trans HL.out.1 (by decide)) (HP.out.hl.next (below_drew _))).mono ?_
    rintro r w3 ⟨rfl, hb⟩
    have hbw := below_next (below_drew w2) hb
    refine hK.out _ _ hbw (fun hHeld => ?_)
    clear hK KC
    refine take_vp (v := ?_) 11 ⟨some 21, Op.binOp BinOp.eql 3 (Operand.tmp 11) (Operand.tmp 20) 3, _, _, _, none⟩ rfl (fun _ _ _ h => h) ?_ hHeld ?_
    rotate_left
    · (intro W _; go_simp <;> (try with_reducible rfl))
    refine ready_call 12 ⟨some 22, Op.call { callee := Callee.value (Operand.func 85), args := #[Operand.tmp 21], argTypes := #[4] }, _, _, _, none⟩ (by kernel_rfl) rfl (by kernel_rfl) (fun KC hK => ?_)
    go_wp2_with fail
    refine (must_no _ (HC.out.2.2.2.1.next hbw HC.out.2.2.2.1.lt)).mono ?_
    rintro r w4 ⟨⟨p, rfl⟩, hw⟩
    have hw := hw.symm
    subst hw
    exact ⟨rfl, StP.no HE.out ⟨p, rfl⟩ (HC.out.2.2.1.next hbw)⟩
  subst hp
  refine wp_region_noPanic ?_
  refine wp_region_held_drew (S := fun W => Below w2.heap.size w2 W) (by kernel_rfl) (below_drew _) (fun hHeld => ?_)
  refine take_v (v := ?_) 0 ⟨some 10, Op.fieldAddr 48 (Operand.tmp 3) 2, _, _, _, none⟩ rfl (fun _ _ _ h => h) ?_ hHeld ?_
  rotate_left
  · (intro W _; go_simp <;> (try with_reducible rfl))
  refine take_v (v := ?_) 1 ⟨some 11, Op.load 3 (Operand.tmp 10), _, _, _, none⟩ rfl (fun _ _ _ h => h) ?_ hHeld ?_
  rotate_left
  · (intro W hSW; (have s0 := (HC.out.2.1.next hSW).cell 0 rfl; have s1 := (HC.out.2.1.next hSW).cell 1 rfl; have s2 := (HC.out.2.1.next hSW).cell 2 rfl; have sz := (HC.out.2.1.next hSW).2; have u0 := (HC.out.1.1.1.next hSW).cell 0 rfl; have u1 := (HC.out.1.1.1.next hSW).cell 1 rfl; have u2 := (HC.out.1.1.1.next hSW).cell 2 rfl; have uz := (HC.out.1.1.1.next hSW).2; have qs := (hSW.cell (p := ⟨q, i', none⟩) HP.out.hq).trans HP.out.hs); go_simp <;> (try with_reducible rfl))
  refine take_v (v := ?_) 2 ⟨some 12, Op.move (Operand.tmp 0), _, _, _, none⟩ rfl (fun _ _ _ h => h) ?_ hHeld ?_
  rotate_left
  · (intro W _; go_simp <;> (try with_reducible rfl))
  refine take_v (v := ?_) 3 ⟨some 13, Op.nilCheck (Operand.tmp 12), _, _, _, none⟩ rfl (fun _ _ _ h => h) ?_ hHeld ?_
  rotate_left
  · (intro W _; go_simp <;> (try with_reducible rfl))
  refine take_v (v := ?_) 4 ⟨some 14, Op.fieldAddr 29 (Operand.tmp 13) 0, _, _, _, none⟩ rfl (fun _ _ _ h => h) ?_ hHeld ?_
  rotate_left
  · (intro W _; go_simp <;> (try with_reducible rfl))
  refine take_v (v := ?_) 5 ⟨some 15, Op.load 27 (Operand.tmp 14), _, _, _, none⟩ rfl (fun _ _ _ h => h) ?_ hHeld ?_
  rotate_left
  · (intro W hSW; (have s0 := (HC.out.2.1.next hSW).cell 0 rfl; have s1 := (HC.out.2.1.next hSW).cell 1 rfl; have s2 := (HC.out.2.1.next hSW).cell 2 rfl; have sz := (HC.out.2.1.next hSW).2; have u0 := (HC.out.1.1.1.next hSW).cell 0 rfl; have u1 := (HC.out.1.1.1.next hSW).cell 1 rfl; have u2 := (HC.out.1.1.1.next hSW).cell 2 rfl; have uz := (HC.out.1.1.1.next hSW).2; have qs := (hSW.cell (p := ⟨q, i', none⟩) HP.out.hq).trans HP.out.hs); go_simp <;> (try with_reducible rfl))
  refine take_v (v := ?_) 6 ⟨some 16, Op.fieldAddr 48 (Operand.tmp 3) 1, _, _, _, none⟩ rfl (fun _ _ _ h => h) ?_ hHeld ?_
  rotate_left
  · (intro W _; go_simp <;> (try with_reducible rfl))
  refine take_v (v := ?_) 7 ⟨some 17, Op.load 3 (Operand.tmp 16), _, _, _, none⟩ rfl (fun _ _ _ h => h) ?_ hHeld ?_
  rotate_left
  · (intro W hSW; (have s0 := (HC.out.2.1.next hSW).cell 0 rfl; have s1 := (HC.out.2.1.next hSW).cell 1 rfl; have s2 := (HC.out.2.1.next hSW).cell 2 rfl; have sz := (HC.out.2.1.next hSW).2; have u0 := (HC.out.1.1.1.next hSW).cell 0 rfl; have u1 := (HC.out.1.1.1.next hSW).cell 1 rfl; have u2 := (HC.out.1.1.1.next hSW).cell 2 rfl; have uz := (HC.out.1.1.1.next hSW).2; have qs := (hSW.cell (p := ⟨q, i', none⟩) HP.out.hq).trans HP.out.hs); go_simp <;> (try with_reducible rfl))
  refine take_v (v := ?_) 8 ⟨some 18, Op.indexAddr 27 (Operand.tmp 15) (Operand.tmp 17), _, _, _, none⟩ rfl (fun _ _ _ h => h) ?_ hHeld ?_
  rotate_left
  · (intro W _; go_simp <;> (try with_reducible rfl))
  refine take_v (v := ?_) 9 ⟨some 19, Op.load 42 (Operand.tmp 18), _, _, _, none⟩ rfl (fun _ _ _ h => h) ?_ hHeld ?_
  rotate_left
  · (intro W hSW; (have s0 := (HC.out.2.1.next hSW).cell 0 rfl; have s1 := (HC.out.2.1.next hSW).cell 1 rfl; have s2 := (HC.out.2.1.next hSW).cell 2 rfl; have sz := (HC.out.2.1.next hSW).2; have u0 := (HC.out.1.1.1.next hSW).cell 0 rfl; have u1 := (HC.out.1.1.1.next hSW).cell 1 rfl; have u2 := (HC.out.1.1.1.next hSW).cell 2 rfl; have uz := (HC.out.1.1.1.next hSW).2; have qs := (hSW.cell (p := ⟨q, i', none⟩) HP.out.hq).trans HP.out.hs); go_simp <;> (try with_reducible rfl))
  refine ready_call 10 ⟨some 20, Op.call { callee := Callee.value (Operand.func 65), args := #[Operand.tmp 19], argTypes := #[42] }, _, _, _, none⟩ (by kernel_rfl) rfl (by kernel_rfl) (fun KC hK => ?_)
  go_wp2_with fail
  refine (HPM.out ▸ primaryOf_n _ c2 l _ (Nat.le_trans HL.out.1 (by decide)) (HP.out.hl.next (below_drew _))).mono ?_
  rintro r w3 ⟨rfl, hb⟩
  have hbw := below_next (below_drew w2) hb
  refine hK.out _ _ hbw (fun hHeld => ?_)
  clear hK KC
  refine take_v (v := ?_) 11 ⟨some 21, Op.binOp BinOp.eql 3 (Operand.tmp 11) (Operand.tmp 20) 3, _, _, _, none⟩ rfl (fun _ _ _ h => h) ?_ hHeld ?_
  rotate_left
  · (intro W _; go_simp <;> (try with_reducible rfl))
  refine ready_call 12 ⟨some 22, Op.call { callee := Callee.value (Operand.func 85), args := #[Operand.tmp 21], argTypes := #[4] }, _, _, _, none⟩ (by kernel_rfl) rfl (by kernel_rfl) (fun KC hK => ?_)
  go_wp2_with fail
  refine (must_yes _).mono ?_
  rintro r w4 ⟨rfl, hw⟩
  have hw := hw.symm
  subst hw
  refine hK.out _ _ hbw (fun hHeld => ?_)
  clear hK KC
  refine wpAnyH_done (by kernel_rfl) ?_ _
  refine NoPanic.normal ?_
  clear hHeld
  have hb := hbw
  have HP := Hid.intro (RpX.carry HP.out HC.out.1 hb)
  have HC := (show Hid (CmX w3 b lo up (.slice (some ⟨q, 0, none⟩) ss.length vc) ss dr rc ∧ Bx w3 w.heap.size [.int .i64 k, .int .i64 (i' : Int), .int .i64 (j' : Int)] ∧ TurnS (Btw lo up) w w3 ∧ Flt w3 ∧ lo ≤ w.heap.size ∧ lo ≤ w3.heap.size) from ⟨HC.out.1.next hb, HC.out.2.1.next hb, HC.out.2.2.1.next hb, HC.out.2.2.2.1.next hb HC.out.2.2.2.1.lt, HC.out.2.2.2.2.1, Nat.le_trans HC.out.2.2.2.2.2 hb.size⟩)
  clear hb hbw
  have g1 := HP.out.hh
  have gf := HP.out.fh
  have gz := HP.out.hg
  rw [HH.out] at g1
  by_cases h0 : h = 0
  · have HN : Hid (nxR ss dr rc (mkS l) j' y 1 = some (mkR false 1)) := Hid.intro (by unfold nxR; rw [if_pos rfl, if_pos ⟨HD.out, HPM.out, by rw [HH.out]; exact h0⟩])
    have HE : Hid (stR ss dr rc 1 (i' : Int) (j' : Int) = some (ss.set i' (mkS (l.set j' (mkR false 1))), dr, rc)) := Hid.intro (by rw [HU.out, HN.out]; rfl)
    have hq : (h == 0) = true := by simpa using h0
    clear h0
    go_wp2_with (go_at_call 85; refine (must_yes _).mono ?_; rintro r w9 ⟨rfl, hw⟩; have hw := hw.symm; subst hw)
    first | (go_end0; exact StP.yes HE.out (by have := HP.out.has 1; rwa [HL.out.2.1] at this) (HC.out.2.2.1.set (p := ⟨g, j' * 2 + 1, none⟩) ⟨HP.out.hlo, HP.out.hhi⟩ _)) | exact bodyPost_ret (v := .tuple #[]) (by simp [results, Tryd.results78]) rfl (StP.yes HE.out (by have := HP.out.has 1; rwa [HL.out.2.1] at this) (HC.out.2.2.1.set (p := ⟨g, j' * 2 + 1, none⟩) ⟨HP.out.hlo, HP.out.hhi⟩ _))
  · have HN : Hid (nxR ss dr rc (mkS l) j' y 1 = none) := Hid.intro (by unfold nxR; rw [if_pos rfl, if_neg (fun q => h0 (by rw [← HH.out]; exact q.2.2))])
    have HE : Hid (stR ss dr rc 1 (i' : Int) (j' : Int) = none) := Hid.intro (by rw [HU.out, HN.out]; rfl)
    have hq : (h == 0) = false := by simpa using h0
    clear h0
    go_wp2_with (go_at_call 85; first | (refine (must_yes _).mono ?_; rintro r w9 ⟨rfl, hw⟩; have hw := hw.symm; subst hw) | (refine (must_no _ HC.out.2.2.2.1).mono ?_; rintro r w9 ⟨⟨p, rfl⟩, hw⟩; have hw := hw.symm; subst hw))
    exact ⟨rfl, StP.no HE.out ⟨p, rfl⟩ HC.out.2.2.1⟩

set_option maxRecDepth 100000 in
set_option maxHeartbeats 4000000 in
theorem copyTo_n (b lo up : Nat) (v : Value) (ss : List Shd) (dr rc k i j : Int) (w : World) (hn : ss.length ≤ 1000) (hr : ∀ s ∈ ss, (srs s).length ≤ 1000) (hlo : 0 < lo ∧ lo ≤ b ∧ b < up) (hf : Flt w) (hx : CmX w b lo up v ss dr rc) :
    Calls Tryd.prog 79 #[.pointer (some ⟨b, 0, none⟩), .agg #[.int .i64 k, .int .i64 i, .int .i64 j]] w (StP lo up b v (stR ss dr rc 2 i j) w) := by
  obtain ⟨va, vc, hv⟩ := hx.form
  subst hv
  obtain ⟨w0, hw0⟩ : ∃ x, x = w.alloc (.cells #[.int .i64 k, .int .i64 i, .int .i64 j] 48) := ⟨_, rfl⟩
  have hb0 : Below w.heap.size w w0 := hw0 ▸ Go.Joins.below_alloc1 _ _
  have hlw : lo ≤ w.heap.size := Nat.le_of_lt (Nat.lt_of_le_of_lt hlo.2.1 hx.1.1.2)
  have HC : Hid (CmX w0 b lo up (.slice va ss.length vc) ss dr rc ∧ Bx w0 w.heap.size [.int .i64 k, .int .i64 i, .int .i64 j] ∧ TurnS (Btw lo up) w w0 ∧ Flt w0 ∧ lo ≤ w.heap.size ∧ lo ≤ w0.heap.size) := ⟨hx.next hb0, hw0 ▸ Bx.new w [_, _, _] _, TurnS.of_below hb0, hf.next hb0 hf.lt, hlw, Nat.le_trans hlw hb0.size⟩
  have HR := Hid.intro hr
  have HLO := Hid.intro hlo
  have HV : Hid (∃ p : Value, p = .slice va ss.length vc) := ⟨_, rfl⟩
  clear hb0 hx hf hr hlo hlw HV
  go_enter Tryd.func79, Tryd.ntmps79
  go_upto_region 1 with fail
  rw [← hw0]
  clear hw0
  by_cases hd : decN dr rc = 0
  case neg =>
    have HE : Hid (stR ss dr rc 2 i j = none) := Hid.intro (stR_open hd (by omega))
    have HD := Hid.intro hd
    clear hd
    go_wp2_with fail
    refine (mustBeOpen_n b va ss.length vc dr rc _ HD.out HC.out.2.2.2.1 HC.out.1.1.1).mono ?_
    rintro r w1 ⟨⟨p, rfl⟩, hb⟩
    have HC := (show Hid (CmX w1 b lo up (.slice va ss.length vc) ss dr rc ∧ Bx w1 w.heap.size [.int .i64 k, .int .i64 i, .int .i64 j] ∧ TurnS (Btw lo up) w w1 ∧ Flt w1 ∧ lo ≤ w.heap.size ∧ lo ≤ w1.heap.size) from ⟨HC.out.1.next hb, HC.out.2.1.next hb, HC.out.2.2.1.next hb, HC.out.2.2.2.1.next hb HC.out.2.2.2.1.lt, HC.out.2.2.2.2.1, Nat.le_trans HC.out.2.2.2.2.2 hb.size⟩)
    exact ⟨rfl, StP.no HE.out ⟨p, rfl⟩ HC.out.2.2.1⟩
  have HD := Hid.intro hd
  clear hd
  go_wp2_with fail
  refine (mustBeOpen_y b va ss.length vc dr rc _ HD.out HC.out.1.1.1).mono ?_
  rintro r w1 ⟨rfl, hb⟩
  have HC := (show Hid (CmX w1 b lo up (.slice va ss.length vc) ss dr rc ∧ Bx w1 w.heap.size [.int .i64 k, .int .i64 i, .int .i64 j] ∧ TurnS (Btw lo up) w w1 ∧ Flt w1 ∧ lo ≤ w.heap.size ∧ lo ≤ w1.heap.size) from ⟨HC.out.1.next hb, HC.out.2.1.next hb, HC.out.2.2.1.next hb, HC.out.2.2.2.1.next hb HC.out.2.2.2.1.lt, HC.out.2.2.2.2.1, Nat.le_trans HC.out.2.2.2.2.2 hb.size⟩)
  clear hb
  have s0 := (HC.out.2.1).cell 0 rfl; have s1 := (HC.out.2.1).cell 1 rfl; have s2 := (HC.out.2.1).cell 2 rfl; have sz := (HC.out.2.1).2
  go_wp2_with fail
  clear s0 s1 s2 sz
  refine (mustBeUp_x b lo up _ ss dr rc k i j _ hn HR.out HC.out.2.2.2.1 HC.out.1).mono ?_
  rintro r w2 ⟨hb, ⟨i', j', q, c, g, c2, l, y, hi, hj, rfl, rfl, hl, hy, hyd, hP, rfl⟩ | ⟨hno, p, rfl⟩⟩
  case inr =>
    have HC := (show Hid (CmX w2 b lo up (.slice va ss.length vc) ss dr rc ∧ Bx w2 w.heap.size [.int .i64 k, .int .i64 i, .int .i64 j] ∧ TurnS (Btw lo up) w w2 ∧ Flt w2 ∧ lo ≤ w.heap.size ∧ lo ≤ w2.heap.size) from ⟨HC.out.1.next hb, HC.out.2.1.next hb, HC.out.2.2.1.next hb, HC.out.2.2.2.1.next hb HC.out.2.2.2.1.lt, HC.out.2.2.2.2.1, Nat.le_trans HC.out.2.2.2.2.2 hb.size⟩)
    exact ⟨rfl, StP.no (hno 2) ⟨p, rfl⟩ HC.out.2.2.1⟩
  have hPn := hP.next HC.out.1 hi hl hj hy hb
  have HC := (show Hid (CmX w2 b lo up (.slice va ss.length vc) ss dr rc ∧ Bx w2 w.heap.size [.int .i64 k, .int .i64 (i' : Int), .int .i64 (j' : Int)] ∧ TurnS (Btw lo up) w w2 ∧ Flt w2 ∧ lo ≤ w.heap.size ∧ lo ≤ w2.heap.size) from ⟨HC.out.1.next hb, HC.out.2.1.next hb, HC.out.2.2.1.next hb, HC.out.2.2.2.1.next hb HC.out.2.2.2.1.lt, HC.out.2.2.2.2.1, Nat.le_trans HC.out.2.2.2.2.2 hb.size⟩)
  have HP := Hid.intro hPn
  have HU : Hid (stR ss dr rc 2 (i' : Int) (j' : Int) = (nxR ss dr rc (mkS l) j' y 2).map fun r' => (ss.set i' (mkS (l.set j' r')), dr, rc)) := Hid.intro (stR_up hi hl hj hy hyd)
  have HL : Hid (l.length ≤ 1000 ∧ rdn y = false ∧ i' < ss.length ∧ j' < l.length) := ⟨by have := HR.out _ (List.getElem_mem hi); rwa [hl] at this, hyd, hi, hj⟩
  obtain ⟨h, hh⟩ : ∃ h, rhs y = h := ⟨_, rfl⟩
  have HH : Hid (rhs y = h) := hh
  clear hb hP hPn hl hy hyd hi hj hh
  have u0 := (HC.out.1.1.1).cell 0 rfl; have u1 := (HC.out.1.1.1).cell 1 rfl; have u2 := (HC.out.1.1.1).cell 2 rfl; have uz := (HC.out.1.1.1).2
  cases ha : ss.all lkdB
  · have HA := Hid.intro ha
    have HN : Hid (nxR ss dr rc (mkS l) j' y 2 = none) := Hid.intro (by unfold nxR; rw [if_neg (by decide), if_pos rfl, if_neg (fun q => by rw [ha] at q; cases q.2.1)])
    have HE : Hid (stR ss dr rc 2 (i' : Int) (j' : Int) = none) := Hid.intro (by rw [HU.out, HN.out]; rfl)
    clear ha
    go_wp2_with (first | (go_at_call 42; refine (areAll_isLocked va vc ss _ (Nat.le_trans hn (by decide)) (fun s hs => Nat.le_trans (HR.out s hs) (by decide)) HC.out.1.lies).mono ?_; rintro r w3 ⟨rfl, hb⟩; rw [HA.out]; have HP := Hid.intro (RpX.carry HP.out HC.out.1 hb); have HC := (show Hid (CmX w3 b lo up (.slice va ss.length vc) ss dr rc ∧ Bx w3 w.heap.size [.int .i64 k, .int .i64 (i' : Int), .int .i64 (j' : Int)] ∧ TurnS (Btw lo up) w w3 ∧ Flt w3 ∧ lo ≤ w.heap.size ∧ lo ≤ w3.heap.size) from ⟨HC.out.1.next hb, HC.out.2.1.next hb, HC.out.2.2.1.next hb, HC.out.2.2.2.1.next hb HC.out.2.2.2.1.lt, HC.out.2.2.2.2.1, Nat.le_trans HC.out.2.2.2.2.2 hb.size⟩); clear hb u0 u1 u2 uz) | (go_at_call 85; first | (refine (must_yes _).mono ?_; rintro r w9 ⟨rfl, hw⟩; have hw := hw.symm; subst hw) | (refine (must_no _ HC.out.2.2.2.1).mono ?_; rintro r w9 ⟨⟨p, rfl⟩, hw⟩; have hw := hw.symm; subst hw)))
    exact ⟨rfl, StP.no HE.out ⟨p, rfl⟩ HC.out.2.2.1⟩
  have HA := Hid.intro ha
  clear ha
  go_wp2_with fail
  refine (areAll_isLocked va vc ss _ (Nat.le_trans hn (by decide)) (fun s hs => Nat.le_trans (HR.out s hs) (by decide)) HC.out.1.lies).mono ?_
  rintro r w3 ⟨rfl, hb⟩
  rw [HA.out]
  have HP := Hid.intro (RpX.carry HP.out HC.out.1 hb)
  have HC := (show Hid (CmX w3 b lo up (.slice va ss.length vc) ss dr rc ∧ Bx w3 w.heap.size [.int .i64 k, .int .i64 (i' : Int), .int .i64 (j' : Int)] ∧ TurnS (Btw lo up) w w3 ∧ Flt w3 ∧ lo ≤ w.heap.size ∧ lo ≤ w3.heap.size) from ⟨HC.out.1.next hb, HC.out.2.1.next hb, HC.out.2.2.1.next hb, HC.out.2.2.2.1.next hb HC.out.2.2.2.1.lt, HC.out.2.2.2.2.1, Nat.le_trans HC.out.2.2.2.2.2 hb.size⟩)
  clear hb u0 u1 u2 uz
  have g1 := HP.out.hh
  have gf := HP.out.fh
  have gz := HP.out.hg
  rw [HH.out] at g1
  by_cases h0 : h = 0
  · have hq : (h == 0) = true := by simpa using h0
    have HN : Hid (nxR ss dr rc (mkS l) j' y 2 = some (mkR false 2)) := Hid.intro (by unfold nxR; rw [if_neg (by decide), if_pos rfl, if_pos ⟨HD.out, HA.out, Or.inl (by rw [HH.out]; exact h0)⟩])
    have HE : Hid (stR ss dr rc 2 (i' : Int) (j' : Int) = some (ss.set i' (mkS (l.set j' (mkR false 2))), dr, rc)) := Hid.intro (by rw [HU.out, HN.out]; rfl)
    clear h0
    go_wp2_with (go_at_call 85; refine (must_yes _).mono ?_; rintro r w9 ⟨rfl, hw⟩; have hw := hw.symm; subst hw)
    first | (go_end0; exact StP.yes HE.out (by have := HP.out.has 2; rwa [HL.out.2.1] at this) (HC.out.2.2.1.set (p := ⟨g, j' * 2 + 1, none⟩) ⟨HP.out.hlo, HP.out.hhi⟩ _)) | exact bodyPost_ret (v := .tuple #[]) (by simp [results, Tryd.results79]) rfl (StP.yes HE.out (by have := HP.out.has 2; rwa [HL.out.2.1] at this) (HC.out.2.2.1.set (p := ⟨g, j' * 2 + 1, none⟩) ⟨HP.out.hlo, HP.out.hhi⟩ _))
  have hq : (h == 0) = false := by simpa using h0
  by_cases h1 : h = 1
  · have hq1 : (h == 1) = true := by simpa using h1
    have HN : Hid (nxR ss dr rc (mkS l) j' y 2 = some (mkR false 2)) := Hid.intro (by unfold nxR; rw [if_neg (by decide), if_pos rfl, if_pos ⟨HD.out, HA.out, Or.inr (by rw [HH.out]; exact h1)⟩])
    have HE : Hid (stR ss dr rc 2 (i' : Int) (j' : Int) = some (ss.set i' (mkS (l.set j' (mkR false 2))), dr, rc)) := Hid.intro (by rw [HU.out, HN.out]; rfl)
    clear h0 h1
    go_wp2_with (go_at_call 85; refine (must_yes _).mono ?_; rintro r w9 ⟨rfl, hw⟩; have hw := hw.symm; subst hw)
    first | (go_end0; exact StP.yes HE.out (by have := HP.out.has 2; rwa [HL.out.2.1] at this) (HC.out.2.2.1.set (p := ⟨g, j' * 2 + 1, none⟩) ⟨HP.out.hlo, HP.out.hhi⟩ _)) | exact bodyPost_ret (v := .tuple #[]) (by simp [results, Tryd.results79]) rfl (StP.yes HE.out (by have := HP.out.has 2; rwa [HL.out.2.1] at this) (HC.out.2.2.1.set (p := ⟨g, j' * 2 + 1, none⟩) ⟨HP.out.hlo, HP.out.hhi⟩ _))
  have hq1 : (h == 1) = false := by simpa using h1
  have HN : Hid (nxR ss dr rc (mkS l) j' y 2 = none) := Hid.intro (by unfold nxR; rw [if_neg (by decide), if_pos rfl, if_neg (fun q => by rw [HH.out] at q; rcases q.2.2 with q | q; exact h0 q; exact h1 q)])
  have HE : Hid (stR ss dr rc 2 (i' : Int) (j' : Int) = none) := Hid.intro (by rw [HU.out, HN.out]; rfl)
  clear h0 h1
  go_wp2_with (go_at_call 85; first | (refine (must_yes _).mono ?_; rintro r w9 ⟨rfl, hw⟩; have hw := hw.symm; subst hw) | (refine (must_no _ HC.out.2.2.2.1).mono ?_; rintro r w9 ⟨⟨p, rfl⟩, hw⟩; have hw := hw.symm; subst hw))
  exact ⟨rfl, StP.no HE.out ⟨p, rfl⟩ HC.out.2.2.1⟩

end Go.Proofs.YtkpobihpcnoemaaDoor
