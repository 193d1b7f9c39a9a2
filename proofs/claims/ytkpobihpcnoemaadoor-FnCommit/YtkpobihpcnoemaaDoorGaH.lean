/- Put together of: CqT, CqU. -/
import Derived.Test.YtkpobihpcnoemaaDoorCqS0
import Derived.Test.YtkpobihpcnoemaaDoorCqSo
import Derived.Test.YtkpobihpcnoemaaDoorCqSd
import Derived.Test.YtkpobihpcnoemaaDoorCqSr
import Derived.Test.YtkpobihpcnoemaaDoorCpL
/- Commits: spec.l15Step, spec.StepCommit. Written by tools/mkCqT.py. -/
namespace Go.Proofs.YtkpobihpcnoemaaDoor
open Go.RowKit
set_option linter.unusedVariables false
set_option linter.unusedSimpArgs false

theorem boxC_none {B : Nat} {X W : World} {b7 : Nat} {z0 z1 z2 : Value} (h : Bx W b7 [z0, z1, z2]) (hb : Below B X W) (hg : B ≤ b7) (u0 u1 u2 : Value) : Bx (((W.setCell ⟨b7, 0, none⟩ u0).setCell ⟨b7, 1, none⟩ u1).setCell ⟨b7, 2, none⟩ u2) b7 [u0, u1, u2] ∧ Below B X (((W.setCell ⟨b7, 0, none⟩ u0).setCell ⟨b7, 1, none⟩ u1).setCell ⟨b7, 2, none⟩ u2) ∧ B ≤ b7 :=
  ⟨((h.set (k := 0) (by simp) u0).set (k := 1) (by simp) u1).set (k := 2) (by simp) u2, ((hb.setCell (p := ⟨b7, 0, none⟩) hg u0).setCell (p := ⟨b7, 1, none⟩) hg u1).setCell (p := ⟨b7, 2, none⟩) hg u2, hg⟩
theorem boxC_some {B : Nat} {X W : World} {b7 lo up : Nat} {z0 z1 z2 v : Value} {l : List Shd} (h : Bx W b7 [z0, z1, z2]) (hl : LsU W lo up v l) (hn : b7 < lo ∨ up ≤ b7) (hb : Below B X W) (hg : B ≤ b7) (u0 u1 u2 : Value) : Bx (((W.setCell ⟨b7, 0, none⟩ u0).setCell ⟨b7, 1, none⟩ u1).setCell ⟨b7, 2, none⟩ u2) b7 [u0, u1, u2] ∧ Below B X (((W.setCell ⟨b7, 0, none⟩ u0).setCell ⟨b7, 1, none⟩ u1).setCell ⟨b7, 2, none⟩ u2) ∧ B ≤ b7 ∧ LsU (((W.setCell ⟨b7, 0, none⟩ u0).setCell ⟨b7, 1, none⟩ u1).setCell ⟨b7, 2, none⟩ u2) lo up v l :=
  ⟨(boxC_none h hb hg u0 u1 u2).1, (boxC_none h hb hg u0 u1 u2).2.1, hg, hl.turn (set3 W b7 u0 u1 u2) (fun k e => by have e : k = b7 := e; omega)⟩
theorem l15Step_n (lo up : Nat) (v : Value) (ss : List Shd) (dr rc k i j : Int) (w : World) (hn : ss.length ≤ 1000) (hr : ∀ s ∈ ss, (srs s).length ≤ 1000) (hx : LsU w lo up v ss) :
    Calls Tryd.prog 38 #[.agg #[v, .int .i64 dr, .int .i64 rc], .agg #[.int .i64 k, .int .i64 i, .int .i64 j]] w (L5P lo up v (stC ss dr rc k i j) w) := by
  by_cases hd : dr = 0
  · subst hd
    by_cases hc : rc = 0
    · subst hc
      by_cases h3 : k = 3
      · subst h3; exact tell5_o lo up v ss i j w hn hr hx
      by_cases h4 : k = 4
      · subst h4; exact abort5_o lo up v ss i j w hn hr hx
      by_cases h6 : k = 6
      · subst h6; exact recover5_o lo up v ss i j w hn hr hx
      exact rep5_o lo up v ss k i j w hn hr h3 h4 h6 hx
    by_cases h3 : k = 3
    · subst h3; exact tell5_r lo up v ss rc i j w hn hr hc hx
    by_cases h4 : k = 4
    · subst h4; exact abort5_r lo up v ss rc i j w hn hr hc hx
    by_cases h6 : k = 6
    · subst h6; exact recover5_r lo up v ss rc i j w hn hr hc hx
    exact rep5_r lo up v ss rc k i j w hn hr hc h3 h4 h6 hx
  by_cases h3 : k = 3
  · subst h3; exact tell5_d lo up v ss dr rc i j w hn hr hd hx
  by_cases h4 : k = 4
  · subst h4; exact abort5_d lo up v ss dr rc i j w hn hr hd hx
  by_cases h6 : k = 6
  · subst h6; exact recover5_d lo up v ss dr rc i j w hn hr hd hx
  exact rep5_d lo up v ss dr rc k i j w hn hr hd h3 h4 h6 hx

set_option maxRecDepth 100000 in
set_option maxHeartbeats 4000000 in
theorem specStepCommit_n (cs : List Value) (ss : List Shd) (dr rc k i j : Int) (w : World) (hz : szD shCommit (ss, dr, rc, ()) ≤ 1073741824) (h : Lies w shCommit cs (ss, dr, rc, ())) :
    Calls Tryd.prog 17 #[.agg cs.toArray, .agg #[.int .i64 k, .int .i64 i, .int .i64 j]] w (ScP (stS ss dr rc k i j) w) := by
  obtain ⟨E0, hE0⟩ : ∃ E, stS ss dr rc k i j = E := ⟨_, rfl⟩
  have HE0 := Hid.intro hE0
  rw [hE0]
  clear hE0
  obtain ⟨a1, k1, rfl, h1⟩ := lies_Commit h
  obtain ⟨w0, hw0⟩ : ∃ x, x = ((w.alloc (.cells #[.slice a1 ss.length k1, .int .i64 dr, .int .i64 rc] 29)).alloc (.cells #[.int .i64 k, .int .i64 i, .int .i64 j] 48)).alloc (.cells #[.slice none 0 0, .int .i64 0, .int .i64 0] 29) := ⟨_, rfl⟩
  have hb0 : Below w.heap.size w w0 := hw0 ▸ (((Below.refl _ _).alloc (Nat.le_refl _) _).alloc (by simp) _).alloc (by simp; omega) _
  have HB0 : Hid (Bx w0 w.heap.size [.slice a1 ss.length k1, .int .i64 dr, .int .i64 rc] ∧ Bx w0 (w.heap.size + 1) [.int .i64 k, .int .i64 i, .int .i64 j] ∧ Bx w0 (w.heap.size + 1 + 1) [.slice none 0 0, .int .i64 0, .int .i64 0] ∧ Below w.heap.size w w0 ∧ Lies w0 shCommit [.slice a1 ss.length k1, .int .i64 dr, .int .i64 rc] (ss, dr, rc, ()) ∧ w.heap.size + 3 ≤ w0.heap.size) := ⟨hw0 ▸ ((Bx.new w [_, _, _] _).alloc _).alloc _, hw0 ▸ (Bx.newAt (by simp)).alloc _, hw0 ▸ Bx.newAt (by simp), hb0, h.next hb0, by rw [hw0]; simp⟩
  have HZ := Hid.intro hz
  clear hb0 h h1 hz
  go_enter Tryd.func17, Tryd.ntmps17
  go_upto_region 1 with fail
  rw [← hw0]
  clear hw0
  have s0 := (HB0.out.1).cell 0 rfl; have s1 := (HB0.out.1).cell 1 rfl; have s2 := (HB0.out.1).cell 2 rfl; have sz := (HB0.out.1).2
  go_wp2_with fail
  refine (specGoodCommit_n _ ss dr rc _ HZ.out HB0.out.2.2.2.2.1).mono ?_
  rintro r w1 ⟨rfl, hb⟩
  have HB1 := Hid.intro (show Bx w1 w.heap.size [.slice a1 ss.length k1, .int .i64 dr, .int .i64 rc] ∧ Bx w1 (w.heap.size + 1) [.int .i64 k, .int .i64 i, .int .i64 j] ∧ Bx w1 (w.heap.size + 1 + 1) [.slice none 0 0, .int .i64 0, .int .i64 0] ∧ Below w.heap.size w w1 ∧ Lies w1 shCommit [.slice a1 ss.length k1, .int .i64 dr, .int .i64 rc] (ss, dr, rc, ()) ∧ w.heap.size + 3 ≤ w1.heap.size from ⟨HB0.out.1.next hb, HB0.out.2.1.next hb, HB0.out.2.2.1.next hb, below_next HB0.out.2.2.2.1 hb, HB0.out.2.2.2.2.1.next hb, Nat.le_trans HB0.out.2.2.2.2.2 (hb).size⟩)
  clear hb s0 s1 s2 sz HB0
  cases hg : goodC ss dr rc
  · have HN : Hid (E0 = none) := Hid.intro (by rw [← HE0.out]; exact stS_no hg)
    clear hg
    have z0 := (HB1.out.2.2.1).cell 0 rfl; have z1 := (HB1.out.2.2.1).cell 1 rfl; have z2 := (HB1.out.2.2.1).cell 2 rfl; have zz := (HB1.out.2.2.1).2
    have zf0 := HB1.out.2.2.1.frz 0 (by simp)
    have zf1 := HB1.out.2.2.1.frz 1 (by simp)
    have zf2 := HB1.out.2.2.1.frz 2 (by simp)
    have zz := HB1.out.2.2.1.2
    go_wp2
    refine bodyPost_ret (v := .tuple #[.agg #[.slice none 0 0, .int .i64 0, .int .i64 0], .bool false]) (by simp [results, Tryd.results17, go_sem, *]) rfl ?_
    rw [HN.out]
    exact AnC.zero (Below.trans HB1.out.2.2.2.1 ((set3 _ (w.heap.size + 1 + 1) _ _ _).below (fun k e => by have e : k = w.heap.size + 1 + 1 := e; omega) (Below.size HB1.out.2.2.2.1)))
  obtain ⟨hn, hr, _, _⟩ := good_small hg
  have HR := Hid.intro hr
  have HE : Hid (stC ss dr rc k i j = E0) := Hid.intro (by rw [← HE0.out]; exact (stS_yes hg).symm)
  clear hg hr
  go_upto_region 3 with fail
  obtain ⟨X0, hX0⟩ : ∃ x, x = w1.drew := ⟨_, rfl⟩
  have HX := Hid.intro (hX0 ▸ (show Bx w1.drew w.heap.size [.slice a1 ss.length k1, .int .i64 dr, .int .i64 rc] ∧ Bx w1.drew (w.heap.size + 1) [.int .i64 k, .int .i64 i, .int .i64 j] ∧ Bx w1.drew (w.heap.size + 1 + 1) [.slice none 0 0, .int .i64 0, .int .i64 0] ∧ Below w.heap.size w w1.drew ∧ Lies w1.drew shCommit [.slice a1 ss.length k1, .int .i64 dr, .int .i64 rc] (ss, dr, rc, ()) ∧ w.heap.size + 3 ≤ w1.drew.heap.size from ⟨HB1.out.1.next (below_drew w1), HB1.out.2.1.next (below_drew w1), HB1.out.2.2.1.next (below_drew w1), below_next HB1.out.2.2.2.1 (below_drew w1), HB1.out.2.2.2.2.1.next (below_drew w1), Nat.le_trans HB1.out.2.2.2.2.2 ((below_drew w1)).size⟩))
  have hbw : Below X0.heap.size X0 X0 := Below.refl _ _
  have HLI := Hid.intro HX.out.2.2.2.2.1
  have HLO : Hid (w.heap.size + 3 ≤ X0.heap.size) := Hid.intro HX.out.2.2.2.2.2
  cases E0 with
  | none =>
    refine wp_region_noPanic ?_
    refine wp_region_held_drew (S := fun W => Below X0.heap.size X0 W) (by kernel_rfl) (hX0 ▸ Below.refl _ _) (fun hHeld => ?_)
    rw [← hX0] at hHeld ⊢
    clear hX0
    refine take_v (v := ?_) 0 ⟨some 13, Op.load 29 (Operand.tmp 2), _, _, _, none⟩ rfl (fun _ _ _ h => h) ?_ hHeld ?_
    rotate_left
    · (intro W hSW; (have s0 := (HX.out.1.next hSW).cell 0 rfl; have s1 := (HX.out.1.next hSW).cell 1 rfl; have s2 := (HX.out.1.next hSW).cell 2 rfl; have sz := (HX.out.1.next hSW).2; have t0 := (HX.out.2.1.next hSW).cell 0 rfl; have t1 := (HX.out.2.1.next hSW).cell 1 rfl; have t2 := (HX.out.2.1.next hSW).cell 2 rfl; have tz := (HX.out.2.1.next hSW).2); go_simp <;> (try with_reducible rfl))
    refine take_v (v := ?_) 2 ⟨some 15, Op.load 48 (Operand.tmp 3), _, _, _, none⟩ rfl (fun _ _ _ h => h) ?_ hHeld ?_
    rotate_left
    · (intro W hSW; (have s0 := (HX.out.1.next hSW).cell 0 rfl; have s1 := (HX.out.1.next hSW).cell 1 rfl; have s2 := (HX.out.1.next hSW).cell 2 rfl; have sz := (HX.out.1.next hSW).2; have t0 := (HX.out.2.1.next hSW).cell 0 rfl; have t1 := (HX.out.2.1.next hSW).cell 1 rfl; have t2 := (HX.out.2.1.next hSW).cell 2 rfl; have tz := (HX.out.2.1.next hSW).2); go_simp <;> (try with_reducible rfl))
    refine ready_two 1 7 ⟨some 14, Op.call { callee := Callee.value (Operand.func 39), args := #[Operand.tmp 13], argTypes := #[29] }, _, _, _, none⟩ ⟨some 6, Op.alloc 29, _, _, _, none⟩ (by kernel_rfl) rfl rfl (by kernel_rfl) (by kernel_rfl) (fun KC hK => ?_) (fun KC hK => ?_)
    ·
      go_wp2_with fail
      refine (l15Own_n [.slice a1 ss.length k1, .int .i64 dr, .int .i64 rc] ss dr rc _ HZ.out (HLI.out.next hbw)).mono ?_
      rintro r W1 ⟨cs1, rfl, hO, hb⟩
      obtain ⟨v1, hcs, hl1⟩ := LsU.of hO (Nat.le_refl _)
      subst hcs
      obtain ⟨va1, vc1, hv1⟩ := hl1.form
      subst hv1
      have HO1 := Hid.intro (And.intro hl1 hbw.size)
      (first | (have h7n := Hid.intro (Or.inl (b := W1.heap.size ≤ b7) H7.out.1.2); have H7 := Hid.intro (And.intro (H7.out.1.next hb) H7.out.2)) | skip)
      have hbw := below_next hbw hb
      clear hb hO hl1
      refine hK.out _ _ hbw (fun hHeld => ?_)
      clear hK KC
      refine ready_two 3 7 ⟨some 16, Op.call { callee := Callee.value (Operand.func 38), args := #[Operand.tmp 14, Operand.tmp 15], argTypes := #[29, 48] }, _, _, _, none⟩ ⟨some 6, Op.alloc 29, _, _, _, none⟩ (by kernel_rfl) rfl rfl (by kernel_rfl) (by kernel_rfl) (fun KC hK => ?_) (fun KC hK => ?_)
      ·
        go_wp2_with fail
        refine (l15Step_n _ _ _ ss dr rc k i j _ hn HR.out HO1.out.1).mono ?_
        rintro r W2 ⟨hyes, hno, hT⟩
        obtain ⟨d5, e5, rfl⟩ := hno HE.out
        have hsz := Hid.intro hT.size
        (first | (have H7 := Hid.intro (And.intro (H7.out.1.turnS hT (fun q => by simp only [Btw] at q; rcases h7n.out with e | e; (first | exact e.elim | omega); omega)) H7.out.2)) | skip)
        have hbw := hbw.trans (hT.below (fun k q => Nat.le_trans HO1.out.2 q.1) hbw.size)
        clear hyes hno hT
        refine hK.out _ _ hbw (fun hHeld => ?_)
        clear hK KC
        refine take_v (v := ?_) 4 ⟨some 12, Op.move (Operand.tmp 16), _, _, _, none⟩ rfl (fun _ _ _ h => h) ?_ hHeld ?_
        rotate_left
        · (intro W _; go_simp <;> (try with_reducible rfl))
        refine take_v (v := ?_) 5 ⟨some 17, Op.extract (Operand.tmp 12) 0, _, _, _, none⟩ rfl (fun _ _ _ h => h) ?_ hHeld ?_
        rotate_left
        · (intro W _; go_simp <;> (try with_reducible rfl))
        refine take_v (v := ?_) 6 ⟨some 18, Op.extract (Operand.tmp 12) 1, _, _, _, none⟩ rfl (fun _ _ _ h => h) ?_ hHeld ?_
        rotate_left
        · (intro W _; go_simp <;> (try with_reducible rfl))
        refine ready_call 7 ⟨some 6, Op.alloc 29, _, _, _, none⟩ (by kernel_rfl) rfl (by kernel_rfl) (fun KC hK => ?_)
        go_wp2_with fail
        (first | (obtain ⟨W7, hW7⟩ : ∃ x, x = W2.alloc (.cells #[.slice none 0 0, .int .i64 0, .int .i64 0] 29) := ⟨_, rfl⟩; have hb : Below W2.heap.size W2 W7 := hW7 ▸ Go.Joins.below_alloc1 _ _; obtain ⟨b7, hb7⟩ : ∃ b, b = W2.heap.size := ⟨_, rfl⟩; have H7 : Hid (Bx W7 b7 [.slice none 0 0, .int .i64 0, .int .i64 0] ∧ X0.heap.size ≤ b7) := Hid.intro ⟨hb7 ▸ hW7 ▸ Bx.new W2 [_, _, _] _, hb7 ▸ hbw.size⟩; have h7n : Hid (False ∨ W1.heap.size ≤ b7) := Hid.intro (Or.inr (by have := hsz.out; omega)); have hbw := below_next hbw hb; rw [← hW7, ← hb7]; clear hW7 hb7 hb) | (obtain ⟨W7, hW7⟩ : ∃ x, x = W1.alloc (.cells #[.slice none 0 0, .int .i64 0, .int .i64 0] 29) := ⟨_, rfl⟩; have hb : Below W1.heap.size W1 W7 := hW7 ▸ Go.Joins.below_alloc1 _ _; obtain ⟨b7, hb7⟩ : ∃ b, b = W1.heap.size := ⟨_, rfl⟩; have H7 : Hid (Bx W7 b7 [.slice none 0 0, .int .i64 0, .int .i64 0] ∧ X0.heap.size ≤ b7) := Hid.intro ⟨hb7 ▸ hW7 ▸ Bx.new W1 [_, _, _] _, hb7 ▸ hbw.size⟩; have h7n : Hid (False ∨ W1.heap.size ≤ b7) := Hid.intro (Or.inr (by omega)); have HO1 := Hid.intro (And.intro (LsU.next HO1.out.1 hb) HO1.out.2); have hbw := below_next hbw hb; rw [← hW7, ← hb7]; clear hW7 hb7 hb) | (obtain ⟨W7, hW7⟩ : ∃ x, x = X0.alloc (.cells #[.slice none 0 0, .int .i64 0, .int .i64 0] 29) := ⟨_, rfl⟩; have hb : Below X0.heap.size X0 W7 := hW7 ▸ Go.Joins.below_alloc1 _ _; obtain ⟨b7, hb7⟩ : ∃ b, b = X0.heap.size := ⟨_, rfl⟩; have H7 : Hid (Bx W7 b7 [.slice none 0 0, .int .i64 0, .int .i64 0] ∧ X0.heap.size ≤ b7) := Hid.intro ⟨hb7 ▸ hW7 ▸ Bx.new X0 [_, _, _] _, hb7 ▸ hbw.size⟩; have hbw := below_next hbw hb; rw [← hW7, ← hb7]; clear hW7 hb7 hb))
        refine hK.out _ _ hbw (fun hHeld => ?_)
        clear hK KC
        refine ready_call 8 ⟨none, Op.store 29 (Operand.tmp 6) (Operand.tmp 17), _, _, _, none⟩ (by kernel_rfl) rfl (by kernel_rfl) (fun KC hK => ?_)
        have d0 := H7.out.1.cell 0 rfl
        have d1 := H7.out.1.cell 1 rfl
        have d2 := H7.out.1.cell 2 rfl
        have dz := H7.out.1.2
        have f0 := H7.out.1.frz 0 (by simp)
        have f1 := H7.out.1.frz 1 (by simp)
        have f2 := H7.out.1.frz 2 (by simp)
        go_wp2_with fail
        clear d0 d1 d2 dz f0 f1 f2
        have HF := Hid.intro (boxC_none H7.out.1 hbw H7.out.2 (.slice va1 ss.length vc1) (.int .i64 d5) (.int .i64 e5))
        refine hK.out _ _ HF.out.2.1 (fun hHeld => ?_)
        clear hK KC
        refine take_v (v := ?_) 9 ⟨some 7, Op.assign (Operand.tmp 18), _, _, _, none⟩ rfl (fun _ _ _ h => h) ?_ hHeld ?_
        rotate_left
        · (intro W _; go_simp <;> (try with_reducible rfl))
        refine wpAnyH_done (by kernel_rfl) ?_ _
        refine NoPanic.normal ?_
        clear hHeld
        (first | (obtain ⟨X9, hX9⟩ : ∃ x, x = ((W7.setCell ⟨b7, 0, none⟩ (.slice va1 ss.length vc1)).setCell ⟨b7, 1, none⟩ (.int .i64 d5)).setCell ⟨b7, 2, none⟩ (.int .i64 e5) := ⟨_, rfl⟩; rw [← hX9] at HF ⊢; clear hX9) | (obtain ⟨X9, hX9⟩ : ∃ x, x = ((W2.setCell ⟨b7, 0, none⟩ (.slice va1 ss.length vc1)).setCell ⟨b7, 1, none⟩ (.int .i64 d5)).setCell ⟨b7, 2, none⟩ (.int .i64 e5) := ⟨_, rfl⟩; rw [← hX9] at HF ⊢; clear hX9))
        clear hbw H7 HO1 h7n hsz
        have HX := Hid.intro (show Bx X9 w.heap.size [.slice a1 ss.length k1, .int .i64 dr, .int .i64 rc] ∧ Bx X9 (w.heap.size + 1) [.int .i64 k, .int .i64 i, .int .i64 j] ∧ Bx X9 (w.heap.size + 1 + 1) [.slice none 0 0, .int .i64 0, .int .i64 0] ∧ Below w.heap.size w X9 ∧ Lies X9 shCommit [.slice a1 ss.length k1, .int .i64 dr, .int .i64 rc] (ss, dr, rc, ()) ∧ w.heap.size + 3 ≤ X9.heap.size from ⟨HX.out.1.next HF.out.2.1, HX.out.2.1.next HF.out.2.1, HX.out.2.2.1.next HF.out.2.1, below_next HX.out.2.2.2.1 HF.out.2.1, HX.out.2.2.2.2.1.next HF.out.2.1, Nat.le_trans HX.out.2.2.2.2.2 (HF.out.2.1).size⟩)
        have z0 := (HX.out.2.2.1).cell 0 rfl; have z1 := (HX.out.2.2.1).cell 1 rfl; have z2 := (HX.out.2.2.1).cell 2 rfl; have zz := (HX.out.2.2.1).2
        have zf0 := HX.out.2.2.1.frz 0 (by simp)
        have zf1 := HX.out.2.2.1.frz 1 (by simp)
        have zf2 := HX.out.2.2.1.frz 2 (by simp)
        go_wp2
        refine bodyPost_ret (v := .tuple #[.agg #[.slice none 0 0, .int .i64 0, .int .i64 0], .bool false]) (by simp [results, Tryd.results17, go_sem, *]) rfl ?_
        exact AnC.zero (Below.trans HX.out.2.2.2.1 ((set3 _ (w.heap.size + 1 + 1) _ _ _).below (fun k e => by have e : k = w.heap.size + 1 + 1 := e; omega) (Below.size HX.out.2.2.2.1)))
      ·
        go_wp2_with fail
        (first | (obtain ⟨W7, hW7⟩ : ∃ x, x = W2.alloc (.cells #[.slice none 0 0, .int .i64 0, .int .i64 0] 29) := ⟨_, rfl⟩; have hb : Below W2.heap.size W2 W7 := hW7 ▸ Go.Joins.below_alloc1 _ _; obtain ⟨b7, hb7⟩ : ∃ b, b = W2.heap.size := ⟨_, rfl⟩; have H7 : Hid (Bx W7 b7 [.slice none 0 0, .int .i64 0, .int .i64 0] ∧ X0.heap.size ≤ b7) := Hid.intro ⟨hb7 ▸ hW7 ▸ Bx.new W2 [_, _, _] _, hb7 ▸ hbw.size⟩; have h7n : Hid (False ∨ W1.heap.size ≤ b7) := Hid.intro (Or.inr (by have := hsz.out; omega)); have hbw := below_next hbw hb; rw [← hW7, ← hb7]; clear hW7 hb7 hb) | (obtain ⟨W7, hW7⟩ : ∃ x, x = W1.alloc (.cells #[.slice none 0 0, .int .i64 0, .int .i64 0] 29) := ⟨_, rfl⟩; have hb : Below W1.heap.size W1 W7 := hW7 ▸ Go.Joins.below_alloc1 _ _; obtain ⟨b7, hb7⟩ : ∃ b, b = W1.heap.size := ⟨_, rfl⟩; have H7 : Hid (Bx W7 b7 [.slice none 0 0, .int .i64 0, .int .i64 0] ∧ X0.heap.size ≤ b7) := Hid.intro ⟨hb7 ▸ hW7 ▸ Bx.new W1 [_, _, _] _, hb7 ▸ hbw.size⟩; have h7n : Hid (False ∨ W1.heap.size ≤ b7) := Hid.intro (Or.inr (by omega)); have HO1 := Hid.intro (And.intro (LsU.next HO1.out.1 hb) HO1.out.2); have hbw := below_next hbw hb; rw [← hW7, ← hb7]; clear hW7 hb7 hb) | (obtain ⟨W7, hW7⟩ : ∃ x, x = X0.alloc (.cells #[.slice none 0 0, .int .i64 0, .int .i64 0] 29) := ⟨_, rfl⟩; have hb : Below X0.heap.size X0 W7 := hW7 ▸ Go.Joins.below_alloc1 _ _; obtain ⟨b7, hb7⟩ : ∃ b, b = X0.heap.size := ⟨_, rfl⟩; have H7 : Hid (Bx W7 b7 [.slice none 0 0, .int .i64 0, .int .i64 0] ∧ X0.heap.size ≤ b7) := Hid.intro ⟨hb7 ▸ hW7 ▸ Bx.new X0 [_, _, _] _, hb7 ▸ hbw.size⟩; have hbw := below_next hbw hb; rw [← hW7, ← hb7]; clear hW7 hb7 hb))
        refine hK.out _ _ hbw (fun hHeld => ?_)
        clear hK KC
        refine ready_call 3 ⟨some 16, Op.call { callee := Callee.value (Operand.func 38), args := #[Operand.tmp 14, Operand.tmp 15], argTypes := #[29, 48] }, _, _, _, none⟩ (by kernel_rfl) rfl (by kernel_rfl) (fun KC hK => ?_)
        go_wp2_with fail
        refine (l15Step_n _ _ _ ss dr rc k i j _ hn HR.out HO1.out.1).mono ?_
        rintro r W2 ⟨hyes, hno, hT⟩
        obtain ⟨d5, e5, rfl⟩ := hno HE.out
        have hsz := Hid.intro hT.size
        (first | (have H7 := Hid.intro (And.intro (H7.out.1.turnS hT (fun q => by simp only [Btw] at q; rcases h7n.out with e | e; (first | exact e.elim | omega); omega)) H7.out.2)) | skip)
        have hbw := hbw.trans (hT.below (fun k q => Nat.le_trans HO1.out.2 q.1) hbw.size)
        clear hyes hno hT
        refine hK.out _ _ hbw (fun hHeld => ?_)
        clear hK KC
        refine take_v (v := ?_) 4 ⟨some 12, Op.move (Operand.tmp 16), _, _, _, none⟩ rfl (fun _ _ _ h => h) ?_ hHeld ?_
        rotate_left
        · (intro W _; go_simp <;> (try with_reducible rfl))
        refine take_v (v := ?_) 5 ⟨some 17, Op.extract (Operand.tmp 12) 0, _, _, _, none⟩ rfl (fun _ _ _ h => h) ?_ hHeld ?_
        rotate_left
        · (intro W _; go_simp <;> (try with_reducible rfl))
        refine take_v (v := ?_) 6 ⟨some 18, Op.extract (Operand.tmp 12) 1, _, _, _, none⟩ rfl (fun _ _ _ h => h) ?_ hHeld ?_
        rotate_left
        · (intro W _; go_simp <;> (try with_reducible rfl))
        refine ready_call 8 ⟨none, Op.store 29 (Operand.tmp 6) (Operand.tmp 17), _, _, _, none⟩ (by kernel_rfl) rfl (by kernel_rfl) (fun KC hK => ?_)
        have d0 := H7.out.1.cell 0 rfl
        have d1 := H7.out.1.cell 1 rfl
        have d2 := H7.out.1.cell 2 rfl
        have dz := H7.out.1.2
        have f0 := H7.out.1.frz 0 (by simp)
        have f1 := H7.out.1.frz 1 (by simp)
        have f2 := H7.out.1.frz 2 (by simp)
        go_wp2_with fail
        clear d0 d1 d2 dz f0 f1 f2
        have HF := Hid.intro (boxC_none H7.out.1 hbw H7.out.2 (.slice va1 ss.length vc1) (.int .i64 d5) (.int .i64 e5))
        refine hK.out _ _ HF.out.2.1 (fun hHeld => ?_)
        clear hK KC
        refine take_v (v := ?_) 9 ⟨some 7, Op.assign (Operand.tmp 18), _, _, _, none⟩ rfl (fun _ _ _ h => h) ?_ hHeld ?_
        rotate_left
        · (intro W _; go_simp <;> (try with_reducible rfl))
        refine wpAnyH_done (by kernel_rfl) ?_ _
        refine NoPanic.normal ?_
        clear hHeld
        (first | (obtain ⟨X9, hX9⟩ : ∃ x, x = ((W7.setCell ⟨b7, 0, none⟩ (.slice va1 ss.length vc1)).setCell ⟨b7, 1, none⟩ (.int .i64 d5)).setCell ⟨b7, 2, none⟩ (.int .i64 e5) := ⟨_, rfl⟩; rw [← hX9] at HF ⊢; clear hX9) | (obtain ⟨X9, hX9⟩ : ∃ x, x = ((W2.setCell ⟨b7, 0, none⟩ (.slice va1 ss.length vc1)).setCell ⟨b7, 1, none⟩ (.int .i64 d5)).setCell ⟨b7, 2, none⟩ (.int .i64 e5) := ⟨_, rfl⟩; rw [← hX9] at HF ⊢; clear hX9))
        clear hbw H7 HO1 h7n hsz
        have HX := Hid.intro (show Bx X9 w.heap.size [.slice a1 ss.length k1, .int .i64 dr, .int .i64 rc] ∧ Bx X9 (w.heap.size + 1) [.int .i64 k, .int .i64 i, .int .i64 j] ∧ Bx X9 (w.heap.size + 1 + 1) [.slice none 0 0, .int .i64 0, .int .i64 0] ∧ Below w.heap.size w X9 ∧ Lies X9 shCommit [.slice a1 ss.length k1, .int .i64 dr, .int .i64 rc] (ss, dr, rc, ()) ∧ w.heap.size + 3 ≤ X9.heap.size from ⟨HX.out.1.next HF.out.2.1, HX.out.2.1.next HF.out.2.1, HX.out.2.2.1.next HF.out.2.1, below_next HX.out.2.2.2.1 HF.out.2.1, HX.out.2.2.2.2.1.next HF.out.2.1, Nat.le_trans HX.out.2.2.2.2.2 (HF.out.2.1).size⟩)
        have z0 := (HX.out.2.2.1).cell 0 rfl; have z1 := (HX.out.2.2.1).cell 1 rfl; have z2 := (HX.out.2.2.1).cell 2 rfl; have zz := (HX.out.2.2.1).2
        have zf0 := HX.out.2.2.1.frz 0 (by simp)
        have zf1 := HX.out.2.2.1.frz 1 (by simp)
        have zf2 := HX.out.2.2.1.frz 2 (by simp)
        go_wp2
        refine bodyPost_ret (v := .tuple #[.agg #[.slice none 0 0, .int .i64 0, .int .i64 0], .bool false]) (by simp [results, Tryd.results17, go_sem, *]) rfl ?_
        exact AnC.zero (Below.trans HX.out.2.2.2.1 ((set3 _ (w.heap.size + 1 + 1) _ _ _).below (fun k e => by have e : k = w.heap.size + 1 + 1 := e; omega) (Below.size HX.out.2.2.2.1)))
    ·
      go_wp2_with fail
      (first | (obtain ⟨W7, hW7⟩ : ∃ x, x = W2.alloc (.cells #[.slice none 0 0, .int .i64 0, .int .i64 0] 29) := ⟨_, rfl⟩; have hb : Below W2.heap.size W2 W7 := hW7 ▸ Go.Joins.below_alloc1 _ _; obtain ⟨b7, hb7⟩ : ∃ b, b = W2.heap.size := ⟨_, rfl⟩; have H7 : Hid (Bx W7 b7 [.slice none 0 0, .int .i64 0, .int .i64 0] ∧ X0.heap.size ≤ b7) := Hid.intro ⟨hb7 ▸ hW7 ▸ Bx.new W2 [_, _, _] _, hb7 ▸ hbw.size⟩; have h7n : Hid (False ∨ W1.heap.size ≤ b7) := Hid.intro (Or.inr (by have := hsz.out; omega)); have hbw := below_next hbw hb; rw [← hW7, ← hb7]; clear hW7 hb7 hb) | (obtain ⟨W7, hW7⟩ : ∃ x, x = W1.alloc (.cells #[.slice none 0 0, .int .i64 0, .int .i64 0] 29) := ⟨_, rfl⟩; have hb : Below W1.heap.size W1 W7 := hW7 ▸ Go.Joins.below_alloc1 _ _; obtain ⟨b7, hb7⟩ : ∃ b, b = W1.heap.size := ⟨_, rfl⟩; have H7 : Hid (Bx W7 b7 [.slice none 0 0, .int .i64 0, .int .i64 0] ∧ X0.heap.size ≤ b7) := Hid.intro ⟨hb7 ▸ hW7 ▸ Bx.new W1 [_, _, _] _, hb7 ▸ hbw.size⟩; have h7n : Hid (False ∨ W1.heap.size ≤ b7) := Hid.intro (Or.inr (by omega)); have HO1 := Hid.intro (And.intro (LsU.next HO1.out.1 hb) HO1.out.2); have hbw := below_next hbw hb; rw [← hW7, ← hb7]; clear hW7 hb7 hb) | (obtain ⟨W7, hW7⟩ : ∃ x, x = X0.alloc (.cells #[.slice none 0 0, .int .i64 0, .int .i64 0] 29) := ⟨_, rfl⟩; have hb : Below X0.heap.size X0 W7 := hW7 ▸ Go.Joins.below_alloc1 _ _; obtain ⟨b7, hb7⟩ : ∃ b, b = X0.heap.size := ⟨_, rfl⟩; have H7 : Hid (Bx W7 b7 [.slice none 0 0, .int .i64 0, .int .i64 0] ∧ X0.heap.size ≤ b7) := Hid.intro ⟨hb7 ▸ hW7 ▸ Bx.new X0 [_, _, _] _, hb7 ▸ hbw.size⟩; have hbw := below_next hbw hb; rw [← hW7, ← hb7]; clear hW7 hb7 hb))
      refine hK.out _ _ hbw (fun hHeld => ?_)
      clear hK KC
      refine ready_call 1 ⟨some 14, Op.call { callee := Callee.value (Operand.func 39), args := #[Operand.tmp 13], argTypes := #[29] }, _, _, _, none⟩ (by kernel_rfl) rfl (by kernel_rfl) (fun KC hK => ?_)
      go_wp2_with fail
      refine (l15Own_n [.slice a1 ss.length k1, .int .i64 dr, .int .i64 rc] ss dr rc _ HZ.out (HLI.out.next hbw)).mono ?_
      rintro r W1 ⟨cs1, rfl, hO, hb⟩
      obtain ⟨v1, hcs, hl1⟩ := LsU.of hO (Nat.le_refl _)
      subst hcs
      obtain ⟨va1, vc1, hv1⟩ := hl1.form
      subst hv1
      have HO1 := Hid.intro (And.intro hl1 hbw.size)
      (first | (have h7n := Hid.intro (Or.inl (b := W1.heap.size ≤ b7) H7.out.1.2); have H7 := Hid.intro (And.intro (H7.out.1.next hb) H7.out.2)) | skip)
      have hbw := below_next hbw hb
      clear hb hO hl1
      refine hK.out _ _ hbw (fun hHeld => ?_)
      clear hK KC
      refine ready_call 3 ⟨some 16, Op.call { callee := Callee.value (Operand.func 38), args := #[Operand.tmp 14, Operand.tmp 15], argTypes := #[29, 48] }, _, _, _, none⟩ (by kernel_rfl) rfl (by kernel_rfl) (fun KC hK => ?_)
      go_wp2_with fail
      refine (l15Step_n _ _ _ ss dr rc k i j _ hn HR.out HO1.out.1).mono ?_
      rintro r W2 ⟨hyes, hno, hT⟩
      obtain ⟨d5, e5, rfl⟩ := hno HE.out
      have hsz := Hid.intro hT.size
      (first | (have H7 := Hid.intro (And.intro (H7.out.1.turnS hT (fun q => by simp only [Btw] at q; rcases h7n.out with e | e; (first | exact e.elim | omega); omega)) H7.out.2)) | skip)
      have hbw := hbw.trans (hT.below (fun k q => Nat.le_trans HO1.out.2 q.1) hbw.size)
      clear hyes hno hT
      refine hK.out _ _ hbw (fun hHeld => ?_)
      clear hK KC
      refine take_v (v := ?_) 4 ⟨some 12, Op.move (Operand.tmp 16), _, _, _, none⟩ rfl (fun _ _ _ h => h) ?_ hHeld ?_
      rotate_left
      · (intro W _; go_simp <;> (try with_reducible rfl))
      refine take_v (v := ?_) 5 ⟨some 17, Op.extract (Operand.tmp 12) 0, _, _, _, none⟩ rfl (fun _ _ _ h => h) ?_ hHeld ?_
      rotate_left
      · (intro W _; go_simp <;> (try with_reducible rfl))
      refine take_v (v := ?_) 6 ⟨some 18, Op.extract (Operand.tmp 12) 1, _, _, _, none⟩ rfl (fun _ _ _ h => h) ?_ hHeld ?_
      rotate_left
      · (intro W _; go_simp <;> (try with_reducible rfl))
      refine ready_call 8 ⟨none, Op.store 29 (Operand.tmp 6) (Operand.tmp 17), _, _, _, none⟩ (by kernel_rfl) rfl (by kernel_rfl) (fun KC hK => ?_)
      have d0 := H7.out.1.cell 0 rfl
      have d1 := H7.out.1.cell 1 rfl
      have d2 := H7.out.1.cell 2 rfl
      have dz := H7.out.1.2
      have f0 := H7.out.1.frz 0 (by simp)
      have f1 := H7.out.1.frz 1 (by simp)
      have f2 := H7.out.1.frz 2 (by simp)
      go_wp2_with fail
      clear d0 d1 d2 dz f0 f1 f2
      have HF := Hid.intro (boxC_none H7.out.1 hbw H7.out.2 (.slice va1 ss.length vc1) (.int .i64 d5) (.int .i64 e5))
      refine hK.out _ _ HF.out.2.1 (fun hHeld => ?_)
      clear hK KC
      refine take_v (v := ?_) 9 ⟨some 7, Op.assign (Operand.tmp 18), _, _, _, none⟩ rfl (fun _ _ _ h => h) ?_ hHeld ?_
      rotate_left
      · (intro W _; go_simp <;> (try with_reducible rfl))
      refine wpAnyH_done (by kernel_rfl) ?_ _
      refine NoPanic.normal ?_
      clear hHeld
      (first | (obtain ⟨X9, hX9⟩ : ∃ x, x = ((W7.setCell ⟨b7, 0, none⟩ (.slice va1 ss.length vc1)).setCell ⟨b7, 1, none⟩ (.int .i64 d5)).setCell ⟨b7, 2, none⟩ (.int .i64 e5) := ⟨_, rfl⟩; rw [← hX9] at HF ⊢; clear hX9) | (obtain ⟨X9, hX9⟩ : ∃ x, x = ((W2.setCell ⟨b7, 0, none⟩ (.slice va1 ss.length vc1)).setCell ⟨b7, 1, none⟩ (.int .i64 d5)).setCell ⟨b7, 2, none⟩ (.int .i64 e5) := ⟨_, rfl⟩; rw [← hX9] at HF ⊢; clear hX9))
      clear hbw H7 HO1 h7n hsz
      have HX := Hid.intro (show Bx X9 w.heap.size [.slice a1 ss.length k1, .int .i64 dr, .int .i64 rc] ∧ Bx X9 (w.heap.size + 1) [.int .i64 k, .int .i64 i, .int .i64 j] ∧ Bx X9 (w.heap.size + 1 + 1) [.slice none 0 0, .int .i64 0, .int .i64 0] ∧ Below w.heap.size w X9 ∧ Lies X9 shCommit [.slice a1 ss.length k1, .int .i64 dr, .int .i64 rc] (ss, dr, rc, ()) ∧ w.heap.size + 3 ≤ X9.heap.size from ⟨HX.out.1.next HF.out.2.1, HX.out.2.1.next HF.out.2.1, HX.out.2.2.1.next HF.out.2.1, below_next HX.out.2.2.2.1 HF.out.2.1, HX.out.2.2.2.2.1.next HF.out.2.1, Nat.le_trans HX.out.2.2.2.2.2 (HF.out.2.1).size⟩)
      have z0 := (HX.out.2.2.1).cell 0 rfl; have z1 := (HX.out.2.2.1).cell 1 rfl; have z2 := (HX.out.2.2.1).cell 2 rfl; have zz := (HX.out.2.2.1).2
      have zf0 := HX.out.2.2.1.frz 0 (by simp)
      have zf1 := HX.out.2.2.1.frz 1 (by simp)
      have zf2 := HX.out.2.2.1.frz 2 (by simp)
      go_wp2
      refine bodyPost_ret (v := .tuple #[.agg #[.slice none 0 0, .int .i64 0, .int .i64 0], .bool false]) (by simp [results, Tryd.results17, go_sem, *]) rfl ?_
      exact AnC.zero (Below.trans HX.out.2.2.2.1 ((set3 _ (w.heap.size + 1 + 1) _ _ _).below (fun k e => by have e : k = w.heap.size + 1 + 1 := e; omega) (Below.size HX.out.2.2.2.1)))
  | some x =>
    obtain ⟨s', d', r'⟩ := x
    refine wp_region_noPanic ?_
    refine wp_region_held_drew (S := fun W => Below X0.heap.size X0 W) (by kernel_rfl) (hX0 ▸ Below.refl _ _) (fun hHeld => ?_)
    rw [← hX0] at hHeld ⊢
    clear hX0
    refine take_v (v := ?_) 0 ⟨some 13, Op.load 29 (Operand.tmp 2), _, _, _, none⟩ rfl (fun _ _ _ h => h) ?_ hHeld ?_
    rotate_left
    · (intro W hSW; (have s0 := (HX.out.1.next hSW).cell 0 rfl; have s1 := (HX.out.1.next hSW).cell 1 rfl; have s2 := (HX.out.1.next hSW).cell 2 rfl; have sz := (HX.out.1.next hSW).2; have t0 := (HX.out.2.1.next hSW).cell 0 rfl; have t1 := (HX.out.2.1.next hSW).cell 1 rfl; have t2 := (HX.out.2.1.next hSW).cell 2 rfl; have tz := (HX.out.2.1.next hSW).2); go_simp <;> (try with_reducible rfl))
    refine take_v (v := ?_) 2 ⟨some 15, Op.load 48 (Operand.tmp 3), _, _, _, none⟩ rfl (fun _ _ _ h => h) ?_ hHeld ?_
    rotate_left
    · (intro W hSW; (have s0 := (HX.out.1.next hSW).cell 0 rfl; have s1 := (HX.out.1.next hSW).cell 1 rfl; have s2 := (HX.out.1.next hSW).cell 2 rfl; have sz := (HX.out.1.next hSW).2; have t0 := (HX.out.2.1.next hSW).cell 0 rfl; have t1 := (HX.out.2.1.next hSW).cell 1 rfl; have t2 := (HX.out.2.1.next hSW).cell 2 rfl; have tz := (HX.out.2.1.next hSW).2); go_simp <;> (try with_reducible rfl))
    refine ready_two 1 7 ⟨some 14, Op.call { callee := Callee.value (Operand.func 39), args := #[Operand.tmp 13], argTypes := #[29] }, _, _, _, none⟩ ⟨some 6, Op.alloc 29, _, _, _, none⟩ (by kernel_rfl) rfl rfl (by kernel_rfl) (by kernel_rfl) (fun KC hK => ?_) (fun KC hK => ?_)
    ·
      go_wp2_with fail
      refine (l15Own_n [.slice a1 ss.length k1, .int .i64 dr, .int .i64 rc] ss dr rc _ HZ.out (HLI.out.next hbw)).mono ?_
      rintro r W1 ⟨cs1, rfl, hO, hb⟩
      obtain ⟨v1, hcs, hl1⟩ := LsU.of hO (Nat.le_refl _)
      subst hcs
      obtain ⟨va1, vc1, hv1⟩ := hl1.form
      subst hv1
      have HO1 := Hid.intro (And.intro hl1 hbw.size)
      (first | (have h7n := Hid.intro (Or.inl (b := W1.heap.size ≤ b7) H7.out.1.2); have H7 := Hid.intro (And.intro (H7.out.1.next hb) H7.out.2)) | skip)
      have hbw := below_next hbw hb
      clear hb hO hl1
      refine hK.out _ _ hbw (fun hHeld => ?_)
      clear hK KC
      refine ready_two 3 7 ⟨some 16, Op.call { callee := Callee.value (Operand.func 38), args := #[Operand.tmp 14, Operand.tmp 15], argTypes := #[29, 48] }, _, _, _, none⟩ ⟨some 6, Op.alloc 29, _, _, _, none⟩ (by kernel_rfl) rfl rfl (by kernel_rfl) (by kernel_rfl) (fun KC hK => ?_) (fun KC hK => ?_)
      ·
        go_wp2_with fail
        refine (l15Step_n _ _ _ ss dr rc k i j _ hn HR.out HO1.out.1).mono ?_
        rintro r W2 ⟨hyes, hno, hT⟩
        obtain ⟨rfl, hl2⟩ := hyes _ HE.out
        have HO2 := Hid.intro hl2
        clear hl2
        have hsz := Hid.intro hT.size
        (first | (have H7 := Hid.intro (And.intro (H7.out.1.turnS hT (fun q => by simp only [Btw] at q; rcases h7n.out with e | e; (first | exact e.elim | omega); omega)) H7.out.2)) | skip)
        have hbw := hbw.trans (hT.below (fun k q => Nat.le_trans HO1.out.2 q.1) hbw.size)
        clear hyes hno hT
        refine hK.out _ _ hbw (fun hHeld => ?_)
        clear hK KC
        refine take_v (v := ?_) 4 ⟨some 12, Op.move (Operand.tmp 16), _, _, _, none⟩ rfl (fun _ _ _ h => h) ?_ hHeld ?_
        rotate_left
        · (intro W _; go_simp <;> (try with_reducible rfl))
        refine take_v (v := ?_) 5 ⟨some 17, Op.extract (Operand.tmp 12) 0, _, _, _, none⟩ rfl (fun _ _ _ h => h) ?_ hHeld ?_
        rotate_left
        · (intro W _; go_simp <;> (try with_reducible rfl))
        refine take_v (v := ?_) 6 ⟨some 18, Op.extract (Operand.tmp 12) 1, _, _, _, none⟩ rfl (fun _ _ _ h => h) ?_ hHeld ?_
        rotate_left
        · (intro W _; go_simp <;> (try with_reducible rfl))
        refine ready_call 7 ⟨some 6, Op.alloc 29, _, _, _, none⟩ (by kernel_rfl) rfl (by kernel_rfl) (fun KC hK => ?_)
        go_wp2_with fail
        (first | (obtain ⟨W7, hW7⟩ : ∃ x, x = W2.alloc (.cells #[.slice none 0 0, .int .i64 0, .int .i64 0] 29) := ⟨_, rfl⟩; have hb : Below W2.heap.size W2 W7 := hW7 ▸ Go.Joins.below_alloc1 _ _; obtain ⟨b7, hb7⟩ : ∃ b, b = W2.heap.size := ⟨_, rfl⟩; have H7 : Hid (Bx W7 b7 [.slice none 0 0, .int .i64 0, .int .i64 0] ∧ X0.heap.size ≤ b7) := Hid.intro ⟨hb7 ▸ hW7 ▸ Bx.new W2 [_, _, _] _, hb7 ▸ hbw.size⟩; have h7n : Hid (False ∨ W1.heap.size ≤ b7) := Hid.intro (Or.inr (by have := hsz.out; omega)); have HO2 := Hid.intro (LsU.next HO2.out hb); have hbw := below_next hbw hb; rw [← hW7, ← hb7]; clear hW7 hb7 hb) | (obtain ⟨W7, hW7⟩ : ∃ x, x = W1.alloc (.cells #[.slice none 0 0, .int .i64 0, .int .i64 0] 29) := ⟨_, rfl⟩; have hb : Below W1.heap.size W1 W7 := hW7 ▸ Go.Joins.below_alloc1 _ _; obtain ⟨b7, hb7⟩ : ∃ b, b = W1.heap.size := ⟨_, rfl⟩; have H7 : Hid (Bx W7 b7 [.slice none 0 0, .int .i64 0, .int .i64 0] ∧ X0.heap.size ≤ b7) := Hid.intro ⟨hb7 ▸ hW7 ▸ Bx.new W1 [_, _, _] _, hb7 ▸ hbw.size⟩; have h7n : Hid (False ∨ W1.heap.size ≤ b7) := Hid.intro (Or.inr (by omega)); have HO1 := Hid.intro (And.intro (LsU.next HO1.out.1 hb) HO1.out.2); have hbw := below_next hbw hb; rw [← hW7, ← hb7]; clear hW7 hb7 hb) | (obtain ⟨W7, hW7⟩ : ∃ x, x = X0.alloc (.cells #[.slice none 0 0, .int .i64 0, .int .i64 0] 29) := ⟨_, rfl⟩; have hb : Below X0.heap.size X0 W7 := hW7 ▸ Go.Joins.below_alloc1 _ _; obtain ⟨b7, hb7⟩ : ∃ b, b = X0.heap.size := ⟨_, rfl⟩; have H7 : Hid (Bx W7 b7 [.slice none 0 0, .int .i64 0, .int .i64 0] ∧ X0.heap.size ≤ b7) := Hid.intro ⟨hb7 ▸ hW7 ▸ Bx.new X0 [_, _, _] _, hb7 ▸ hbw.size⟩; have hbw := below_next hbw hb; rw [← hW7, ← hb7]; clear hW7 hb7 hb))
        refine hK.out _ _ hbw (fun hHeld => ?_)
        clear hK KC
        refine ready_call 8 ⟨none, Op.store 29 (Operand.tmp 6) (Operand.tmp 17), _, _, _, none⟩ (by kernel_rfl) rfl (by kernel_rfl) (fun KC hK => ?_)
        have d0 := H7.out.1.cell 0 rfl
        have d1 := H7.out.1.cell 1 rfl
        have d2 := H7.out.1.cell 2 rfl
        have dz := H7.out.1.2
        have f0 := H7.out.1.frz 0 (by simp)
        have f1 := H7.out.1.frz 1 (by simp)
        have f2 := H7.out.1.frz 2 (by simp)
        go_wp2_with fail
        clear d0 d1 d2 dz f0 f1 f2
        have HF := Hid.intro (boxC_some H7.out.1 HO2.out (by first | exact h7n.out | exact h7n.out.imp False.elim id) hbw H7.out.2 (.slice va1 ss.length vc1) (.int .i64 d') (.int .i64 r'))
        refine hK.out _ _ HF.out.2.1 (fun hHeld => ?_)
        clear hK KC
        refine take_v (v := ?_) 9 ⟨some 7, Op.assign (Operand.tmp 18), _, _, _, none⟩ rfl (fun _ _ _ h => h) ?_ hHeld ?_
        rotate_left
        · (intro W _; go_simp <;> (try with_reducible rfl))
        refine wpAnyH_done (by kernel_rfl) ?_ _
        refine NoPanic.normal ?_
        clear hHeld
        (first | (obtain ⟨X9, hX9⟩ : ∃ x, x = ((W7.setCell ⟨b7, 0, none⟩ (.slice va1 ss.length vc1)).setCell ⟨b7, 1, none⟩ (.int .i64 d')).setCell ⟨b7, 2, none⟩ (.int .i64 r') := ⟨_, rfl⟩; rw [← hX9] at HF ⊢; clear hX9) | (obtain ⟨X9, hX9⟩ : ∃ x, x = ((W2.setCell ⟨b7, 0, none⟩ (.slice va1 ss.length vc1)).setCell ⟨b7, 1, none⟩ (.int .i64 d')).setCell ⟨b7, 2, none⟩ (.int .i64 r') := ⟨_, rfl⟩; rw [← hX9] at HF ⊢; clear hX9))
        clear hbw H7 HO2 h7n hsz
        have HX := Hid.intro (show Bx X9 w.heap.size [.slice a1 ss.length k1, .int .i64 dr, .int .i64 rc] ∧ Bx X9 (w.heap.size + 1) [.int .i64 k, .int .i64 i, .int .i64 j] ∧ Bx X9 (w.heap.size + 1 + 1) [.slice none 0 0, .int .i64 0, .int .i64 0] ∧ Below w.heap.size w X9 ∧ Lies X9 shCommit [.slice a1 ss.length k1, .int .i64 dr, .int .i64 rc] (ss, dr, rc, ()) ∧ w.heap.size + 3 ≤ X9.heap.size from ⟨HX.out.1.next HF.out.2.1, HX.out.2.1.next HF.out.2.1, HX.out.2.2.1.next HF.out.2.1, below_next HX.out.2.2.2.1 HF.out.2.1, HX.out.2.2.2.2.1.next HF.out.2.1, Nat.le_trans HX.out.2.2.2.2.2 (HF.out.2.1).size⟩)
        have y0 := (HF.out.1).cell 0 rfl; have y1 := (HF.out.1).cell 1 rfl; have y2 := (HF.out.1).cell 2 rfl; have yz := (HF.out.1).2
        have z0 := (HX.out.2.2.1).cell 0 rfl; have z1 := (HX.out.2.2.1).cell 1 rfl; have z2 := (HX.out.2.2.1).cell 2 rfl; have zz := (HX.out.2.2.1).2
        have zf0 := HX.out.2.2.1.frz 0 (by simp)
        have zf1 := HX.out.2.2.1.frz 1 (by simp)
        have zf2 := HX.out.2.2.1.frz 2 (by simp)
        have h7z := HF.out.2.2.1
        go_wp2
        refine bodyPost_ret (v := .tuple #[.agg #[.slice va1 ss.length vc1, .int .i64 d', .int .i64 r'], .bool true]) (by simp [results, Tryd.results17, go_sem, *]) rfl ⟨.slice va1 ss.length vc1, rfl, ?_, ?_⟩
        · have hl := HF.out.2.2.2.turn (set3 X9 (w.heap.size + 1 + 1) (.slice va1 ss.length vc1) (.int .i64 d') (.int .i64 r')) (fun k e => by have e : k = w.heap.size + 1 + 1 := e; have := HLO.out; have := HO1.out.2; omega)
          exact ((hl.commit d' r').lower (by have := HLO.out; have := HO1.out.2; omega)).mono (fun k q => by have := hl.2; have := HLO.out; have := HO1.out.2; simp only [Btw] at q ⊢; omega)
        · exact HX.out.2.2.2.1.trans ((set3 X9 (w.heap.size + 1 + 1) _ _ _).below (fun k e => by have e : k = w.heap.size + 1 + 1 := e; omega) HX.out.2.2.2.1.size)
      ·
        go_wp2_with fail
        (first | (obtain ⟨W7, hW7⟩ : ∃ x, x = W2.alloc (.cells #[.slice none 0 0, .int .i64 0, .int .i64 0] 29) := ⟨_, rfl⟩; have hb : Below W2.heap.size W2 W7 := hW7 ▸ Go.Joins.below_alloc1 _ _; obtain ⟨b7, hb7⟩ : ∃ b, b = W2.heap.size := ⟨_, rfl⟩; have H7 : Hid (Bx W7 b7 [.slice none 0 0, .int .i64 0, .int .i64 0] ∧ X0.heap.size ≤ b7) := Hid.intro ⟨hb7 ▸ hW7 ▸ Bx.new W2 [_, _, _] _, hb7 ▸ hbw.size⟩; have h7n : Hid (False ∨ W1.heap.size ≤ b7) := Hid.intro (Or.inr (by have := hsz.out; omega)); have HO2 := Hid.intro (LsU.next HO2.out hb); have hbw := below_next hbw hb; rw [← hW7, ← hb7]; clear hW7 hb7 hb) | (obtain ⟨W7, hW7⟩ : ∃ x, x = W1.alloc (.cells #[.slice none 0 0, .int .i64 0, .int .i64 0] 29) := ⟨_, rfl⟩; have hb : Below W1.heap.size W1 W7 := hW7 ▸ Go.Joins.below_alloc1 _ _; obtain ⟨b7, hb7⟩ : ∃ b, b = W1.heap.size := ⟨_, rfl⟩; have H7 : Hid (Bx W7 b7 [.slice none 0 0, .int .i64 0, .int .i64 0] ∧ X0.heap.size ≤ b7) := Hid.intro ⟨hb7 ▸ hW7 ▸ Bx.new W1 [_, _, _] _, hb7 ▸ hbw.size⟩; have h7n : Hid (False ∨ W1.heap.size ≤ b7) := Hid.intro (Or.inr (by omega)); have HO1 := Hid.intro (And.intro (LsU.next HO1.out.1 hb) HO1.out.2); have hbw := below_next hbw hb; rw [← hW7, ← hb7]; clear hW7 hb7 hb) | (obtain ⟨W7, hW7⟩ : ∃ x, x = X0.alloc (.cells #[.slice none 0 0, .int .i64 0, .int .i64 0] 29) := ⟨_, rfl⟩; have hb : Below X0.heap.size X0 W7 := hW7 ▸ Go.Joins.below_alloc1 _ _; obtain ⟨b7, hb7⟩ : ∃ b, b = X0.heap.size := ⟨_, rfl⟩; have H7 : Hid (Bx W7 b7 [.slice none 0 0, .int .i64 0, .int .i64 0] ∧ X0.heap.size ≤ b7) := Hid.intro ⟨hb7 ▸ hW7 ▸ Bx.new X0 [_, _, _] _, hb7 ▸ hbw.size⟩; have hbw := below_next hbw hb; rw [← hW7, ← hb7]; clear hW7 hb7 hb))
        refine hK.out _ _ hbw (fun hHeld => ?_)
        clear hK KC
        refine ready_call 3 ⟨some 16, Op.call { callee := Callee.value (Operand.func 38), args := #[Operand.tmp 14, Operand.tmp 15], argTypes := #[29, 48] }, _, _, _, none⟩ (by kernel_rfl) rfl (by kernel_rfl) (fun KC hK => ?_)
        go_wp2_with fail
        refine (l15Step_n _ _ _ ss dr rc k i j _ hn HR.out HO1.out.1).mono ?_
        rintro r W2 ⟨hyes, hno, hT⟩
        obtain ⟨rfl, hl2⟩ := hyes _ HE.out
        have HO2 := Hid.intro hl2
        clear hl2
        have hsz := Hid.intro hT.size
        (first | (have H7 := Hid.intro (And.intro (H7.out.1.turnS hT (fun q => by simp only [Btw] at q; rcases h7n.out with e | e; (first | exact e.elim | omega); omega)) H7.out.2)) | skip)
        have hbw := hbw.trans (hT.below (fun k q => Nat.le_trans HO1.out.2 q.1) hbw.size)
        clear hyes hno hT
        refine hK.out _ _ hbw (fun hHeld => ?_)
        clear hK KC
        refine take_v (v := ?_) 4 ⟨some 12, Op.move (Operand.tmp 16), _, _, _, none⟩ rfl (fun _ _ _ h => h) ?_ hHeld ?_
        rotate_left
        · (intro W _; go_simp <;> (try with_reducible rfl))
        refine take_v (v := ?_) 5 ⟨some 17, Op.extract (Operand.tmp 12) 0, _, _, _, none⟩ rfl (fun _ _ _ h => h) ?_ hHeld ?_
        rotate_left
        · (intro W _; go_simp <;> (try with_reducible rfl))
        refine take_v (v := ?_) 6 ⟨some 18, Op.extract (Operand.tmp 12) 1, _, _, _, none⟩ rfl (fun _ _ _ h => h) ?_ hHeld ?_
        rotate_left
        · (intro W _; go_simp <;> (try with_reducible rfl))
        refine ready_call 8 ⟨none, Op.store 29 (Operand.tmp 6) (Operand.tmp 17), _, _, _, none⟩ (by kernel_rfl) rfl (by kernel_rfl) (fun KC hK => ?_)
        have d0 := H7.out.1.cell 0 rfl
        have d1 := H7.out.1.cell 1 rfl
        have d2 := H7.out.1.cell 2 rfl
        have dz := H7.out.1.2
        have f0 := H7.out.1.frz 0 (by simp)
        have f1 := H7.out.1.frz 1 (by simp)
        have f2 := H7.out.1.frz 2 (by simp)
        go_wp2_with fail
        clear d0 d1 d2 dz f0 f1 f2
        have HF := Hid.intro (boxC_some H7.out.1 HO2.out (by first | exact h7n.out | exact h7n.out.imp False.elim id) hbw H7.out.2 (.slice va1 ss.length vc1) (.int .i64 d') (.int .i64 r'))
        refine hK.out _ _ HF.out.2.1 (fun hHeld => ?_)
        clear hK KC
        refine take_v (v := ?_) 9 ⟨some 7, Op.assign (Operand.tmp 18), _, _, _, none⟩ rfl (fun _ _ _ h => h) ?_ hHeld ?_
        rotate_left
        · (intro W _; go_simp <;> (try with_reducible rfl))
        refine wpAnyH_done (by kernel_rfl) ?_ _
        refine NoPanic.normal ?_
        clear hHeld
        (first | (obtain ⟨X9, hX9⟩ : ∃ x, x = ((W7.setCell ⟨b7, 0, none⟩ (.slice va1 ss.length vc1)).setCell ⟨b7, 1, none⟩ (.int .i64 d')).setCell ⟨b7, 2, none⟩ (.int .i64 r') := ⟨_, rfl⟩; rw [← hX9] at HF ⊢; clear hX9) | (obtain ⟨X9, hX9⟩ : ∃ x, x = ((W2.setCell ⟨b7, 0, none⟩ (.slice va1 ss.length vc1)).setCell ⟨b7, 1, none⟩ (.int .i64 d')).setCell ⟨b7, 2, none⟩ (.int .i64 r') := ⟨_, rfl⟩; rw [← hX9] at HF ⊢; clear hX9))
        clear hbw H7 HO2 h7n hsz
        have HX := Hid.intro (show Bx X9 w.heap.size [.slice a1 ss.length k1, .int .i64 dr, .int .i64 rc] ∧ Bx X9 (w.heap.size + 1) [.int .i64 k, .int .i64 i, .int .i64 j] ∧ Bx X9 (w.heap.size + 1 + 1) [.slice none 0 0, .int .i64 0, .int .i64 0] ∧ Below w.heap.size w X9 ∧ Lies X9 shCommit [.slice a1 ss.length k1, .int .i64 dr, .int .i64 rc] (ss, dr, rc, ()) ∧ w.heap.size + 3 ≤ X9.heap.size from ⟨HX.out.1.next HF.out.2.1, HX.out.2.1.next HF.out.2.1, HX.out.2.2.1.next HF.out.2.1, below_next HX.out.2.2.2.1 HF.out.2.1, HX.out.2.2.2.2.1.next HF.out.2.1, Nat.le_trans HX.out.2.2.2.2.2 (HF.out.2.1).size⟩)
        have y0 := (HF.out.1).cell 0 rfl; have y1 := (HF.out.1).cell 1 rfl; have y2 := (HF.out.1).cell 2 rfl; have yz := (HF.out.1).2
        have z0 := (HX.out.2.2.1).cell 0 rfl; have z1 := (HX.out.2.2.1).cell 1 rfl; have z2 := (HX.out.2.2.1).cell 2 rfl; have zz := (HX.out.2.2.1).2
        have zf0 := HX.out.2.2.1.frz 0 (by simp)
        have zf1 := HX.out.2.2.1.frz 1 (by simp)
        have zf2 := HX.out.2.2.1.frz 2 (by simp)
        have h7z := HF.out.2.2.1
        go_wp2
        refine bodyPost_ret (v := .tuple #[.agg #[.slice va1 ss.length vc1, .int .i64 d', .int .i64 r'], .bool true]) (by simp [results, Tryd.results17, go_sem, *]) rfl ⟨.slice va1 ss.length vc1, rfl, ?_, ?_⟩
        · have hl := HF.out.2.2.2.turn (set3 X9 (w.heap.size + 1 + 1) (.slice va1 ss.length vc1) (.int .i64 d') (.int .i64 r')) (fun k e => by have e : k = w.heap.size + 1 + 1 := e; have := HLO.out; have := HO1.out.2; omega)
          exact ((hl.commit d' r').lower (by have := HLO.out; have := HO1.out.2; omega)).mono (fun k q => by have := hl.2; have := HLO.out; have := HO1.out.2; simp only [Btw] at q ⊢; omega)
        · exact HX.out.2.2.2.1.trans ((set3 X9 (w.heap.size + 1 + 1) _ _ _).below (fun k e => by have e : k = w.heap.size + 1 + 1 := e; omega) HX.out.2.2.2.1.size)
    ·
      go_wp2_with fail
      (first | (obtain ⟨W7, hW7⟩ : ∃ x, x = W2.alloc (.cells #[.slice none 0 0, .int .i64 0, .int .i64 0] 29) := ⟨_, rfl⟩; have hb : Below W2.heap.size W2 W7 := hW7 ▸ Go.Joins.below_alloc1 _ _; obtain ⟨b7, hb7⟩ : ∃ b, b = W2.heap.size := ⟨_, rfl⟩; have H7 : Hid (Bx W7 b7 [.slice none 0 0, .int .i64 0, .int .i64 0] ∧ X0.heap.size ≤ b7) := Hid.intro ⟨hb7 ▸ hW7 ▸ Bx.new W2 [_, _, _] _, hb7 ▸ hbw.size⟩; have h7n : Hid (False ∨ W1.heap.size ≤ b7) := Hid.intro (Or.inr (by have := hsz.out; omega)); have HO2 := Hid.intro (LsU.next HO2.out hb); have hbw := below_next hbw hb; rw [← hW7, ← hb7]; clear hW7 hb7 hb) | (obtain ⟨W7, hW7⟩ : ∃ x, x = W1.alloc (.cells #[.slice none 0 0, .int .i64 0, .int .i64 0] 29) := ⟨_, rfl⟩; have hb : Below W1.heap.size W1 W7 := hW7 ▸ Go.Joins.below_alloc1 _ _; obtain ⟨b7, hb7⟩ : ∃ b, b = W1.heap.size := ⟨_, rfl⟩; have H7 : Hid (Bx W7 b7 [.slice none 0 0, .int .i64 0, .int .i64 0] ∧ X0.heap.size ≤ b7) := Hid.intro ⟨hb7 ▸ hW7 ▸ Bx.new W1 [_, _, _] _, hb7 ▸ hbw.size⟩; have h7n : Hid (False ∨ W1.heap.size ≤ b7) := Hid.intro (Or.inr (by omega)); have HO1 := Hid.intro (And.intro (LsU.next HO1.out.1 hb) HO1.out.2); have hbw := below_next hbw hb; rw [← hW7, ← hb7]; clear hW7 hb7 hb) | (obtain ⟨W7, hW7⟩ : ∃ x, x = X0.alloc (.cells #[.slice none 0 0, .int .i64 0, .int .i64 0] 29) := ⟨_, rfl⟩; have hb : Below X0.heap.size X0 W7 := hW7 ▸ Go.Joins.below_alloc1 _ _; obtain ⟨b7, hb7⟩ : ∃ b, b = X0.heap.size := ⟨_, rfl⟩; have H7 : Hid (Bx W7 b7 [.slice none 0 0, .int .i64 0, .int .i64 0] ∧ X0.heap.size ≤ b7) := Hid.intro ⟨hb7 ▸ hW7 ▸ Bx.new X0 [_, _, _] _, hb7 ▸ hbw.size⟩; have hbw := below_next hbw hb; rw [← hW7, ← hb7]; clear hW7 hb7 hb))
      refine hK.out _ _ hbw (fun hHeld => ?_)
      clear hK KC
      refine ready_call 1 ⟨some 14, Op.call { callee := Callee.value (Operand.func 39), args := #[Operand.tmp 13], argTypes := #[29] }, _, _, _, none⟩ (by kernel_rfl) rfl (by kernel_rfl) (fun KC hK => ?_)
      go_wp2_with fail
      refine (l15Own_n [.slice a1 ss.length k1, .int .i64 dr, .int .i64 rc] ss dr rc _ HZ.out (HLI.out.next hbw)).mono ?_
      rintro r W1 ⟨cs1, rfl, hO, hb⟩
      obtain ⟨v1, hcs, hl1⟩ := LsU.of hO (Nat.le_refl _)
      subst hcs
      obtain ⟨va1, vc1, hv1⟩ := hl1.form
      subst hv1
      have HO1 := Hid.intro (And.intro hl1 hbw.size)
      (first | (have h7n := Hid.intro (Or.inl (b := W1.heap.size ≤ b7) H7.out.1.2); have H7 := Hid.intro (And.intro (H7.out.1.next hb) H7.out.2)) | skip)
      have hbw := below_next hbw hb
      clear hb hO hl1
      refine hK.out _ _ hbw (fun hHeld => ?_)
      clear hK KC
      refine ready_call 3 ⟨some 16, Op.call { callee := Callee.value (Operand.func 38), args := #[Operand.tmp 14, Operand.tmp 15], argTypes := #[29, 48] }, _, _, _, none⟩ (by kernel_rfl) rfl (by kernel_rfl) (fun KC hK => ?_)
      go_wp2_with fail
      refine (l15Step_n _ _ _ ss dr rc k i j _ hn HR.out HO1.out.1).mono ?_
      rintro r W2 ⟨hyes, hno, hT⟩
      obtain ⟨rfl, hl2⟩ := hyes _ HE.out
      have HO2 := Hid.intro hl2
      clear hl2
      have hsz := Hid.intro hT.size
      (first | (have H7 := Hid.intro (And.intro (H7.out.1.turnS hT (fun q => by simp only [Btw] at q; rcases h7n.out with e | e; (first | exact e.elim | omega); omega)) H7.out.2)) | skip)
      have hbw := hbw.trans (hT.below (fun k q => Nat.le_trans HO1.out.2 q.1) hbw.size)
      clear hyes hno hT
      refine hK.out _ _ hbw (fun hHeld => ?_)
      clear hK KC
      refine take_v (v := ?_) 4 ⟨some 12, Op.move (Operand.tmp 16), _, _, _, none⟩ rfl (fun _ _ _ h => h) ?_ hHeld ?_
      rotate_left
      · (intro W _; go_simp <;> (try with_reducible rfl))
      refine take_v (v := ?_) 5 ⟨some 17, Op.extract (Operand.tmp 12) 0, _, _, _, none⟩ rfl (fun _ _ _ h => h) ?_ hHeld ?_
      rotate_left
      · (intro W _; go_simp <;> (try with_reducible rfl))
      refine take_v (v := ?_) 6 ⟨some 18, Op.extract (Operand.tmp 12) 1, _, _, _, none⟩ rfl (fun _ _ _ h => h) ?_ hHeld ?_
      rotate_left
      · (intro W _; go_simp <;> (try with_reducible rfl))
      refine ready_call 8 ⟨none, Op.store 29 (Operand.tmp 6) (Operand.tmp 17), _, _, _, none⟩ (by kernel_rfl) rfl (by kernel_rfl) (fun KC hK => ?_)
      have d0 := H7.out.1.cell 0 rfl
      have d1 := H7.out.1.cell 1 rfl
      have d2 := H7.out.1.cell 2 rfl
      have dz := H7.out.1.2
      have f0 := H7.out.1.frz 0 (by simp)
      have f1 := H7.out.1.frz 1 (by simp)
      have f2 := H7.out.1.frz 2 (by simp)
      go_wp2_with fail
      clear d0 d1 d2 dz f0 f1 f2
      have HF := Hid.intro (boxC_some H7.out.1 HO2.out (by first | exact h7n.out | exact h7n.out.imp False.elim id) hbw H7.out.2 (.slice va1 ss.length vc1) (.int .i64 d') (.int .i64 r'))
      refine hK.out _ _ HF.out.2.1 (fun hHeld => ?_)
      clear hK KC
      refine take_v (v := ?_) 9 ⟨some 7, Op.assign (Operand.tmp 18), _, _, _, none⟩ rfl (fun _ _ _ h => h) ?_ hHeld ?_
      rotate_left
      · (intro W _; go_simp <;> (try with_reducible rfl))
      refine wpAnyH_done (by kernel_rfl) ?_ _
      refine NoPanic.normal ?_
      clear hHeld
      (first | (obtain ⟨X9, hX9⟩ : ∃ x, x = ((W7.setCell ⟨b7, 0, none⟩ (.slice va1 ss.length vc1)).setCell ⟨b7, 1, none⟩ (.int .i64 d')).setCell ⟨b7, 2, none⟩ (.int .i64 r') := ⟨_, rfl⟩; rw [← hX9] at HF ⊢; clear hX9) | (obtain ⟨X9, hX9⟩ : ∃ x, x = ((W2.setCell ⟨b7, 0, none⟩ (.slice va1 ss.length vc1)).setCell ⟨b7, 1, none⟩ (.int .i64 d')).setCell ⟨b7, 2, none⟩ (.int .i64 r') := ⟨_, rfl⟩; rw [← hX9] at HF ⊢; clear hX9))
      clear hbw H7 HO2 h7n hsz
      have HX := Hid.intro (show Bx X9 w.heap.size [.slice a1 ss.length k1, .int .i64 dr, .int .i64 rc] ∧ Bx X9 (w.heap.size + 1) [.int .i64 k, .int .i64 i, .int .i64 j] ∧ Bx X9 (w.heap.size + 1 + 1) [.slice none 0 0, .int .i64 0, .int .i64 0] ∧ Below w.heap.size w X9 ∧ Lies X9 shCommit [.slice a1 ss.length k1, .int .i64 dr, .int .i64 rc] (ss, dr, rc, ()) ∧ w.heap.size + 3 ≤ X9.heap.size from ⟨HX.out.1.next HF.out.2.1, HX.out.2.1.next HF.out.2.1, HX.out.2.2.1.next HF.out.2.1, below_next HX.out.2.2.2.1 HF.out.2.1, HX.out.2.2.2.2.1.next HF.out.2.1, Nat.le_trans HX.out.2.2.2.2.2 (HF.out.2.1).size⟩)
      have y0 := (HF.out.1).cell 0 rfl; have y1 := (HF.out.1).cell 1 rfl; have y2 := (HF.out.1).cell 2 rfl; have yz := (HF.out.1).2
      have z0 := (HX.out.2.2.1).cell 0 rfl; have z1 := (HX.out.2.2.1).cell 1 rfl; have z2 := (HX.out.2.2.1).cell 2 rfl; have zz := (HX.out.2.2.1).2
      have zf0 := HX.out.2.2.1.frz 0 (by simp)
      have zf1 := HX.out.2.2.1.frz 1 (by simp)
      have zf2 := HX.out.2.2.1.frz 2 (by simp)
      have h7z := HF.out.2.2.1
      go_wp2
      refine bodyPost_ret (v := .tuple #[.agg #[.slice va1 ss.length vc1, .int .i64 d', .int .i64 r'], .bool true]) (by simp [results, Tryd.results17, go_sem, *]) rfl ⟨.slice va1 ss.length vc1, rfl, ?_, ?_⟩
      · have hl := HF.out.2.2.2.turn (set3 X9 (w.heap.size + 1 + 1) (.slice va1 ss.length vc1) (.int .i64 d') (.int .i64 r')) (fun k e => by have e : k = w.heap.size + 1 + 1 := e; have := HLO.out; have := HO1.out.2; omega)
        exact ((hl.commit d' r').lower (by have := HLO.out; have := HO1.out.2; omega)).mono (fun k q => by have := hl.2; have := HLO.out; have := HO1.out.2; simp only [Btw] at q ⊢; omega)
      · exact HX.out.2.2.2.1.trans ((set3 X9 (w.heap.size + 1 + 1) _ _ _).below (fun k e => by have e : k = w.heap.size + 1 + 1 := e; omega) HX.out.2.2.2.1.size)

end Go.Proofs.YtkpobihpcnoemaaDoor
/- Commits: a step keeps what is good; StepCommit as its law wants it. -/
namespace Go.Proofs.YtkpobihpcnoemaaDoor
open Go.RowKit
set_option linter.unusedVariables false
set_option linter.unusedSimpArgs false

theorem nx_ok {l : List Shd} {dr rc : Int} {s : Shd} {j : Nat} {r y : Rpl} {k : Int} (h : nxR l dr rc s j r k = some y) : unkB y = false := by
  unfold nxR at h
  repeat' split at h
  all_goals (first | (cases h; rfl) | cases h)
theorem goodC_set {ss : List Shd} {dr rc : Int} {n m : Nat} {s : Shd} {y : Rpl} (hg : goodC ss dr rc = true) (hs : ss[n]? = some s) (hy : unkB y = false) : goodC (ss.set n (mkS ((srs s).set m y))) dr rc = true := by
  unfold goodC at hg ⊢
  simp only [Bool.and_eq_true, List.length_set] at hg ⊢
  refine ⟨hg.1, List.all_eq_true.2 fun o ho => ?_⟩
  rcases List.mem_or_eq_of_mem_set ho with q | q
  · exact List.all_eq_true.1 hg.2 o q
  subst q
  have h1 := List.all_eq_true.1 hg.2 s (List.mem_of_getElem? hs)
  unfold shB at h1 ⊢
  simp only [Bool.and_eq_true, srs_mk, List.length_set] at h1 ⊢
  refine ⟨h1.1, ?_⟩
  have h2 : (srs s).any unkB = false := by simpa using h1.2
  have : ((srs s).set m y).any unkB = false := any_none (fun o ho => by
    rcases List.mem_or_eq_of_mem_set ho with q | q
    · have := List.any_eq_false.1 h2 o q; simpa using this
    · rw [q]; exact hy)
  rw [this]; rfl
theorem stR_good {ss : List Shd} {dr rc k i j : Int} {x : Cmt} (hg : goodC ss dr rc = true) (h : stR ss dr rc k i j = some x) : goodC x.1 x.2.1 x.2.2 = true := by
  unfold stR at h
  split at h
  · split at h
    · rename_i s hs
      split at h
      · split at h
        · cases h
        · obtain ⟨y, hy, hx⟩ := Option.map_eq_some_iff.1 h
          subst hx
          exact goodC_set hg hs (nx_ok hy)
      · cases h
    · cases h
  · cases h
theorem stC_good {ss : List Shd} {dr rc k i j : Int} {x : Cmt} (hg : goodC ss dr rc = true) (h : stC ss dr rc k i j = some x) : goodC x.1 x.2.1 x.2.2 = true := by
  have hg0 := hg
  unfold goodC at hg
  simp only [Bool.and_eq_true] at hg
  obtain ⟨⟨⟨h1, h2⟩, h3⟩, h4⟩ := hg
  have mk : ∀ d r : Int, inR d 0 2 = true → inR r 0 2 = true → goodC ss d r = true := fun d r a b => by unfold goodC; rw [a, b, h3, h4]; rfl
  unfold stC at h
  split at h
  · split at h
    · cases h; exact mk 1 rc (by decide) h2
    · cases h
  · split at h
    · split at h
      · cases h; exact mk 2 rc (by decide) h2
      · cases h
    · split at h
      · split at h
        · cases h
          refine mk dr (recN ss dr) h1 ?_
          unfold recN
          split
          · split <;> decide
          · exact h1
        · cases h
      · exact stR_good hg0 h
theorem stS_good {ss : List Shd} {dr rc k i j : Int} {x : Cmt} (h : stS ss dr rc k i j = some x) : goodC x.1 x.2.1 x.2.2 = true := by
  unfold stS at h
  split at h
  · rename_i hg; exact stC_good hg h
  · cases h
def partsC (E : Option Cmt) (NS : List Shd) (nd nr : Int) (z : Bool) : Prop := (E.getD ([], 0, 0)).1 = NS ∧ (E.getD ([], 0, 0)).2.1 = nd ∧ (E.getD ([], 0, 0)).2.2 = nr ∧ E.isSome = z
theorem partsC_sz {ss : List Shd} {dr rc k i j nd nr : Int} {NS : List Shd} {z : Bool} (h : partsC (stS ss dr rc k i j) NS nd nr z) (hz : szD shCommit (ss, dr, rc, ()) ≤ 1073741824) : szD shCommit (NS, nd, nr, ()) ≤ 1073741824 := by
  obtain ⟨h1, h2, h3, h4⟩ := h
  cases he : stS ss dr rc k i j with
  | none => rw [he] at h1; have h1 : ([] : List Shd) = NS := h1; subst h1; exact Nat.zero_le _
  | some x =>
    rw [he] at h1 h2 h3
    have h5 := good_szC (stS_good he)
    have h1 : x.1 = NS := h1
    have h2 : x.2.1 = nd := h2
    have h3 : x.2.2 = nr := h3
    rw [h1, h2, h3] at h5
    omega
theorem stepCommit_l (cs : List Value) (ss : List Shd) (dr rc k i j : Int) (w : World) (NS : List Shd) (nd nr : Int) (z : Bool) (hA : partsC (stS ss dr rc k i j) NS nd nr z) (hz : szD shCommit (ss, dr, rc, ()) ≤ 1073741824) (hf : Flt w) (h : Lies w shCommit cs (ss, dr, rc, ())) :
    Calls Tryd.prog 15 #[.agg cs.toArray, .agg #[.int .i64 k, .int .i64 i, .int .i64 j]] w (AnsP shCommit (NS, nd, nr, ()) z w) := by
  obtain ⟨rfl, rfl, rfl, rfl⟩ := hA
  exact (stepCommit_n cs ss dr rc k i j w hz hf h).mono (fun r w' => AnC.out)
theorem specStepCommit_l (cs : List Value) (ss : List Shd) (dr rc k i j : Int) (w : World) (NS : List Shd) (nd nr : Int) (z : Bool) (hA : partsC (stS ss dr rc k i j) NS nd nr z) (hz : szD shCommit (ss, dr, rc, ()) ≤ 1073741824) (h : Lies w shCommit cs (ss, dr, rc, ())) :
    Calls Tryd.prog 17 #[.agg cs.toArray, .agg #[.int .i64 k, .int .i64 i, .int .i64 j]] w (AnsP shCommit (NS, nd, nr, ()) z w) := by
  obtain ⟨rfl, rfl, rfl, rfl⟩ := hA
  exact (specStepCommit_n cs ss dr rc k i j w hz h).mono (fun r w' => AnC.out)
end Go.Proofs.YtkpobihpcnoemaaDoor
