/- Commits: impl.StepCommit. Written by tools/mkCpL.py. -/
import Derived.Test.YtkpobihpcnoemaaDoorGaG
import Derived.Test.YtkpobihpcnoemaaDoorCpE
import Derived.Test.YtkpobihpcnoemaaDoorCmC
namespace Go.Proofs.YtkpobihpcnoemaaDoor
open Go.RowKit
set_option linter.unusedVariables false
set_option linter.unusedSimpArgs false

/-- A step on any commit. -/
def stS (ss : List Shd) (dr rc k i j : Int) : Option Cmt := if goodC ss dr rc = true then stC ss dr rc k i j else none
theorem stS_no {ss : List Shd} {dr rc k i j : Int} (h : goodC ss dr rc = false) : stS ss dr rc k i j = none := by unfold stS; rw [h]; rfl
theorem stS_yes {ss : List Shd} {dr rc k i j : Int} (h : goodC ss dr rc = true) : stS ss dr rc k i j = stC ss dr rc k i j := by unfold stS; rw [h]; rfl
/-- What a step answers. -/
def ScP (E : Option Cmt) (w : World) (r : Ending) (w' : World) : Prop := AnC (E.getD ([], 0, 0)).1 (E.getD ([], 0, 0)).2.1 (E.getD ([], 0, 0)).2.2 E.isSome w r w'
theorem good_small {ss : List Shd} {dr rc : Int} (h : goodC ss dr rc = true) : ss.length ≤ 1000 ∧ (∀ s ∈ ss, (srs s).length ≤ 1000) ∧ inR dr 0 2 = true ∧ inR rc 0 2 = true := by
  unfold goodC at h
  simp only [Bool.and_eq_true] at h
  obtain ⟨⟨⟨h1, h2⟩, h3⟩, h4⟩ := h
  refine ⟨by have := (inR_iff.1 h3).2; omega, fun s hs => ?_, h1, h2⟩
  have h5 := List.all_eq_true.1 h4 s hs
  unfold shB at h5
  simp only [Bool.and_eq_true] at h5
  have := (inR_iff.1 h5.1).2; omega


set_option maxRecDepth 100000 in
set_option maxHeartbeats 4000000 in
theorem stepCommit_n (cs : List Value) (ss : List Shd) (dr rc k i j : Int) (w : World) (hz : szD shCommit (ss, dr, rc, ()) ≤ 1073741824) (hf : Flt w) (h : Lies w shCommit cs (ss, dr, rc, ())) :
    Calls Tryd.prog 15 #[.agg cs.toArray, .agg #[.int .i64 k, .int .i64 i, .int .i64 j]] w (ScP (stS ss dr rc k i j) w) := by
  obtain ⟨E0, hE0⟩ : ∃ E, stS ss dr rc k i j = E := ⟨_, rfl⟩
  have HE0 := Hid.intro hE0
  rw [hE0]
  clear hE0
  obtain ⟨a1, k1, rfl, h1⟩ := lies_Commit h
  obtain ⟨w0, hw0⟩ : ∃ x, x = ((w.alloc (.cells #[.slice a1 ss.length k1, .int .i64 dr, .int .i64 rc] 29)).alloc (.cells #[.int .i64 k, .int .i64 i, .int .i64 j] 48)).alloc (.cells #[.slice none 0 0, .int .i64 0, .int .i64 0] 29) := ⟨_, rfl⟩
  have hb0 : Below w.heap.size w w0 := hw0 ▸ (((Below.refl _ _).alloc (Nat.le_refl _) _).alloc (by simp) _).alloc (by simp; omega) _
  have HB0 : Hid (Bx w0 w.heap.size [.slice a1 ss.length k1, .int .i64 dr, .int .i64 rc] ∧ Bx w0 (w.heap.size + 1) [.int .i64 k, .int .i64 i, .int .i64 j] ∧ Bx w0 (w.heap.size + 1 + 1) [.slice none 0 0, .int .i64 0, .int .i64 0] ∧ Below w.heap.size w w0 ∧ Flt w0 ∧ Lies w0 shCommit [.slice a1 ss.length k1, .int .i64 dr, .int .i64 rc] (ss, dr, rc, ()) ∧ w.heap.size + 3 ≤ w0.heap.size) := ⟨hw0 ▸ ((Bx.new w [_, _, _] _).alloc _).alloc _, hw0 ▸ (Bx.newAt (by simp)).alloc _, hw0 ▸ Bx.newAt (by simp), hb0, hf.next hb0 hf.lt, h.next hb0, by rw [hw0]; simp⟩
  have HZ := Hid.intro hz
  clear hb0 h h1 hf hz
  go_enter Tryd.func15, Tryd.ntmps15
  go_upto_region 1 with fail
  rw [← hw0]
  clear hw0
  have s0 := (HB0.out.1).cell 0 rfl; have s1 := (HB0.out.1).cell 1 rfl; have s2 := (HB0.out.1).cell 2 rfl; have sz := (HB0.out.1).2
  go_wp2_with fail
  refine (goodCommit_n _ ss dr rc _ HZ.out HB0.out.2.2.2.2.2.1).mono ?_
  rintro r w1 ⟨rfl, hb⟩
  have HB1 : Hid (Bx w1 w.heap.size [.slice a1 ss.length k1, .int .i64 dr, .int .i64 rc] ∧ Bx w1 (w.heap.size + 1) [.int .i64 k, .int .i64 i, .int .i64 j] ∧ Bx w1 (w.heap.size + 1 + 1) [.slice none 0 0, .int .i64 0, .int .i64 0] ∧ Below w.heap.size w w1 ∧ Flt w1 ∧ Lies w1 shCommit [.slice a1 ss.length k1, .int .i64 dr, .int .i64 rc] (ss, dr, rc, ()) ∧ w.heap.size + 3 ≤ w1.heap.size) := ⟨HB0.out.1.next hb, HB0.out.2.1.next hb, HB0.out.2.2.1.next hb, below_next HB0.out.2.2.2.1 hb, HB0.out.2.2.2.2.1.next hb HB0.out.2.2.2.2.1.lt, HB0.out.2.2.2.2.2.1.next hb, Nat.le_trans HB0.out.2.2.2.2.2.2 hb.size⟩
  clear hb s0 s1 s2 sz HB0
  cases hg : goodC ss dr rc
  · have HN : Hid (E0 = none) := Hid.intro (by rw [← HE0.out]; exact stS_no hg)
    clear hg
    have z0 := HB1.out.2.2.1.cell 0 rfl
    have zf0 := HB1.out.2.2.1.frz 0 (by simp)
    have z1 := HB1.out.2.2.1.cell 1 rfl
    have zf1 := HB1.out.2.2.1.frz 1 (by simp)
    have z2 := HB1.out.2.2.1.cell 2 rfl
    have zf2 := HB1.out.2.2.1.frz 2 (by simp)
    have zz := HB1.out.2.2.1.2
    go_wp2
    refine bodyPost_ret (v := .tuple #[.agg #[.slice none 0 0, .int .i64 0, .int .i64 0], .bool false]) (by simp [results, Tryd.results15, go_sem, *]) rfl ?_
    rw [HN.out]
    exact AnC.zero (HB1.out.2.2.2.1.trans ((set3 w1 (w.heap.size + 1 + 1) _ _ _).below (fun k e => by have e : k = w.heap.size + 1 + 1 := e; omega) HB1.out.2.2.2.1.size))
  have hsm := good_small hg
  have HE : Hid (stC ss dr rc k i j = E0) := Hid.intro (by rw [← HE0.out]; exact (stS_yes hg).symm)
  have HSM := Hid.intro hsm
  clear hg hsm
  have s0 := (HB1.out.1).cell 0 rfl; have s1 := (HB1.out.1).cell 1 rfl; have s2 := (HB1.out.1).cell 2 rfl; have sz := (HB1.out.1).2
  go_wp2_with fail
  clear s0 s1 s2 sz
  refine (cloneCommit_n _ ss dr rc _ HZ.out HB1.out.2.2.2.2.2.1).mono ?_
  rintro r w2 ⟨cs2, rfl, hO, hb⟩
  obtain ⟨v, S1, hev, hO1, hS1⟩ := ownx_Commit hO
  subst hev
  have hl2 : LsX w2 w1.heap.size v ss := ⟨S1, hO1, fun k hk => hS1 k hk⟩
  obtain ⟨va, vc, hvf⟩ := hl2.form
  subst hvf
  obtain ⟨w3, hw3⟩ : ∃ x, x = w2.alloc (.cells #[.slice va ss.length vc, .int .i64 dr, .int .i64 rc] 29) := ⟨_, rfl⟩
  have hb3 : Below w2.heap.size w2 w3 := hw3 ▸ Go.Joins.below_alloc1 _ _
  have hb13 := below_next hb hb3
  obtain ⟨lo, hlo⟩ : ∃ lo, lo = w1.heap.size := ⟨_, rfl⟩
  obtain ⟨b, hbE⟩ : ∃ b, b = w2.heap.size := ⟨_, rfl⟩
  have HB3 : Hid (CmX w3 b lo (b + 1) (.slice va ss.length vc) ss dr rc ∧ Bx w3 (w.heap.size + 1) [.int .i64 k, .int .i64 i, .int .i64 j] ∧ Bx w3 (w.heap.size + 1 + 1) [.slice none 0 0, .int .i64 0, .int .i64 0] ∧ Below w.heap.size w w3 ∧ Flt w3 ∧ w.heap.size + 3 ≤ lo ∧ lo ≤ b ∧ w3.heap.size = b + 1) := ⟨hbE ▸ hlo ▸ hw3 ▸ CmX.box hl2 _, HB1.out.2.1.next hb13, HB1.out.2.2.1.next hb13, below_next HB1.out.2.2.2.1 hb13, HB1.out.2.2.2.2.1.next hb13 HB1.out.2.2.2.2.1.lt, by rw [hlo]; exact HB1.out.2.2.2.2.2.2, by rw [hlo, hbE]; exact hb.size, by rw [hw3, hbE]; simp⟩
  clear hb hO hO1 hS1 hl2 hb3 hb13 HB1 hlo
  go_upto_region 4 with fail
  rw [← hw3, ← hbE]
  clear hw3 hbE
  have s0 := (HB3.out.2.1).cell 0 rfl; have s1 := (HB3.out.2.1).cell 1 rfl; have s2 := (HB3.out.2.1).cell 2 rfl; have sz := (HB3.out.2.1).2
  cases E0 with
  | none =>
    go_wp2_with fail
    clear s0 s1 s2 sz
    refine (tryCommitStep_n b lo (b + 1) _ ss dr rc k i j _ HSM.out.1 HSM.out.2.1 ⟨by have := HB3.out.2.2.2.2.2.1; omega, HB3.out.2.2.2.2.2.2.1, by omega⟩ HB3.out.2.2.2.2.1 HSM.out.2.2 HB3.out.1).mono ?_
    rw [HE.out]
    rintro r w4 ⟨rfl, _, ht⟩
    have HB4 : Hid (Bx w4 (w.heap.size + 1 + 1) [.slice none 0 0, .int .i64 0, .int .i64 0] ∧ Below w.heap.size w w4) := Hid.intro (by
      have q1 := HB3.out.2.2.2.2.2.1
      have q2 := HB3.out.2.2.2.2.2.2.2
      have q3 := HB3.out.2.2.2.2.2.2.1
      exact ⟨HB3.out.2.2.1.turnS ht (fun q => by rcases q with q | q; (· have := q.1; omega); omega), HB3.out.2.2.2.1.trans (ht.below (fun k q => by rcases q with q | q; (· have := q.1; omega); omega) HB3.out.2.2.2.1.size)⟩)
    have HN : Hid ((none : Option Cmt) = none) := Hid.intro rfl
    clear ht
    have z0 := HB4.out.1.cell 0 rfl
    have zf0 := HB4.out.1.frz 0 (by simp)
    have z1 := HB4.out.1.cell 1 rfl
    have zf1 := HB4.out.1.frz 1 (by simp)
    have z2 := HB4.out.1.cell 2 rfl
    have zf2 := HB4.out.1.frz 2 (by simp)
    have zz := HB4.out.1.2
    simp only [Option.isSome_none]
    go_wp2
    refine bodyPost_ret (v := .tuple #[.agg #[.slice none 0 0, .int .i64 0, .int .i64 0], .bool false]) (by simp [results, Tryd.results15, go_sem, *]) rfl ?_
    exact AnC.zero (HB4.out.2.trans ((set3 w4 (w.heap.size + 1 + 1) _ _ _).below (fun k e => by have e : k = w.heap.size + 1 + 1 := e; omega) HB4.out.2.size))
  | some x =>
    obtain ⟨s', d', r'⟩ := x
    go_wp2_with fail
    clear s0 s1 s2 sz
    refine (tryCommitStep_n b lo (b + 1) _ ss dr rc k i j _ HSM.out.1 HSM.out.2.1 ⟨by have := HB3.out.2.2.2.2.2.1; omega, HB3.out.2.2.2.2.2.2.1, by omega⟩ HB3.out.2.2.2.2.1 HSM.out.2.2 HB3.out.1).mono ?_
    rw [HE.out]
    rintro r w4 ⟨rfl, hy, ht⟩
    have hc : CmX w4 b lo (b + 1) (.slice va ss.length vc) s' d' r' := hy _ rfl
    have HB4 : Hid (Bx w4 (w.heap.size + 1 + 1) [.slice none 0 0, .int .i64 0, .int .i64 0] ∧ Below w.heap.size w w4 ∧ CmX w4 b lo (b + 1) (.slice va ss.length vc) s' d' r') := Hid.intro (by
      have q1 := HB3.out.2.2.2.2.2.1
      have q2 := HB3.out.2.2.2.2.2.2.2
      have q3 := HB3.out.2.2.2.2.2.2.1
      exact ⟨HB3.out.2.2.1.turnS ht (fun q => by rcases q with q | q; (· have := q.1; omega); omega), HB3.out.2.2.2.1.trans (ht.below (fun k q => by rcases q with q | q; (· have := q.1; omega); omega) HB3.out.2.2.2.1.size), hc⟩)
    clear ht hc hy
    have z0 := HB4.out.1.cell 0 rfl
    have zf0 := HB4.out.1.frz 0 (by simp)
    have z1 := HB4.out.1.cell 1 rfl
    have zf1 := HB4.out.1.frz 1 (by simp)
    have z2 := HB4.out.1.cell 2 rfl
    have zf2 := HB4.out.1.frz 2 (by simp)
    have zz := HB4.out.1.2
    have s0 := (HB4.out.2.2.1.1).cell 0 rfl; have s1 := (HB4.out.2.2.1.1).cell 1 rfl; have s2 := (HB4.out.2.2.1.1).cell 2 rfl; have sz := (HB4.out.2.2.1.1).2
    simp only [Option.isSome_some]
    go_wp2
    refine bodyPost_ret (v := .tuple #[.agg #[.slice va ss.length vc, .int .i64 d', .int .i64 r'], .bool true]) (by simp [results, Tryd.results15, go_sem, *]) rfl ⟨.slice va ss.length vc, rfl, ?_, ?_⟩
    · have hl := HB4.out.2.2.lsx.turn (set3 w4 (w.heap.size + 1 + 1) (.slice va ss.length vc) (.int .i64 d') (.int .i64 r')) (fun k e => by have e : k = w.heap.size + 1 + 1 := e; have := HB3.out.2.2.2.2.2.1; omega)
      exact ((hl.commit d' r').lower (by have := HB3.out.2.2.2.2.2.1; omega)).mono (fun k q => by have := HB3.out.2.2.2.2.2.1; simp only [Btw] at q ⊢; omega)
    · exact HB4.out.2.1.trans ((set3 w4 (w.heap.size + 1 + 1) _ _ _).below (fun k e => by have e : k = w.heap.size + 1 + 1 := e; omega) HB4.out.2.1.size)
end Go.Proofs.YtkpobihpcnoemaaDoor
