/- Fences: how large a good one is; a play. Mathematics alone. -/
import Derived.Test.YtcbdlalpnlahcaaFeM
namespace Go.Proofs.Ytcbdlalpnlahcaa
open Go.RowKit
set_option linter.unusedVariables false
set_option linter.unusedSimpArgs false

theorem sz_ints0 : ∀ (l : List (Sh.T .int)), (l.map (szD .int)).sum = 0
  | [] => rfl
  | x :: t => by rw [List.map_cons, List.sum_cons, sz_ints0 t]; rfl
theorem sz_mems : ∀ (ms : List (Sh.T shMember)), (ms.map (szD shMember)).sum = runT ms
  | [] => rfl
  | m :: t => by
    have ih := sz_mems t
    have e : szD shMember m = 0 + (0 + ((m.2.2.1.length + (m.2.2.1.map (szD .int)).sum) + (0 + 0))) := rfl
    have e2 : (m.2.2.1.map (szD .int)).sum = 0 := sz_ints0 _
    have e3 : runT (m :: t) = m.2.2.1.length + runT t := by unfold runT; rw [List.map_cons, List.sum_cons]; rfl
    rw [List.map_cons, List.sum_cons, ih, e, e3]
    omega
theorem good_sz {ep du : Int} {ms : List (Sh.T shMember)} {en : List (Sh.T .int)} (h : goodF ep du ms en) : szD shFence (ep, du, ms, en, ()) ≤ 208 := by
  have e : szD shFence (ep, du, ms, en, ()) = 0 + (0 + ((ms.length + (ms.map (szD shMember)).sum) + ((en.length + (en.map (szD .int)).sum) + 0))) := rfl
  have e2 : (en.map (szD .int)).sum = 0 := sz_ints0 _
  have e3 := sz_mems ms
  have h1 := h.2.2.1.2
  have h2 := h.2.2.2.1
  rw [runT_eq] at h2
  omega
/-- A fence behind a step: where it cannot be done, as it was. -/
noncomputable def nxF (x : Sh.T shFence) (s : Sh.T shFenceStep) : Sh.T shFence := (stF x.1 x.2.1 x.2.2.1 x.2.2.2.1 s.1 s.2.1 s.2.2.1).getD x
/-- The fence behind the first k steps, and the durable ones. -/
noncomputable def plF (x : Sh.T shFence) (l : List (Sh.T shFenceStep)) : Sh.T shFence := l.foldl nxF x
noncomputable def plD (x : Sh.T shFence) : List (Sh.T shFenceStep) → List (Sh.T .int)
  | [] => []
  | s :: t => (nxF x s).2.1 :: plD (nxF x s) t
theorem nx_good {x : Sh.T shFence} {s : Sh.T shFenceStep} (h : goodT x) : goodT (nxF x s) := by
  unfold nxF
  cases e : stF x.1 x.2.1 x.2.2.1 x.2.2.2.1 s.1 s.2.1 s.2.2.1 with
  | none => exact h
  | some y => exact st_good h e
theorem nx_play {x : Sh.T shFence} {s : Sh.T shFenceStep} (h : playP x.1 x.2.1) : playP (nxF x s).1 (nxF x s).2.1 ∧ (show Int from x.2.1) ≤ (nxF x s).2.1 ∧ (show Int from (nxF x s).2.1) ≤ (show Int from x.2.1) + 1 := by
  unfold nxF
  cases e : stF x.1 x.2.1 x.2.2.1 x.2.2.2.1 s.1 s.2.1 s.2.2.1 with
  | none => exact ⟨h, Int.le_refl _, Int.le_add_one (Int.le_refl _)⟩
  | some y => exact st_play h e
theorem pl_good : ∀ (l : List (Sh.T shFenceStep)) {x : Sh.T shFence}, goodT x → goodT (plF x l)
  | [], _, h => h
  | s :: t, x, h => pl_good t (nx_good h)
theorem plF_snoc (x : Sh.T shFence) (l : List (Sh.T shFenceStep)) (s : Sh.T shFenceStep) : plF x (l ++ [s]) = nxF (plF x l) s := by unfold plF; rw [List.foldl_append]; rfl
theorem plD_len : ∀ (l : List (Sh.T shFenceStep)) (x : Sh.T shFence), (plD x l).length = l.length
  | [], _ => rfl
  | s :: t, x => by rw [plD, List.length_cons, List.length_cons, plD_len t]
theorem plD_snoc : ∀ (l : List (Sh.T shFenceStep)) (x : Sh.T shFence) (s : Sh.T shFenceStep), plD x (l ++ [s]) = plD x l ++ [(plF x (l ++ [s])).2.1]
  | [], x, s => rfl
  | a :: t, x, s => by
    rw [List.cons_append, plD, plD, plD_snoc t, List.cons_append]; rfl
/-- Durable behind each step is no less than behind the one ahead, and at most one more. -/
theorem plD_rises : ∀ (l : List (Sh.T shFenceStep)) (x : Sh.T shFence), playP x.1 x.2.1 → ∀ j, j + 1 < l.length → atI (plD x l) j ≤ atI (plD x l) (j + 1) ∧ atI (plD x l) (j + 1) ≤ atI (plD x l) j + 1
  | [], x, _, j, hj => by simp at hj
  | [s], x, _, j, hj => by simp at hj
  | s :: r :: t, x, h, 0, hj => (nx_play (x := nxF x s) (s := r) (nx_play h).1).2
  | s :: r :: t, x, h, j + 1, hj => plD_rises (r :: t) (nxF x s) (nx_play h).1 j (by simpa using hj)
theorem runT_new : ∀ n, runT (newMs n) = 0
  | 0 => rfl
  | n + 1 => by
    have h := runT_new n
    unfold runT at h ⊢
    rw [newMs_succ, List.map_append, List.sum_append, h]; rfl
/-- A new fence is good, and stands as a play's does. -/
theorem new_good {n : Nat} (h : 1 ≤ (n : Int) ∧ (n : Int) ≤ 8) : goodF 1 0 (newMs n) [] ∧ playP 1 0 := by
  have hl := newMs_len n
  have hg : ∀ i (hi : i < (newMs n).length), (newMs n)[i] = mkMem i := fun i hi => by show ((List.range n).map mkMem)[i]'(by simpa [newMs] using hi) = mkMem i; rw [List.getElem_map, List.getElem_range]
  refine ⟨⟨by omega, by omega, by rw [hl]; exact h, ?_, fun i hi _ => ?_, fun j hj => by simp at hj⟩, Or.inr ⟨rfl, rfl⟩⟩
  · have h0 := runT_new n
    rw [runT_eq, h0]
    exact Nat.zero_le _
  · rw [hg i hi]
    have hi99 : (i : Int) ≤ 99 := by omega
    have hm : memP 1 0 (mkMb (i : Int) 1 [] 0) := memP_mk ⟨⟨by omega, hi99⟩, ⟨by omega, by omega⟩, Nat.zero_le _, ⟨by omega, by omega⟩, fun j hj => absurd hj (Nat.not_lt_zero j), by omega⟩
    refine ⟨hm, fun h0 => ?_⟩
    rw [hg (i - 1) (by omega)]
    show ((i - 1 : Nat) : Int) < (i : Int)
    omega

end Go.Proofs.Ytcbdlalpnlahcaa
