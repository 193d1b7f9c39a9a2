/- Each of the latest entries is the first one with its key and its tid. No Go text is spoken of here. -/
import Derived.Test.YtiepfdkfadbllaaReG
namespace Go.Proofs.Ytiepfdkfadbllaa
open Go.RowKit
set_option linter.unusedVariables false

theorem putE_new (L : List EntryV) (x : EntryV) : x ∈ putE L x := by
  unfold putE; split <;> simp
theorem putE_old {L : List EntryV} {x c : EntryV} (hc : c ∈ L) (hk : c.f1.toList ≠ x.f1.toList) : c ∈ putE L x := by
  unfold putE
  split
  · rename_i h
    have hs := splitAtE h.1
    rw [hs] at hc
    rcases List.mem_append.1 hc with hc | hc
    · exact List.mem_append.2 (Or.inl hc)
    · rcases List.mem_cons.1 hc with hc | hc
      · exact absurd (hc ▸ h.2) hk
      · exact List.mem_append.2 (Or.inr (List.mem_cons_of_mem _ hc))
  · rw [← List.take_append_drop (plE L x.f1.toList) L] at hc
    rcases List.mem_append.1 hc with hc | hc
    · exact List.mem_append.2 (Or.inl hc)
    · exact List.mem_append.2 (Or.inr (List.mem_cons_of_mem _ hc))
theorem mem_at {L : List EntryV} {c : EntryV} (h : c ∈ L) : ∃ q, q < L.length ∧ c = vE L q := by
  obtain ⟨q, hq, rfl⟩ := List.getElem_of_mem h
  exact ⟨q, hq, (vE_at hq).symm⟩
theorem rise_one {L : List EntryV} (hr : riseE L) {p q : Nat} (hp : p < L.length) (hq : q < L.length) (e : (vE L p).f1.toList = (vE L q).f1.toList) : p = q := riseK_ne hr hp hq e
/-- The two things that hold of the latest entries of the first k. -/
def latI (V : Nat → EntryV) (k : Nat) (L : List EntryV) : Prop :=
  (∀ c ∈ L, ∃ i, i < k ∧ c = V i ∧ ∀ j, j < i → verV (V j) (V i) = false) ∧ ∀ j, j < k → ∃ c ∈ L, c.f1.toList = (V j).f1.toList ∧ ¬ cmpT c.f3 c.f4 (V j).f3 (V j).f4 < 0
theorem latI_step {V : Nat → EntryV} {k : Nat} {L : List EntryV} (hr : riseE L) (h : latI V k L) : latI V (k + 1) (latE L (V k)) := by
  have hold : ∀ q, q < L.length → (vE L q).f1.toList = (V k).f1.toList → ¬ cmpT (vE L q).f3 (vE L q).f4 (V k).f3 (V k).f4 < 0 → latI V (k + 1) (latE L (V k)) := fun q hq he hc => by
    rw [lat_keep hr hq he hc]
    refine ⟨fun c hm => ?_, fun j hj => ?_⟩
    · obtain ⟨i, hi, e⟩ := h.1 c hm; exact ⟨i, by omega, e⟩
    · rcases Nat.lt_or_ge j k with g | g
      · exact h.2 j g
      · have : j = k := by omega
        subst this
        exact ⟨vE L q, by rw [vE_at hq]; exact List.getElem_mem hq, he, hc⟩
  have hnew : latE L (V k) = putE L (V k) → (∀ c ∈ L, c.f1.toList = (V k).f1.toList → cmpT c.f3 c.f4 (V k).f3 (V k).f4 < 0) → latI V (k + 1) (latE L (V k)) := fun e hlt => by
    rw [e]
    refine ⟨fun c hm => ?_, fun j hj => ?_⟩
    · rcases mem_putE hm with rfl | hm
      · refine ⟨k, by omega, rfl, fun j hj => ?_⟩
        rw [Bool.eq_false_iff]
        intro hv
        obtain ⟨v1, v2, v3, _⟩ := verV_iff.1 hv
        obtain ⟨c, hc, hk, hge⟩ := h.2 j hj
        have := hlt c hc (hk.trans v1)
        rw [v2, v3] at hge
        exact hge this
      · obtain ⟨i, hi, e⟩ := h.1 c hm; exact ⟨i, by omega, e⟩
    · rcases Nat.lt_or_ge j k with g | g
      · obtain ⟨c, hc, hk, hge⟩ := h.2 j g
        by_cases ek : c.f1.toList = (V k).f1.toList
        · refine ⟨V k, putE_new L (V k), ek.symm.trans hk, ?_⟩
          have := hlt c hc ek
          rw [cmpT_lt] at this hge ⊢
          omega
        · exact ⟨c, putE_old hc ek, hk, hge⟩
      · have : j = k := by omega
        subst this
        refine ⟨V j, putE_new L (V j), rfl, ?_⟩
        rw [cmpT_lt]; omega
  by_cases hk : ∃ q, q < L.length ∧ (vE L q).f1.toList = (V k).f1.toList
  · obtain ⟨q, hq, he⟩ := hk
    by_cases hc : cmpT (vE L q).f3 (vE L q).f4 (V k).f3 (V k).f4 < 0
    · refine hnew (lat_less hr hq he hc) (fun c hm hck => ?_)
      obtain ⟨p, hp, rfl⟩ := mem_at hm
      have := rise_one hr hp hq (hck.trans he.symm)
      rw [this]; exact hc
    · exact hold q hq he hc
  · refine hnew (latE_none fun q hq e => hk ⟨q, hq, e⟩) (fun c hm hck => ?_)
    obtain ⟨p, hp, rfl⟩ := mem_at hm
    exact absurd ⟨p, hp, hck⟩ hk
theorem latI_all (V : Nat → EntryV) : ∀ k, latI V k (latL V k)
  | 0 => ⟨fun c hc => by simp [latL] at hc, fun j hj => by omega⟩
  | k + 1 => latI_step (latL_rise V k) (latI_all V k)
theorem lat_first {V : Nat → EntryV} {n q : Nat} (hq : q < (latL V n).length) : ∃ i, i < n ∧ vE (latL V n) q = V i ∧ ∀ j, j < i → verV (V j) (V i) = false :=
  (latI_all V n).1 _ (by rw [vE_at hq]; exact List.getElem_mem hq)
end Go.Proofs.Ytiepfdkfadbllaa
