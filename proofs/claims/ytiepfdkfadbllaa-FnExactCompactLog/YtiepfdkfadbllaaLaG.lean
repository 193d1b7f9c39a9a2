/- The latest entry of each key: the first one with the greatest tid, rising by key. No Go text is spoken of here. -/
import Derived.Test.YtiepfdkfadbllaaPvE
import Derived.Test.YtiepfdkfadbllaaLgG
import Derived.Test.YtiepfdkfadbllaaCpT
namespace Go.Proofs.Ytiepfdkfadbllaa
open Go.RowKit
set_option linter.unusedVariables false

def hitB (L : List EntryV) (x : EntryV) : Bool := decide (plE L x.f1.toList < L.length ∧ (vE L (plE L x.f1.toList)).f1.toList = x.f1.toList)
/-- x, where its key has no entry or one with a lesser tid. -/
def latE (L : List EntryV) (x : EntryV) : List EntryV :=
  if hitB L x = true ∧ ¬ cmpT (vE L (plE L x.f1.toList)).f3 (vE L (plE L x.f1.toList)).f4 x.f3 x.f4 < 0 then L else putE L x
def latL (V : Nat → EntryV) : Nat → List EntryV
  | 0 => []
  | k + 1 => latE (latL V k) (V k)
theorem latE_rise {L : List EntryV} (x : EntryV) (h : riseE L) : riseE (latE L x) := by
  unfold latE; split
  · exact h
  · exact putE_rise x h
theorem latL_rise (V : Nat → EntryV) : ∀ k, riseE (latL V k)
  | 0 => fun i hi => absurd hi (by simp [latL])
  | k + 1 => latE_rise _ (latL_rise V k)
theorem latE_len (L : List EntryV) (x : EntryV) : (latE L x).length ≤ L.length + 1 := by
  unfold latE; split
  · omega
  · exact putE_len L x
theorem latL_len (V : Nat → EntryV) : ∀ k, (latL V k).length ≤ k
  | 0 => Nat.le_refl _
  | k + 1 => by have := latL_len V k; have := latE_len (latL V k) (V k); rw [latL]; omega
theorem mem_putE {L : List EntryV} {x c : EntryV} (h : c ∈ putE L x) : c = x ∨ c ∈ L := by
  unfold putE at h
  split at h <;>
  · rcases List.mem_append.1 h with h | h
    · exact Or.inr (List.mem_of_mem_take h)
    · rcases List.mem_cons.1 h with h | h
      · exact Or.inl h
      · exact Or.inr (List.mem_of_mem_drop h)
theorem mem_latL {V : Nat → EntryV} {c : EntryV} : ∀ {k : Nat}, c ∈ latL V k → ∃ i, i < k ∧ c = V i
  | 0, h => by simp [latL] at h
  | k + 1, h => by
    rw [latL, latE] at h
    split at h
    · obtain ⟨i, hi, e⟩ := mem_latL h; exact ⟨i, by omega, e⟩
    · rcases mem_putE h with h | h
      · exact ⟨k, by omega, h⟩
      · obtain ⟨i, hi, e⟩ := mem_latL h; exact ⟨i, by omega, e⟩
theorem hit_place {L : List EntryV} {x : EntryV} {p : Nat} {f : Bool} (hr : riseE L) (hpl : Placed (fun q => (vE L q).f1) L.length x.f1 p f) : plE L x.f1.toList = p ∧ hitB L x = f := by
  obtain ⟨h1, h2, h3⟩ := hpl
  obtain ⟨g1, g2, g3⟩ := h3 hr
  have e : plE L x.f1.toList = p := plE_eq h1 g1 (fun hp => g2 p (Nat.le_refl _) hp)
  refine ⟨e, ?_⟩
  rw [hitB, e]
  cases f
  · rw [decide_eq_false_iff_not]; exact fun h => g3 rfl p h.1 h.2
  · rw [decide_eq_true_eq]; exact h2 rfl
theorem latE_miss {L : List EntryV} {x : EntryV} {p : Nat} (hr : riseE L) (hpl : Placed (fun q => (vE L q).f1) L.length x.f1 p false) : latE L x = L.take p ++ x :: L.drop p := by
  rw [latE, if_neg (fun h => by rw [(hit_place hr hpl).2] at h; cases h.1)]
  exact putE_miss hr hpl
theorem latE_new {L : List EntryV} {x : EntryV} {p : Nat} (hr : riseE L) (hpl : Placed (fun q => (vE L q).f1) L.length x.f1 p true) (h : cmpT (vE L p).f3 (vE L p).f4 x.f3 x.f4 < 0) : latE L x = L.take p ++ x :: L.drop (p + 1) := by
  rw [latE, if_neg (fun h' => by rw [(hit_place hr hpl).1] at h'; exact h'.2 h)]
  exact putE_hit hr hpl
theorem latE_old {L : List EntryV} {x : EntryV} {p : Nat} (hr : riseE L) (hpl : Placed (fun q => (vE L q).f1) L.length x.f1 p true) (h : ¬ cmpT (vE L p).f3 (vE L p).f4 x.f3 x.f4 < 0) : latE L x = L := by
  obtain ⟨e1, e2⟩ := hit_place hr hpl
  rw [latE, if_pos ⟨e2, by rw [e1]; exact h⟩]
end Go.Proofs.Ytiepfdkfadbllaa
