/- The records of a log: those of the latest entries. No Go text is spoken of here. -/
import Derived.Test.YtiepfdkfadbllaaLaG
import Derived.Test.YtiepfdkfadbllaaPvR
namespace Go.Proofs.Ytiepfdkfadbllaa
open Go.RowKit
set_option linter.unusedVariables false

def recOf (e : EntryV) : RecordV := ⟨e.f1, e.f2, e.f3, e.f4, e.f5, 0⟩
def recL (L : List EntryV) : List RecordV := L.map recOf
theorem recL_len (L : List EntryV) : (recL L).length = L.length := by simp [recL]
theorem recL_at {L : List EntryV} {q : Nat} (hq : q < L.length) : vR (recL L) q = recOf (vE L q) := by simp [vR, vE, recL, hq]
theorem plR_rec : ∀ (L : List EntryV) (t : List UInt8), plR (recL L) t = plE L t
  | [], _ => rfl
  | c :: L, t => by
    have ih := plR_rec L t
    simp only [recL, List.map_cons, plR, plE] at ih ⊢
    rw [show (recOf c).f0 = c.f1 from rfl, ih]
theorem recL_put (L : List EntryV) (x : EntryV) : putR (recL L) (recOf x) = recL (putE L x) := by
  have h1 : (recOf x).f0 = x.f1 := rfl
  unfold putR putE
  rw [h1, plR_rec, recL_len]
  by_cases h : plE L x.f1.toList < L.length ∧ (vE L (plE L x.f1.toList)).f1.toList = x.f1.toList
  · have h' : plE L x.f1.toList < L.length ∧ (vR (recL L) (plE L x.f1.toList)).f0.toList = x.f1.toList := ⟨h.1, by rw [recL_at h.1]; exact h.2⟩
    rw [if_pos h, if_pos h']
    simp [recL, List.map_take, List.map_drop]
  · have h' : ¬ (plE L x.f1.toList < L.length ∧ (vR (recL L) (plE L x.f1.toList)).f0.toList = x.f1.toList) := fun q => h ⟨q.1, by have := q.2; rw [recL_at q.1] at this; exact this⟩
    rw [if_neg h, if_neg h']
    simp [recL, List.map_take, List.map_drop]
theorem latE_none {L : List EntryV} {x : EntryV} (h : ∀ q, q < L.length → (vE L q).f1.toList ≠ x.f1.toList) : latE L x = putE L x := by
  rw [latE, if_neg]
  rintro ⟨h1, _⟩
  rw [hitB, decide_eq_true_eq] at h1
  exact h _ h1.1 h1.2
theorem lat_place {L : List EntryV} {x : EntryV} {q : Nat} (hr : riseE L) (hq : q < L.length) (he : (vE L q).f1.toList = x.f1.toList) : Placed (fun q => (vE L q).f1) L.length x.f1 q true := by
  refine ⟨by omega, fun _ => ⟨hq, he⟩, fun hr' => ⟨fun j hj => ?_, fun j hj hjn => ?_, fun h => by cases h⟩⟩
  · have := riseK_lt hr hj hq
    rw [lesK, ← he]; exact this
  · rcases Nat.eq_or_lt_of_le hj with rfl | hj
    · rw [lesK, he, less_irr]
    · have := riseK_lt hr hj hjn
      rw [lesK, Bool.eq_false_iff]
      intro h
      rw [← he] at h
      have h2 := less_trans this h
      rw [less_irr] at h2; cases h2
theorem lat_less {L : List EntryV} {x : EntryV} {q : Nat} (hr : riseE L) (hq : q < L.length) (he : (vE L q).f1.toList = x.f1.toList) (hc : cmpT (vE L q).f3 (vE L q).f4 x.f3 x.f4 < 0) : latE L x = putE L x := by
  rw [latE_new hr (lat_place hr hq he) hc, putE_hit hr (lat_place hr hq he)]
theorem lat_keep {L : List EntryV} {x : EntryV} {q : Nat} (hr : riseE L) (hq : q < L.length) (he : (vE L q).f1.toList = x.f1.toList) (hc : ¬ cmpT (vE L q).f3 (vE L q).f4 x.f3 x.f4 < 0) : latE L x = L := latE_old hr (lat_place hr hq he) hc
end Go.Proofs.Ytiepfdkfadbllaa
