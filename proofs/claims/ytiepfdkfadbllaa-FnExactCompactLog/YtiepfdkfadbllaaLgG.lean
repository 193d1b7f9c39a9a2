/- Good logs: what is asked of an entry, and of two. No Go text is spoken of here. -/
import Derived.Test.YtiepfdkfadbllaaEqV
import Derived.Test.YtiepfdkfadbllaaRwEntry
namespace Go.Proofs.Ytiepfdkfadbllaa
open Go.RowKit
set_option linter.unusedVariables false

theorem below_nx {b w w' : World} (h : Below b.heap.size b w) (hb : Below w.heap.size w w') : Below b.heap.size b w' := h.trans (hb.mono h.size)
def entOk (v : EntryV) : Bool := inR v.f0 0 65535 && (keyOk v.f1 && (valOk v.f2 && (goodT v.f3 v.f4 && (!v.f5 && !tidE v.f3 v.f4 v.f5 0 0 false))))
/-- o and v have one key and one tid. -/
def verV (o v : EntryV) : Bool := verE o.f1 o.f3 o.f4 o.f5 v.f1 v.f3 v.f4 v.f5
theorem tidE_iff {e s : Int} {b : Bool} {e' s' : Int} {b' : Bool} : tidE e s b e' s' b' = true ↔ e = e' ∧ s = s' ∧ b = b' := by simp [tidE]
theorem verV_iff {o v : EntryV} : verV o v = true ↔ o.f1.toList = v.f1.toList ∧ o.f3 = v.f3 ∧ o.f4 = v.f4 ∧ o.f5 = v.f5 := by simp [verV, verE, tidE]
theorem verV_join {o p v : EntryV} (h : verV o v = true) (k : verV p v = true) : verV o p = true := by
  rw [verV_iff] at *; simp_all
/-- Entry i is good, and no one ahead of it has its key, its tid and another value. -/
def entP (V : Nat → EntryV) (i : Nat) : Prop := entOk (V i) = true ∧ ∀ j, j < i → verV (V j) (V i) = true → (V j).f2.toList = (V i).f2.toList
def logP (V : Nat → EntryV) (n : Nat) : Prop := ∀ i, i < n → entP V i
instance (V : Nat → EntryV) (i : Nat) : Decidable (entP V i) := by unfold entP; infer_instance
instance (V : Nat → EntryV) (n : Nat) : Decidable (logP V n) := by unfold logP; infer_instance
def logB (V : Nat → EntryV) (n : Nat) : Bool := decide (n ≤ 80) && decide (logP V n)
theorem logB_big {V : Nat → EntryV} {n : Nat} (h : ¬ n ≤ 80) : logB V n = false := by simp [logB, h]
theorem logB_yes {V : Nat → EntryV} {n : Nat} (h : n ≤ 80) (hp : logP V n) : logB V n = true := by simp [logB, h, hp]
theorem logB_size {V : Nat → EntryV} {n : Nat} (hp : logP V n) : logB V n = decide (n ≤ 80) := by simp [logB, hp]
theorem logB_bad {V : Nat → EntryV} {n k : Nat} (hk : k < n) (h : entOk (V k) = false) : logB V n = false := by
  have : ¬ logP V n := fun hp => by rw [(hp k hk).1] at h; cases h
  simp [logB, this]
theorem logB_clash {V : Nat → EntryV} {n k j : Nat} (hk : k < n) (hj : j < k) (hv : verV (V j) (V k) = true) (h : ((V j).f2.toList == (V k).f2.toList) = false) : logB V n = false := by
  have : ¬ logP V n := fun hp => by
    have := (hp k hk).2 j hj hv
    rw [beq_eq_false_iff_ne] at h
    exact h this
  simp [logB, this]
theorem logP_up {V : Nat → EntryV} {k : Nat} (h : logP V k) (hk : entP V k) : logP V (k + 1) := by
  intro i hi
  rcases Nat.lt_or_ge i k with g | g
  · exact h i g
  · have : i = k := by omega
    subst this; exact hk
/-- The first one with its key and tid has its value: then all have. -/
theorem entP_first {V : Nat → EntryV} {k j : Nat} (h : logP V k) (ho : entOk (V k) = true) (hj : j < k) (hv : verV (V j) (V k) = true) (hn : ∀ i, i < j → verV (V i) (V k) = false) (he : ((V j).f2.toList == (V k).f2.toList) = true) : entP V k := by
  refine ⟨ho, fun i hi hvi => ?_⟩
  have he' : (V j).f2.toList = (V k).f2.toList := by simpa using he
  rcases Nat.lt_trichotomy i j with g | g | g
  · rw [hn i g] at hvi; cases hvi
  · subst g; exact he'
  · rw [← he']; exact ((h i hi).2 j g (verV_join hv hvi)).symm
theorem entP_none {V : Nat → EntryV} {k : Nat} (ho : entOk (V k) = true) (hn : ∀ i, i < k → verV (V i) (V k) = false) : entP V k :=
  ⟨ho, fun i hi hvi => by rw [hn i hi] at hvi; cases hvi⟩
theorem entP_of {V : Nat → EntryV} {k : Nat} (ho : entOk (V k) = true) (hn : ∀ i, i < k → verV (V i) (V k) = true → ((V i).f2.toList == (V k).f2.toList) = true) : entP V k :=
  ⟨ho, fun i hi hvi => by simpa using hn i hi hvi⟩
end Go.Proofs.Ytiepfdkfadbllaa
