/- The contracts of the tests on keys, on both sides. -/
import Derived.Test.YtnglgndocmkbfaaIn
namespace Go.Proofs.Ytnglgndocmkbfaa
open Go.RowKit
set_option linter.unusedVariables false

def keyB (c : UInt8) : Bool := (97 ≤ c && c ≤ 122) || (48 ≤ c && c ≤ 57)
def valB (c : UInt8) : Bool := 32 ≤ c && c ≤ 126 && c != 59
def allB (p : UInt8 → Bool) (s : ByteArray) : Bool := s.data.toList.all p
def keyOk (s : ByteArray) : Bool := inR s.size 1 8 && allB keyB s
def valOk (s : ByteArray) : Bool := decide (s.size ≤ 20) && allB valB s

theorem keyB_true {c : UInt8} (h : keyB c = true) : (97 ≤ (c.toNat : Int) ∧ (c.toNat : Int) ≤ 122) ∨ (48 ≤ (c.toNat : Int) ∧ (c.toNat : Int) ≤ 57) := by
  simp [keyB, UInt8.le_iff_toNat_le] at h; omega
theorem keyB_false {c : UInt8} (h : keyB c = false) : (c.toNat : Int) < 48 ∨ (57 < (c.toNat : Int) ∧ (c.toNat : Int) < 97) ∨ 122 < (c.toNat : Int) := by
  simp [keyB, UInt8.le_iff_toNat_le] at h; omega
theorem valB_true {c : UInt8} (h : valB c = true) : 32 ≤ (c.toNat : Int) ∧ (c.toNat : Int) ≤ 126 ∧ ((c.toNat : Int) == 59) = false := by
  simp [valB, UInt8.le_iff_toNat_le] at h
  refine ⟨by omega, by omega, ?_⟩
  simp
  intro e
  exact h.2 (UInt8.toNat_inj.1 (by simpa using (by omega : c.toNat = 59)))
theorem valB_false {c : UInt8} (h : valB c = false) : (c.toNat : Int) < 32 ∨ 126 < (c.toNat : Int) ∨ (32 ≤ (c.toNat : Int) ∧ (c.toNat : Int) ≤ 126 ∧ ((c.toNat : Int) == 59) = true) := by
  simp only [valB, UInt8.le_iff_toNat_le, Bool.and_eq_false_iff, decide_eq_false_iff_not] at h
  rcases h with (h | h) | h
  · left; simp at h; omega
  · right; left; simp at h; omega
  · have : c = 59 := by simpa using h
    subst this; right; right; simp
theorem allB_iff (p : UInt8 → Bool) (s : ByteArray) : allB p s = true ↔ ∀ i (h : i < s.size), p s[i] = true := by
  unfold allB
  rw [List.all_eq_true]
  constructor
  · intro h i hi
    exact h _ (by rw [← Array.mem_def]; exact Array.getElem_mem (xs := s.data) hi)
  · intro h x hx
    obtain ⟨i, hi, rfl⟩ := List.getElem_of_mem hx
    exact h i (by simpa using hi)
theorem upto_byte {p : UInt8 → Bool} {s : ByteArray} {k : Nat} (h : ∀ j (h : j < s.size), j < k → p s[j] = true) (hk : k < s.size) (hb : p s[k] = true) : ∀ j (h : j < s.size), j < k + 1 → p s[j] = true := by
  intro j hj hjk
  by_cases e : j < k
  · exact h j hj e
  · have e' : j = k := by omega
    subst e'
    exact hb
theorem allB_no {p : UInt8 → Bool} {s : ByteArray} {i : Nat} (h : i < s.size) (hp : p s[i] = false) : allB p s = false := by
  cases hb : allB p s
  · rfl
  · rw [(allB_iff p s).1 hb i h] at hp; cases hp





end Go.Proofs.Ytnglgndocmkbfaa
