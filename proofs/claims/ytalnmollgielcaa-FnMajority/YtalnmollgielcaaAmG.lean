/- Lists of groups as lists of words: mathematics. -/
import Derived.Test.YtalnmollgielcaaMtI
import Derived.Test.YtalnmollgielcaaGsL
namespace Go.Proofs.Ytalnmollgielcaa
open Go.RowKit
set_option linter.unusedVariables false

/-- At most 40 good groups of m nodes. -/
def gsB (V : Nat → GV) (n : Nat) (m : Int) : Bool := decide (n ≤ 40 ∧ (1 ≤ m ∧ m ≤ 12) ∧ ∀ i, i < n → grB (V i).x (V i).n m = true)
theorem gsB_iff {V : Nat → GV} {n : Nat} {m : Int} : gsB V n m = true ↔ n ≤ 40 ∧ (1 ≤ m ∧ m ≤ 12) ∧ ∀ i, i < n → grB (V i).x (V i).n m = true := by simp only [gsB, decide_eq_true_eq]
theorem gsB_no {V : Nat → GV} {n : Nat} {m : Int} (h : ¬ (n ≤ 40 ∧ (1 ≤ m ∧ m ≤ 12) ∧ ∀ i, i < n → grB (V i).x (V i).n m = true)) : gsB V n m = false := by
  cases e : gsB V n m
  · rfl
  · exact absurd (gsB_iff.1 e) h
/-- The word of group i. -/
def sw (V : Nat → GV) (i : Nat) : Nat := wd (V i).x (V i).n
theorem sw_lt {V : Nat → GV} {n : Nat} {m : Int} (h : gsB V n m = true) {i : Nat} (hi : i < n) : sw V i < 4096 := by
  have := grB_iff.1 ((gsB_iff.1 h).2.2 i hi)
  exact wd_lt (gr_in this.2 this.1.2)
theorem sw_len {V : Nat → GV} {n : Nat} {m : Int} (h : gsB V n m = true) {i : Nat} (hi : i < n) : (V i).n ≤ 12 := by
  have := grB_iff.1 ((gsB_iff.1 h).2.2 i hi)
  have := grP_len this.2 this.1
  have := (gsB_iff.1 h).2.1.2
  omega
/-- Some of the first k is such. -/
def anyN (P : Nat → Bool) : Nat → Bool
  | 0 => false
  | k + 1 => anyN P k || P k
theorem anyN_iff {P : Nat → Bool} : ∀ {k : Nat}, anyN P k = true ↔ ∃ j, j < k ∧ P j = true
  | 0 => by simp [anyN]
  | k + 1 => by
    rw [anyN, Bool.or_eq_true, anyN_iff (k := k)]
    constructor
    · rintro (⟨j, hj, h⟩ | h)
      · exact ⟨j, by omega, h⟩
      · exact ⟨k, by omega, h⟩
    · rintro ⟨j, hj, h⟩
      by_cases e : j = k
      · subst e; exact Or.inr h
      · exact Or.inl ⟨j, by omega, h⟩
theorem anyN_no {P : Nat → Bool} {k : Nat} : anyN P k = false ↔ ∀ j, j < k → P j = false := by
  constructor
  · intro h j hj
    cases e : P j
    · rfl
    · rw [anyN_iff.2 ⟨j, hj, e⟩] at h; cases h
  · intro h
    cases e : anyN P k
    · rfl
    · obtain ⟨j, hj, q⟩ := anyN_iff.1 e; rw [h j hj] at q; cases q
theorem bits_nil {s : Nat} (hs : s < 4096) : bitsZ s 12 = [] ↔ s = 0 := by
  constructor
  · intro h
    refine Nat.eq_of_testBit_eq (fun j => ?_)
    rw [Nat.zero_testBit]
    cases e : s.testBit j
    · rfl
    · have hj : j < 12 := by
        rcases Nat.lt_or_ge j 12 with q | q
        · exact q
        · rw [Nat.testBit_lt_two_pow (Nat.lt_of_lt_of_le hs (Nat.pow_le_pow_right (n := 2) (by omega) q))] at e; cases e
      have : (j : Int) ∈ bitsZ s 12 := bitsZ_mem.2 ⟨j, rfl, hj, e⟩
      rw [h] at this; simp at this
  · rintro rfl
    cases e : bitsZ 0 12 with
    | nil => rfl
    | cons x xs =>
      have : x ∈ bitsZ 0 12 := by rw [e]; exact List.mem_cons_self ..
      obtain ⟨j, _, _, h⟩ := bitsZ_mem.1 this
      simp at h
theorem meet_nil {V : Nat → GV} {n : Nat} {m : Int} (h : gsB V n m = true) {i j : Nat} (hi : i < n) (hj : j < n) : mtTo (V i).x (V j).x (V j).n (V i).n = [] ↔ (sw V i &&& sw V j) = 0 := by
  have h1 := grB_iff.1 ((gsB_iff.1 h).2.2 i hi)
  have h2 := grB_iff.1 ((gsB_iff.1 h).2.2 j hj)
  rw [← meet_bits h1.1.2 h1.2 h2.2]
  exact bits_nil (Nat.lt_of_le_of_lt Nat.and_le_left (sw_lt h hi))
/-- Any two of them meet, one with itself too. -/
def amP (V : Nat → GV) (n : Nat) : Prop := ∀ i j, i < n → j < n → (sw V i &&& sw V j) ≠ 0
def amB (V : Nat → GV) (n : Nat) (m : Int) : Bool := gsB V n m && decide (∀ i, i < n → ∀ j, j < n → (sw V i &&& sw V j) ≠ 0)
theorem am_no {V : Nat → GV} {n : Nat} {m : Int} (h : gsB V n m = false) : Ending.returned (.tuple #[.bool false, .bool false]) = .returned (.tuple #[.bool (amB V n m), .bool (gsB V n m)]) := by simp [amB, h]
theorem am_bad {V : Nat → GV} {n : Nat} {m : Int} {i j : Nat} (h : gsB V n m = true) (hi : i < n) (hj : j < n) (e : (sw V i &&& sw V j) = 0) : Ending.returned (.tuple #[.bool false, .bool true]) = .returned (.tuple #[.bool (amB V n m), .bool (gsB V n m)]) := by
  have : amB V n m = false := by
    rw [amB, h, Bool.true_and]
    exact decide_eq_false (fun q => q i hi j hj e)
  rw [this, h]
theorem am_yes {V : Nat → GV} {n : Nat} {m : Int} (h : gsB V n m = true) (q : ∀ i, i < n → ∀ j, j < n → (sw V i &&& sw V j) ≠ 0) : Ending.returned (.tuple #[.bool true, .bool true]) = .returned (.tuple #[.bool (amB V n m), .bool (gsB V n m)]) := by
  have : amB V n m = true := by rw [amB, h, Bool.true_and]; exact decide_eq_true q
  rw [this, h]
theorem half_all {V : Nat → GV} {n : Nat} (h : ∀ i, i < n → ∀ j, i ≤ j → j < n → (sw V i &&& sw V j) ≠ 0) : ∀ i, i < n → ∀ j, j < n → (sw V i &&& sw V j) ≠ 0 := by
  intro i hi j hj
  rcases Nat.le_total i j with q | q
  · exact h i hi j q hj
  · rw [Nat.and_comm]; exact h j hj i q hi
/-- Words in a row. -/
def wF (S : Nat → Nat) (i _ : Nat) : Value := .int .u16 (S i : Nat)
theorem w_cell {w : World} {b off n k : Nat} {S : Nat → Nat} (h : Elems w b off n 1 (wF S)) (hk : k < n) : w.cell? ⟨b, off + k, none⟩ = some (.int .u16 (S k : Nat)) := by
  have := h k hk 0 (by omega); simpa [wF] using this
def wC (S : Nat → Nat) (n : Nat) : List Value := (List.range n).map fun i => Value.int .u16 (S i : Nat)
theorem wC_succ (S : Nat → Nat) (n : Nat) : wC S (n + 1) = wC S n ++ [.int .u16 (S n : Nat)] := by simp [wC, List.range_succ]
theorem wC_sl {w : World} {base n : Nat} {v : Value} {S : Nat → Nat} (h : w.ownsRow base 76 1 v n (wC S n)) : ∃ a cap, v = .slice a n cap ∧ Sl w a n 1 (wF S) ∧ n ≤ cap ∧ cap ≤ maxLen := by
  rcases Nat.eq_zero_or_pos n with hz | hp
  · subst hz
    obtain ⟨_, h | ⟨g, cap, cur, rfl, _⟩⟩ := h
    · exact ⟨none, 0, h.1, Or.inl rfl, Nat.le_refl _, Nat.zero_le _⟩
    · rename_i r; exact ⟨_, cap, rfl, Or.inl rfl, Nat.zero_le _, r.2.2.2.1⟩
  have hc : ∃ g cap, v = .slice (some ⟨g, 0, none⟩) n cap ∧ n ≤ cap ∧ cap ≤ maxLen := by
    obtain ⟨_, h | ⟨g, cap, cur, rfl, _, _, r⟩⟩ := h
    · have := h.2; omega
    · exact ⟨g, cap, rfl, r.1, r.2.1⟩
  obtain ⟨g, cap, rfl, hcap⟩ := hc
  refine ⟨_, cap, rfl, Or.inr ⟨g, 0, rfl, (h.lt g rfl).2, fun i hi j hj => ?_⟩, hcap⟩
  have : j = 0 := by omega
  subst this
  have := World.ownsRow.cellAt h i (by simpa using hi)
  rw [show 0 + i * 1 + 0 = i by omega, this]
  simp [wC, hi, wF]
end Go.Proofs.Ytalnmollgielcaa
