/- Groups: rising lists of numbers, and words of bits: mathematics. -/
import Derived.Test.YtaofolbnommpgaaMgA
import Derived.Test.YtaofolbnommpgaaHasI
import Derived.Laws.BitsLemmas
namespace Go.Proofs.Ytaofolbnommpgaa
open Go.RowKit
set_option linter.unusedVariables false

/-- n numbers that rise in 0..m-1, for m of 1..12. -/
def grP (X : Nat → Int) (m : Int) (n : Nat) : Prop := ∀ i, i < n → (0 ≤ X i ∧ X i ≤ m - 1) ∧ (0 < i → X (i - 1) < X i)
def grB (X : Nat → Int) (n : Nat) (m : Int) : Bool := decide ((1 ≤ m ∧ m ≤ 12) ∧ ∀ i, i < n → (0 ≤ X i ∧ X i ≤ m - 1) ∧ (0 < i → X (i - 1) < X i))
theorem grB_iff {X : Nat → Int} {n : Nat} {m : Int} : grB X n m = true ↔ (1 ≤ m ∧ m ≤ 12) ∧ grP X m n := by simp only [grB, decide_eq_true_eq, grP]
theorem grB_out {X : Nat → Int} {n : Nat} {m : Int} (h : ¬ (1 ≤ m ∧ m ≤ 12)) : grB X n m = false := by
  cases e : grB X n m
  · rfl
  · exact absurd (grB_iff.1 e).1 h
theorem grB_bad {X : Nat → Int} {n k : Nat} {m : Int} (hk : k < n) (h : ¬ ((0 ≤ X k ∧ X k ≤ m - 1) ∧ (0 < k → X (k - 1) < X k))) : grB X n m = false := by
  cases e : grB X n m
  · rfl
  · exact absurd ((grB_iff.1 e).2 k hk) h
theorem grP_succ {X : Nat → Int} {m : Int} {k : Nat} (h : grP X m k) (h1 : (0 ≤ X k ∧ X k ≤ m - 1) ∧ (0 < k → X (k - 1) < X k)) : grP X m (k + 1) := by
  intro i hi
  by_cases e : i = k
  · subst e; exact h1
  · exact h i (by omega)
theorem grP_rise {X : Nat → Int} {m : Int} {n : Nat} (h : grP X m n) : ∀ {i j : Nat}, i < j → j < n → X i < X j := by
  intro i j hij
  induction j with
  | zero => omega
  | succ j ih =>
    intro hj
    have h2 := (h (j + 1) hj).2 (by omega)
    simp only [Nat.add_sub_cancel] at h2
    by_cases e : i = j
    · subst e; exact h2
    · have := ih (by omega) (by omega); omega
theorem grP_inj {X : Nat → Int} {m : Int} {n : Nat} (h : grP X m n) {i j : Nat} (hi : i < n) (hj : j < n) (e : X i = X j) : i = j := by
  rcases Nat.lt_trichotomy i j with q | q | q
  · have := grP_rise h q hj; omega
  · exact q
  · have := grP_rise h q hi; omega
theorem grP_ge {X : Nat → Int} {m : Int} {n : Nat} (h : grP X m n) : ∀ {i : Nat}, i < n → (i : Int) ≤ X i
  | 0, hi => (h 0 hi).1.1
  | i + 1, hi => by
    have := grP_ge h (i := i) (by omega)
    have := (h (i + 1) hi).2 (by omega)
    simp only [Nat.add_sub_cancel] at this
    omega
theorem grP_len {X : Nat → Int} {m : Int} {n : Nat} (h : grP X m n) (hm : 1 ≤ m ∧ m ≤ 12) : (n : Int) ≤ m := by
  rcases Nat.eq_zero_or_pos n with e | e
  · subst e; omega
  · have h1 := grP_ge h (i := n - 1) (by omega)
    have h2 := (h (n - 1) (by omega)).1.2
    omega

/-- The word of the first k. -/
def wd (X : Nat → Int) : Nat → Nat
  | 0 => 0
  | k + 1 => wd X k ||| 2 ^ (X k).toNat
theorem wd_bit {X : Nat → Int} : ∀ {k : Nat}, (∀ i, i < k → 0 ≤ X i) → ∀ j : Nat, (wd X k).testBit j = true ↔ ∃ i, i < k ∧ X i = (j : Int)
  | 0, _, j => by simp [wd]
  | k + 1, h, j => by
    have h0 := h k (by omega)
    rw [wd, Nat.testBit_or, Bool.or_eq_true, wd_bit (k := k) (fun i hi => h i (by omega)) j, Nat.testBit_two_pow]
    constructor
    · rintro (⟨i, hi, e⟩ | e)
      · exact ⟨i, by omega, e⟩
      · have e := of_decide_eq_true e
        exact ⟨k, by omega, by omega⟩
    · rintro ⟨i, hi, e⟩
      by_cases q : i = k
      · subst q; exact Or.inr (decide_eq_true (by omega))
      · exact Or.inl ⟨i, by omega, e⟩
theorem wd_lt {X : Nat → Int} : ∀ {k : Nat}, (∀ i, i < k → 0 ≤ X i ∧ X i ≤ 11) → wd X k < 4096
  | 0, _ => by simp [wd]
  | k + 1, h => by
    have h0 := h k (by omega)
    refine Nat.or_lt_two_pow (n := 12) (wd_lt (k := k) (fun i hi => h i (by omega))) ?_
    exact Nat.pow_lt_pow_right (by omega) (by omega)
theorem gr_in {X : Nat → Int} {m : Int} {n : Nat} (h : grP X m n) (hm : m ≤ 12) : ∀ i, i < n → 0 ≤ X i ∧ X i ≤ 11 := fun i hi => by have := (h i hi).1; omega
theorem wd_has {X : Nat → Int} {k : Nat} (h : ∀ i, i < k → 0 ≤ X i) (j : Nat) : (wd X k).testBit j = hasN X j k := by
  rw [Bool.eq_iff_iff, wd_bit h, hasN_iff]

/-- The bits of a word among the first k, as a list. -/
def bitsTo (s : Nat) : Nat → List Nat
  | 0 => []
  | k + 1 => bitsTo s k ++ (if s.testBit k then [k] else [])
theorem bitsTo_mem {s : Nat} : ∀ {k j : Nat}, j ∈ bitsTo s k ↔ j < k ∧ s.testBit j = true
  | 0, j => by simp [bitsTo]
  | k + 1, j => by
    rw [bitsTo, List.mem_append, bitsTo_mem (k := k)]
    cases e : s.testBit k
    · simp only [Bool.false_eq_true, if_false, List.not_mem_nil, or_false]
      constructor
      · rintro ⟨a, b⟩; exact ⟨by omega, b⟩
      · rintro ⟨a, b⟩
        by_cases q : j = k
        · subst q; rw [e] at b; cases b
        · exact ⟨by omega, b⟩
    · simp only [if_true, List.mem_singleton]
      constructor
      · rintro (⟨a, b⟩ | rfl)
        · exact ⟨by omega, b⟩
        · exact ⟨by omega, e⟩
      · rintro ⟨a, b⟩
        by_cases q : j = k
        · exact Or.inr q
        · exact Or.inl ⟨by omega, b⟩
theorem bitsTo_len (s : Nat) : ∀ k, (bitsTo s k).length ≤ k
  | 0 => Nat.le_refl _
  | k + 1 => by
    rw [bitsTo, List.length_append]
    have := bitsTo_len s k
    split <;> simp <;> omega
theorem bitsTo_rise (s : Nat) : ∀ k, (bitsTo s k).Pairwise (· < ·)
  | 0 => List.Pairwise.nil
  | k + 1 => by
    rw [bitsTo, List.pairwise_append]
    refine ⟨bitsTo_rise s k, ?_, ?_⟩
    · split <;> simp
    · intro a ha b hb
      have := (bitsTo_mem.1 ha).1
      split at hb <;> simp at hb
      omega

/-- A list as numbers that are asked by place. -/
def atL (L : List Nat) (i : Nat) : Int := ((L.getD i 0 : Nat) : Int)
theorem atL_lt {L : List Nat} {i : Nat} (h : i < L.length) : atL L i = ((L[i] : Nat) : Int) := by simp [atL, List.getD_eq_getElem?_getD, List.getElem?_eq_getElem h]
theorem hasN_atL {L : List Nat} {j : Nat} : hasN (atL L) (j : Int) L.length = true ↔ j ∈ L := by
  rw [hasN_iff, List.mem_iff_getElem]
  constructor
  · rintro ⟨i, hi, e⟩
    rw [atL_lt hi] at e
    exact ⟨i, hi, by omega⟩
  · rintro ⟨i, hi, e⟩
    exact ⟨i, hi, by rw [atL_lt hi]; omega⟩
/-- Two rising lists of the same members are the same. -/
theorem rise_ext : ∀ {A B : List Nat}, A.Pairwise (· < ·) → B.Pairwise (· < ·) → (∀ j, j ∈ A ↔ j ∈ B) → A = B
  | [], [], _, _, _ => rfl
  | [], b :: B, _, _, h => absurd ((h b).2 (List.mem_cons_self ..)) (by simp)
  | a :: A, [], _, _, h => absurd ((h a).1 (List.mem_cons_self ..)) (by simp)
  | a :: A, b :: B, ha, hb, h => by
    rw [List.pairwise_cons] at ha hb
    have e : a = b := by
      have h1 := (h a).1 (List.mem_cons_self ..)
      have h2 := (h b).2 (List.mem_cons_self ..)
      rcases List.mem_cons.1 h1 with q | q
      · exact q
      rcases List.mem_cons.1 h2 with r | r
      · exact r.symm
      · have := hb.1 a q; have := ha.1 b r; omega
    subst e
    rw [rise_ext ha.2 hb.2]
    intro j
    constructor
    · intro hj
      rcases List.mem_cons.1 ((h j).1 (List.mem_cons_of_mem _ hj)) with q | q
      · subst q; have := ha.1 j hj; omega
      · exact q
    · intro hj
      rcases List.mem_cons.1 ((h j).2 (List.mem_cons_of_mem _ hj)) with q | q
      · subst q; have := hb.1 j hj; omega
      · exact q
end Go.Proofs.Ytaofolbnommpgaa
