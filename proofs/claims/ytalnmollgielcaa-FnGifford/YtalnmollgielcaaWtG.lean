/- Votes: their sum, and how many a group has: mathematics. -/
import Derived.Test.YtalnmollgielcaaGrI
namespace Go.Proofs.Ytalnmollgielcaa
open Go.RowKit
set_option linter.unusedVariables false

def sumTo (V : Nat → Int) : Nat → Int
  | 0 => 0
  | k + 1 => sumTo V k + V k
def allV (V : Nat → Int) (p : Nat) : Prop := ∀ i, i < p → 0 ≤ V i ∧ V i ≤ 100
theorem sumTo_bd {V : Nat → Int} : ∀ {k : Nat}, allV V k → 0 ≤ sumTo V k ∧ sumTo V k ≤ 100 * (k : Int)
  | 0, _ => by simp [sumTo]
  | k + 1, h => by
    have h1 := sumTo_bd (k := k) (fun i hi => h i (by omega))
    have h2 := h k (by omega)
    simp only [sumTo]
    omega
theorem allV_succ {V : Nat → Int} {k : Nat} (h : allV V k) (h1 : inR (V k) 0 100 = true) : allV V (k + 1) := by
  intro i hi
  by_cases e : i = k
  · subst e; exact inR_iff.1 h1
  · exact h i (by omega)
/-- They are votes. -/
def vtB (V : Nat → Int) (p : Nat) : Bool := decide ((1 ≤ p ∧ p ≤ 12) ∧ (∀ i, i < p → 0 ≤ V i ∧ V i ≤ 100) ∧ 1 ≤ sumTo V p)
theorem vtB_iff {V : Nat → Int} {p : Nat} : vtB V p = true ↔ (1 ≤ p ∧ p ≤ 12) ∧ allV V p ∧ 1 ≤ sumTo V p := by simp only [vtB, decide_eq_true_eq, allV]
theorem vtB_no {V : Nat → Int} {p : Nat} (h : ¬ ((1 ≤ p ∧ p ≤ 12) ∧ allV V p ∧ 1 ≤ sumTo V p)) : vtB V p = false := by
  cases e : vtB V p
  · rfl
  · exact absurd (vtB_iff.1 e) h
theorem vt_bad {V : Nat → Int} {p k : Nat} (hk : k < p) (h : inR (V k) 0 100 = false) : vtB V p = false := vtB_no (fun q => by rw [inR_iff.2 (q.2.1 k hk)] at h; cases h)

/-- What the first k of a group have. -/
def wsum (X V : Nat → Int) : Nat → Int
  | 0 => 0
  | k + 1 => wsum X V k + V (X k).toNat
/-- What the nodes of a word among the first j have. -/
def bsum (s : Nat) (V : Nat → Int) : Nat → Int
  | 0 => 0
  | j + 1 => bsum s V j + (if s.testBit j then V j else 0)
theorem bsum_zero (V : Nat → Int) : ∀ j, bsum 0 V j = 0
  | 0 => rfl
  | j + 1 => by simp [bsum, bsum_zero V j]
theorem bsum_or {s x : Nat} (V : Nat → Int) (h : s.testBit x = false) : ∀ j, bsum (s ||| 2 ^ x) V j = bsum s V j + (if x < j then V x else 0)
  | 0 => by simp [bsum]
  | j + 1 => by
    rw [bsum, bsum, bsum_or V h j, Nat.testBit_or, Nat.testBit_two_pow]
    by_cases e : x = j
    · subst e
      simp [h]
    · have e1 : decide (x = j) = false := decide_eq_false e
      rw [e1, Bool.or_false]
      by_cases q : x < j
      · rw [if_pos q, if_pos (show x < j + 1 by omega)]; omega
      · rw [if_neg q, if_neg (show ¬ x < j + 1 by omega)]; omega
theorem bsum_wd {X V : Nat → Int} {m : Int} {p : Nat} (hp : m = (p : Int)) : ∀ {n : Nat}, grP X m n → bsum (wd X n) V p = wsum X V n
  | 0, _ => bsum_zero V p
  | n + 1, h => by
    have h0 := (h n (by omega)).1
    have hk : grP X m n := fun i hi => h i (by omega)
    have hb : (wd X n).testBit (X n).toNat = false := by
      cases e : (wd X n).testBit (X n).toNat
      · rfl
      · obtain ⟨i, hi, q⟩ := (wd_bit (fun i hi => (hk i hi).1.1) _).1 e
        have := grP_rise h hi (by omega : n < n + 1)
        omega
    rw [wd, bsum_or V hb, bsum_wd hp hk, wsum, if_pos (show (X n).toNat < p by omega)]
theorem wsum_bd {X V : Nat → Int} {m : Int} {p : Nat} (hp : m = (p : Int)) (hV : allV V p) : ∀ {n : Nat}, grP X m n → 0 ≤ wsum X V n ∧ wsum X V n ≤ 100 * (n : Int)
  | 0, _ => by simp [wsum]
  | n + 1, h => by
    have h0 := (h n (by omega)).1
    have h1 := wsum_bd hp hV (n := n) (fun i hi => h i (by omega))
    have h2 := hV (X n).toNat (by omega)
    simp only [wsum]
    omega
theorem bsum_bd {s : Nat} {V : Nat → Int} : ∀ {j : Nat}, allV V j → 0 ≤ bsum s V j ∧ bsum s V j ≤ 100 * (j : Int)
  | 0, _ => by simp [bsum]
  | j + 1, h => by
    have h1 := bsum_bd (s := s) (j := j) (fun i hi => h i (by omega))
    have h2 := h j (by omega)
    simp only [bsum]
    split <;> omega

def wtB (V : Nat → Int) (p : Nat) (X : Nat → Int) (n : Nat) : Bool := vtB V p && grB X n p
def wtN (V : Nat → Int) (p : Nat) (X : Nat → Int) (n : Nat) : Int := if wtB V p X n then wsum X V n else 0
theorem wt_no {V : Nat → Int} {p : Nat} {X : Nat → Int} {n : Nat} (h : wtB V p X n = false) : Ending.returned (.tuple #[.int .i64 0, .bool false]) = .returned (.tuple #[.int .i64 (wtN V p X n), .bool (wtB V p X n)]) := by simp [wtN, h]
theorem wt_yes {V : Nat → Int} {p : Nat} {X : Nat → Int} {n : Nat} {v : Int} (h : wtB V p X n = true) (hv : v = wsum X V n) : Ending.returned (.tuple #[.int .i64 v, .bool true]) = .returned (.tuple #[.int .i64 (wtN V p X n), .bool (wtB V p X n)]) := by simp [wtN, h, hv]
def enOk (V : Nat → Int) (p : Nat) (t : Int) (X : Nat → Int) (n : Nat) : Bool := wtB V p X n && inR t 1 (sumTo V p)
def enB (V : Nat → Int) (p : Nat) (t : Int) (X : Nat → Int) (n : Nat) : Bool := enOk V p t X n && decide (t ≤ wsum X V n)
theorem en_no {V : Nat → Int} {p : Nat} {t : Int} {X : Nat → Int} {n : Nat} (h : enOk V p t X n = false) : Ending.returned (.tuple #[.bool false, .bool false]) = .returned (.tuple #[.bool (enB V p t X n), .bool (enOk V p t X n)]) := by simp [enB, h]
theorem en_yes {V : Nat → Int} {p : Nat} {t : Int} {X : Nat → Int} {n : Nat} {b : Bool} (h : enOk V p t X n = true) (hb : b = decide (t ≤ wsum X V n)) : Ending.returned (.tuple #[.bool b, .bool true]) = .returned (.tuple #[.bool (enB V p t X n), .bool (enOk V p t X n)]) := by simp [enB, h, hb]
end Go.Proofs.Ytalnmollgielcaa
