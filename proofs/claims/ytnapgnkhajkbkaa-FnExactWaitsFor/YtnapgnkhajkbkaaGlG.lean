/- When locks are good, as both sides ask it. No Go text is spoken of here. -/
import Derived.Test.YtnapgnkhajkbkaaLkL
import Derived.Test.YtnapgnkhajkbkaaKeyI
namespace Go.Proofs.Ytnapgnkhajkbkaa
open Go.RowKit
set_option linter.unusedVariables false

def hdOk (t m : Int) : Bool := inR t 1 1000 && inR m 1 2
/-- t is one of the first k. -/
def hasN (T : Nat → Int) (t : Int) : Nat → Bool
  | 0 => false
  | k + 1 => hasN T t k || T k == t
/-- None of the first k others bars t from holding as m. -/
def canN (T M : Nat → Int) (t m : Int) : Nat → Bool
  | 0 => true
  | k + 1 => canN T M t m k && !(T k != t && (m == 2 || M k == 2))
/-- None of the first k is elder than t. -/
def eldN (T : Nat → Int) (t : Int) : Nat → Bool
  | 0 => true
  | k + 1 => eldN T t k && !(decide (T k < t))
/-- t waits for one of the first i keys. -/
def seenL (V : Nat → LkV) (t : Int) : Nat → Bool
  | 0 => false
  | i + 1 => seenL V t i || hasN (V i).w.t t (V i).w.n
/-- t waits ahead of place j of key i. -/
def seenB (V : Nat → LkV) (i j : Nat) (t : Int) : Bool := seenL V t i || hasN (V i).w.t t j
theorem hasN_iff {T : Nat → Int} {t : Int} : ∀ {k : Nat}, hasN T t k = true ↔ ∃ j, j < k ∧ T j = t
  | 0 => by simp [hasN]
  | k + 1 => by
    simp only [hasN, Bool.or_eq_true, hasN_iff (k := k), beq_iff_eq]
    constructor
    · rintro (⟨j, h1, h2⟩ | h)
      · exact ⟨j, by omega, h2⟩
      · exact ⟨k, by omega, h⟩
    · rintro ⟨j, h1, h2⟩
      by_cases e : j = k
      · subst e; exact Or.inr h2
      · exact Or.inl ⟨j, by omega, h2⟩
theorem eldN_iff {T : Nat → Int} {t : Int} : ∀ {k : Nat}, eldN T t k = true ↔ ∀ j, j < k → t ≤ T j
  | 0 => by simp [eldN]
  | k + 1 => by
    simp only [eldN, Bool.and_eq_true, eldN_iff (k := k), Bool.not_eq_true', decide_eq_false_iff_not]
    exact ⟨fun h => upto_succ h.1 (by omega), fun h => ⟨fun j hj => h j (by omega), by have := h k (by omega); omega⟩⟩
/-- Hold j of n. -/
def hold1 (T M : Nat → Int) (n j : Nat) : Prop := hdOk (T j) (M j) = true ∧ (0 < j → T (j - 1) < T j) ∧ (M j = 2 → n ≤ 1)
instance (T M : Nat → Int) (n j : Nat) : Decidable (hold1 T M n j) := by unfold hold1; infer_instance
def holdsP (T M : Nat → Int) (n : Nat) : Prop := 0 < n ∧ ∀ j, j < n → hold1 T M n j
instance (T M : Nat → Int) (n : Nat) : Decidable (holdsP T M n) := by unfold holdsP; infer_instance
/-- What impl asks of those that wait. -/
def waitsP (h w : HL) : Prop := w.n ≤ 8 ∧ (∀ j, j < w.n → hdOk (w.t j) (w.m j) = true ∧ eldN h.t (w.t j) h.n = true ∧ eldN w.t (w.t j) j = true) ∧ (w.n = 0 ∨ canN h.t h.m (w.t 0) (w.m 0) h.n = false)
instance (h w : HL) : Decidable (waitsP h w) := by unfold waitsP; infer_instance
/-- What the specification asks of place j of those that wait. -/
def wait1 (h w : HL) (j : Nat) : Prop := hdOk (w.t j) (w.m j) = true ∧ (j = 0 → canN h.t h.m (w.t 0) (w.m 0) h.n = false) ∧ eldN h.t (w.t j) h.n = true ∧ (0 < j → w.t j < w.t (j - 1))
instance (h w : HL) (j : Nat) : Decidable (wait1 h w j) := by unfold wait1; infer_instance
def ltK (V : Nat → LkV) (i : Nat) : Bool := Op.bytesLess (V (i - 1)).key.toList (V i).key.toList
def head1 (V : Nat → LkV) (i : Nat) : Prop := keyOk (V i).key = true ∧ (0 < i → ltK V i = true)
instance (V : Nat → LkV) (i : Nat) : Decidable (head1 V i) := by unfold head1; infer_instance
/-- Lock i, as the specification asks it. -/
def lock1 (V : Nat → LkV) (i : Nat) : Prop := head1 V i ∧ (V i).w.n ≤ 8 ∧ holdsP (V i).h.t (V i).h.m (V i).h.n ∧ ∀ j, j < (V i).w.n → wait1 (V i).h (V i).w j ∧ seenB V i j ((V i).w.t j) = false
instance (V : Nat → LkV) (i : Nat) : Decidable (lock1 V i) := by unfold lock1; infer_instance
/-- Lock i, as impl asks it. -/
def lockI (V : Nat → LkV) (i : Nat) : Prop := (head1 V i ∧ holdsP (V i).h.t (V i).h.m (V i).h.n ∧ waitsP (V i).h (V i).w) ∧ ∀ j, j < (V i).w.n → seenB V i j ((V i).w.t j) = false
def goodL (V : Nat → LkV) (n : Nat) : Bool := decide (n ≤ 20 ∧ ∀ i, i < n → lock1 V i)
theorem wait_down {h w : HL} {n : Nat} (hw : ∀ j, j < n → wait1 h w j) : ∀ {j i : Nat}, i < j → j < n → w.t j < w.t i
  | 0, i, h1, _ => by omega
  | j + 1, i, h1, h2 => by
    have a := (hw (j + 1) h2).2.2.2 (by omega)
    simp at a
    by_cases e : i = j
    · subst e; exact a
    · have b := wait_down hw (j := j) (i := i) (by omega) (by omega)
      omega
theorem lock_same (V : Nat → LkV) (i : Nat) : lock1 V i ↔ lockI V i := by
  constructor
  · rintro ⟨h1, h2, h3, h4⟩
    refine ⟨⟨h1, h3, h2, fun j hj => ⟨(h4 j hj).1.1, (h4 j hj).1.2.2.1, eldN_iff.2 (fun q hq => ?_)⟩, ?_⟩, fun j hj => (h4 j hj).2⟩
    · exact Int.le_of_lt (wait_down (fun j hj => (h4 j hj).1) hq hj)
    · rcases Nat.eq_zero_or_pos (V i).w.n with e | e
      · exact Or.inl e
      · exact Or.inr ((h4 0 e).1.2.1 rfl)
  · rintro ⟨⟨h1, h3, h2, h5, h6⟩, h4⟩
    refine ⟨h1, h2, h3, fun j hj => ⟨⟨(h5 j hj).1, fun e => ?_, (h5 j hj).2.1, fun hp => ?_⟩, h4 j hj⟩⟩
    · rcases h6 with h6 | h6
      · omega
      · exact h6
    · have a := eldN_iff.1 (h5 j hj).2.2 (j - 1) (by omega)
      have b := h4 j hj
      simp only [seenB, Bool.or_eq_false_iff] at b
      have c : (V i).w.t (j - 1) ≠ (V i).w.t j := fun e => by
        have := hasN_iff.2 ⟨j - 1, (by omega : j - 1 < j), e⟩
        rw [b.2] at this; cases this
      omega
theorem good_no {V : Nat → LkV} {n : Nat} (h : ¬ (n ≤ 20 ∧ ∀ i, i < n → lock1 V i)) : goodL V n = false := by simp only [goodL, decide_eq_false_iff_not]; exact h
theorem good_yes {V : Nat → LkV} {n : Nat} (h : n ≤ 20 ∧ ∀ i, i < n → lock1 V i) : goodL V n = true := by simp only [goodL, decide_eq_true_eq]; exact h
theorem good_bad {V : Nat → LkV} {n i : Nat} (hi : i < n) (h : ¬ lock1 V i) : goodL V n = false := good_no (fun g => h (g.2 i hi))
theorem hd_range {t m : Int} (h : hdOk t m = true) : (1 ≤ t ∧ t ≤ 1000) ∧ (1 ≤ m ∧ m ≤ 2) := by
  simp only [hdOk, Bool.and_eq_true, inR_iff] at h; exact h
end Go.Proofs.Ytnapgnkhajkbkaa
