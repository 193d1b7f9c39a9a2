/- The next tid, in plain Lean: what the two ways of reckoning it come to. No Go text is spoken of here. -/
import Derived.Test.YtbklhmeaoigneaaTidB
namespace Go.Proofs.Ytbklhmeaoigneaa
set_option linter.unusedVariables false

/-- The program's way: the least Seq behind the first k tids of the epoch. -/
def nextS (E S : Nat → Int) (ep : Int) : Nat → Int
  | 0 => 0
  | k + 1 => if E k = ep ∧ nextS E S ep k ≤ S k then S k + 1 else nextS E S ep k
/-- The specification's way: the tid behind the first k tids. -/
def nextP (E S : Nat → Int) (ep : Int) : Nat → Int × Int
  | 0 => (ep, 0)
  | k + 1 => if 0 ≤ cmpT (E k) (S k) (nextP E S ep k).1 (nextP E S ep k).2 then (E k, S k + 1) else nextP E S ep k

theorem cmpT_nonneg (e s e' s' : Int) : 0 ≤ cmpT e s e' s' ↔ (e' < e ∨ (e = e' ∧ s' ≤ s)) := by
  unfold cmpT cmpI
  by_cases h : e = e'
  · simp [h]; split
    · simp; omega
    · split <;> simp <;> omega
  · simp [h]; split
    · simp; omega
    · split <;> simp <;> omega
theorem nextP_step (E S : Nat → Int) (ep : Int) (k : Nat) :
    nextP E S ep (k + 1) = if (nextP E S ep k).1 < E k ∨ (E k = (nextP E S ep k).1 ∧ (nextP E S ep k).2 ≤ S k) then (E k, S k + 1) else nextP E S ep k := by
  show (if 0 ≤ cmpT (E k) (S k) (nextP E S ep k).1 (nextP E S ep k).2 then (E k, S k + 1) else nextP E S ep k) = _
  by_cases h : (nextP E S ep k).1 < E k ∨ (E k = (nextP E S ep k).1 ∧ (nextP E S ep k).2 ≤ S k)
  · rw [if_pos ((cmpT_nonneg _ _ _ _).2 h), if_pos h]
  · rw [if_neg (fun x => h ((cmpT_nonneg _ _ _ _).1 x)), if_neg h]
theorem nextP_same (E S : Nat → Int) (ep : Int) : ∀ k, (∀ i, i < k → E i ≤ ep) → nextP E S ep k = (ep, nextS E S ep k)
  | 0, _ => rfl
  | k + 1, h => by
    have ih := nextP_same E S ep k (fun i hi => h i (by omega))
    have hk := h k (by omega)
    rw [nextP_step, ih]
    show (if ep < E k ∨ (E k = ep ∧ nextS E S ep k ≤ S k) then (E k, S k + 1) else (ep, nextS E S ep k)) = (ep, if E k = ep ∧ nextS E S ep k ≤ S k then S k + 1 else nextS E S ep k)
    by_cases c : E k = ep ∧ nextS E S ep k ≤ S k
    · rw [if_pos (Or.inr c), if_pos c, c.1]
    · rw [if_neg (by omega), if_neg c]
theorem nextP_ge (E S : Nat → Int) (ep : Int) : ∀ k, ep ≤ (nextP E S ep k).1 ∧ ∀ i, i < k → E i ≤ (nextP E S ep k).1
  | 0 => ⟨Int.le_refl _, fun i hi => by omega⟩
  | k + 1 => by
    obtain ⟨h1, h2⟩ := nextP_ge E S ep k
    rw [nextP_step]
    by_cases c : (nextP E S ep k).1 < E k ∨ (E k = (nextP E S ep k).1 ∧ (nextP E S ep k).2 ≤ S k)
    · rw [if_pos c]
      refine ⟨by show ep ≤ E k; omega, fun i hi => ?_⟩
      show E i ≤ E k
      rcases Nat.lt_or_ge i k with g | g
      · have := h2 i g; omega
      · have : i = k := by omega
        subst this; omega
    · rw [if_neg c]
      refine ⟨h1, fun i hi => ?_⟩
      rcases Nat.lt_or_ge i k with g | g
      · exact h2 i g
      · have : i = k := by omega
        subst this; omega
theorem nextS_bd (E S : Nat → Int) (ep : Int) : ∀ k, (∀ i, i < k → 0 ≤ S i ∧ S i ≤ 16777215) → 0 ≤ nextS E S ep k ∧ nextS E S ep k ≤ 16777216
  | 0, _ => by simp [nextS]
  | k + 1, h => by
    have ih := nextS_bd E S ep k (fun i hi => h i (by omega))
    have hk := h k (by omega)
    show 0 ≤ (if E k = ep ∧ nextS E S ep k ≤ S k then S k + 1 else nextS E S ep k) ∧ (if E k = ep ∧ nextS E S ep k ≤ S k then S k + 1 else nextS E S ep k) ≤ 16777216
    split <;> omega
theorem nextP_bd (E S : Nat → Int) (ep : Int) : ∀ k, (∀ i, i < k → 0 ≤ S i ∧ S i ≤ 16777215) → 0 ≤ (nextP E S ep k).2 ∧ (nextP E S ep k).2 ≤ 16777216
  | 0, _ => by simp [nextP]
  | k + 1, h => by
    have ih := nextP_bd E S ep k (fun i hi => h i (by omega))
    have hk := h k (by omega)
    rw [nextP_step]
    split
    · show 0 ≤ S k + 1 ∧ S k + 1 ≤ 16777216; omega
    · exact ih

def allGood (E S : Nat → Int) : Nat → Bool
  | 0 => true
  | k + 1 => allGood E S k && goodT (E k) (S k)
def allLe (E : Nat → Int) (ep : Int) : Nat → Bool
  | 0 => true
  | k + 1 => allLe E ep k && decide (E k ≤ ep)
theorem allGood_iff (E S : Nat → Int) : ∀ n, allGood E S n = true ↔ ∀ i, i < n → goodT (E i) (S i) = true
  | 0 => by simp [allGood]
  | k + 1 => by
    simp only [allGood, Bool.and_eq_true, allGood_iff E S k]
    constructor
    · intro h i hi
      rcases Nat.lt_or_ge i k with g | g
      · exact h.1 i g
      · have : i = k := by omega
        subst this; exact h.2
    · intro h; exact ⟨fun i hi => h i (by omega), h k (by omega)⟩
theorem allLe_iff (E : Nat → Int) (ep : Int) : ∀ n, allLe E ep n = true ↔ ∀ i, i < n → E i ≤ ep
  | 0 => by simp [allLe]
  | k + 1 => by
    simp only [allLe, Bool.and_eq_true, allLe_iff E ep k, decide_eq_true_eq]
    constructor
    · intro h i hi
      rcases Nat.lt_or_ge i k with g | g
      · exact h.1 i g
      · have : i = k := by omega
        subst this; exact h.2
    · intro h; exact ⟨fun i hi => h i (by omega), h k (by omega)⟩
theorem goodT_bd {e s : Int} (h : goodT e s = true) : 0 ≤ e ∧ e ≤ 1048575 ∧ 0 ≤ s ∧ s ≤ 16777215 := by
  unfold goodT inR at h; simp at h; omega

/-- Whether there is a next tid. -/
def nextOk (E S : Nat → Int) (ep : Int) (n : Nat) : Bool := decide (n ≤ 60) && inR ep 0 1048575 && allGood E S n && (allLe E ep n && decide (nextS E S ep n ≤ 16777215))
theorem nextP_ok (E S : Nat → Int) (ep : Int) (n : Nat) : ((nextP E S ep n).1 == ep && decide ((nextP E S ep n).2 ≤ 16777215)) = (allLe E ep n && decide (nextS E S ep n ≤ 16777215)) := by
  cases h : allLe E ep n
  · have hne : (nextP E S ep n).1 ≠ ep := by
      intro e
      have h2 := (nextP_ge E S ep n).2
      rw [e] at h2
      rw [(allLe_iff E ep n).2 h2] at h; cases h
    simp [hne]
  · rw [nextP_same E S ep n ((allLe_iff E ep n).1 h)]; simp
end Go.Proofs.Ytbklhmeaoigneaa
