/- Lamport's numbers by the events just ahead of one. No Go text is spoken of here. -/
import Derived.Test.YtjophhiccbkpjaaEvG
namespace Go.Proofs.Ytjophhiccbkpjaa
set_option linter.unusedVariables false

/-- The last of the first k that p holds of, counted from 1 on; 0: none. -/
def lastB (p : Nat → Bool) : Nat → Nat
  | 0 => 0
  | k + 1 => if p k then k + 1 else lastB p k
theorem lastB_le (p : Nat → Bool) : ∀ k, lastB p k ≤ k
  | 0 => Nat.le_refl _
  | k + 1 => by
    have := lastB_le p k
    simp only [lastB]; split <;> omega
theorem lastB_congr {p q : Nat → Bool} : ∀ k, (∀ i, i < k → p i = q i) → lastB p k = lastB q k
  | 0, _ => rfl
  | k + 1, h => by simp only [lastB]; rw [h k (by omega), lastB_congr k (fun i hi => h i (by omega))]
/-- The event of its Proc, and the sending, just ahead of event i. -/
def own (P : Nat → Int) (i : Nat) : Nat := lastB (fun j => P j == P i) i
def snt (K M : Nat → Int) (i : Nat) : Nat := if K i = 3 then lastB (fun j => K j == 2 && M j == M i) i else 0
theorem own_le (P : Nat → Int) (i : Nat) : own P i ≤ i := lastB_le _ _
theorem snt_le (K M : Nat → Int) (i : Nat) : snt K M i ≤ i := by
  unfold snt; split
  · exact lastB_le _ _
  · omega

def lamTab (o s : Nat → Nat) : Nat → Nat → Int
  | 0, _ => 0
  | n + 1, i => if i = n + 1 then max (lamTab o s n (o n)) (lamTab o s n (s n)) + 1 else lamTab o s n i
def lam0 (o s : Nat → Nat) (i : Nat) : Int := lamTab o s i i
theorem lamTab_eq (o s : Nat → Nat) : ∀ n i, i ≤ n → lamTab o s n i = lam0 o s i
  | 0, i, h => by have : i = 0 := by omega
                  subst this; rfl
  | n + 1, i, h => by
    rcases Nat.lt_or_ge i (n + 1) with g | g
    · rw [lamTab, if_neg (by omega), lamTab_eq o s n i (by omega)]
    · have : i = n + 1 := by omega
      subst this; rfl
theorem lam0_succ {o s : Nat → Nat} {n : Nat} (ho : o n ≤ n) (hs : s n ≤ n) : lam0 o s (n + 1) = max (lam0 o s (o n)) (lam0 o s (s n)) + 1 := by
  show lamTab o s (n + 1) (n + 1) = _
  rw [lamTab, if_pos rfl, lamTab_eq o s n _ ho, lamTab_eq o s n _ hs]
theorem lam0_bd {o s : Nat → Nat} (ho : ∀ n, o n ≤ n) (hs : ∀ n, s n ≤ n) : ∀ n i, i ≤ n → 0 ≤ lam0 o s i ∧ lam0 o s i ≤ i
  | 0, i, h => by have : i = 0 := by omega
                  subst this; simp [lam0, lamTab]
  | n + 1, i, h => by
    rcases Nat.lt_or_ge i (n + 1) with g | g
    · exact lam0_bd ho hs n i (by omega)
    · have : i = n + 1 := by omega
      subst this
      rw [lam0_succ (ho n) (hs n)]
      have h1 := lam0_bd ho hs n (o n) (ho n)
      have h2 := lam0_bd ho hs n (s n) (hs n)
      have h3 := ho n
      have h4 := hs n
      omega
/-- Lamport's number of event i - 1; of no event 0. -/
def lam (K P M : Nat → Int) (i : Nat) : Int := lam0 (own P) (snt K M) i
theorem lam_zero (K P M : Nat → Int) : lam K P M 0 = 0 := rfl
theorem lam_succ (K P M : Nat → Int) (n : Nat) : lam K P M (n + 1) = max (lam K P M (own P n)) (lam K P M (snt K M n)) + 1 := lam0_succ (own_le P n) (snt_le K M n)
theorem lam_bd (K P M : Nat → Int) (i : Nat) : 0 ≤ lam K P M i ∧ lam K P M i ≤ i := lam0_bd (own_le P) (snt_le K M) i i (Nat.le_refl _)
/-- What 'last' and 'sent' hold behind the first k events. -/
def lastN (K P M : Nat → Int) (k q : Nat) : Int := lam K P M (lastB (fun j => P j == (q : Int)) k)
def sentN (K P M : Nat → Int) (k : Nat) (m : Int) : Int := lam K P M (lastB (fun j => K j == 2 && M j == m) k)
theorem lastN_own {K P M : Nat → Int} {k q : Nat} (h : P k = (q : Int)) : lastN K P M k q = lam K P M (own P k) := by simp [lastN, own, h]
theorem lastN_step {K P M : Nat → Int} {k q : Nat} (h : P k = (q : Int)) (i : Nat) : (if i = q then lam K P M (k + 1) else lastN K P M k i) = lastN K P M (k + 1) i := by
  by_cases e : i = q
  · subst e; simp [lastN, lastB, h]
  · have : (P k == (i : Int)) = false := by simp; omega
    simp [lastN, lastB, e, this]
theorem sentN_take {K P M : Nat → Int} {k : Nat} (h : K k = 3) : sentN K P M k (M k) = lam K P M (snt K M k) := by simp [sentN, snt, h]
theorem sentN_put {K P M : Nat → Int} {k : Nat} (h : K k = 2) (m : Int) : sentN K P M (k + 1) m = if m = M k then lam K P M (k + 1) else sentN K P M k m := by
  by_cases e : m = M k
  · subst e; simp [sentN, lastB, h]
  · have : (M k == m) = false := by simp; exact fun q => e q.symm
    simp [sentN, lastB, e, this]
theorem sentN_keep {K P M : Nat → Int} {k : Nat} (h : K k ≠ 2) (m : Int) : sentN K P M (k + 1) m = sentN K P M k m := by
  have : (K k == 2) = false := by simpa using h
  simp [sentN, lastB, this]
theorem lam_take {K P M : Nat → Int} {k q : Nat} (hp : P k = (q : Int)) (h : K k = 3) : lam K P M (k + 1) = max (lastN K P M k q) (sentN K P M k (M k)) + 1 := by rw [lam_succ, lastN_own hp, sentN_take h]
theorem lam_else {K P M : Nat → Int} {k q : Nat} (hp : P k = (q : Int)) (h : K k ≠ 3) : lam K P M (k + 1) = lastN K P M k q + 1 := by
  rw [lam_succ, lastN_own hp]
  have : snt K M k = 0 := by simp [snt, h]
  rw [this, lam_zero]
  have := (lam_bd K P M (own P k)).1
  omega
end Go.Proofs.Ytjophhiccbkpjaa
