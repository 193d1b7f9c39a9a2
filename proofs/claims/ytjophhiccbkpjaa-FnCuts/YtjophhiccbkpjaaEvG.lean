/- When events are good: told by where each message stands, and by what was sent and taken ahead; both are the same. No Go text is spoken of here. -/
import Derived.Test.YtjophhiccbkpjaaIn
namespace Go.Proofs.Ytjophhiccbkpjaa
set_option linter.unusedVariables false

/-- One of the first k events is of that kind and message. -/
def seen (K M : Nat → Int) (kd m : Int) : Nat → Bool
  | 0 => false
  | k + 1 => seen K M kd m k || (M k == m && K k == kd)
/-- Where a message stands behind the first k events: 0 unsent, 1 sent, 2 taken. -/
def stand (K M : Nat → Int) : Nat → Int → Int
  | 0, _ => 0
  | k + 1, m => if M k = m ∧ K k = 2 then 1 else if M k = m ∧ K k = 3 then 2 else stand K M k m
/-- Event k may come there, by where its message stands. -/
def evOk (K P M : Nat → Int) (k : Nat) : Bool :=
  inR (P k) 0 5 && (if K k = 1 then M k == 0 else inR (M k) 1 1000 && ((K k == 2 && stand K M k (M k) == 0) || (K k == 3 && stand K M k (M k) == 1)))
def allEv (K P M : Nat → Int) : Nat → Bool
  | 0 => true
  | k + 1 => allEv K P M k && evOk K P M k
theorem allEv_iff (K P M : Nat → Int) : ∀ k, allEv K P M k = true ↔ ∀ i, i < k → evOk K P M i = true
  | 0 => by simp [allEv]
  | k + 1 => by
    simp only [allEv, Bool.and_eq_true, allEv_iff K P M k]
    constructor
    · rintro ⟨h1, h2⟩ i hi
      rcases Nat.lt_or_ge i k with g | g
      · exact h1 i g
      · have : i = k := by omega
        subst this; exact h2
    · exact fun h => ⟨fun i hi => h i (by omega), h k (by omega)⟩
def goodE (K P M : Nat → Int) (n : Nat) : Bool := decide (n ≤ 60) && allEv K P M n
theorem good_bad {K P M : Nat → Int} {n k : Nat} (hk : k < n) (h : evOk K P M k = false) : goodE K P M n = false := by
  cases hg : allEv K P M n
  · simp [goodE, hg]
  · rw [(allEv_iff K P M n).1 hg k hk] at h; cases h
theorem good_all {K P M : Nat → Int} {n : Nat} (h : ∀ i, i < n → evOk K P M i = true) : goodE K P M n = decide (n ≤ 60) := by
  simp [goodE, (allEv_iff K P M n).2 h]

/-- By what was sent and taken. -/
theorem stand_seen {K P M : Nat → Int} : ∀ {k : Nat}, (∀ i, i < k → evOk K P M i = true) → ∀ m, (seen K M 3 m k = true → seen K M 2 m k = true) ∧ stand K M k m = if seen K M 3 m k then 2 else if seen K M 2 m k then 1 else 0
  | 0, _, m => by simp [seen, stand]
  | k + 1, h, m => by
    obtain ⟨h1, h2⟩ := stand_seen (k := k) (fun i hi => h i (by omega)) m
    have ho := h k (by omega)
    simp only [evOk, Bool.and_eq_true] at ho
    by_cases hm : M k = m
    · subst hm
      by_cases h2k : K k = 2
      · have hs : stand K M k (M k) = 0 := by
          have := ho.2; simp [h2k] at this; exact this.2
        rw [hs] at h2
        have n3 : seen K M 3 (M k) k = false := by cases hq : seen K M 3 (M k) k <;> simp [hq] at h2 ⊢
        simp [seen, stand, h2k, n3]
      · by_cases h3k : K k = 3
        · have hs : stand K M k (M k) = 1 := by
            have := ho.2; simp [h3k] at this; exact this.2
          rw [hs] at h2
          have y2 : seen K M 2 (M k) k = true := by
            cases hq : seen K M 3 (M k) k <;> cases hr : seen K M 2 (M k) k <;> simp [hq, hr] at h2 ⊢
          simp [seen, stand, h3k, y2]
        · have e2 : (K k == 2) = false := by simpa using h2k
          have e3 : (K k == 3) = false := by simpa using h3k
          simp [seen, stand, h2k, h3k, e2, e3]
          exact ⟨h1, h2⟩
    · have e : (M k == m) = false := by simpa using hm
      simp [seen, stand, hm, e]
      exact ⟨h1, h2⟩
/-- What the specification asks of event k. -/
def evSpec (K P M : Nat → Int) (k : Nat) : Bool :=
  inR (K k) 1 3 && (inR (P k) 0 5 && (if K k = 1 then M k == 0 else !seen K M (K k) (M k) k && (inR (M k) 1 1000 && !(K k == 3 && !seen K M 2 (M k) k))))
theorem ev_same {K P M : Nat → Int} {k : Nat} (h : ∀ i, i < k → evOk K P M i = true) : evSpec K P M k = evOk K P M k := by
  obtain ⟨h1, h2⟩ := stand_seen h (M k)
  by_cases k1 : K k = 1
  · simp [evSpec, evOk, k1, inR]
  by_cases k2 : K k = 2
  · simp only [evSpec, evOk, k2, if_neg (show ¬ (2 : Int) = 1 by omega)]
    rw [h2]
    cases hq : seen K M 3 (M k) k <;> cases hr : seen K M 2 (M k) k <;> simp_all [inR]
  by_cases k3 : K k = 3
  · simp only [evSpec, evOk, k3, if_neg (show ¬ (3 : Int) = 1 by omega)]
    rw [h2]
    cases hq : seen K M 3 (M k) k <;> cases hr : seen K M 2 (M k) k <;> simp_all [inR]
  · have e2 : (K k == 2) = false := by simpa using k2
    have e3 : (K k == 3) = false := by simpa using k3
    have : inR (K k) 1 3 = false := by
      cases hq : inR (K k) 1 3
      · rfl
      · have := inR_iff.1 hq; omega
    simp [evSpec, evOk, this, k1, e2, e3]
end Go.Proofs.Ytjophhiccbkpjaa
