/- Who wrote a key last; where a txn commits; whether ops are recoverable, avoid cascades, are strict. No Go text is spoken of here. -/
import Derived.Test.YthbpjmnlgfahmaaOpI
namespace Go.Proofs.Ythbpjmnlgfahmaa
set_option linter.unusedVariables false

/-- Of the first i ops the last one of which p holds: its number; 0 where there is none. -/
def lastN (p : Nat → Bool) (T : Nat → Int) : Nat → Int
  | 0 => 0
  | i + 1 => if p i = true then T i else lastN p T i
theorem lastN_skip {p : Nat → Bool} {T : Nat → Int} {k : Nat} : ∀ {m : Nat}, k ≤ m → (∀ j, k ≤ j → j < m → p j = false) → lastN p T m = lastN p T k
  | 0, h, _ => by have : k = 0 := by omega
                  rw [this]
  | m + 1, h, hp => by
    by_cases e : k = m + 1
    · rw [e]
    · rw [lastN, if_neg (by rw [hp m (by omega) (by omega)]; simp)]
      exact lastN_skip (by omega) (fun j h1 h2 => hp j h1 (by omega))
theorem lastN_at {p : Nat → Bool} {T : Nat → Int} {k m : Nat} (hk : k < m) (hp : p k = true) (h : ∀ j, k < j → j < m → p j = false) : lastN p T m = T k := by
  rw [lastN_skip (k := k + 1) (by omega) (fun j h1 h2 => h j (by omega) h2), lastN, if_pos hp]
theorem lastN_cases (p : Nat → Bool) (T : Nat → Int) : ∀ m, lastN p T m = 0 ∨ ∃ j, j < m ∧ p j = true ∧ lastN p T m = T j
  | 0 => Or.inl rfl
  | m + 1 => by
    cases h : p m
    · rw [lastN, if_neg (by simp [h])]
      rcases lastN_cases p T m with h1 | ⟨j, h1, h2, h3⟩
      · exact Or.inl h1
      · exact Or.inr ⟨j, by omega, h2, h3⟩
    · exact Or.inr ⟨m, by omega, h, by rw [lastN, if_pos h]⟩
theorem lastN_none {p : Nat → Bool} {T : Nat → Int} {m : Nat} (h : ∀ j, j < m → p j = false) : lastN p T m = 0 := by
  rw [lastN_skip (k := 0) (Nat.zero_le _) (fun j _ h2 => h j h2)]; rfl
/-- Op j writes the key. -/
def wrB (K : Nat → Int) (S : Nat → ByteArray) (key : ByteArray) (j : Nat) : Bool := K j == 2 && (S j).toList == key.toList
/-- Who wrote op i's key last ahead of it. -/
def fromN (K T : Nat → Int) (S : Nat → ByteArray) (i : Nat) : Int := lastN (wrB K S (S i)) T i

/-- The first one of m places from i on of which p holds; -1 where there is none. -/
def firstN (p : Nat → Bool) : Nat → Nat → Int
  | 0, _ => -1
  | m + 1, i => if p i = true then (i : Int) else firstN p m (i + 1)
theorem firstN_at {p : Nat → Bool} {k : Nat} (hp : p k = true) : ∀ {m i : Nat}, i ≤ k → k < i + m → (∀ j, i ≤ j → j < k → p j = false) → firstN p m i = (k : Int)
  | 0, i, h1, h2, _ => by omega
  | m + 1, i, h1, h2, h => by
    by_cases e : i = k
    · subst e; rw [firstN, if_pos hp]
    · rw [firstN, if_neg (by rw [h i (Nat.le_refl _) (by omega)]; simp)]
      exact firstN_at hp (by omega) (by omega) (fun j g1 g2 => h j (by omega) g2)
theorem firstN_none {p : Nat → Bool} : ∀ {m i : Nat}, (∀ j, i ≤ j → j < i + m → p j = false) → firstN p m i = -1
  | 0, _, _ => rfl
  | m + 1, i, h => by
    rw [firstN, if_neg (by rw [h i (Nat.le_refl _) (by omega)]; simp)]
    exact firstN_none (fun j g1 g2 => h j (by omega) (by omega))
/-- Op i is t's commit. -/
def coB (K T : Nat → Int) (t : Int) (i : Nat) : Bool := T i == t && K i == 3
/-- Where t commits, the first place; -1 where it does not. -/
def comF (K T : Nat → Int) (n : Nat) (t : Int) : Int := firstN (coB K T t) n 0
/-- Where t commits, the last place of the first k; 0 where it does not. -/
def comP (K T : Nat → Int) : Nat → Int → Int
  | 0, _ => 0
  | k + 1, t => if K k = 3 ∧ T k = t then (k : Int) else comP K T k t
theorem comP_at {K T : Nat → Int} {t : Int} {i : Nat} (h3 : K i = 3) (ht : T i = t) : ∀ {m : Nat}, i < m → (∀ j, i < j → j < m → T j ≠ t) → comP K T m t = (i : Int)
  | m + 1, hm, h => by
    by_cases e : i = m
    · subst e; rw [comP, if_pos ⟨h3, ht⟩]
    · rw [comP, if_neg (fun g => h m (by omega) (by omega) g.2)]
      exact comP_at h3 ht (by omega) (fun j h1 h2 => h j h1 (by omega))
/-- Both tell the same place of a txn that is there. -/
theorem com_same {ok : Nat → Bool} {K T : Nat → Int} {n : Nat} (h : goodP ok K T n) {i : Nat} (hi : i < n) : comP K T n (T i) = comF K T n (T i) := by
  obtain ⟨j, hj, ht, h3, hl⟩ : ∃ j, j < n ∧ T j = T i ∧ K j = 3 ∧ ∀ j', j < j' → j' < n → T j' ≠ T j := by
    by_cases h3 : K i = 3
    · exact ⟨i, hi, rfl, h3, end_com (h.2 i hi).2 h3⟩
    · obtain ⟨j, _, g2, g3, g4⟩ := end_done (h.2 i hi).2 h3
      exact ⟨j, g2, g3, g4, end_com (h.2 j g2).2 g4⟩
  have hf : ∀ j', j' < j → coB K T (T i) j' = false := by
    intro j' hj'
    cases hc : coB K T (T i) j'
    · rfl
    · simp only [coB, Bool.and_eq_true, beq_iff_eq] at hc
      exact absurd (ht.trans hc.1.symm) (end_com (h.2 j' (by omega)).2 hc.2 j hj' hj)
  rw [comP_at h3 ht hj (fun j' h1 h2 e => hl j' h1 h2 (e.trans ht.symm)), comF, firstN_at (k := j) (by simp [coB, ht, h3]) (Nat.zero_le _) (by omega) (fun j' _ h2 => hf j' h2)]

/-- What op k leaves of the three answers. -/
def recStep (f : Int) (c : Int → Int) (k : Nat) (kd t : Int) (s : Bool × Bool × Bool) : Bool × Bool × Bool :=
  if f = 0 ∨ f = t then s
  else if kd = 1 then (s.1 && decide (c f < c t), s.2.1 && decide (c f < (k : Int)), s.2.2 && decide (c f < (k : Int)))
  else (s.1, s.2.1, s.2.2 && decide (c f < (k : Int)))
/-- Recoverable, avoids cascades, strict, by the first k ops. -/
def recN (f : Nat → Int) (c : Int → Int) (K T : Nat → Int) : Nat → Bool × Bool × Bool
  | 0 => (true, true, true)
  | k + 1 => recStep (f k) c k (K k) (T k) (recN f c K T k)
theorem recN_congr {f : Nat → Int} {c d : Int → Int} {K T : Nat → Int} : ∀ {k : Nat}, (∀ i, i < k → f i ≠ 0 → c (f i) = d (f i) ∧ c (T i) = d (T i)) → recN f c K T k = recN f d K T k
  | 0, _ => rfl
  | k + 1, h => by
    rw [recN, recN, recN_congr (fun i hi => h i (by omega))]
    by_cases e : f k = 0
    · simp [recStep, e]
    · obtain ⟨h1, h2⟩ := h k (by omega) e
      simp [recStep, h1, h2]
theorem rec_same {ok : Nat → Bool} {K T : Nat → Int} {S : Nat → ByteArray} {n : Nat} (h : goodP ok K T n) : recN (fromN K T S) (comP K T n) K T n = recN (fromN K T S) (comF K T n) K T n := by
  apply recN_congr
  intro i hi hf
  rcases lastN_cases (wrB K S (S i)) T i with h0 | ⟨j, hj, _, h2⟩
  · exact absurd h0 hf
  · have e : fromN K T S i = T j := h2
    exact ⟨by rw [e]; exact com_same h (by omega), com_same h hi⟩
/-- A commit has no key, and nobody writes none. -/
theorem from_commit {K T : Nat → Int} {S : Nat → ByteArray} {n : Nat} (h : goodP (okO K T S) K T n) {i : Nat} (hi : i < n) (h3 : K i = 3) : fromN K T S i = 0 := by
  apply lastN_none
  intro j hj
  have hoi := (h.2 i hi).1
  have hoj := (h.2 j (by omega)).1
  cases hw : wrB K S (S i) j
  · rfl
  · simp only [wrB, Bool.and_eq_true, beq_iff_eq] at hw
    have he : (S i).toList.isEmpty = true := by
      have : opB (K i) (T i) (S i) = true := hoi
      rw [h3] at this
      simp only [opB, Bool.and_eq_true] at this
      simpa using this.2
    have hk : keyOk (S j) = true := by
      have : opB (K j) (T j) (S j) = true := hoj
      rw [hw.1] at this
      simp only [opB, Bool.and_eq_true] at this
      simpa using this.2
    rw [← hw.2, key_some hk] at he
    cases he
theorem from_range {K T : Nat → Int} {S : Nat → ByteArray} {n : Nat} (h : goodP (okO K T S) K T n) {i : Nat} (hi : i < n) : fromN K T S i = 0 ∨ (1 ≤ fromN K T S i ∧ fromN K T S i ≤ 8) := by
  rcases lastN_cases (wrB K S (S i)) T i with h0 | ⟨j, hj, _, h2⟩
  · exact Or.inl h0
  · obtain ⟨q, hq, h1, h9⟩ := op_t (show opB (K j) (T j) (S j) = true from (h.2 j (by omega)).1)
    have e : fromN K T S i = T j := h2
    exact Or.inr (by rw [e, hq]; omega)
end Go.Proofs.Ythbpjmnlgfahmaa
