/- When ops are good: told by who began and who has committed, and by what comes behind each op; both are the same. No Go text is spoken of here. -/
namespace Go.Proofs.Ythbpjmnlgfahmaa
set_option linter.unusedVariables false

/-- Whether one of the first k ops is of t. -/
def begN (T : Nat → Int) : Nat → Int → Bool
  | 0, _ => false
  | k + 1, t => if T k = t then true else begN T k t
/-- Whether the last one of the first k ops that is of t is a commit. -/
def comN (K T : Nat → Int) : Nat → Int → Bool
  | 0, _ => false
  | k + 1, t => if T k = t then K k == 3 else comN K T k t
/-- One of the m ops behind op i is of its txn. -/
def laterN (T : Nat → Int) (i : Nat) : Nat → Bool
  | 0 => false
  | m + 1 => laterN T i m || T (i + 1 + m) == T i
/-- One of the m ops behind op i is its txn's commit. -/
def doneN (K T : Nat → Int) (i : Nat) : Nat → Bool
  | 0 => false
  | m + 1 => doneN K T i m || (T (i + 1 + m) == T i && K (i + 1 + m) == 3)
/-- What is asked of op i of n by what comes behind it. -/
def endOk (K T : Nat → Int) (n i : Nat) : Bool := if K i = 3 then !laterN T i (n - (i + 1)) else doneN K T i (n - (i + 1))
def goodP (ok : Nat → Bool) (K T : Nat → Int) (n : Nat) : Prop := n ≤ 60 ∧ ∀ i, i < n → ok i = true ∧ endOk K T n i = true

theorem begN_of {T : Nat → Int} : ∀ {m i : Nat}, i < m → begN T m (T i) = true
  | m + 1, i, h => by
    by_cases e : T m = T i
    · simp [begN, e]
    · have : i < m := by
        rcases Nat.lt_or_ge i m with g | g
        · exact g
        · have : i = m := by omega
          subst this; exact absurd rfl e
      simp [begN, e, begN_of this]
theorem begN_some {T : Nat → Int} {t : Int} : ∀ {m : Nat}, begN T m t = true → ∃ i, i < m ∧ T i = t
  | 0, h => by simp [begN] at h
  | m + 1, h => by
    by_cases e : T m = t
    · exact ⟨m, by omega, e⟩
    · simp [begN, e] at h
      obtain ⟨i, hi, g⟩ := begN_some h
      exact ⟨i, by omega, g⟩
theorem comN_of {K T : Nat → Int} {i : Nat} (h3 : K i = 3) : ∀ {m : Nat}, i < m → (∀ j, i < j → j < m → T j ≠ T i) → comN K T m (T i) = true
  | m + 1, hm, h => by
    by_cases e : i = m
    · subst e; simp [comN, h3]
    · have g := h m (by omega) (by omega)
      simp only [comN, if_neg g]
      exact comN_of h3 (by omega) (fun j h1 h2 => h j h1 (by omega))
theorem comN_some {K T : Nat → Int} {t : Int} : ∀ {m : Nat}, comN K T m t = true → ∃ j, j < m ∧ T j = t ∧ K j = 3 ∧ ∀ j', j < j' → j' < m → T j' ≠ t
  | 0, h => by simp [comN] at h
  | m + 1, h => by
    by_cases e : T m = t
    · simp [comN, e] at h
      exact ⟨m, by omega, e, h, fun j' h1 h2 => by omega⟩
    · simp [comN, e] at h
      obtain ⟨j, hj, h1, h2, h3⟩ := comN_some h
      refine ⟨j, by omega, h1, h2, fun j' g1 g2 => ?_⟩
      by_cases q : j' = m
      · subst q; exact e
      · exact h3 j' g1 (by omega)
theorem laterN_no {T : Nat → Int} {i : Nat} : ∀ m, laterN T i m = false ↔ ∀ j, j < m → T (i + 1 + j) ≠ T i
  | 0 => by simp [laterN]
  | m + 1 => by
    simp only [laterN, Bool.or_eq_false_iff, laterN_no m, beq_eq_false_iff_ne]
    constructor
    · rintro ⟨h1, h2⟩ j hj
      by_cases e : j = m
      · subst e; exact h2
      · exact h1 j (by omega)
    · exact fun h => ⟨fun j hj => h j (by omega), h m (by omega)⟩
theorem doneN_yes {K T : Nat → Int} {i : Nat} : ∀ m, doneN K T i m = true ↔ ∃ j, j < m ∧ T (i + 1 + j) = T i ∧ K (i + 1 + j) = 3
  | 0 => by simp [doneN]
  | m + 1 => by
    simp only [doneN, Bool.or_eq_true, doneN_yes m, Bool.and_eq_true, beq_iff_eq]
    constructor
    · rintro (⟨j, h1, h2⟩ | h)
      · exact ⟨j, by omega, h2⟩
      · exact ⟨m, by omega, h⟩
    · rintro ⟨j, h1, h2⟩
      by_cases e : j = m
      · subst e; exact Or.inr h2
      · exact Or.inl ⟨j, by omega, h2⟩
theorem end_com {K T : Nat → Int} {n i : Nat} (h : endOk K T n i = true) (h3 : K i = 3) : ∀ j, i < j → j < n → T j ≠ T i := by
  simp only [endOk, if_pos h3, Bool.not_eq_true', laterN_no] at h
  intro j h1 h2
  have := h (j - (i + 1)) (by omega)
  rwa [show i + 1 + (j - (i + 1)) = j by omega] at this
theorem end_done {K T : Nat → Int} {n i : Nat} (h : endOk K T n i = true) (h3 : K i ≠ 3) : ∃ j, i < j ∧ j < n ∧ T j = T i ∧ K j = 3 := by
  simp only [endOk, if_neg h3, doneN_yes] at h
  obtain ⟨j, h1, h2, h3⟩ := h
  exact ⟨i + 1 + j, by omega, by omega, h2, h3⟩
theorem end_of {K T : Nat → Int} {n i : Nat} (h1 : K i = 3 → ∀ j, i < j → j < n → T j ≠ T i) (h2 : K i ≠ 3 → ∃ j, i < j ∧ j < n ∧ T j = T i ∧ K j = 3) : endOk K T n i = true := by
  by_cases h3 : K i = 3
  · simp only [endOk, if_pos h3, Bool.not_eq_true', laterN_no]
    exact fun j hj => h1 h3 _ (by omega) (by omega)
  · simp only [endOk, if_neg h3, doneN_yes]
    obtain ⟨j, g1, g2, g3, g4⟩ := h2 h3
    exact ⟨j - (i + 1), by omega, by rw [show i + 1 + (j - (i + 1)) = j by omega]; exact ⟨g3, g4⟩⟩
/-- Ops that went through one by one, each not behind its txn's commit, and of which whoever began has committed, are good. -/
theorem good_of {ok : Nat → Bool} {K T : Nat → Int} {n : Nat} (h60 : n ≤ 60) (h : ∀ i, i < n → ok i = true ∧ comN K T i (T i) = false) (he : ∀ t, begN T n t = true → comN K T n t = true) : goodP ok K T n := by
  refine ⟨h60, fun i hi => ⟨(h i hi).1, end_of (fun h3 j hij => ?_) (fun h3 => ?_)⟩⟩
  · induction j using Nat.strongRecOn with
    | _ j ih =>
      intro hj e
      have := comN_of (T := T) h3 hij (fun j' g1 g2 => ih j' g2 g1 (by omega))
      rw [← e] at this
      rw [(h j hj).2] at this; cases this
  · obtain ⟨j, h1, h2, h4, h5⟩ := comN_some (he _ (begN_of hi))
    have : i < j := by
      rcases Nat.lt_or_ge i j with g | g
      · exact g
      · by_cases e : i = j
        · subst e; exact absurd h4 h3
        · exact absurd rfl (h5 i (by omega) hi)
    exact ⟨j, this, h1, h2, h4⟩
theorem good_com {ok : Nat → Bool} {K T : Nat → Int} {n : Nat} (h : goodP ok K T n) {i : Nat} (hi : i < n) : comN K T i (T i) = false := by
  cases hc : comN K T i (T i)
  · rfl
  · obtain ⟨j, h1, h2, h3, h4⟩ := comN_some hc
    exact absurd h2.symm (end_com (h.2 j (by omega)).2 h3 i h1 hi)
theorem good_end {ok : Nat → Bool} {K T : Nat → Int} {n : Nat} (h : goodP ok K T n) (t : Int) : begN T n t = comN K T n t := by
  cases hb : begN T n t
  · cases hc : comN K T n t
    · rfl
    · obtain ⟨j, h1, rfl, _⟩ := comN_some hc
      rw [begN_of h1] at hb; cases hb
  · obtain ⟨i, hi, rfl⟩ := begN_some hb
    by_cases h3 : K i = 3
    · exact (comN_of h3 hi (end_com (h.2 i hi).2 h3)).symm
    · obtain ⟨j, g1, g2, g3, g4⟩ := end_done (h.2 i hi).2 h3
      rw [← g3]
      exact (comN_of g4 g2 (end_com (h.2 j g2).2 g4)).symm
instance (ok : Nat → Bool) (K T : Nat → Int) (n : Nat) : Decidable (goodP ok K T n) := by unfold goodP; infer_instance
def goodO (ok : Nat → Bool) (K T : Nat → Int) (n : Nat) : Bool := decide (goodP ok K T n)
end Go.Proofs.Ythbpjmnlgfahmaa
