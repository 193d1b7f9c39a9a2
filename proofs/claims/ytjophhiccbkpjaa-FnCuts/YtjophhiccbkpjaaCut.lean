/- Cuts of events: the greatest clocks of all that is in a cut are the cut itself just where the sending of each taking in it is in it. No Go text is spoken of here. -/
import Derived.Test.YtjophhiccbkpjaaVc
import Derived.Test.YtjophhiccbkpjaaLamW
namespace Go.Proofs.Ytjophhiccbkpjaa
set_option linter.unusedVariables false

/-- The number of event i among those of its process. -/
def place (P : Nat → Int) (i : Nat) : Int := cnt P (P i).toNat (i + 1)
/-- Event i is in the cut. -/
def inCut (P : Nat → Int) (c : Nat → Int) (i : Nat) : Bool := decide (place P i ≤ c (P i).toNat)
/-- What the first k events that are in the cut need. -/
def nd (K P M : Nat → Int) (c : Nat → Int) : Nat → Nat → Int
  | 0, _ => 0
  | k + 1, p => if inCut P c k then max (nd K P M c k p) (vc K P M (k + 1) p) else nd K P M c k p
/-- What the specification asks of event i. -/
def cutOk (K P M : Nat → Int) (c : Nat → Int) (i : Nat) : Bool := !(K i == 3) || (!inCut P c i || inCut P c (snt K M i - 1))
def cutAll (K P M : Nat → Int) (c : Nat → Int) : Nat → Bool
  | 0 => true
  | k + 1 => cutAll K P M c k && cutOk K P M c k
theorem cutAll_iff (K P M : Nat → Int) (c : Nat → Int) : ∀ k, cutAll K P M c k = true ↔ ∀ i, i < k → cutOk K P M c i = true
  | 0 => by simp [cutAll]
  | k + 1 => by
    simp only [cutAll, Bool.and_eq_true, cutAll_iff K P M c k]
    exact ⟨fun h => upto_succ h.1 h.2, fun h => ⟨fun i hi => h i (by omega), h k (by omega)⟩⟩
theorem cutAll_bad {K P M : Nat → Int} {c : Nat → Int} {n k : Nat} (hk : k < n) (h : cutOk K P M c k = false) : cutAll K P M c n = false := by
  cases hg : cutAll K P M c n
  · rfl
  · rw [(cutAll_iff K P M c n).1 hg k hk] at h; cases h
/-- As many as there are, none less than 0. -/
def fits (P : Nat → Int) (c : Nat → Int) (n : Nat) : Nat → Bool
  | 0 => true
  | p + 1 => fits P c n p && inR (c p) 0 (cnt P p n)
theorem fits_iff (P : Nat → Int) (c : Nat → Int) (n : Nat) : ∀ k, fits P c n k = true ↔ ∀ p, p < k → 0 ≤ c p ∧ c p ≤ cnt P p n
  | 0 => by simp [fits]
  | k + 1 => by
    simp only [fits, Bool.and_eq_true, fits_iff P c n k, inR_iff]
    exact ⟨fun h => upto_succ h.1 h.2, fun h => ⟨fun i hi => h i (by omega), h k (by omega)⟩⟩
theorem fits_bad {P : Nat → Int} {c : Nat → Int} {n p : Nat} (hp : p < 6) (h : inR (c p) 0 (cnt P p n) = false) : fits P c n 6 = false := by
  cases hg : fits P c n 6
  · rfl
  · have := (fits_iff P c n 6).1 hg p hp
    rw [inR_iff.2 this] at h; cases h

theorem nd_ge {K P M : Nat → Int} {c : Nat → Int} {p : Nat} : ∀ {n i : Nat}, i < n → inCut P c i = true → vc K P M (i + 1) p ≤ nd K P M c n p
  | n + 1, i, hi, h => by
    rcases Nat.lt_or_ge i n with g | g
    · have := nd_ge (K := K) (M := M) (p := p) g h
      simp only [nd]; split <;> omega
    · have : i = n := by omega
      subst this
      simp only [nd, h, if_true]; omega
theorem nd_le {K P M : Nat → Int} {c : Nat → Int} {p : Nat} {b : Int} (h0 : 0 ≤ b) : ∀ {n : Nat}, (∀ i, i < n → inCut P c i = true → vc K P M (i + 1) p ≤ b) → nd K P M c n p ≤ b
  | 0, _ => h0
  | n + 1, h => by
    have h1 := nd_le (K := K) (P := P) (M := M) (c := c) (p := p) h0 (n := n) (fun i hi => h i (by omega))
    simp only [nd]
    split
    · have := h n (by omega) (by assumption); omega
    · exact h1
theorem nd_bd (K P M : Nat → Int) (c : Nat → Int) (p : Nat) : ∀ n, 0 ≤ nd K P M c n p
  | 0 => Int.le_refl _
  | n + 1 => by have := nd_bd K P M c p n; simp only [nd]; split <;> omega
/-- The event of process p with a number that there is. -/
theorem cnt_hit {P : Nat → Int} {p : Nat} {b : Int} (hb : 0 < b) : ∀ {n : Nat}, b ≤ cnt P p n → ∃ i, i < n ∧ P i = (p : Int) ∧ cnt P p (i + 1) = b
  | 0, h => by simp [cnt] at h; omega
  | n + 1, h => by
    by_cases e : b ≤ cnt P p n
    · obtain ⟨i, h1, h2⟩ := cnt_hit hb e
      exact ⟨i, by omega, h2⟩
    · by_cases hp : P n = (p : Int)
      · refine ⟨n, by omega, hp, ?_⟩
        simp only [cnt, if_pos hp] at h ⊢; omega
      · simp only [cnt, if_neg hp] at h; omega
theorem good_snt {K P M : Nat → Int} {n i : Nat} (hg : ∀ i, i < n → evOk K P M i = true) (hi : i < n) (h3 : K i = 3) : 0 < snt K M i := by
  have hst := (stand_seen (k := i) (fun t ht => hg t (by omega)) (M i)).2
  have ho := hg i hi
  simp only [evOk, Bool.and_eq_true] at ho
  have hs : stand K M i (M i) = 1 := by have := ho.2; simp [h3] at this; exact this.2
  rw [hs] at hst
  have y2 : seen K M 2 (M i) i = true := by
    cases hq : seen K M 3 (M i) i <;> cases hr : seen K M 2 (M i) i <;> simp [hq, hr] at hst ⊢
  have : ∀ k, seen K M 2 (M i) k = true → 0 < lastB (fun j => K j == 2 && M j == M i) k := by
    intro k
    induction k with
    | zero => intro h; simp [seen] at h
    | succ k ih =>
      intro h
      simp only [lastB]
      split
      · omega
      · rename_i hn
        simp only [seen, Bool.or_eq_true, Bool.and_eq_true, beq_iff_eq] at h
        rcases h with h | h
        · exact ih h
        · exact absurd (by simp [h.1, h.2]) hn
  simp only [snt, if_pos h3]
  exact this i y2
theorem cut_eq {K P M : Nat → Int} {c : Nat → Int} {n : Nat} (hg : ∀ i, i < n → evOk K P M i = true) (hf : ∀ p, p < 6 → 0 ≤ c p ∧ c p ≤ cnt P p n) : eq6 (nd K P M c n) c = cutAll K P M c n := by
  have hP : ∀ i, i < n → ∃ q : Nat, P i = (q : Int) ∧ q < 6 := fun i hi => (ev_kind (hg i hi)).1
  rw [Bool.eq_iff_iff, eq6_iff, cutAll_iff]
  constructor
  · intro h i hi
    simp only [cutOk, Bool.or_eq_true, Bool.not_eq_true', beq_eq_false_iff_ne, ne_eq]
    by_cases h3 : K i = 3
    · right
      cases hc : inCut P c i
      · exact Or.inl rfl
      · right
        have hs := good_snt hg hi h3
        obtain ⟨s, hse⟩ : ∃ s, snt K M i = s + 1 := ⟨snt K M i - 1, by omega⟩
        have hsl := snt_le K M i
        obtain ⟨q, hq, hq6⟩ := hP s (by omega)
        have h1 := nd_ge (K := K) (M := M) (p := q) hi hc
        have h2 := h q hq6
        have h4 := par_vc (K := K) (P := P) (M := M) (k := i) (t := s) (Or.inr hse) q
        rw [vc_own K P M q s s (Nat.le_refl _) hq] at h4
        rw [hse, show s + 1 - 1 = s by omega]
        simp only [inCut, place, hq, Int.toNat_natCast, decide_eq_true_eq]
        omega
    · exact Or.inl h3
  · intro h p hp
    have hle : ∀ m i, i ≤ m → i < n → inCut P c i = true → ∀ p, p < 6 → vc K P M (i + 1) p ≤ c p := by
      intro m
      induction m with
      | zero =>
        intro i him hi hc p hp
        have : i = 0 := by omega
        subst this
        obtain ⟨q, hq, hq6⟩ := hP 0 hi
        by_cases e : q = p
        · subst e
          rw [vc_own K P M q 0 0 (Nat.le_refl _) hq]
          simpa [inCut, place, hq] using hc
        · have h1 : own P 0 = 0 := by have := own_le P 0; omega
          have h2 : snt K M 0 = 0 := by have := snt_le K M 0; omega
          have e2 : ¬ P 0 = (p : Int) := by omega
          rw [vc_succ, h1, h2, vc_zero, if_neg e2]
          have := (hf p hp).1; omega
      | succ m ih =>
        intro i him hi hc p hp
        obtain ⟨q, hq, hq6⟩ := hP i hi
        by_cases e : q = p
        · subst e
          rw [vc_own K P M q i i (Nat.le_refl _) hq]
          simpa [inCut, place, hq] using hc
        · have e2 : ¬ P i = (p : Int) := by omega
          rw [vc_succ, if_neg e2]
          have hol := own_le P i
          have hsl := snt_le K M i
          have ho : vc K P M (own P i) p ≤ c p := by
            cases ho : own P i with
            | zero => rw [vc_zero]; exact (hf p hp).1
            | succ o =>
              obtain ⟨h1, h2, h3⟩ := lastB_some ho
              have hpo : P o = (q : Int) := by simpa [hq] using h2
              refine ih o (by omega) (by omega) ?_ p hp
              simp only [inCut, place, hq, hpo, Int.toNat_natCast, decide_eq_true_eq] at hc ⊢
              have := cnt_mono P q (show o + 1 ≤ i + 1 by omega)
              omega
          have hs : vc K P M (snt K M i) p ≤ c p := by
            by_cases h3 : K i = 3
            · have hsp := good_snt hg hi h3
              obtain ⟨s, hse⟩ : ∃ s, snt K M i = s + 1 := ⟨snt K M i - 1, by omega⟩
              have hk := h i hi
              simp only [cutOk, hc, h3, hse, show s + 1 - 1 = s by omega] at hk
              rw [hse]
              exact ih s (by omega) (by omega) (by simpa using hk) p hp
            · have : snt K M i = 0 := by simp [snt, h3]
              rw [this, vc_zero]; exact (hf p hp).1
          omega
    have h1 : nd K P M c n p ≤ c p := nd_le (hf p hp).1 (fun i hi hc => hle i i (Nat.le_refl _) hi hc p hp)
    rcases Int.lt_or_le 0 (c p) with hpos | hz
    · obtain ⟨i, hi, hpi, hci⟩ := cnt_hit hpos (hf p hp).2
      have hin : inCut P c i = true := by simp [inCut, place, hpi, hci]
      have h2 := nd_ge (K := K) (M := M) (p := p) hi hin
      rw [vc_own K P M p i i (Nat.le_refl _) hpi, hci] at h2
      omega
    · have := nd_bd K P M c p n; have := (hf p hp).1; omega
/-- The greater ones of what there is and of the cut are what there is just where it fits. -/
theorem fits_eq {P : Nat → Int} {c : Nat → Int} {n : Nat} (h0 : ∀ p, p < 6 → 0 ≤ c p) : eq6 (fun p => max (cnt P p n) (c p)) (fun p => cnt P p n) = fits P c n 6 := by
  rw [Bool.eq_iff_iff, eq6_iff, fits_iff]
  exact ⟨fun h p hp => ⟨h0 p hp, by have := h p hp; omega⟩, fun h p hp => by have := (h p hp).2; omega⟩
end Go.Proofs.Ytjophhiccbkpjaa
