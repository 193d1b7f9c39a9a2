/- Clocks of events, and what is ahead of what: an event is ahead of another one just where its clock is less (Fidge; Mattern). No Go text is spoken of here. -/
import Derived.Test.YtjophhiccbkpjaaLam
import Derived.Test.YtjophhiccbkpjaaCmp
namespace Go.Proofs.Ytjophhiccbkpjaa
set_option linter.unusedVariables false

def vTab (o s : Nat → Nat) (e : Nat → Int) : Nat → Nat → Int
  | 0, _ => 0
  | n + 1, i => if i = n + 1 then max (vTab o s e n (o n)) (vTab o s e n (s n)) + e n else vTab o s e n i
def v0 (o s : Nat → Nat) (e : Nat → Int) (i : Nat) : Int := vTab o s e i i
theorem vTab_eq (o s : Nat → Nat) (e : Nat → Int) : ∀ n i, i ≤ n → vTab o s e n i = v0 o s e i
  | 0, i, h => by have : i = 0 := by omega
                  subst this; rfl
  | n + 1, i, h => by
    rcases Nat.lt_or_ge i (n + 1) with g | g
    · rw [vTab, if_neg (by omega), vTab_eq o s e n i (by omega)]
    · have : i = n + 1 := by omega
      subst this; rfl
theorem v0_succ {o s : Nat → Nat} {e : Nat → Int} {n : Nat} (ho : o n ≤ n) (hs : s n ≤ n) : v0 o s e (n + 1) = max (v0 o s e (o n)) (v0 o s e (s n)) + e n := by
  show vTab o s e (n + 1) (n + 1) = _
  rw [vTab, if_pos rfl, vTab_eq o s e n _ ho, vTab_eq o s e n _ hs]
/-- The clock of event i - 1 at process p; of no event 0. -/
def vc (K P M : Nat → Int) (i p : Nat) : Int := v0 (own P) (snt K M) (fun n => if P n = (p : Int) then 1 else 0) i
theorem vc_zero (K P M : Nat → Int) (p : Nat) : vc K P M 0 p = 0 := rfl
theorem vc_succ (K P M : Nat → Int) (n p : Nat) : vc K P M (n + 1) p = max (vc K P M (own P n) p) (vc K P M (snt K M n) p) + (if P n = (p : Int) then 1 else 0) := v0_succ (own_le P n) (snt_le K M n)
/-- How many of the first k events are of process p. -/
def cnt (P : Nat → Int) (p : Nat) : Nat → Int
  | 0 => 0
  | k + 1 => cnt P p k + (if P k = (p : Int) then 1 else 0)
theorem cnt_step (P : Nat → Int) (p k : Nat) : cnt P p k ≤ cnt P p (k + 1) ∧ cnt P p (k + 1) ≤ cnt P p k + 1 := by
  simp only [cnt]; split <;> omega
theorem cnt_mono (P : Nat → Int) (p : Nat) {a b : Nat} (h : a ≤ b) : cnt P p a ≤ cnt P p b := by
  induction b with
  | zero => have : a = 0 := by omega
            subst this; exact Int.le_refl _
  | succ b ih =>
    rcases Nat.lt_or_ge a (b + 1) with g | g
    · have := ih (by omega); have := cnt_step P p b; omega
    · have : a = b + 1 := by omega
      subst this; exact Int.le_refl _
theorem cnt_bd (P : Nat → Int) (p : Nat) : ∀ k, 0 ≤ cnt P p k ∧ cnt P p k ≤ k
  | 0 => by simp [cnt]
  | k + 1 => by have := cnt_bd P p k; simp only [cnt]; split <;> omega
theorem vc_le (K P M : Nat → Int) (p : Nat) : ∀ n i, i ≤ n → 0 ≤ vc K P M i p ∧ vc K P M i p ≤ cnt P p i
  | 0, i, h => by have : i = 0 := by omega
                  subst this; simp [vc_zero, cnt]
  | n + 1, i, h => by
    rcases Nat.lt_or_ge i (n + 1) with g | g
    · exact vc_le K P M p n i (by omega)
    · have : i = n + 1 := by omega
      subst this
      have h1 := vc_le K P M p n (own P n) (own_le P n)
      have h2 := vc_le K P M p n (snt K M n) (snt_le K M n)
      have h3 := cnt_mono P p (own_le P n)
      have h4 := cnt_mono P p (snt_le K M n)
      rw [vc_succ]
      simp only [cnt]
      split <;> omega
theorem vc_bd (K P M : Nat → Int) (i p : Nat) : 0 ≤ vc K P M i p ∧ vc K P M i p ≤ i := by
  have h1 := vc_le K P M p i i (Nat.le_refl _); have h2 := cnt_bd P p i; omega
/-- The last of the first k that is as said. -/
theorem lastB_some {p : Nat → Bool} : ∀ {k m : Nat}, lastB p k = m + 1 → m < k ∧ p m = true ∧ ∀ t, m < t → t < k → p t = false
  | k + 1, m, h => by
    simp only [lastB] at h
    split at h
    · have : m = k := by omega
      subst this; exact ⟨by omega, by assumption, fun t h1 h2 => by omega⟩
    · obtain ⟨h1, h2, h3⟩ := lastB_some h
      refine ⟨by omega, h2, fun t g1 g2 => ?_⟩
      by_cases e : t = k
      · subst e; simpa using ‹¬ p t = true›
      · exact h3 t g1 (by omega)
theorem lastB_none {p : Nat → Bool} : ∀ {k : Nat}, lastB p k = 0 → ∀ t, t < k → p t = false
  | k + 1, h, t, ht => by
    simp only [lastB] at h
    split at h
    · omega
    · by_cases e : t = k
      · subst e; simpa using ‹¬ p t = true›
      · exact lastB_none h t (by omega)
theorem lastB_ge {p : Nat → Bool} {k t : Nat} (ht : t < k) (hp : p t = true) : t + 1 ≤ lastB p k := by
  cases h : lastB p k with
  | zero => rw [lastB_none h t ht] at hp; cases hp
  | succ m =>
    obtain ⟨h1, h2, h3⟩ := lastB_some h
    rcases Nat.lt_or_ge m t with g | g
    · rw [h3 t g ht] at hp; cases hp
    · omega
theorem cnt_none {P : Nat → Int} {p a : Nat} : ∀ {b : Nat}, a ≤ b → (∀ t, a ≤ t → t < b → ¬ P t = (p : Int)) → cnt P p b = cnt P p a
  | 0, h, _ => by have : a = 0 := by omega
                  subst this; rfl
  | b + 1, h, hn => by
    rcases Nat.lt_or_ge a (b + 1) with g | g
    · simp only [cnt, if_neg (hn b (by omega) (by omega))]
      rw [cnt_none (by omega) (fun t h1 h2 => hn t h1 (by omega))]; omega
    · have : a = b + 1 := by omega
      subst this; rfl
theorem vc_own (K P M : Nat → Int) (p : Nat) : ∀ n k, k ≤ n → P k = (p : Int) → vc K P M (k + 1) p = cnt P p (k + 1) := by
  intro n
  induction n with
  | zero =>
    intro k hk hp
    have : k = 0 := by omega
    subst this
    rw [vc_succ, if_pos hp]
    have h1 : own P 0 = 0 := by have := own_le P 0; omega
    have h2 : snt K M 0 = 0 := by have := snt_le K M 0; omega
    rw [h1, h2, vc_zero]; simp [cnt, hp]
  | succ n ih =>
    intro k hk hp
    rcases Nat.lt_or_ge k (n + 1) with g | g
    · exact ih k (by omega) hp
    · have : k = n + 1 := by omega
      subst this
      rw [vc_succ, if_pos hp]
      have hs := vc_le K P M p (snt K M (n + 1)) _ (Nat.le_refl _)
      have hs2 := cnt_mono P p (snt_le K M (n + 1))
      have ho : vc K P M (own P (n + 1)) p = cnt P p (n + 1) := by
        cases hq : own P (n + 1) with
        | zero =>
          rw [vc_zero]
          have := cnt_none (P := P) (p := p) (a := 0) (b := n + 1) (by omega) (fun t _ ht hc => by
            have := lastB_none hq t ht
            simp [hc, hp] at this)
          rw [this]; rfl
        | succ m =>
          obtain ⟨h1, h2, h3⟩ := lastB_some hq
          have hpm : P m = (p : Int) := by simpa [hp] using h2
          rw [ih m (by omega) hpm]
          exact (cnt_none (by omega) (fun t g1 g2 hc => by
            have := h3 t (by omega) g2
            simp [hc, hp] at this)).symm
      have hc : cnt P p (n + 1 + 1) = cnt P p (n + 1) + 1 := by simp [cnt, hp]
      rw [ho, hc]
      omega

/-- Event t is j, or one of those from which j comes. -/
inductive Rch (K P M : Nat → Int) (j : Nat) : Nat → Prop
  | refl : Rch K P M j j
  | step {k t : Nat} (h : Rch K P M j k) (hp : own P k = t + 1 ∨ snt K M k = t + 1) : Rch K P M j t
theorem Rch.le {K P M : Nat → Int} {j t : Nat} (h : Rch K P M j t) : t ≤ j := by
  induction h with
  | refl => exact Nat.le_refl _
  | step h hp ih =>
    rename_i k t
    have h1 := own_le P k
    have h2 := snt_le K M k
    rcases hp with hp | hp <;> omega
theorem par_vc {K P M : Nat → Int} {k t : Nat} (hp : own P k = t + 1 ∨ snt K M k = t + 1) (p : Nat) : vc K P M (t + 1) p ≤ vc K P M (k + 1) p := by
  rw [vc_succ K P M k]
  rcases hp with hp | hp
  · rw [hp]; split <;> omega
  · rw [hp]; split <;> omega
theorem Rch.mono {K P M : Nat → Int} {j t : Nat} (h : Rch K P M j t) (p : Nat) : vc K P M (t + 1) p ≤ vc K P M (j + 1) p := by
  induction h with
  | refl => exact Int.le_refl _
  | step h hp ih => exact Int.le_trans (par_vc hp p) ih
/-- Reached from a parent. -/
theorem Rch.up {K P M : Nat → Int} {j m t : Nat} (hp : own P j = m + 1 ∨ snt K M j = m + 1) (h : Rch K P M m t) : Rch K P M j t := by
  induction h with
  | refl => exact Rch.step Rch.refl hp
  | step h hq ih => exact Rch.step ih hq
theorem Rch.of_vc {K P M : Nat → Int} {i p : Nat} (hi : P i = (p : Int)) : ∀ {n j : Nat}, j ≤ n → cnt P p (i + 1) ≤ vc K P M (j + 1) p → Rch K P M j i := by
  intro n
  induction n with
  | zero =>
    intro j hj h
    have : j = 0 := by omega
    subst this
    have h : cnt P p (i + 1) ≤ vc K P M 1 p := h
    have h1 := (vc_le K P M p 1 1 (Nat.le_refl _)).2
    have h2 := cnt_mono P p (show 1 ≤ i + 1 by omega)
    rcases Nat.eq_zero_or_pos i with e | e
    · subst e; exact Rch.refl
    · have h3 := cnt_mono P p (show 1 ≤ i by omega)
      have h4 : cnt P p (i + 1) = cnt P p i + 1 := by simp [cnt, hi]
      omega
  | succ n ih =>
    intro j hj h
    rcases Nat.lt_or_ge j (n + 1) with g | g
    · exact ih (by omega) h
    have hjn : j = n + 1 := by omega
    have hci : cnt P p (i + 1) = cnt P p i + 1 := by simp [cnt, hi]
    have hle := (vc_le K P M p (j + 1) (j + 1) (Nat.le_refl _)).2
    by_cases hp : P j = (p : Int)
    · rcases Nat.lt_trichotomy i j with hlt | heq | hgt
      · have hge := lastB_ge (p := fun t => P t == P j) (k := j) (t := i) hlt (by simp [hi, hp])
        cases hq : own P j with
        | zero => have : own P j = lastB (fun t => P t == P j) j := rfl
                  omega
        | succ m =>
          obtain ⟨h1, h2, h3⟩ := lastB_some hq
          have hpm : P m = (p : Int) := by simpa [hp] using h2
          have : own P j = lastB (fun t => P t == P j) j := rfl
          refine Rch.up (m := m) (Or.inl hq) (ih (by omega) ?_)
          rw [vc_own K P M p m m (Nat.le_refl _) hpm]
          exact cnt_mono P p (by omega)
      · subst heq; exact Rch.refl
      · have := cnt_mono P p (show j + 1 ≤ i by omega)
        omega
    · rw [vc_succ, if_neg hp] at h
      have h0 := (cnt_bd P p i).1
      by_cases hm : cnt P p (i + 1) ≤ vc K P M (own P j) p
      · cases hq : own P j with
        | zero => rw [hq, vc_zero] at hm; omega
        | succ m =>
          rw [hq] at hm
          have := own_le P j
          exact Rch.up (m := m) (Or.inl hq) (ih (by omega) hm)
      · have hm2 : cnt P p (i + 1) ≤ vc K P M (snt K M j) p := by omega
        cases hq : snt K M j with
        | zero => rw [hq, vc_zero] at hm2; omega
        | succ m =>
          rw [hq] at hm2
          have := snt_le K M j
          exact Rch.up (m := m) (Or.inr hq) (ih (by omega) hm2)
/-- The clocks tell it. -/
theorem ahead_iff {K P M : Nat → Int} {i j : Nat} (hi : ∃ p : Nat, P i = (p : Int) ∧ p < 6) (hj : ∃ p : Nat, P j = (p : Int) ∧ p < 6) : (cmpV (vc K P M (i + 1)) (vc K P M (j + 1)) = -1) ↔ (i ≠ j ∧ Rch K P M j i) := by
  obtain ⟨p, hp, hp6⟩ := hi
  obtain ⟨q, hq, hq6⟩ := hj
  have hc : cmpV (vc K P M (i + 1)) (vc K P M (j + 1)) = -1 ↔ (lessTo (vc K P M (i + 1)) (vc K P M (j + 1)) 6 = true ∧ lessTo (vc K P M (j + 1)) (vc K P M (i + 1)) 6 = false) := by
    unfold cmpV cmpB
    cases lessTo (vc K P M (i + 1)) (vc K P M (j + 1)) 6 <;> cases lessTo (vc K P M (j + 1)) (vc K P M (i + 1)) 6 <;> simp
  rw [hc, lessTo_no]
  constructor
  · rintro ⟨h1, h2⟩
    have hr : Rch K P M j i := Rch.of_vc hp (Nat.le_refl _) (by rw [← vc_own K P M p i i (Nat.le_refl _) hp]; exact h2 p hp6)
    refine ⟨fun e => ?_, hr⟩
    subst e
    have : lessTo (vc K P M (i + 1)) (vc K P M (i + 1)) 6 = false := (lessTo_no _ _ 6).2 fun _ _ => Int.le_refl _
    rw [this] at h1; cases h1
  · rintro ⟨hne, hr⟩
    refine ⟨?_, fun t _ => hr.mono t⟩
    cases hl : lessTo (vc K P M (i + 1)) (vc K P M (j + 1)) 6
    · have hle := (lessTo_no _ _ 6).1 hl q hq6
      have h1 := vc_own K P M q j j (Nat.le_refl _) hq
      have h2 := (vc_le K P M q (i + 1) (i + 1) (Nat.le_refl _)).2
      have h3 := hr.le
      have h4 := cnt_mono P q (show i + 1 ≤ j by omega)
      have h5 : cnt P q (j + 1) = cnt P q j + 1 := by simp [cnt, hq]
      omega
    · rfl

/-- What is marked behind d steps of the way back from j. -/
def mkd (K P M : Nat → Int) (j : Nat) : Nat → Nat → Bool
  | 0, t => decide (t = j)
  | d + 1, t => mkd K P M j d t || (mkd K P M j d (j - d) && (decide (own P (j - d) = t + 1) || decide (snt K M (j - d) = t + 1)))
theorem mkd_mono {K P M : Nat → Int} {j d d' t : Nat} (h : mkd K P M j d t = true) (hd : d ≤ d') : mkd K P M j d' t = true := by
  induction d' with
  | zero => have : d = 0 := by omega
            subst this; exact h
  | succ d' ih =>
    rcases Nat.lt_or_ge d (d' + 1) with g | g
    · simp [mkd, ih (by omega)]
    · have : d = d' + 1 := by omega
      subst this; exact h
theorem mkd_rch {K P M : Nat → Int} {j : Nat} : ∀ {d t : Nat}, mkd K P M j d t = true → Rch K P M j t
  | 0, t, h => by have : t = j := by simpa [mkd] using h
                  subst this; exact Rch.refl
  | d + 1, t, h => by
    simp only [mkd, Bool.or_eq_true, Bool.and_eq_true, decide_eq_true_eq] at h
    rcases h with h | ⟨h1, h2⟩
    · exact mkd_rch h
    · exact Rch.step (mkd_rch h1) h2
theorem mkd_back {K P M : Nat → Int} {j k : Nat} (hk : k ≤ j) : ∀ {d : Nat}, j - k ≤ d → d ≤ j + 1 → mkd K P M j d k = true → mkd K P M j (j - k) k = true
  | 0, h, _, hm => by rw [show j - k = 0 by omega]; exact hm
  | d + 1, h, hd, hm => by
    rcases Nat.lt_or_ge (j - k) (d + 1) with g | g
    · simp only [mkd, Bool.or_eq_true, Bool.and_eq_true, decide_eq_true_eq] at hm
      rcases hm with hm | ⟨_, hm⟩
      · exact mkd_back hk (by omega) (by omega) hm
      · have h1 := own_le P (j - d)
        have h2 := snt_le K M (j - d)
        rcases hm with hm | hm <;> omega
    · rw [show j - k = d + 1 by omega]; exact hm
theorem rch_mkd {K P M : Nat → Int} {j t : Nat} (h : Rch K P M j t) : mkd K P M j (j + 1) t = true := by
  induction h with
  | refl => exact mkd_mono (d := 0) (by simp [mkd]) (by omega)
  | step h hp ih =>
    rename_i k t
    have hk := h.le
    have hb := mkd_back hk (d := j + 1) (by omega) (Nat.le_refl _) ih
    refine mkd_mono (d := j - k + 1) ?_ (by omega)
    simp only [mkd, show j - (j - k) = k by omega, hb, Bool.true_and, Bool.or_eq_true, decide_eq_true_eq]
    exact Or.inr hp
/-- What the specification answers. -/
def ahd (K P M : Nat → Int) (i j : Nat) : Bool := !decide (i = j) && mkd K P M j (j + 1) i
theorem ahd_cmp {K P M : Nat → Int} {i j : Nat} (hi : ∃ p : Nat, P i = (p : Int) ∧ p < 6) (hj : ∃ p : Nat, P j = (p : Int) ∧ p < 6) : (cmpV (vc K P M (i + 1)) (vc K P M (j + 1)) == -1) = ahd K P M i j := by
  rw [Bool.eq_iff_iff, beq_iff_eq, ahead_iff hi hj]
  simp only [ahd, Bool.and_eq_true, Bool.not_eq_true', decide_eq_false_iff_not]
  exact ⟨fun ⟨h1, h2⟩ => ⟨h1, rch_mkd h2⟩, fun ⟨h1, h2⟩ => ⟨h1, mkd_rch h2⟩⟩
end Go.Proofs.Ytjophhiccbkpjaa
