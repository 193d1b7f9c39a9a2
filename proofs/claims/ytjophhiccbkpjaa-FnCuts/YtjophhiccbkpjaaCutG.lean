/- What is ahead of an event, with it, is a good cut; good cuts are a lattice: the mathematics. No Go text is spoken of here. -/
import Derived.Test.YtjophhiccbkpjaaCutS
import Derived.Test.YtjophhiccbkpjaaCutI
import Derived.Test.YtjophhiccbkpjaaJoin
import Derived.Test.YtjophhiccbkpjaaVcS
namespace Go.Proofs.Ytjophhiccbkpjaa
open Go.RowKit
set_option linter.unusedVariables false

def bN (c : Nat → Int) (P : Nat → Int) (m p : Nat) : Int := min (c p) (cnt P p m)
theorem bN_hit {c P : Nat → Int} {i q : Nat} (hq : P i = (q : Int)) (h : cnt P q (i + 1) ≤ c q) : ∀ p, p < 6 → (if p = q then bN c P i q + 1 else bN c P i p) = bN c P (i + 1) p := by
  intro p _
  simp only [cnt, hq, if_true] at h
  by_cases e : p = q
  · subst e
    simp only [if_true, bN, cnt, hq]; omega
  · have : ¬ P i = (p : Int) := by omega
    simp only [e, if_false, bN, cnt, this]; omega
theorem bN_no {c P : Nat → Int} {i q : Nat} (hq : P i = (q : Int)) (h : ¬ cnt P q (i + 1) ≤ c q) : ∀ p, p < 6 → bN c P i p = bN c P (i + 1) p := by
  intro p _
  simp only [cnt, hq, if_true] at h
  by_cases e : p = q
  · subst e
    simp only [if_true, bN, cnt, hq]; omega
  · have : ¬ P i = (p : Int) := by omega
    simp only [if_false, bN, cnt, this]; omega
theorem bN_bd {K P M : Nat → Int} {ix i p : Nat} : 0 ≤ bN (vc K P M (ix + 1)) P i p ∧ bN (vc K P M (ix + 1)) P i p ≤ i := by
  have := vc_bd K P M (ix + 1) p
  have := cnt_bd P p i
  unfold bN; omega
theorem bN_zero {K P M : Nat → Int} {ix p : Nat} : bN (vc K P M (ix + 1)) P 0 p = 0 := by
  have := vc_bd K P M (ix + 1) p
  simp only [bN, cnt]; omega
theorem rch_iff {K P M : Nat → Int} {i ix q : Nat} (hq : P i = (q : Int)) : Rch K P M ix i ↔ cnt P q (i + 1) ≤ vc K P M (ix + 1) q := by
  constructor
  · intro h
    rw [← vc_own K P M q i i (Nat.le_refl _) hq]; exact h.mono q
  · intro h
    exact Rch.of_vc hq (Nat.le_refl _) h
theorem hit_iff {K P M : Nat → Int} {i ix q : Nat} (hq : P i = (q : Int)) : (ahd K P M i ix = true ∨ i = ix) ↔ cnt P q (i + 1) ≤ vc K P M (ix + 1) q := by
  rw [← rch_iff hq]
  constructor
  · rintro (h | rfl)
    · simp only [ahd, Bool.and_eq_true] at h
      exact mkd_rch h.2
    · exact Rch.refl
  · intro h
    by_cases e : i = ix
    · exact Or.inr e
    · refine Or.inl ?_
      simp only [ahd, Bool.and_eq_true]
      exact ⟨by simp [e], rch_mkd h⟩
theorem inCut_at {P c : Nat → Int} {i q : Nat} (hq : P i = (q : Int)) : inCut P c i = decide (cnt P q (i + 1) ≤ c q) := by simp [inCut, place, hq]
theorem good_evs {K P M : Nat → Int} {n : Nat} (hg : goodE K P M n = true) : ∀ i, i < n → evOk K P M i = true := by
  simp only [goodE, Bool.and_eq_true] at hg
  exact (allEv_iff K P M n).1 hg.2
/-- All that is ahead of an event, with it. -/
theorem other_good {K P M : Nat → Int} {n ix : Nat} (hg : goodE K P M n = true) : gcOk K P M n (bN (vc K P M (ix + 1)) P n) 6 = true ∧ cutAll K P M (bN (vc K P M (ix + 1)) P n) n = true := by
  constructor
  · have : fits P (bN (vc K P M (ix + 1)) P n) n 6 = true := (fits_iff _ _ _ 6).2 fun p _ => by
      have := vc_bd K P M (ix + 1) p
      have := cnt_bd P p n
      unfold bN; omega
    simp [gcOk, hg, this]
  · refine (cutAll_iff _ _ _ _ n).2 fun i hi => ?_
    have hE := good_evs hg
    unfold cutOk
    cases h3 : (K i == 3)
    · rfl
    have h3' : K i = 3 := by simpa using h3
    have hs := good_snt hE hi h3'
    have hsl := snt_le K M i
    obtain ⟨s, hs'⟩ : ∃ s, snt K M i = s + 1 := ⟨snt K M i - 1, by omega⟩
    obtain ⟨q, hq, _⟩ := (ev_kind (hE i hi)).1
    obtain ⟨q', hq', _⟩ := (ev_kind (hE s (by omega))).1
    rw [hs', Nat.add_sub_cancel, inCut_at hq, inCut_at hq']
    cases hd : decide (cnt P q (i + 1) ≤ bN (vc K P M (ix + 1)) P n q)
    · rfl
    have hd' : cnt P q (i + 1) ≤ bN (vc K P M (ix + 1)) P n q := of_decide_eq_true hd
    have hr : Rch K P M ix i := (rch_iff hq).2 (by unfold bN at hd'; omega)
    have hr' := (rch_iff hq').1 (hr.step (Or.inr hs'))
    have hm := cnt_mono P q' (show s + 1 ≤ n by omega)
    have : cnt P q' (s + 1) ≤ bN (vc K P M (ix + 1)) P n q' := by unfold bN; omega
    simp [this]
theorem inCut_join {P X Y : Nat → Int} {i : Nat} {mt : Bool} : inCut P (joinV mt X Y) i = if mt then inCut P X i && inCut P Y i else inCut P X i || inCut P Y i := by
  rw [Bool.eq_iff_iff]
  cases mt
  · simp only [inCut, joinV, Bool.false_eq_true, if_false, Bool.or_eq_true, decide_eq_true_eq]; omega
  · simp only [inCut, joinV, if_true, Bool.and_eq_true, decide_eq_true_eq]; omega
theorem gc_vf {K P M X : Nat → Int} {n : Nat} (h : gcOk K P M n X 6 = true) : vfOk X 6 9223372036854775807 = true ∧ (∀ i, i < 6 → X i ≤ 9223372036854775807) ∧ goodE K P M n = true ∧ fits P X n 6 = true := by
  simp only [gcOk, Bool.and_eq_true] at h
  have h60 : n ≤ 60 := by
    have := h.1
    simp only [goodE, Bool.and_eq_true, decide_eq_true_eq] at this
    exact this.1
  have hf := (fits_iff _ _ _ 6).1 h.2.2
  have hb : ∀ i, i < 6 → 0 ≤ X i ∧ X i ≤ 9223372036854775807 := fun p hp => by
    have := hf p hp
    have := cnt_bd P p n
    omega
  refine ⟨?_, fun i hi => (hb i hi).2, h.1, h.2.2⟩
  simp only [vfOk, decide_true, Bool.true_and]
  exact (allIn_iff _ _ 6).2 fun p hp => inR_iff.2 (hb p hp)
theorem cutOk_join {K P M X Y : Nat → Int} {i : Nat} {mt : Bool} (hx : cutOk K P M X i = true) (hy : cutOk K P M Y i = true) : cutOk K P M (joinV mt X Y) i = true := by
  unfold cutOk at hx hy ⊢
  rw [inCut_join, inCut_join]
  revert hx hy
  cases K i == 3 <;> cases mt <;> cases inCut P X i <;> cases inCut P Y i <;> cases inCut P X (snt K M i - 1) <;> cases inCut P Y (snt K M i - 1) <;> simp
/-- The lattice. -/
theorem join_good {K P M X Y : Nat → Int} {n : Nat} {mt : Bool} (hx : gcOk K P M n X 6 = true) (hy : gcOk K P M n Y 6 = true) (hY : cutAll K P M Y n = true) :
    jOk X 6 Y 6 = true ∧ gcOk K P M n (joinV mt X Y) 6 = true ∧ (gcB K P M n X 6 = true → gcB K P M n (joinV mt X Y) 6 = true) := by
  obtain ⟨x1, x2, x3, x4⟩ := gc_vf hx
  obtain ⟨y1, y2, y3, y4⟩ := gc_vf hy
  have hj : gcOk K P M n (joinV mt X Y) 6 = true := by
    have f1 := (fits_iff _ _ _ 6).1 x4
    have f2 := (fits_iff _ _ _ 6).1 y4
    have : fits P (joinV mt X Y) n 6 = true := (fits_iff _ _ _ 6).2 fun p hp => by
      have := f1 p hp
      have := f2 p hp
      unfold joinV; split <;> omega
    simp [gcOk, x3, this]
  refine ⟨by rw [jOk, x1, y1]; rfl, hj, fun h => ?_⟩
  simp only [gcB, Bool.and_eq_true] at h ⊢
  refine ⟨hj, (cutAll_iff _ _ _ _ n).2 fun i hi => cutOk_join ((cutAll_iff _ _ _ _ n).1 h.2 i hi) ((cutAll_iff _ _ _ _ n).1 hY i hi)⟩
end Go.Proofs.Ytjophhiccbkpjaa
