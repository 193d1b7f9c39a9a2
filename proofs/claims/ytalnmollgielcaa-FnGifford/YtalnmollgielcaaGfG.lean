/- Gifford: two groups that have enough meet, where both thresholds together are more than all votes: mathematics. -/
import Derived.Test.YtalnmollgielcaaWtG
import Derived.Test.YtalnmollgielcaaMtG
namespace Go.Proofs.Ytalnmollgielcaa
open Go.RowKit
set_option linter.unusedVariables false

theorem bsum_dis {s t : Nat} {V : Nat → Int} (h : (s &&& t) = 0) : ∀ {j : Nat}, allV V j → bsum s V j + bsum t V j ≤ sumTo V j
  | 0, _ => by simp [bsum, sumTo]
  | j + 1, hV => by
    have h1 := bsum_dis h (j := j) (fun i hi => hV i (by omega))
    have h2 := hV j (by omega)
    have h3 : (s &&& t).testBit j = false := by rw [h]; simp
    rw [Nat.testBit_and] at h3
    simp only [bsum, sumTo]
    cases e1 : s.testBit j <;> cases e2 : t.testBit j
    · simp; omega
    · simp; omega
    · simp; omega
    · rw [e1, e2] at h3; cases h3
theorem gifford {V : Nat → Int} {p : Nat} {X : Nat → Int} {n : Nat} {Y : Nat → Int} {q : Nat} {r w : Int} (h1 : enB V p r X n = true) (h2 : enB V p w Y q = true) (h : sumTo V p < r + w) :
    meB X n Y q (p : Int) = true ∧ meL X n Y q (p : Int) ≠ [] := by
  simp only [enB, enOk, wtB, Bool.and_eq_true, decide_eq_true_eq] at h1 h2
  obtain ⟨⟨⟨hv, hgx⟩, _⟩, hr⟩ := h1
  obtain ⟨⟨⟨_, hgy⟩, _⟩, hw⟩ := h2
  have hm : meB X n Y q (p : Int) = true := by rw [meB, hgx, hgy]; rfl
  refine ⟨hm, fun e => ?_⟩
  have hx := grB_iff.1 hgx
  have hy := grB_iff.1 hgy
  simp only [meL, hm, if_true] at e
  rw [← meet_bits hx.1.2 hx.2 hy.2] at e
  have hz : (wd X n &&& wd Y q) = 0 := by
    refine Nat.eq_of_testBit_eq (fun j => ?_)
    rw [Nat.zero_testBit]
    cases f : (wd X n &&& wd Y q).testBit j
    · rfl
    · have hl : (wd X n &&& wd Y q) < 4096 := Nat.lt_of_le_of_lt Nat.and_le_left (wd_lt (gr_in hx.2 hx.1.2))
      have hj : j < 12 := by
        rcases Nat.lt_or_ge j 12 with c | c
        · exact c
        · rw [Nat.testBit_lt_two_pow (Nat.lt_of_lt_of_le hl (Nat.pow_le_pow_right (n := 2) (by omega) c))] at f; cases f
      have : (j : Int) ∈ bitsZ (wd X n &&& wd Y q) 12 := bitsZ_mem.2 ⟨j, rfl, hj, f⟩
      rw [e] at this; simp at this
  have hs := bsum_dis hz (vtB_iff.1 hv).2.1
  rw [bsum_wd rfl hx.2, bsum_wd rfl hy.2] at hs
  omega
theorem en_wt {V : Nat → Int} {p : Nat} {X : Nat → Int} {n : Nat} {t : Int} (h : enOk V p t X n = true) : wtB V p X n = true ∧ decide (t ≤ wtN V p X n) = enB V p t X n ∧ allV V p := by
  have h0 := h
  simp only [enOk, Bool.and_eq_true] at h
  refine ⟨h.1, ?_, ?_⟩
  · rw [enB, h0, wtN, h.1]; simp
  · have : vtB V p = true := by have := h.1; simp only [wtB, Bool.and_eq_true] at this; exact this.1
    exact (vtB_iff.1 this).2.1
theorem en_not {V : Nat → Int} {p : Nat} {X : Nat → Int} {n : Nat} {t : Int} (h : enOk V p t X n = false) : enB V p t X n = false := by simp [enB, h]
end Go.Proofs.Ytalnmollgielcaa
