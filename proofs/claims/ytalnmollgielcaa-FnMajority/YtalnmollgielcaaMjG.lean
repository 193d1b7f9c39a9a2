/- Majorities meet; minimal groups meet just where all do: mathematics. -/
import Derived.Test.YtalnmollgielcaaMnG
import Derived.Test.YtalnmollgielcaaImI
namespace Go.Proofs.Ytalnmollgielcaa
open Go.RowKit
set_option linter.unusedVariables false

theorem bits_dis {s t : Nat} (h : (s &&& t) = 0) : ∀ j, (bitsTo s j).length + (bitsTo t j).length ≤ j
  | 0 => by simp [bitsTo]
  | j + 1 => by
    have ih := bits_dis h j
    have hb : (s &&& t).testBit j = false := by rw [h]; simp
    rw [Nat.testBit_and] at hb
    rw [bitsTo, bitsTo, List.length_append, List.length_append]
    cases e1 : s.testBit j <;> cases e2 : t.testBit j
    · simp; omega
    · simp; omega
    · simp; omega
    · rw [e1, e2] at hb; cases hb
theorem bits_top {s k : Nat} (h : ∀ j, k ≤ j → s.testBit j = false) : ∀ d, bitsTo s (k + d) = bitsTo s k
  | 0 => rfl
  | d + 1 => by
    rw [show k + (d + 1) = (k + d) + 1 by omega, bitsTo, bits_top h d, h (k + d) (by omega)]
    simp
theorem wd_top {X : Nat → Int} {n : Nat} {m : Int} (hx : grP X m n) (hm : 0 ≤ m) : ∀ j, m.toNat ≤ j → (wd X n).testBit j = false := by
  intro j hj
  cases e : (wd X n).testBit j
  · rfl
  · obtain ⟨i, hi, q⟩ := (wd_bit (fun i hi => (hx i hi).1.1) j).1 e
    have := (hx i hi).1.2
    omega
theorem wd_count {X : Nat → Int} {n : Nat} {m : Int} (hm0 : 1 ≤ m) (hm : m ≤ 12) (hx : grP X m n) : (bitsTo (wd X n) m.toNat).length = n := by
  have h := congrArg List.length (bits_list hm hx)
  simp only [bitsZ, listZ, List.length_map, List.length_range] at h
  have := bits_top (wd_top hx (by omega)) (12 - m.toNat)
  rw [show m.toNat + (12 - m.toNat) = 12 by omega] at this
  rw [this] at h
  exact h
theorem maj_meet {X Y : Nat → Int} {n p : Nat} {m : Int} (h1 : imB X n m = true) (h2 : imB Y p m = true) : 0 < (meL X n Y p m).length := by
  simp only [imB, Bool.and_eq_true, decide_eq_true_eq] at h1 h2
  have hm : meB X n Y p m = true := by simp [meB, h1.1, h2.1]
  rw [meL, if_pos hm]
  have g1 := grB_iff.1 h1.1
  have g2 := grB_iff.1 h2.1
  rcases Nat.eq_zero_or_pos (mtTo X Y p n).length with e | e
  · have e := List.eq_nil_of_length_eq_zero e
    rw [← meet_bits g1.1.2 g1.2 g2.2] at e
    have e0 := (bits_nil (Nat.lt_of_le_of_lt Nat.and_le_left (wd_lt (gr_in g1.2 g1.1.2)))).1 e
    have hd := bits_dis e0 m.toNat
    rw [wd_count g1.1.1 g1.1.2 g1.2, wd_count g1.1.1 g1.1.2 g2.2] at hd
    omega
  · exact e
/-- Every group has a kept one within it. -/
theorem has_kept {V : Nat → GV} {n : Nat} : ∀ (q : Nat) (i : Nat), i < n → sw V i * (n + 1) + i ≤ q → ∃ j, j < n ∧ keepB V n j = true ∧ (sw V i &&& sw V j) = sw V j := by
  intro q
  induction q with
  | zero =>
    intro i hi hq
    by_cases hk : keepB V n i = true
    · exact ⟨i, hi, hk, Nat.and_self _⟩
    · rw [keep_bad (by omega)] at hk
      have hk := Classical.not_not.1 hk
      obtain ⟨j, hj, h | ⟨h, e⟩⟩ := hk
      · simp only [mtB, Bool.and_eq_true, beq_iff_eq, bne_iff_ne] at h
        have : sw V i = 0 := by
          rcases Nat.eq_zero_or_pos (sw V i) with e | e
          · exact e
          · have := Nat.mul_le_mul e (Nat.le_refl (n + 1)); omega
        rw [this, Nat.zero_and] at h
        exact absurd h.1 (fun e => h.2 e)
      · omega
  | succ q ih =>
    intro i hi hq
    by_cases hk : keepB V n i = true
    · exact ⟨i, hi, hk, Nat.and_self _⟩
    · rw [keep_bad (by omega)] at hk
      have hk := Classical.not_not.1 hk
      obtain ⟨j, hj, h | ⟨h, e⟩⟩ := hk
      · simp only [mtB, Bool.and_eq_true, beq_iff_eq, bne_iff_ne] at h
        have hle : sw V j ≤ sw V i := by rw [← h.1]; exact Nat.and_le_left
        have hlt : sw V j + 1 ≤ sw V i := by have := h.2; omega
        have hmul := Nat.mul_le_mul hlt (Nat.le_refl (n + 1))
        rw [Nat.add_mul, Nat.one_mul] at hmul
        obtain ⟨k, hk1, hk2, hk3⟩ := ih j hj (by omega)
        refine ⟨k, hk1, hk2, ?_⟩
        rw [← hk3, ← Nat.and_assoc, h.1]
      · obtain ⟨k, hk1, hk2, hk3⟩ := ih j hj (by rw [← e]; omega)
        exact ⟨k, hk1, hk2, by rw [e]; exact hk3⟩
theorem an_mem {V : Nat → GV} {L : List Nat} {r : Nat} (hr : r < L.length) : L.getD r 0 ∈ L := by
  rw [List.getD_eq_getElem?_getD, List.getElem?_eq_getElem hr]; simp
section
variable {V : Nat → GV} {n : Nat} {m : Int} (hg : gsB V n m = true)
include hg
theorem kept_good : gsB (anV V (miL V n m)) (miL V n m).length m = true := by
  have h := gsB_iff.1 hg
  have hl : (miL V n m).length ≤ 40 := miL_len V n m
  refine gsB_iff.2 ⟨hl, h.2.1, fun r hr => ?_⟩
  have hm := an_mem (V := V) hr
  rw [miL, if_pos hg] at hm
  show grB (V ((miL V n m).getD r 0)).x (V ((miL V n m).getD r 0)).n m = true
  rw [miL, if_pos hg]
  exact h.2.2 _ (kp_mem.1 hm).1
theorem kept_few : (miL V n m).length ≤ n := by rw [miL, if_pos hg]; exact kp_len V n n
theorem kept_some (hn : 0 < n) : 0 < (miL V n m).length := by
  obtain ⟨j, hj, hk, _⟩ := has_kept (V := V) (n := n) _ 0 hn (Nat.le_refl _)
  rw [miL, if_pos hg]
  exact List.length_pos_of_mem (kp_mem.2 ⟨hj, hk⟩)
theorem kept_meet : amB (anV V (miL V n m)) (miL V n m).length m = amB V n m := by
  rw [amB, amB, kept_good hg, hg, Bool.true_and, Bool.true_and]
  have e : miL V n m = kp V n n := by rw [miL, if_pos hg]
  rw [Bool.eq_iff_iff, decide_eq_true_eq, decide_eq_true_eq]
  constructor
  · intro h i hi j hj hz
    obtain ⟨i', hi1, hi2, hi3⟩ := has_kept (V := V) (n := n) _ i hi (Nat.le_refl _)
    obtain ⟨j', hj1, hj2, hj3⟩ := has_kept (V := V) (n := n) _ j hj (Nat.le_refl _)
    have mi : i' ∈ miL V n m := by rw [e]; exact kp_mem.2 ⟨hi1, hi2⟩
    have mj : j' ∈ miL V n m := by rw [e]; exact kp_mem.2 ⟨hj1, hj2⟩
    obtain ⟨r, hr, er⟩ := List.getElem_of_mem mi
    obtain ⟨s, hs, es⟩ := List.getElem_of_mem mj
    refine h r hr s hs ?_
    have w1 : sw (anV V (miL V n m)) r = sw V i' := by
      show sw V ((miL V n m).getD r 0) = _
      rw [List.getD_eq_getElem?_getD, List.getElem?_eq_getElem hr, er]; rfl
    have w2 : sw (anV V (miL V n m)) s = sw V j' := by
      show sw V ((miL V n m).getD s 0) = _
      rw [List.getD_eq_getElem?_getD, List.getElem?_eq_getElem hs, es]; rfl
    rw [w1, w2, ← hi3, ← hj3]
    refine Nat.eq_of_testBit_eq (fun b => ?_)
    have hb : (sw V i &&& sw V j).testBit b = false := by rw [hz]; simp
    rw [Nat.testBit_and] at hb
    simp only [Nat.testBit_and, Nat.zero_testBit]
    cases h1 : (sw V i).testBit b <;> cases h2 : (sw V j).testBit b <;> simp [h1, h2] at hb ⊢
  · intro h r hr s hs
    have mr := an_mem (V := V) hr
    have ms := an_mem (V := V) hs
    rw [e] at mr ms
    have := h _ (kp_mem.1 mr).1 _ (kp_mem.1 ms).1
    rw [← e] at this
    exact this
end
theorem min_no {V : Nat → GV} {n : Nat} {m : Int} (h : gsB V n m = false) : miL V n m = [] := by simp [miL, h]
theorem meB_and {X Y : Nat → Int} {n p : Nat} {m : Int} : meB X n Y p m = (grB X n m && grB Y p m) := rfl
end Go.Proofs.Ytalnmollgielcaa
