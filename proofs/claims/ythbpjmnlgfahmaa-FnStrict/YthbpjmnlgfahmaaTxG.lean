/- The txns of good ops: their commits' txns, sorted, are the txns that have an op, rising. No Go text is spoken of here. -/
import Derived.Test.YthbpjmnlgfahmaaCfX
namespace Go.Proofs.Ythbpjmnlgfahmaa
open Go.RowKit
set_option linter.unusedVariables false

/-- The txns of the commits among the first m ops. -/
def cmL (K T : Nat → Int) : Nat → List Int
  | 0 => []
  | m + 1 => if K m = 3 then cmL K T m ++ [T m] else cmL K T m
theorem cmL_mem {K T : Nat → Int} {x : Int} : ∀ {m : Nat}, x ∈ cmL K T m ↔ ∃ j, j < m ∧ K j = 3 ∧ T j = x
  | 0 => by simp [cmL]
  | m + 1 => by
    have ih := cmL_mem (K := K) (T := T) (x := x) (m := m)
    by_cases h : K m = 3
    · rw [cmL, if_pos h, List.mem_append, ih, List.mem_singleton]
      constructor
      · rintro (⟨j, h1, h2⟩ | rfl)
        · exact ⟨j, by omega, h2⟩
        · exact ⟨m, by omega, h, rfl⟩
      · rintro ⟨j, h1, h2, h3⟩
        rcases Nat.lt_succ_iff_lt_or_eq.1 h1 with g | g
        · exact Or.inl ⟨j, g, h2, h3⟩
        · subst g; exact Or.inr h3.symm
    · rw [cmL, if_neg h, ih]
      constructor
      · rintro ⟨j, h1, h2⟩; exact ⟨j, by omega, h2⟩
      · rintro ⟨j, h1, h2, h3⟩
        rcases Nat.lt_succ_iff_lt_or_eq.1 h1 with g | g
        · exact ⟨j, g, h2, h3⟩
        · subst g; exact absurd h2 h
theorem later_no {T : Nat → Int} {i : Nat} : ∀ {m : Nat}, laterN T i m = false → ∀ j, i < j → j < i + 1 + m → T j ≠ T i
  | 0, _, j, h1, h2 => by omega
  | m + 1, h, j, h1, h2 => by
    simp only [laterN, Bool.or_eq_false_iff] at h
    rcases Nat.lt_or_ge j (i + 1 + m) with g | g
    · exact later_no h.1 j h1 g
    · have : j = i + 1 + m := by omega
      subst this
      have := h.2; simpa using this
theorem done_yes {K T : Nat → Int} {i : Nat} : ∀ {m : Nat}, doneN K T i m = true → ∃ j, j < i + 1 + m ∧ T j = T i ∧ K j = 3
  | 0, h => by simp [doneN] at h
  | m + 1, h => by
    simp only [doneN, Bool.or_eq_true, Bool.and_eq_true, beq_iff_eq] at h
    rcases h with h | h
    · obtain ⟨j, h1, h2⟩ := done_yes h
      exact ⟨j, by omega, h2⟩
    · exact ⟨i + 1 + m, by omega, h⟩
theorem cmL_nodup {K T : Nat → Int} {S : Nat → ByteArray} {n : Nat} (hg : goodP (okO K T S) K T n) : ∀ {m : Nat}, m ≤ n → (cmL K T m).Nodup
  | 0, _ => by simp [cmL]
  | m + 1, hm => by
    have ih := cmL_nodup hg (m := m) (by omega)
    by_cases h : K m = 3
    · rw [cmL, if_pos h, List.nodup_append]
      refine ⟨ih, by simp, ?_⟩
      intro x hx y hy e
      rw [List.mem_singleton] at hy
      obtain ⟨j, j1, j2, j3⟩ := cmL_mem.1 hx
      have := (hg.2 j (by omega)).2
      rw [endOk, if_pos j2, Bool.not_eq_true'] at this
      exact later_no this m j1 (by omega) (by rw [j3, e, hy])
    · rw [cmL, if_neg h]; exact ih
theorem txL_mem {T : Nat → Int} {n t x : Nat} : x ∈ txL T n t ↔ x < t ∧ 0 < x ∧ ∃ i, i < n ∧ T i = (x : Int) := by
  simp only [txL, List.mem_filter, List.mem_range, hasT, Bool.and_eq_true, decide_eq_true_eq]
  constructor
  · rintro ⟨h1, h2, h3⟩; exact ⟨h1, h2, begN_some h3⟩
  · rintro ⟨h1, h2, i, h3, h4⟩; exact ⟨h1, h2, by rw [← h4]; exact begN_of h3⟩
def txI (T : Nat → Int) (n : Nat) : List Int := (txL T n 9).map fun x : Nat => (x : Int)
theorem txI_pair (T : Nat → Int) (n : Nat) : (txI T n).Pairwise (· < ·) := by
  unfold txI txL
  rw [List.pairwise_map]
  exact (List.Pairwise.filter _ List.pairwise_lt_range).imp (by intro a b h; omega)
theorem cm_perm {K T : Nat → Int} {S : Nat → ByteArray} {n : Nat} (hg : goodP (okO K T S) K T n) : (cmL K T n).Perm (txI T n) := by
  rw [List.perm_ext_iff_of_nodup (cmL_nodup hg (Nat.le_refl _)) ((txI_pair T n).imp (by intro a b h e; omega))]
  intro x
  rw [cmL_mem]
  simp only [txI, List.mem_map, txL_mem]
  constructor
  · rintro ⟨j, h1, h2, h3⟩
    obtain ⟨q, q1, q2, q3⟩ := op_t (show opB (K j) (T j) (S j) = true from (hg.2 j h1).1)
    exact ⟨q, ⟨q3, q2, j, h1, q1⟩, by rw [← h3, q1]⟩
  · rintro ⟨q, ⟨q1, q2, i, i1, i2⟩, rfl⟩
    by_cases h : K i = 3
    · exact ⟨i, i1, h, i2⟩
    · have := (hg.2 i i1).2
      rw [endOk, if_neg h] at this
      obtain ⟨j, j1, j2, j3⟩ := done_yes this
      exact ⟨j, by omega, j3, by rw [j2, i2]⟩
theorem sort_txns {K T : Nat → Int} {S : Nat → ByteArray} {n : Nat} (hg : goodP (okO K T S) K T n) : ((cmL K T n).mergeSort fun x y => decide (x ≤ y)) = txI T n := by
  have hs := List.pairwise_mergeSort (le := fun x y : Int => decide (x ≤ y)) (by intro a b c; simp; omega) (by intro a b; simp; omega) (cmL K T n)
  refine List.Perm.eq_of_pairwise (le := fun x y => decide (x ≤ y) = true) ?_ hs ((txI_pair T n).imp (by intro a b h; simp; omega)) ((List.mergeSort_perm _ _).trans (cm_perm hg))
  intro a b _ _ h1 h2
  simp at h1 h2; omega
end Go.Proofs.Ythbpjmnlgfahmaa
