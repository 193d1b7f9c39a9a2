/- A list that has each of a rising list once: sorted it is that list. No Go text is spoken of here. -/
import Derived.Test.YtkniokbioggkeaaMem
namespace Go.Proofs.Ytkniokbioggkeaa
open Go.RowKit
set_option linter.unusedVariables false

def lstN (X : Nat → Int) (n : Nat) : List Int := (List.range n).map X
theorem lstN_len (X : Nat → Int) (n : Nat) : (lstN X n).length = n := by simp [lstN]
theorem lstN_getD (X : Nat → Int) {n j : Nat} (h : j < n) : (lstN X n).getD j 0 = X j := by simp [lstN, h]
theorem lstN_mem {X : Nat → Int} {n : Nat} {x : Int} : x ∈ lstN X n ↔ ∃ j, j < n ∧ X j = x := by simp [lstN]
def srt (l : List Int) : List Int := l.mergeSort fun x y => decide (x ≤ y)
theorem srt_len (l : List Int) : (srt l).length = l.length := List.length_mergeSort _
theorem srt_perm (l : List Int) : (srt l).Perm l := List.mergeSort_perm _ _
theorem lstN_nodup {X : Nat → Int} : ∀ {n : Nat}, (∀ i, i < n → ∀ j, j < i → X j ≠ X i) → (lstN X n).Nodup
  | 0, _ => by simp [lstN]
  | n + 1, h => by
    have ih := lstN_nodup (X := X) (n := n) (fun i hi j hj => h i (by omega) j hj)
    rw [lstN, List.range_succ, List.map_append, List.nodup_append]
    refine ⟨ih, by simp, ?_⟩
    intro a ha b hb e
    simp only [List.map_cons, List.map_nil, List.mem_singleton] at hb
    obtain ⟨j, hj, rfl⟩ := lstN_mem.1 ha
    exact h n (by omega) j hj (e.trans hb)
theorem nodup_lstN {X : Nat → Int} : ∀ {n : Nat}, (lstN X n).Nodup → ∀ i, i < n → ∀ j, j < i → X j ≠ X i
  | 0, _, i, hi, _, _ => by omega
  | n + 1, h, i, hi, j, hj => by
    rw [lstN, List.range_succ, List.map_append, List.nodup_append] at h
    rcases Nat.lt_or_ge i n with g | g
    · exact nodup_lstN h.1 i g j hj
    · have : i = n := by omega
      subst this
      exact h.2.2 (X j) (lstN_mem.2 ⟨j, hj, rfl⟩) (X i) (by simp)
/-- What has no two alike and lies in a list is no longer than it. -/
theorem len_le_of_sub : ∀ {l m : List Int}, l.Nodup → (∀ x, x ∈ l → x ∈ m) → l.length ≤ m.length
  | [], m, _, _ => Nat.zero_le _
  | a :: l, m, h, hs => by
    have ha : a ∈ m := hs a (by simp)
    have hn := List.nodup_cons.1 h
    have ih := len_le_of_sub (l := l) (m := m.erase a) hn.2 (fun x hx => by
      have hne : x ≠ a := fun e => hn.1 (e ▸ hx)
      exact (List.mem_erase_of_ne hne).2 (hs x (by simp [hx])))
    rw [List.length_erase_of_mem ha] at ih
    have : 0 < m.length := List.length_pos_of_mem ha
    simp only [List.length_cons]; omega
theorem perm_of_sub {l m : List Int} (hl : l.Nodup) (hm : m.Nodup) (hs : ∀ x, x ∈ l → x ∈ m) (hn : l.length = m.length) : l.Perm m := by
  rw [List.perm_ext_iff_of_nodup hl hm]
  intro x
  refine ⟨hs x, fun hx => ?_⟩
  apply Classical.byContradiction
  intro hno
  have := len_le_of_sub (l := x :: l) (m := m) (List.nodup_cons.2 ⟨hno, hl⟩) (fun y hy => by
    rcases List.mem_cons.1 hy with rfl | hy
    · exact hx
    · exact hs y hy)
  simp only [List.length_cons] at this; omega
theorem rise_nodup {Z : List Int} (h : Z.Pairwise (· < ·)) : Z.Nodup := h.imp (by intro a b h e; omega)
theorem srt_of_perm {l Z : List Int} (hZ : Z.Pairwise (· < ·)) (h : l.Perm Z) : srt l = Z := by
  have hs := List.pairwise_mergeSort (le := fun x y : Int => decide (x ≤ y)) (by intro a b c; simp; omega) (by intro a b; simp; omega) l
  refine List.Perm.eq_of_pairwise (le := fun x y => decide (x ≤ y) = true) ?_ hs (hZ.imp (by intro a b h; simp; omega)) ((List.mergeSort_perm _ _).trans h)
  intro a b _ _ h1 h2
  simp at h1 h2; omega
def eachB (O : Nat → Int) (n : Nat) (Z : List Int) : Bool := decide (n = Z.length) && (srt (lstN O n) == Z)
theorem each_iff {O : Nat → Int} {n : Nat} {Z : List Int} (hZ : Z.Pairwise (· < ·)) : eachB O n Z = true ↔ n = Z.length ∧ ∀ i, i < n → O i ∈ Z ∧ ∀ j, j < i → O j ≠ O i := by
  simp only [eachB, Bool.and_eq_true, decide_eq_true_eq, beq_iff_eq]
  constructor
  · rintro ⟨h1, h2⟩
    have hp : (lstN O n).Perm Z := h2 ▸ (srt_perm (lstN O n)).symm
    refine ⟨h1, fun i hi => ⟨hp.mem_iff.1 (lstN_mem.2 ⟨i, hi, rfl⟩), nodup_lstN (hp.nodup_iff.2 (rise_nodup hZ)) i hi⟩⟩
  · rintro ⟨h1, h2⟩
    refine ⟨h1, srt_of_perm hZ (perm_of_sub (lstN_nodup fun i hi => (h2 i hi).2) (rise_nodup hZ) (fun x hx => ?_) (by rw [lstN_len]; exact h1))⟩
    obtain ⟨j, hj, rfl⟩ := lstN_mem.1 hx
    exact (h2 j hj).1
end Go.Proofs.Ytkniokbioggkeaa
