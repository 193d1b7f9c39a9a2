/- Minimal groups: mathematics. -/
import Derived.Test.YtalnmollgielcaaAmI
namespace Go.Proofs.Ytalnmollgielcaa
open Go.RowKit
set_option linter.unusedVariables false

theorem bits_sub (s t : Nat) : ∀ k, (bitsTo (s &&& t) k).Sublist (bitsTo t k)
  | 0 => List.Sublist.refl _
  | k + 1 => by
    rw [bitsTo, bitsTo]
    refine List.Sublist.append (bits_sub s t k) ?_
    rw [Nat.testBit_and]
    cases s.testBit k <;> cases t.testBit k <;> simp
theorem word_ext {s t : Nat} (hs : s < 4096) (ht : t < 4096) (h : bitsTo s 12 = bitsTo t 12) : s = t := by
  refine Nat.eq_of_testBit_eq (fun j => ?_)
  rcases Nat.lt_or_ge j 12 with q | q
  · rw [Bool.eq_iff_iff]
    have h1 := bitsTo_mem (s := s) (k := 12) (j := j)
    have h2 := bitsTo_mem (s := t) (k := 12) (j := j)
    rw [h] at h1
    constructor
    · intro e; exact (h2.1 (h1.2 ⟨q, e⟩)).2
    · intro e; exact (h1.1 (h2.2 ⟨q, e⟩)).2
  · have hp : 4096 ≤ 2 ^ j := Nat.pow_le_pow_right (n := 2) (by omega) q
    rw [Nat.testBit_lt_two_pow (Nat.lt_of_lt_of_le hs hp), Nat.testBit_lt_two_pow (Nat.lt_of_lt_of_le ht hp)]
/-- How many nodes a word has. -/
def pc (s : Nat) : Nat := (bitsTo s 12).length
theorem pc_and {s t : Nat} (ht : t < 4096) : pc (s &&& t) = pc t ↔ (s &&& t) = t := by
  constructor
  · intro h
    exact word_ext (Nat.lt_of_le_of_lt Nat.and_le_right ht) ht ((bits_sub s t 12).eq_of_length h)
  · intro h; rw [h]
/-- The list itself. -/
def listZ (X : Nat → Int) (n : Nat) : List Int := (List.range n).map X
theorem listZ_at {X : Nat → Int} {n i : Nat} (hi : i < n) : atZ (listZ X n) i = X i := by
  rw [atZ_lt (by simpa [listZ] using hi)]; simp [listZ]
theorem bits_list {X : Nat → Int} {n : Nat} {m : Int} (hm : m ≤ 12) (h : grP X m n) : bitsZ (wd X n) 12 = listZ X n := by
  refine riseZ_ext (bitsZ_rise _ _) ?_ (fun x => ?_)
  · rw [List.pairwise_iff_getElem]
    intro i j hi hj hij
    simp only [listZ, List.length_map, List.length_range] at hi hj
    simp only [listZ, List.getElem_map, List.getElem_range]
    exact grP_rise h hij hj
  · rw [bitsZ_mem]
    simp only [listZ, List.mem_map, List.mem_range]
    constructor
    · rintro ⟨j, rfl, _, e⟩
      obtain ⟨i, hi, q⟩ := (wd_bit (fun i hi => (h i hi).1.1) j).1 e
      exact ⟨i, hi, q⟩
    · rintro ⟨i, hi, rfl⟩
      have := gr_in h hm i hi
      exact ⟨(X i).toNat, by omega, by omega, (wd_bit (fun i hi => (h i hi).1.1) _).2 ⟨i, hi, by omega⟩⟩
section
variable {V : Nat → GV} {n : Nat} {m : Int} (hg : gsB V n m = true)
include hg
theorem n_pc {i : Nat} (hi : i < n) : (V i).n = pc (sw V i) := by
  have h := grB_iff.1 ((gsB_iff.1 hg).2.2 i hi)
  have := congrArg List.length (bits_list h.1.2 h.2)
  simp only [bitsZ, listZ, List.length_map, List.length_range] at this
  exact this.symm
theorem mt_pc {i k : Nat} (hi : i < n) (hk : k < n) : (mtTo (V i).x (V k).x (V k).n (V i).n).length = pc (sw V i &&& sw V k) := by
  have h1 := grB_iff.1 ((gsB_iff.1 hg).2.2 i hi)
  have h2 := grB_iff.1 ((gsB_iff.1 hg).2.2 k hk)
  rw [← meet_bits h1.1.2 h1.2 h2.2]
  simp [bitsZ, pc, sw]
theorem within_iff {i k : Nat} (hi : i < n) (hk : k < n) : (mtTo (V i).x (V k).x (V k).n (V i).n).length = (V k).n ↔ (sw V i &&& sw V k) = sw V k := by
  rw [mt_pc hg hi hk, n_pc hg hk]
  exact pc_and (sw_lt hg hk)
theorem same_iff {i k : Nat} (hi : i < n) (hk : k < n) : ((V i).n = (V k).n ∧ (mtTo (V i).x (V k).x (V k).n (V i).n).length = (V i).n) ↔ sw V i = sw V k := by
  rw [mt_pc hg hi hk, n_pc hg hk, n_pc hg hi]
  constructor
  · rintro ⟨h1, h2⟩
    have e1 := (pc_and (sw_lt hg hk)).1 (h2.trans h1)
    rw [Nat.and_comm] at h2
    have e2 := (pc_and (sw_lt hg hi)).1 h2
    rw [Nat.and_comm] at e2
    exact e2.symm.trans e1
  · intro e
    rw [e, Nat.and_self]
    exact ⟨rfl, rfl⟩
end
/-- Group i is minimal, and none ahead of it is the same. -/
def keepB (V : Nat → GV) (n i : Nat) : Bool := !(anyN (fun k => mtB (sw V i) (sw V k)) n) && !(anyN (fun k => sw V i == sw V k) i)
def kp (V : Nat → GV) (n : Nat) : Nat → List Nat
  | 0 => []
  | i + 1 => kp V n i ++ (if keepB V n i then [i] else [])
theorem kp_no {V : Nat → GV} {n i : Nat} (h : keepB V n i = false) : kp V n (i + 1) = kp V n i := by simp [kp, h]
theorem kp_yes {V : Nat → GV} {n i : Nat} (h : keepB V n i = true) : kp V n (i + 1) = kp V n i ++ [i] := by simp [kp, h]
theorem kp_len (V : Nat → GV) (n : Nat) : ∀ i, (kp V n i).length ≤ i
  | 0 => Nat.le_refl _
  | i + 1 => by
    have := kp_len V n i
    rw [kp, List.length_append]
    split <;> simp <;> omega
theorem kp_mem {V : Nat → GV} {n j : Nat} : ∀ {i : Nat}, j ∈ kp V n i ↔ j < i ∧ keepB V n j = true
  | 0 => by simp [kp]
  | i + 1 => by
    rw [kp, List.mem_append, kp_mem (i := i)]
    cases e : keepB V n i
    · simp only [Bool.false_eq_true, if_false, List.not_mem_nil, or_false]
      constructor
      · rintro ⟨a, b⟩; exact ⟨by omega, b⟩
      · rintro ⟨a, b⟩
        by_cases q : j = i
        · subst q; rw [e] at b; cases b
        · exact ⟨by omega, b⟩
    · simp only [if_true, List.mem_singleton]
      constructor
      · rintro (⟨a, b⟩ | rfl)
        · exact ⟨by omega, b⟩
        · exact ⟨by omega, e⟩
      · rintro ⟨a, b⟩
        by_cases q : j = i
        · exact Or.inr q
        · exact Or.inl ⟨by omega, b⟩
/-- What speaks against group i among the first k. -/
def badP (V : Nat → GV) (i k : Nat) : Prop := ∃ j, j < k ∧ (mtB (sw V i) (sw V j) = true ∨ (j < i ∧ sw V i = sw V j))
theorem keep_bad {V : Nat → GV} {n i : Nat} (hi : i ≤ n) : keepB V n i = true ↔ ¬ badP V i n := by
  simp only [keepB, Bool.and_eq_true, Bool.not_eq_true', anyN_no, badP]
  constructor
  · rintro ⟨h1, h2⟩ ⟨j, hj, h | ⟨h, e⟩⟩
    · rw [h1 j hj] at h; cases h
    · have := h2 j h; simp [e] at this
  · intro h
    refine ⟨fun j hj => ?_, fun j hj => ?_⟩
    · cases e : mtB (sw V i) (sw V j)
      · rfl
      · exact absurd ⟨j, hj, Or.inl e⟩ h
    · cases e : (sw V i == sw V j)
      · rfl
      · exact absurd ⟨j, by omega, Or.inr ⟨hj, by simpa using e⟩⟩ h
theorem bad_succ {V : Nat → GV} {i k : Nat} : badP V i (k + 1) ↔ badP V i k ∨ (mtB (sw V i) (sw V k) = true ∨ (k < i ∧ sw V i = sw V k)) := by
  constructor
  · rintro ⟨j, hj, h⟩
    by_cases e : j = k
    · subst e; exact Or.inr h
    · exact Or.inl ⟨j, by omega, h⟩
  · rintro (⟨j, hj, h⟩ | h)
    · exact ⟨j, by omega, h⟩
    · exact ⟨k, by omega, h⟩
def miL (V : Nat → GV) (n : Nat) (m : Int) : List Nat := if gsB V n m then kp V n n else []
def anV (V : Nat → GV) (L : List Nat) (r : Nat) : GV := V (L.getD r 0)
theorem miL_len (V : Nat → GV) (n : Nat) (m : Int) : (miL V n m).length ≤ 40 := by
  unfold miL
  split
  case isTrue h => have := kp_len V n n; have := (gsB_iff.1 h).1; omega
  case isFalse => simp
theorem miL_n {V : Nat → GV} {n : Nat} {m : Int} (h : ∀ i, i < n → (V i).n ≤ 1048576) : ∀ r, r < (miL V n m).length → (anV V (miL V n m) r).n ≤ 1048576 := by
  intro r hr
  have hm : (miL V n m).getD r 0 ∈ miL V n m := by
    rw [List.getD_eq_getElem?_getD, List.getElem?_eq_getElem hr]; simp
  unfold anV
  generalize (miL V n m).getD r 0 = e at *
  unfold miL at hm
  split at hm
  · exact h e (kp_mem.1 hm).1
  · simp at hm
theorem anV_old {V : Nat → GV} {L : List Nat} {i r : Nat} (hr : r < L.length) : anV V (L ++ [i]) r = anV V L r := by
  unfold anV
  rw [List.getD_eq_getElem?_getD, List.getD_eq_getElem?_getD, List.getElem?_append_left hr]
theorem anV_new {V : Nat → GV} {L : List Nat} {i : Nat} : anV V (L ++ [i]) L.length = V i := by
  unfold anV
  simp [List.getD_eq_getElem?_getD]
end Go.Proofs.Ytalnmollgielcaa
