/- What two groups have both; a row with a column: mathematics. -/
import Derived.Test.YtalnmollgielcaaGbB
namespace Go.Proofs.Ytalnmollgielcaa
open Go.RowKit
set_option linter.unusedVariables false

theorem riseZ_ext : ∀ {A B : List Int}, A.Pairwise (· < ·) → B.Pairwise (· < ·) → (∀ j, j ∈ A ↔ j ∈ B) → A = B
  | [], [], _, _, _ => rfl
  | [], b :: B, _, _, h => absurd ((h b).2 (List.mem_cons_self ..)) (by simp)
  | a :: A, [], _, _, h => absurd ((h a).1 (List.mem_cons_self ..)) (by simp)
  | a :: A, b :: B, ha, hb, h => by
    rw [List.pairwise_cons] at ha hb
    have e : a = b := by
      have h1 := (h a).1 (List.mem_cons_self ..)
      have h2 := (h b).2 (List.mem_cons_self ..)
      rcases List.mem_cons.1 h1 with q | q
      · exact q
      rcases List.mem_cons.1 h2 with r | r
      · exact r.symm
      · have := hb.1 a q; have := ha.1 b r; omega
    subst e
    rw [riseZ_ext ha.2 hb.2]
    intro j
    constructor
    · intro hj
      rcases List.mem_cons.1 ((h j).1 (List.mem_cons_of_mem _ hj)) with q | q
      · subst q; have := ha.1 j hj; omega
      · exact q
    · intro hj
      rcases List.mem_cons.1 ((h j).2 (List.mem_cons_of_mem _ hj)) with q | q
      · subst q; have := hb.1 j hj; omega
      · exact q
theorem bitsZ_mem {s k : Nat} {x : Int} : x ∈ bitsZ s k ↔ ∃ j : Nat, x = (j : Int) ∧ j < k ∧ s.testBit j = true := by
  simp only [bitsZ, List.mem_map]
  constructor
  · rintro ⟨j, hj, rfl⟩; exact ⟨j, rfl, (bitsTo_mem.1 hj).1, (bitsTo_mem.1 hj).2⟩
  · rintro ⟨j, rfl, h1, h2⟩; exact ⟨j, bitsTo_mem.2 ⟨h1, h2⟩, rfl⟩
theorem bitsZ_rise (s k : Nat) : (bitsZ s k).Pairwise (· < ·) := by
  rw [bitsZ, List.pairwise_map]
  exact (bitsTo_rise s k).imp (fun h => by simpa using h)

/-- Those of the first k that the others have too. -/
def mtTo (X Y : Nat → Int) (p : Nat) : Nat → List Int
  | 0 => []
  | k + 1 => mtTo X Y p k ++ (if hasN Y (X k) p then [X k] else [])
theorem mtTo_no {X Y : Nat → Int} {p k : Nat} (h : hasN Y (X k) p = false) : mtTo X Y p (k + 1) = mtTo X Y p k := by simp [mtTo, h]
theorem mtTo_yes {X Y : Nat → Int} {p k : Nat} (h : hasN Y (X k) p = true) : mtTo X Y p (k + 1) = mtTo X Y p k ++ [X k] := by simp [mtTo, h]
theorem mtTo_len (X Y : Nat → Int) (p : Nat) : ∀ k, (mtTo X Y p k).length ≤ k
  | 0 => Nat.le_refl _
  | k + 1 => by
    have := mtTo_len X Y p k
    rw [mtTo, List.length_append]
    split <;> simp <;> omega
theorem mtTo_mem {X Y : Nat → Int} {p : Nat} {x : Int} : ∀ {k : Nat}, x ∈ mtTo X Y p k ↔ (∃ i, i < k ∧ X i = x) ∧ ∃ j, j < p ∧ Y j = x
  | 0 => by simp [mtTo]
  | k + 1 => by
    rw [mtTo, List.mem_append, mtTo_mem (k := k)]
    cases e : hasN Y (X k) p
    · simp only [Bool.false_eq_true, if_false, List.not_mem_nil, or_false]
      constructor
      · rintro ⟨⟨i, hi, q⟩, r⟩; exact ⟨⟨i, by omega, q⟩, r⟩
      · rintro ⟨⟨i, hi, q⟩, r⟩
        by_cases ik : i = k
        · subst ik; rw [q] at e; rw [hasN_iff.2 r] at e; cases e
        · exact ⟨⟨i, by omega, q⟩, r⟩
    · simp only [if_true, List.mem_singleton]
      constructor
      · rintro (⟨⟨i, hi, q⟩, r⟩ | rfl)
        · exact ⟨⟨i, by omega, q⟩, r⟩
        · exact ⟨⟨k, by omega, rfl⟩, hasN_iff.1 e⟩
      · rintro ⟨⟨i, hi, q⟩, r⟩
        by_cases ik : i = k
        · subst ik; exact Or.inr q.symm
        · exact Or.inl ⟨⟨i, by omega, q⟩, r⟩
theorem mtTo_rise {X Y : Nat → Int} {p : Nat} {m : Int} {n : Nat} (h : grP X m n) : ∀ {k : Nat}, k ≤ n → (mtTo X Y p k).Pairwise (· < ·)
  | 0, _ => List.Pairwise.nil
  | k + 1, hk => by
    rw [mtTo, List.pairwise_append]
    refine ⟨mtTo_rise h (by omega), by split <;> simp, ?_⟩
    intro a ha b hb
    obtain ⟨⟨i, hi, rfl⟩, _⟩ := mtTo_mem.1 ha
    split at hb
    · simp only [List.mem_singleton] at hb; subst hb; exact grP_rise h hi (by omega)
    · simp at hb
theorem meet_bits {X Y : Nat → Int} {n p : Nat} {m : Int} (hm : m ≤ 12) (hx : grP X m n) (hy : grP Y m p) : bitsZ (wd X n &&& wd Y p) 12 = mtTo X Y p n := by
  refine riseZ_ext (bitsZ_rise _ _) (mtTo_rise hx (Nat.le_refl _)) (fun x => ?_)
  rw [bitsZ_mem, mtTo_mem]
  constructor
  · rintro ⟨j, rfl, _, h⟩
    rw [Nat.testBit_and, Bool.and_eq_true] at h
    exact ⟨(wd_bit (fun i hi => (hx i hi).1.1) j).1 h.1, (wd_bit (fun i hi => (hy i hi).1.1) j).1 h.2⟩
  · rintro ⟨⟨i, hi, e⟩, ⟨j, hj, f⟩⟩
    have h1 := gr_in hx hm i hi
    refine ⟨x.toNat, by omega, by omega, ?_⟩
    rw [Nat.testBit_and, Bool.and_eq_true]
    exact ⟨(wd_bit (fun i hi => (hx i hi).1.1) _).2 ⟨i, hi, by omega⟩, (wd_bit (fun i hi => (hy i hi).1.1) _).2 ⟨j, hj, by omega⟩⟩
def meB (X : Nat → Int) (n : Nat) (Y : Nat → Int) (p : Nat) (m : Int) : Bool := grB X n m && grB Y p m
def meL (X : Nat → Int) (n : Nat) (Y : Nat → Int) (p : Nat) (m : Int) : List Int := if meB X n Y p m then mtTo X Y p n else []
theorem meL_len (X : Nat → Int) (n : Nat) (Y : Nat → Int) (p : Nat) (m : Int) : (meL X n Y p m).length ≤ 12 := by
  unfold meL
  split
  case isTrue h =>
    simp only [meB, Bool.and_eq_true] at h
    obtain ⟨h1, h2⟩ := grB_iff.1 h.1
    have := grP_len h2 h1
    have := mtTo_len X Y p n
    omega
  case isFalse => simp
/-- A group and whether it is one, as answers. -/
def GtPost (L : List Int) (ok : Bool) (w : World) (r : Ending) (w' : World) : Prop := (∃ a cap, r = .returned (.tuple #[.agg #[.slice a L.length cap], .bool ok]) ∧ IntS w' w.heap.size w'.heap.size a L.length (atZ L)) ∧ Below w.heap.size w w'
theorem gt_no {w w' : World} (hb : Below w.heap.size w w') : GtPost [] false w (.returned (.tuple #[.agg #[.slice none 0 0], .bool false])) w' := ⟨⟨none, 0, rfl, Or.inl rfl⟩, hb⟩

/-- The row's nodes among the first k columns of line i, and all lines. -/
def gridRow (C r c i : Nat) : Nat → List Int
  | 0 => []
  | j + 1 => gridRow C r c i j ++ (if i = r ∨ j = c then [((C * i + j : Nat) : Int)] else [])
def gridTo (C r c : Nat) : Nat → List Int
  | 0 => []
  | i + 1 => gridTo C r c i ++ gridRow C r c i C
theorem gridRow_mem {C r c i : Nat} {x : Int} : ∀ {k : Nat}, x ∈ gridRow C r c i k ↔ ∃ j, j < k ∧ (i = r ∨ j = c) ∧ x = ((C * i + j : Nat) : Int)
  | 0 => by simp [gridRow]
  | k + 1 => by
    rw [gridRow, List.mem_append, gridRow_mem (k := k)]
    by_cases e : i = r ∨ k = c
    · rw [if_pos e, List.mem_singleton]
      constructor
      · rintro (⟨j, hj, h⟩ | h)
        · exact ⟨j, by omega, h⟩
        · exact ⟨k, by omega, e, h⟩
      · rintro ⟨j, hj, h, q⟩
        by_cases jk : j = k
        · subst jk; exact Or.inr q
        · exact Or.inl ⟨j, by omega, h, q⟩
    · rw [if_neg e]
      simp only [List.not_mem_nil, or_false]
      constructor
      · rintro ⟨j, hj, h⟩; exact ⟨j, by omega, h⟩
      · rintro ⟨j, hj, h, q⟩
        by_cases jk : j = k
        · subst jk; exact absurd h e
        · exact ⟨j, by omega, h, q⟩
theorem gridRow_len {C r c i : Nat} : ∀ k, (gridRow C r c i k).length ≤ k
  | 0 => Nat.le_refl _
  | k + 1 => by
    have := gridRow_len (C := C) (r := r) (c := c) (i := i) k
    rw [gridRow, List.length_append]
    split <;> simp <;> omega
theorem gridRow_rise {C r c i : Nat} : ∀ k, (gridRow C r c i k).Pairwise (· < ·)
  | 0 => List.Pairwise.nil
  | k + 1 => by
    rw [gridRow, List.pairwise_append]
    refine ⟨gridRow_rise k, by split <;> simp, ?_⟩
    intro a ha b hb
    obtain ⟨j, hj, _, rfl⟩ := gridRow_mem.1 ha
    split at hb
    · simp only [List.mem_singleton] at hb; subst hb; omega
    · simp at hb
theorem gridTo_mem {C r c : Nat} {x : Int} : ∀ {k : Nat}, x ∈ gridTo C r c k ↔ ∃ i j, i < k ∧ j < C ∧ (i = r ∨ j = c) ∧ x = ((C * i + j : Nat) : Int)
  | 0 => by simp [gridTo]
  | k + 1 => by
    rw [gridTo, List.mem_append, gridTo_mem (k := k), gridRow_mem]
    constructor
    · rintro (⟨i, j, hi, h⟩ | ⟨j, hj, h⟩)
      · exact ⟨i, j, by omega, h⟩
      · exact ⟨k, j, by omega, hj, h⟩
    · rintro ⟨i, j, hi, hj, h⟩
      by_cases ik : i = k
      · subst ik; exact Or.inr ⟨j, hj, h⟩
      · exact Or.inl ⟨i, j, by omega, hj, h⟩
theorem line_lt {C i j k : Nat} (hi : i < k) (hj : j < C) : C * i + j < C * k := by
  have := Nat.mul_le_mul_left C (show i + 1 ≤ k from hi)
  rw [Nat.mul_add, Nat.mul_one] at this
  omega
theorem gridTo_rise {C r c : Nat} : ∀ k, (gridTo C r c k).Pairwise (· < ·)
  | 0 => List.Pairwise.nil
  | k + 1 => by
    rw [gridTo, List.pairwise_append]
    refine ⟨gridTo_rise k, gridRow_rise C, ?_⟩
    intro a ha b hb
    obtain ⟨i, j, hi, hj, _, rfl⟩ := gridTo_mem.1 ha
    obtain ⟨j', hj', _, rfl⟩ := gridRow_mem.1 hb
    have := line_lt hi hj
    omega
theorem gridTo_len {C r c : Nat} : ∀ k, (gridTo C r c k).length ≤ C * k
  | 0 => by simp [gridTo]
  | k + 1 => by
    have h1 := gridTo_len (C := C) (r := r) (c := c) k
    have h2 := gridRow_len (C := C) (r := r) (c := c) (i := k) C
    rw [gridTo, List.length_append, Nat.mul_add, Nat.mul_one]
    omega
/-- The words of the program's two loops. -/
def rowW (C r : Nat) : Nat → Nat
  | 0 => 0
  | j + 1 => rowW C r j ||| 2 ^ (C * r + j)
def colW (C r c : Nat) : Nat → Nat
  | 0 => rowW C r C
  | i + 1 => colW C r c i ||| 2 ^ (C * i + c)
theorem rowW_bit {C r t : Nat} : ∀ {k : Nat}, (rowW C r k).testBit t = true ↔ ∃ j, j < k ∧ t = C * r + j
  | 0 => by simp [rowW]
  | k + 1 => by
    rw [rowW, Nat.testBit_or, Bool.or_eq_true, rowW_bit (k := k), Nat.testBit_two_pow, decide_eq_true_eq]
    constructor
    · rintro (⟨j, hj, h⟩ | h)
      · exact ⟨j, by omega, h⟩
      · exact ⟨k, by omega, h.symm⟩
    · rintro ⟨j, hj, h⟩
      by_cases jk : j = k
      · subst jk; exact Or.inr h.symm
      · exact Or.inl ⟨j, by omega, h⟩
theorem colW_bit {C r c t : Nat} : ∀ {k : Nat}, (colW C r c k).testBit t = true ↔ (∃ j, j < C ∧ t = C * r + j) ∨ ∃ i, i < k ∧ t = C * i + c
  | 0 => by rw [colW, rowW_bit]; simp
  | k + 1 => by
    rw [colW, Nat.testBit_or, Bool.or_eq_true, colW_bit (k := k), Nat.testBit_two_pow, decide_eq_true_eq]
    constructor
    · rintro ((h | ⟨i, hi, h⟩) | h)
      · exact Or.inl h
      · exact Or.inr ⟨i, by omega, h⟩
      · exact Or.inr ⟨k, by omega, h.symm⟩
    · rintro (h | ⟨i, hi, h⟩)
      · exact Or.inl (Or.inl h)
      · by_cases ik : i = k
        · subst ik; exact Or.inr h.symm
        · exact Or.inl (Or.inr ⟨i, by omega, h⟩)
theorem rowW_lt {C r R : Nat} (hr : r < R) (h : C * R ≤ 12) : ∀ {k : Nat}, k ≤ C → rowW C r k < 4096
  | 0, _ => by simp [rowW]
  | k + 1, hk => by
    have h1 := line_lt (C := C) hr (show k < C by omega)
    exact Nat.or_lt_two_pow (n := 12) (rowW_lt hr h (by omega)) (Nat.pow_lt_pow_right (by omega) (by omega))
theorem colW_lt {C r c R : Nat} (hr : r < R) (hc : c < C) (h : C * R ≤ 12) : ∀ {k : Nat}, k ≤ R → colW C r c k < 4096
  | 0, _ => rowW_lt hr h (Nat.le_refl _)
  | k + 1, hk => by
    have h1 := line_lt (C := C) (show k < R by omega) hc
    exact Nat.or_lt_two_pow (n := 12) (colW_lt hr hc h (by omega)) (Nat.pow_lt_pow_right (by omega) (by omega))
theorem grid_bits {R C r c : Nat} (hr : r < R) (hc : c < C) (h : C * R ≤ 12) : bitsZ (colW C r c R) 12 = gridTo C r c R := by
  refine riseZ_ext (bitsZ_rise _ _) (gridTo_rise R) (fun x => ?_)
  rw [bitsZ_mem, gridTo_mem]
  constructor
  · rintro ⟨t, rfl, _, h⟩
    rcases colW_bit.1 h with ⟨j, hj, rfl⟩ | ⟨i, hi, rfl⟩
    · exact ⟨r, j, hr, hj, Or.inl rfl, rfl⟩
    · exact ⟨i, c, hi, hc, Or.inr rfl, rfl⟩
  · rintro ⟨i, j, hi, hj, q, rfl⟩
    have := line_lt hi hj
    refine ⟨C * i + j, rfl, by omega, colW_bit.2 ?_⟩
    rcases q with rfl | rfl
    · exact Or.inl ⟨j, hj, rfl⟩
    · exact Or.inr ⟨i, hi, rfl⟩
/-- What GridQuorum is asked, and its answer. -/
def gqB (R C r c : Int) : Bool := decide ((1 ≤ R ∧ R ≤ 12) ∧ (1 ≤ C ∧ C ≤ 12) ∧ R * C ≤ 12 ∧ (0 ≤ r ∧ r ≤ R - 1) ∧ (0 ≤ c ∧ c ≤ C - 1))
def gqL (R C r c : Int) : List Int := if gqB R C r c then gridTo C.toNat r.toNat c.toNat R.toNat else []
end Go.Proofs.Ytalnmollgielcaa
