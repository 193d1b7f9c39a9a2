/- Conflicts of ops: the mathematics. No Go text is spoken of here. -/
import Derived.Test.YthbpjmnlgfahmaaOpI
namespace Go.Proofs.Ythbpjmnlgfahmaa
open Go.RowKit
set_option linter.unusedVariables false

def clB (k t : Int) (s : ByteArray) (k' t' : Int) (s' : ByteArray) : Bool := (t != t') && ((s.toList == s'.toList) && (k == 2 || k' == 2))
def clN (K T : Nat → Int) (S : Nat → ByteArray) (i j : Nat) : Bool := clB (K i) (T i) (S i) (K j) (T j) (S j)
/-- An op of x has an op of y behind it with which it is in conflict. -/
def edP (K T : Nat → Int) (S : Nat → ByteArray) (n : Nat) (x y : Int) : Prop := ∃ i j, i < j ∧ j < n ∧ T i = x ∧ T j = y ∧ clN K T S i j = true
open Classical in
noncomputable def edB (K T : Nat → Int) (S : Nat → ByteArray) (n x y : Nat) : Bool := decide (edP K T S n x y)
theorem edB_iff {K T : Nat → Int} {S : Nat → ByteArray} {n x y : Nat} : edB K T S n x y = true ↔ edP K T S n x y := by simp [edB]
/-- The same, of the pairs of ops that two loops have met. -/
def ptP (K T : Nat → Int) (S : Nat → ByteArray) (n k m : Nat) (x y : Int) : Prop := ∃ i j, i < j ∧ j < n ∧ (i < k ∨ i = k ∧ j < k + 1 + m) ∧ T i = x ∧ T j = y ∧ clN K T S i j = true
def FitE (K T : Nat → Int) (S : Nat → ByteArray) (n : Nat) (f : Nat → Bool) (k m : Nat) : Prop := ∀ x y : Nat, x < 9 → y < 9 → (f (9 * x + y) = true ↔ ptP K T S n k m x y)
theorem FitE.zero (K T : Nat → Int) (S : Nat → ByteArray) (n : Nat) : FitE K T S n (fun _ => false) 0 0 := by
  intro x y _ _
  constructor
  · intro h; cases h
  · rintro ⟨i, j, h1, h2, h3 | h3, _⟩ <;> omega
theorem FitE.set {K T : Nat → Int} {S : Nat → ByteArray} {n k m : Nat} {f : Nat → Bool} (h : FitE K T S n f k m) (hm : k + 1 + m < n) {p q : Nat} (hp : T k = (p : Int)) (hq : T (k + 1 + m) = (q : Int)) (hp9 : p < 9) (hq9 : q < 9) (hc : clN K T S k (k + 1 + m) = true) :
    FitE K T S n (fun i => if i = 9 * p + q then true else f i) k (m + 1) := by
  intro x y hx hy
  constructor
  · intro g
    by_cases e : 9 * x + y = 9 * p + q
    · have e1 : x = p := by omega
      have e2 : y = q := by omega
      subst e1 e2
      exact ⟨k, k + 1 + m, by omega, hm, Or.inr ⟨rfl, by omega⟩, hp, hq, hc⟩
    · replace g : (if 9 * x + y = 9 * p + q then true else f (9 * x + y)) = true := g
      rw [if_neg e] at g
      obtain ⟨i, j, h1, h2, h3, h4⟩ := (h x y hx hy).1 g
      exact ⟨i, j, h1, h2, by omega, h4⟩
  · rintro ⟨i, j, h1, h2, h3, h4, h5, h6⟩
    by_cases e : i = k ∧ j = k + 1 + m
    · obtain ⟨rfl, rfl⟩ := e
      show (if 9 * x + y = 9 * p + q then true else f (9 * x + y)) = true
      rw [if_pos (by omega)]
    · show (if 9 * x + y = 9 * p + q then true else f (9 * x + y)) = true
      split
      · rfl
      · exact (h x y hx hy).2 ⟨i, j, h1, h2, by omega, h4, h5, h6⟩
theorem FitE.skip {K T : Nat → Int} {S : Nat → ByteArray} {n k m : Nat} {f : Nat → Bool} (h : FitE K T S n f k m) (hc : clN K T S k (k + 1 + m) = false) : FitE K T S n f k (m + 1) := by
  intro x y hx hy
  rw [h x y hx hy]
  constructor
  · rintro ⟨i, j, h1, h2, h3, h4⟩
    exact ⟨i, j, h1, h2, by omega, h4⟩
  · rintro ⟨i, j, h1, h2, h3, h4, h5, h6⟩
    by_cases e : i = k ∧ j = k + 1 + m
    · obtain ⟨rfl, rfl⟩ := e
      rw [hc] at h6; cases h6
    · exact ⟨i, j, h1, h2, by omega, h4, h5, h6⟩
theorem FitE.next {K T : Nat → Int} {S : Nat → ByteArray} {n k : Nat} {f : Nat → Bool} (h : FitE K T S n f k (n - (k + 1))) : FitE K T S n f (k + 1) 0 := by
  intro x y hx hy
  rw [h x y hx hy]
  constructor
  · rintro ⟨i, j, h1, h2, h3, h4⟩
    exact ⟨i, j, h1, h2, by omega, h4⟩
  · rintro ⟨i, j, h1, h2, h3, h4⟩
    exact ⟨i, j, h1, h2, by omega, h4⟩
theorem FitE.done {K T : Nat → Int} {S : Nat → ByteArray} {n : Nat} {f : Nat → Bool} (h : FitE K T S n f n 0) {x y : Nat} (hx : x < 9) (hy : y < 9) : f (9 * x + y) = edB K T S n x y := by
  rw [Bool.eq_iff_iff, edB_iff, h x y hx hy]
  constructor
  · rintro ⟨i, j, h1, h2, _, h4⟩; exact ⟨i, j, h1, h2, h4⟩
  · rintro ⟨i, j, h1, h2, h4⟩; exact ⟨i, j, h1, h2, by omega, h4⟩
/-- What the specification asks beside: the key is no empty one. -/
def clS (k t : Int) (s : ByteArray) (k' t' : Int) (s' : ByteArray) : Bool := (t != t') && ((s.toList == s'.toList) && (!s.toList.isEmpty && (k == 2 || k' == 2)))
theorem cl_same {k t k' t' : Int} {s s' : ByteArray} (h : opB k t s = true) (h' : opB k' t' s' = true) : clS k t s k' t' s' = clB k t s k' t' s' := by
  unfold clS clB
  cases h1 : (t != t')
  · rfl
  cases h2 : (s.toList == s'.toList)
  · rfl
  have e2 : s.toList = s'.toList := by simpa using h2
  cases h3 : s.toList.isEmpty
  · rfl
  · have a1 : k = 3 := by
      rcases op_kind h with ⟨_, g⟩ | ⟨g, _⟩
      · rw [key_some g] at h3; cases h3
      · exact g
    have a2 : k' = 3 := by
      rcases op_kind h' with ⟨_, g⟩ | ⟨g, _⟩
      · rw [e2, key_some g] at h3; cases h3
      · exact g
    subst a1 a2; rfl
/-- The pairs of a row, of a table. -/
def rowL (f : Nat → Nat → Bool) (x : Nat) (l : List Nat) : List (Int × Int) := l.filterMap fun y => if f x y = true then some ((x : Int), (y : Int)) else none
def tabL (f : Nat → Nat → Bool) (m l : List Nat) : List (Int × Int) := m.flatMap fun x => rowL f x l
theorem rowL_yes {f : Nat → Nat → Bool} {x y : Nat} {l : List Nat} (h : f x y = true) : rowL f x (l ++ [y]) = rowL f x l ++ [((x : Int), (y : Int))] := by simp [rowL, h]
theorem rowL_no {f : Nat → Nat → Bool} {x y : Nat} {l : List Nat} (h : f x y = false) : rowL f x (l ++ [y]) = rowL f x l := by simp [rowL, h]
theorem tabL_snoc (f : Nat → Nat → Bool) (m l : List Nat) (x : Nat) : tabL f (m ++ [x]) l = tabL f m l ++ rowL f x l := by simp [tabL]
theorem rowL_filter {f : Nat → Nat → Bool} {x : Nat} {h : Nat → Bool} (hh : ∀ y, h y = false → f x y = false) : ∀ l : List Nat, rowL f x (l.filter h) = rowL f x l
  | [] => rfl
  | y :: l => by
    have ih := rowL_filter (x := x) hh l
    cases e : h y
    · rw [List.filter_cons_of_neg (by simp [e]), ih]
      simp [rowL, hh y e]
    · rw [List.filter_cons_of_pos e]
      simp only [rowL, List.filterMap_cons] at ih ⊢
      rw [ih]
theorem rowL_none {f : Nat → Nat → Bool} {x : Nat} (hh : ∀ y, f x y = false) : ∀ l : List Nat, rowL f x l = []
  | [] => rfl
  | y :: l => by have ih := rowL_none hh l; simp only [rowL, List.filterMap_cons, hh y] at ih ⊢; simpa using ih
theorem tabL_filter {f : Nat → Nat → Bool} {h : Nat → Bool} (hx : ∀ x, h x = false → ∀ y, f x y = false) (hy : ∀ x y, h y = false → f x y = false) (l' : List Nat) : ∀ l : List Nat, tabL f (l.filter h) (l'.filter h) = tabL f l l'
  | [] => rfl
  | x :: l => by
    have ih := tabL_filter hx hy l' l
    simp only [tabL, List.flatMap_cons] at ih ⊢
    cases e : h x
    · rw [List.filter_cons_of_neg (by simp [e]), ih, rowL_none (hx x e)]; rfl
    · rw [List.filter_cons_of_pos e, List.flatMap_cons, ih, rowL_filter (hy x)]
theorem rowL_len (f : Nat → Nat → Bool) (x : Nat) (l : List Nat) : (rowL f x l).length ≤ l.length := List.length_filterMap_le _ _
theorem tabL_len (f : Nat → Nat → Bool) (l : List Nat) : ∀ m : List Nat, (tabL f m l).length ≤ m.length * l.length
  | [] => by simp [tabL]
  | x :: m => by
    have ih := tabL_len f l m
    have := rowL_len f x l
    simp only [tabL, List.flatMap_cons, List.length_append, List.length_cons, Nat.add_mul] at ih ⊢
    omega
end Go.Proofs.Ythbpjmnlgfahmaa
