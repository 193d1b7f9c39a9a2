/- strings.Compare; the order of texts; keys that rise, and the place of a key among them. -/
import Derived.Test.YtnglgndocmkbfaaIn
import Derived.Test.YtnglgndocmkbfaaRg
import Derived.Lib.Bytealg
import Derived.Laws.Externs
namespace Go.Proofs.Ytnglgndocmkbfaa
open Go.RowKit
set_option linter.unusedVariables false

theorem less_cmp : ∀ x y : List UInt8, (Lib.compareBytes x y < 0) ↔ Op.bytesLess x y = true
  | [], [] => by simp [Lib.compareBytes, Op.bytesLess]
  | [], _ :: _ => by simp [Lib.compareBytes, Op.bytesLess]
  | _ :: _, [] => by simp [Lib.compareBytes, Op.bytesLess]
  | a :: x, b :: y => by
    have ih := less_cmp x y
    simp only [Lib.compareBytes, Op.bytesLess, Bool.or_eq_true, Bool.and_eq_true, decide_eq_true_eq, beq_iff_eq]
    by_cases h1 : a < b
    · simp [h1]
    · by_cases h2 : b < a
      · have : a ≠ b := fun e => by subst e; exact absurd h2 h1
        simp [h1, h2, this]
      · have e : a = b := by
          have h1' : ¬ a.toNat < b.toNat := h1
          have h2' : ¬ b.toNat < a.toNat := h2
          exact UInt8.toNat_inj.1 (by omega)
        subst e
        simp [h1, ih]
theorem eq_cmp : ∀ x y : List UInt8, (Lib.compareBytes x y = 0) ↔ x = y
  | [], [] => by simp [Lib.compareBytes]
  | [], _ :: _ => by simp [Lib.compareBytes]
  | _ :: _, [] => by simp [Lib.compareBytes]
  | a :: x, b :: y => by
    have ih := eq_cmp x y
    simp only [Lib.compareBytes, List.cons.injEq]
    by_cases h1 : a < b
    · have : a ≠ b := fun e => by subst e; exact absurd h1 (Nat.lt_irrefl _)
      simp [h1, this]
    · by_cases h2 : b < a
      · have : a ≠ b := fun e => by subst e; exact absurd h2 h1
        simp [h1, h2, this]
      · have e : a = b := by
          have h1' : ¬ a.toNat < b.toNat := h1
          have h2' : ¬ b.toNat < a.toNat := h2
          exact UInt8.toNat_inj.1 (by omega)
        subst e
        simp [h1, ih]
theorem cmp_bd : ∀ x y : List UInt8, -1 ≤ Lib.compareBytes x y ∧ Lib.compareBytes x y ≤ 1
  | [], [] => by simp [Lib.compareBytes]
  | [], _ :: _ => by simp [Lib.compareBytes]
  | _ :: _, [] => by simp [Lib.compareBytes]
  | a :: x, b :: y => by
    have ih := cmp_bd x y
    simp only [Lib.compareBytes]
    split
    · omega
    · split <;> omega
theorem less_trans : ∀ {x y z : List UInt8}, Op.bytesLess x y = true → Op.bytesLess y z = true → Op.bytesLess x z = true
  | _, [], _, h, _ => by simp [Op.bytesLess] at h
  | _, _ :: _, [], _, h => by simp [Op.bytesLess] at h
  | [], _ :: _, _ :: _, _, _ => by simp [Op.bytesLess]
  | a :: x, b :: y, c :: z, h1, h2 => by
    simp only [Op.bytesLess, Bool.or_eq_true, Bool.and_eq_true, decide_eq_true_eq, beq_iff_eq] at h1 h2 ⊢
    rcases h1 with h1 | ⟨rfl, h1⟩
    · rcases h2 with h2 | ⟨rfl, h2⟩
      · exact Or.inl (Nat.lt_trans h1 h2)
      · exact Or.inl h1
    · rcases h2 with h2 | ⟨rfl, h2⟩
      · exact Or.inl h2
      · exact Or.inr ⟨rfl, less_trans h1 h2⟩

set_option maxRecDepth 100000 in
set_option maxHeartbeats 1000000 in
theorem cmpString_any (a b : ByteArray) (w : World) :
    Calls Try.prog 135 #[.string a, .string b] w fun e w' => e = .returned (.int .i64 (Lib.compareBytes a.data.toList b.data.toList)) ∧ w' = w := by
  have hx : ∀ w : World, (callFunc 150 #[.string a, .string b]).run Try.prog w = .ok (.value (.int .i64 (Lib.compareBytes a.data.toList b.data.toList))) w := fun w => by
    rw [run_callFunc_extern Try.func150 (by kernel_rfl) (by kernel_rfl) (by kernel_rfl) (e := Extern.BytealgCompare.compare) (by kernel_rfl), Lib.run_compareString]
    rfl
  generalize Lib.compareBytes a.data.toList b.data.toList = z at *
  go_enter Try.func135, Try.ntmps135
  go_wp2
  go_ret
  exact ⟨rfl, rfl⟩
set_option maxHeartbeats 1000000 in
theorem compare_any (a b : ByteArray) (w : World) :
    Calls Try.prog 116 #[.string a, .string b] w fun e w' => e = .returned (.int .i64 (Lib.compareBytes a.toList b.toList)) ∧ w' = w := by
  rw [ByteArray.toList_eq, ByteArray.toList_eq]
  go_enter Try.func116, Try.ntmps116
  go_wp2_with (go_at_call 135; refine (cmpString_any _ _ _).mono ?_; rintro e w' ⟨rfl, rfl⟩)
  go_ret
  exact ⟨rfl, rfl⟩

theorem less_irr : ∀ x : List UInt8, Op.bytesLess x x = false
  | [] => by simp [Op.bytesLess]
  | a :: x => by simp [Op.bytesLess, less_irr x]
theorem less_tri {x y : List UInt8} (h : Op.bytesLess x y = false) (k : x ≠ y) : Op.bytesLess y x = true := by
  induction x generalizing y with
  | nil => cases y with
    | nil => exact absurd rfl k
    | cons b y => simp [Op.bytesLess] at h
  | cons a x ih => cases y with
    | nil => simp [Op.bytesLess]
    | cons b y =>
      simp only [Op.bytesLess, Bool.or_eq_false_iff, Bool.and_eq_false_iff, decide_eq_false_iff_not, beq_eq_false_iff_ne, Bool.or_eq_true, Bool.and_eq_true, decide_eq_true_eq, beq_iff_eq] at h ⊢
      by_cases e : a = b
      · subst e
        right
        refine ⟨rfl, ih ?_ (fun e => k (by rw [e]))⟩
        rcases h.2 with h | h
        · exact absurd rfl h
        · exact h
      · left
        have h1 : ¬ a.toNat < b.toNat := h.1
        have h2 : a.toNat ≠ b.toNat := fun e' => e (UInt8.toNat_inj.1 e')
        show b.toNat < a.toNat
        omega
/-- Key q is less than t. -/
def lesK (K : Nat → ByteArray) (t : ByteArray) (q : Nat) : Bool := Op.bytesLess (K q).toList t.toList
def RiseK (K : Nat → ByteArray) (n : Nat) : Prop := ∀ i, i + 1 < n → Op.bytesLess (K i).toList (K (i + 1)).toList = true
instance (K : Nat → ByteArray) (n : Nat) : Decidable (RiseK K n) :=
  decidable_of_iff (∀ i, i < n - 1 → Op.bytesLess (K i).toList (K (i + 1)).toList = true) ⟨fun h i hi => h i (by omega), fun h i hi => h i (by omega)⟩
theorem riseK_lt {K : Nat → ByteArray} {n : Nat} (h : RiseK K n) : ∀ {j i : Nat}, i < j → j < n → Op.bytesLess (K i).toList (K j).toList = true
  | j + 1, i, h1, h2 => by
    have a := h j h2
    by_cases e : i = j
    · subst e; exact a
    · exact less_trans (riseK_lt h (show i < j by omega) (by omega)) a
theorem riseK_ne {K : Nat → ByteArray} {n i j : Nat} (h : RiseK K n) (hi : i < n) (hj : j < n) (e : (K i).toList = (K j).toList) : i = j := by
  rcases Nat.lt_trichotomy i j with g | g | g
  · have := riseK_lt h g hj; rw [e, less_irr] at this; cases this
  · exact g
  · have := riseK_lt h g hi; rw [e, less_irr] at this; cases this
theorem lesK_down {K : Nat → ByteArray} {n : Nat} {t : ByteArray} (h : RiseK K n) {i j : Nat} (hij : i ≤ j) (hj : j < n) (hl : lesK K t j = true) : lesK K t i = true := by
  by_cases e : i = j
  · subst e; exact hl
  · exact less_trans (riseK_lt h (show i < j by omega) hj) hl
theorem lesK_up {K : Nat → ByteArray} {n : Nat} {t : ByteArray} (h : RiseK K n) {i j : Nat} (hij : i ≤ j) (hj : j < n) (hl : lesK K t i = false) : lesK K t j = false := by
  cases hc : lesK K t j
  · rfl
  · rw [lesK_down h hij hj hc] at hl; cases hl
/-- What a search for t among n keys may answer: a place, and whether it is there; where the keys rise, its place. -/
def Placed (K : Nat → ByteArray) (n : Nat) (t : ByteArray) (p : Nat) (f : Bool) : Prop :=
  p ≤ n ∧ (f = true → p < n ∧ (K p).toList = t.toList) ∧ (RiseK K n → (∀ q, q < p → lesK K t q = true) ∧ (∀ q, p ≤ q → q < n → lesK K t q = false) ∧ (f = false → ∀ q, q < n → (K q).toList ≠ t.toList))
def PlcPost (K : Nat → ByteArray) (n : Nat) (t : ByteArray) (w : World) (r : Ending) (w' : World) : Prop :=
  ∃ (p : Nat) (f : Bool), r = .returned (.tuple #[.int .i64 (p : Int), .bool f]) ∧ Placed K n t p f ∧ Below w.heap.size w w'
theorem placed_no {K : Nat → ByteArray} {n : Nat} {t : ByteArray} {p : Nat} (h1 : RiseK K n → ∀ q, q < p → lesK K t q = true) (h2 : RiseK K n → ∀ q, p ≤ q → q < n → lesK K t q = false) (hp : p = n ∨ p < n ∧ (K p).toList ≠ t.toList) :
    RiseK K n → ∀ q, q < n → (K q).toList ≠ t.toList := by
  intro hr q hq e
  rcases Nat.lt_or_ge q p with g | g
  · have := h1 hr q g; rw [lesK, e, less_irr] at this; cases this
  · rcases hp with hp | ⟨hp, hne⟩
    · omega
    · have h3 := h2 hr p (Nat.le_refl _) hp
      have h4 := less_tri h3 hne
      rcases Nat.lt_or_ge p q with g' | g'
      · have h5 := riseK_lt hr g' hq
        rw [e] at h5
        have h6 := less_trans h4 h5
        rw [less_irr] at h6; cases h6
      · have : q = p := by omega
        subst this; exact hne e
end Go.Proofs.Ytnglgndocmkbfaa
