/- strings.Compare; the order of texts; the place of a key among locks: the contracts of lockPlace and of the specification's l4At. -/
import Derived.Test.YtedjllmbpcpfjaaGlC
import Derived.Test.YtedjllmbpcpfjaaRg
import Derived.Lib.Bytealg
import Derived.Laws.Externs
namespace Go.Proofs.Ytedjllmbpcpfjaa
open Go.RowKit
set_option linter.unusedVariables false

theorem less_cmp : ∀ x y : List UInt8, (Lib.compareBytes x y < 0) ↔ Op.bytesLess x y = true
  | [], [] => by simp [Lib.compareBytes, Op.bytesLess]
  | [], _ :: _ => by simp [Lib.compareBytes, Op.bytesLess]
  | _ :: _, [] => by simp [Lib.compareBytes, Op.bytesLess]
  | a :: x, b :: y => by
    have ih := less_cmp x y
    simp only [Lib.compareBytes, Op.bytesLess, Bool.or_eq_true, Bool.and_eq_true, decide_eq_true_eq, beq_iff_eq]
    by_cases h1 : a < b
    · simp [h1]
    · by_cases h2 : b < a
      · have : a ≠ b := fun e => by subst e; exact absurd h2 h1
        simp [h1, h2, this]
      · have e : a = b := by
          have h1' : ¬ a.toNat < b.toNat := h1
          have h2' : ¬ b.toNat < a.toNat := h2
          exact UInt8.toNat_inj.1 (by omega)
        subst e
        simp [h1, ih]
theorem eq_cmp : ∀ x y : List UInt8, (Lib.compareBytes x y = 0) ↔ x = y
  | [], [] => by simp [Lib.compareBytes]
  | [], _ :: _ => by simp [Lib.compareBytes]
  | _ :: _, [] => by simp [Lib.compareBytes]
  | a :: x, b :: y => by
    have ih := eq_cmp x y
    simp only [Lib.compareBytes, List.cons.injEq]
    by_cases h1 : a < b
    · have : a ≠ b := fun e => by subst e; exact absurd h1 (Nat.lt_irrefl _)
      simp [h1, this]
    · by_cases h2 : b < a
      · have : a ≠ b := fun e => by subst e; exact absurd h2 h1
        simp [h1, h2, this]
      · have e : a = b := by
          have h1' : ¬ a.toNat < b.toNat := h1
          have h2' : ¬ b.toNat < a.toNat := h2
          exact UInt8.toNat_inj.1 (by omega)
        subst e
        simp [h1, ih]
theorem cmp_bd : ∀ x y : List UInt8, -1 ≤ Lib.compareBytes x y ∧ Lib.compareBytes x y ≤ 1
  | [], [] => by simp [Lib.compareBytes]
  | [], _ :: _ => by simp [Lib.compareBytes]
  | _ :: _, [] => by simp [Lib.compareBytes]
  | a :: x, b :: y => by
    have ih := cmp_bd x y
    simp only [Lib.compareBytes]
    split
    · omega
    · split <;> omega
theorem less_trans : ∀ {x y z : List UInt8}, Op.bytesLess x y = true → Op.bytesLess y z = true → Op.bytesLess x z = true
  | _, [], _, h, _ => by simp [Op.bytesLess] at h
  | _, _ :: _, [], _, h => by simp [Op.bytesLess] at h
  | [], _ :: _, _ :: _, _, _ => by simp [Op.bytesLess]
  | a :: x, b :: y, c :: z, h1, h2 => by
    simp only [Op.bytesLess, Bool.or_eq_true, Bool.and_eq_true, decide_eq_true_eq, beq_iff_eq] at h1 h2 ⊢
    rcases h1 with h1 | ⟨rfl, h1⟩
    · rcases h2 with h2 | ⟨rfl, h2⟩
      · exact Or.inl (Nat.lt_trans h1 h2)
      · exact Or.inl h1
    · rcases h2 with h2 | ⟨rfl, h2⟩
      · exact Or.inl h2
      · exact Or.inr ⟨rfl, less_trans h1 h2⟩

set_option maxRecDepth 100000 in
set_option maxHeartbeats 1000000 in
theorem cmpString_any (a b : ByteArray) (w : World) :
    Calls Try.prog 123 #[.string a, .string b] w fun e w' => e = .returned (.int .i64 (Lib.compareBytes a.data.toList b.data.toList)) ∧ w' = w := by
  have hx : ∀ w : World, (callFunc 136 #[.string a, .string b]).run Try.prog w = .ok (.value (.int .i64 (Lib.compareBytes a.data.toList b.data.toList))) w := fun w => by
    rw [run_callFunc_extern Try.func136 (by kernel_rfl) (by kernel_rfl) (by kernel_rfl) (e := Extern.BytealgCompare.compare) (by kernel_rfl), Lib.run_compareString]
    rfl
  generalize Lib.compareBytes a.data.toList b.data.toList = z at *
  go_enter Try.func123, Try.ntmps123
  go_wp2
  go_ret
  exact ⟨rfl, rfl⟩
set_option maxHeartbeats 1000000 in
theorem compare_any (a b : ByteArray) (w : World) :
    Calls Try.prog 101 #[.string a, .string b] w fun e w' => e = .returned (.int .i64 (Lib.compareBytes a.toList b.toList)) ∧ w' = w := by
  rw [ByteArray.toList_eq, ByteArray.toList_eq]
  go_enter Try.func101, Try.ntmps101
  go_wp2_with (go_at_call 123; refine (cmpString_any _ _ _).mono ?_; rintro e w' ⟨rfl, rfl⟩)
  go_ret
  exact ⟨rfl, rfl⟩
set_option maxHeartbeats 1000000 in
theorem place1_any (key t : ByteArray) (ha wa : Option Addr) (hn hc wn wc : Nat) (w : World) :
    Calls Try.prog 100 #[.agg #[.string key, .slice ha hn hc, .slice wa wn wc], .string t] w fun e w' => e = .returned (.int .i64 (Lib.compareBytes key.toList t.toList)) ∧ Below w.heap.size w w' := by
  go_enter Try.func100, Try.ntmps100
  go_wp2_with (go_at_call 101; refine (compare_any _ _ _).mono ?_; rintro e w' ⟨rfl, rfl⟩)
  go_ret
  exact ⟨rfl, (by repeat (first | refine Below.setCell ?_ (by (try simp) <;> omega) _ | refine Below.alloc ?_ (by (try simp) <;> omega) _ | refine Below.drew ?_ | assumption | exact Below.refl _ _ | refine Below.trans ?_ (Below.mono (by assumption) (by (try simp) <;> omega))))⟩

/-- Key i is less than t. -/
def lsK (V : Nat → LkV) (t : ByteArray) (i : Nat) : Bool := Op.bytesLess (V i).key.toList t.toList
/-- The first place from i on, of m, at which p does not hold. -/
def scan (p : Nat → Bool) : Nat → Nat → Nat
  | 0, i => i
  | m + 1, i => if p i = true then scan p m (i + 1) else i
theorem scan_at (p : Nat → Bool) : ∀ {m i k : Nat}, i ≤ k → k ≤ i + m → (∀ j, i ≤ j → j < k → p j = true) → (k = i + m ∨ p k = false) → scan p m i = k
  | 0, i, k, h1, h2, _, _ => by have : k = i := by omega
                                rw [this]; rfl
  | m + 1, i, k, h1, h2, hp, hk => by
    by_cases e : i = k
    · subst e
      rcases hk with h | h
      · omega
      · rw [scan, if_neg (by rw [h]; simp)]
    · rw [scan, if_pos (hp i (Nat.le_refl _) (by omega))]
      exact scan_at p (by omega) (by omega) (fun j g1 g2 => hp j (by omega) g2) (by rcases hk with h | h; exact Or.inl (by omega); exact Or.inr h)
/-- Where key t has its place among n locks. -/
def plc (V : Nat → LkV) (n : Nat) (t : ByteArray) : Nat := scan (lsK V t) n 0
theorem plc_at {V : Nat → LkV} {n : Nat} {t : ByteArray} {k : Nat} (h : k ≤ n) (hp : ∀ j, j < k → lsK V t j = true) (hk : k = n ∨ lsK V t k = false) : plc V n t = k :=
  scan_at _ (Nat.zero_le _) (by omega) (fun j _ g => hp j g) (by rcases hk with h | h; exact Or.inl (by omega); exact Or.inr h)
def fnd (V : Nat → LkV) (n : Nat) (t : ByteArray) : Bool := decide (plc V n t < n) && ((V (plc V n t)).key.toList == t.toList)
def Rising (V : Nat → LkV) (n : Nat) : Prop := ∀ i, 0 < i → i < n → ltK V i = true
theorem rising_lt {V : Nat → LkV} {n : Nat} (h : Rising V n) : ∀ {j i : Nat}, i < j → j < n → Op.bytesLess (V i).key.toList (V j).key.toList = true
  | j + 1, i, h1, h2 => by
    have a := h (j + 1) (by omega) h2
    have a' : Op.bytesLess (V j).key.toList (V (j + 1)).key.toList = true := a
    by_cases e : i = j
    · subst e; exact a'
    · exact less_trans (rising_lt h (show i < j by omega) (by omega)) a'
theorem ls_down {V : Nat → LkV} {n : Nat} {t : ByteArray} (h : Rising V n) {i j : Nat} (hij : i ≤ j) (hj : j < n) (hl : lsK V t j = true) : lsK V t i = true := by
  by_cases e : i = j
  · subst e; exact hl
  · exact less_trans (rising_lt h (show i < j by omega) hj) hl
theorem ls_up {V : Nat → LkV} {n : Nat} {t : ByteArray} (h : Rising V n) {i j : Nat} (hij : i ≤ j) (hj : j < n) (hl : lsK V t i = false) : lsK V t j = false := by
  cases hc : lsK V t j
  · rfl
  · rw [ls_down h hij hj hc] at hl; cases hl
end Go.Proofs.Ytedjllmbpcpfjaa
