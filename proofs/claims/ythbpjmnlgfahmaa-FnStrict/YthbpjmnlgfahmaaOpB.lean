/- An array of nine bools as a block and as a value; two of them compared. -/
import Derived.Test.YthbpjmnlgfahmaaProg
import Derived.Test.YthbpjmnlgfahmaaMem
import Derived.Deep.RegionWith
import Derived.Deep.DeepCutAuto
import Derived.Laws.StructEq
import Derived.ChangeKeysEq
namespace Go.Proofs.Ythbpjmnlgfahmaa
open Go.RowKit
set_option linter.unusedVariables false

def nineB (f : Nat → Bool) : Array Value := #[.bool (f 0), .bool (f 1), .bool (f 2), .bool (f 3), .bool (f 4), .bool (f 5), .bool (f 6), .bool (f 7), .bool (f 8)]
/-- Block g holds nine bools and may be written. -/
def BArr (w : World) (g : Nat) (f : Nat → Bool) : Prop := (∀ i, i < 9 → w.cell? ⟨g, i, none⟩ = some (.bool (f i)) ∧ w.frozen? ⟨g, i, none⟩ = false) ∧ g < w.heap.size
theorem upto9 {P : Nat → Prop} (h0 : P 0) (h1 : P 1) (h2 : P 2) (h3 : P 3) (h4 : P 4) (h5 : P 5) (h6 : P 6) (h7 : P 7) (h8 : P 8) : ∀ i, i < 9 → P i := by
  intro i hi
  match i, hi with
  | 0, _ => exact h0
  | 1, _ => exact h1
  | 2, _ => exact h2
  | 3, _ => exact h3
  | 4, _ => exact h4
  | 5, _ => exact h5
  | 6, _ => exact h6
  | 7, _ => exact h7
  | 8, _ => exact h8
theorem BArr.below {B : Nat} {w w' : World} {g : Nat} {x : Nat → Bool} (h : BArr w g x) (hb : Below B w w') (hg : g < B) : BArr w' g x :=
  ⟨fun i hi => ⟨(hb.cell (p := ⟨g, i, none⟩) hg).trans (h.1 i hi).1, (hb.frozen (p := ⟨g, i, none⟩) hg).trans (h.1 i hi).2⟩, Nat.lt_of_lt_of_le h.2 hb.size⟩
theorem BArr.congr {w : World} {g : Nat} {x y : Nat → Bool} (h : BArr w g x) (e : ∀ i, i < 9 → x i = y i) : BArr w g y :=
  ⟨fun i hi => ⟨by rw [← e i hi]; exact (h.1 i hi).1, (h.1 i hi).2⟩, h.2⟩
theorem BArr.new (w : World) (f : Nat → Bool) (t : TypeId) : BArr (w.alloc (.cells #[.bool (f 0), .bool (f 1), .bool (f 2), .bool (f 3), .bool (f 4), .bool (f 5), .bool (f 6), .bool (f 7), .bool (f 8)] t)) w.heap.size f :=
  ⟨upto9 ⟨by simp, by simp⟩ ⟨by simp, by simp⟩ ⟨by simp, by simp⟩ ⟨by simp, by simp⟩ ⟨by simp, by simp⟩ ⟨by simp, by simp⟩ ⟨by simp, by simp⟩ ⟨by simp, by simp⟩ ⟨by simp, by simp⟩, by simp⟩
theorem BArr.set {w : World} {g k : Nat} {x : Nat → Bool} (h : BArr w g x) (hk : k < 9) (n : Bool) : BArr (w.setCell ⟨g, k, none⟩ (.bool n)) g (fun i => if i = k then n else x i) := by
  refine ⟨fun i hi => ⟨?_, by simpa using (h.1 i hi).2⟩, by simpa using h.2⟩
  by_cases e : i = k
  · subst e; simp only [if_true]; exact World.cell?_setCell_same _ _ _ (h.1 i hi).1
  · rw [World.cell?_setCell_other _ _ _ _ (addr_ne (fun q => e q.symm))]; simp only [if_neg e]; exact (h.1 i hi).1
theorem BArr.setOther {w : World} {g g' q : Nat} {x : Nat → Bool} {v : Value} (h : BArr w g x) (hg : g ≠ g') : BArr (w.setCell ⟨g', q, none⟩ v) g x :=
  ⟨fun i hi => ⟨by rw [World.cell?_setCell_other _ _ _ _ (addr_ne' (fun e => hg e.symm))]; exact (h.1 i hi).1, by simpa using (h.1 i hi).2⟩, by simpa using h.2⟩
theorem BArr.nine {w : World} {g : Nat} {x : Nat → Bool} (h : BArr w g x) :
    w.cell? ⟨g, 0, none⟩ = some (.bool (x 0)) ∧ w.cell? ⟨g, 1, none⟩ = some (.bool (x 1)) ∧ w.cell? ⟨g, 2, none⟩ = some (.bool (x 2)) ∧ w.cell? ⟨g, 3, none⟩ = some (.bool (x 3)) ∧ w.cell? ⟨g, 4, none⟩ = some (.bool (x 4)) ∧ w.cell? ⟨g, 5, none⟩ = some (.bool (x 5)) ∧ w.cell? ⟨g, 6, none⟩ = some (.bool (x 6)) ∧ w.cell? ⟨g, 7, none⟩ = some (.bool (x 7)) ∧ w.cell? ⟨g, 8, none⟩ = some (.bool (x 8)) :=
  ⟨(h.1 0 (by omega)).1, (h.1 1 (by omega)).1, (h.1 2 (by omega)).1, (h.1 3 (by omega)).1, (h.1 4 (by omega)).1, (h.1 5 (by omega)).1, (h.1 6 (by omega)).1, (h.1 7 (by omega)).1, (h.1 8 (by omega)).1⟩

/-- All nine are alike. -/
def eqB (x y : Nat → Bool) : Nat → Bool
  | 0 => true
  | k + 1 => eqB x y k && x k == y k
theorem eqB_iff (x y : Nat → Bool) : ∀ k, eqB x y k = true ↔ ∀ i, i < k → x i = y i
  | 0 => by simp [eqB]
  | k + 1 => by
    simp only [eqB, Bool.and_eq_true, beq_iff_eq, eqB_iff x y k]
    exact ⟨fun h => upto_succ h.1 h.2, fun h => ⟨fun i hi => h i (by omega), h k (by omega)⟩⟩
theorem info_bool' : ∃ i, Try.prog.info? 4 = some i := by
  obtain ⟨i0, hi, _⟩ := info_parts (show (Try.prog.info? 4).map (fun i => (i.zero, i.size, i.bytes)) = some (some (.bool false), 1, 1) by kernel_rfl)
  exact ⟨i0, hi⟩
theorem part9 (z : Nat → Bool) (w : World) (k : Nat) (hk : k < 9) : (Go.part 4 (nineB z) (k * 1)).run Try.prog w = .ok (.bool (z k)) w := by
  revert hk
  exact upto9 (P := fun k => (Go.part 4 (nineB z) (k * 1)).run Try.prog w = .ok (.bool (z k)) w)
    (by kernel_rfl) (by kernel_rfl) (by kernel_rfl) (by kernel_rfl) (by kernel_rfl) (by kernel_rfl) (by kernel_rfl) (by kernel_rfl) (by kernel_rfl) k
theorem run_items9 (x y : Nat → Bool) (W : World) : ∀ is : List Nat, (∀ k, k ∈ is → k < 9) → (Op.eqItems 9999 4 1 (nineB x) (nineB y) is).run Try.prog W = .ok (is.all fun k => x k == y k) W
  | [], _ => by simp [Op.eqItems]
  | k :: is, h => by
    have pe : ∀ (a b : Bool) (w : World), (Op.equalIn 9999 4 (.bool a) (.bool b)).run Try.prog w = .ok (a == b) w := fun a b w => run_equalIn_bool w 9998 4 a b Try.underlying4
    have hk := h k (by simp)
    have ih := run_items9 x y W is (fun j hj => h j (by simp [hj]))
    rw [Op.eqItems]
    simp only [Sem.run_bind, part9 x W k hk, part9 y W k hk, pe, Result.andThen_ok]
    cases hc : x k == y k <;> simp [ih, hc]
theorem run_eq9 (x y : Nat → Bool) (W : World) : (binOp .eql 96 (.agg #[.bool (x 0), .bool (x 1), .bool (x 2), .bool (x 3), .bool (x 4), .bool (x 5), .bool (x 6), .bool (x 7), .bool (x 8)]) (.agg #[.bool (y 0), .bool (y 1), .bool (y 2), .bool (y 3), .bool (y 4), .bool (y 5), .bool (y 6), .bool (y 7), .bool (y 8)])).run Try.prog W = .ok (.bool (eqB x y 9)) W := by
  obtain ⟨i0, hi⟩ := info_bool'
  have hc : Try.prog.cellsOf 4 = 1 := by kernel_rfl
  rw [run_eql_struct, run_equalIn_array W 9999 _ _ Try.underlying96 hi, hc]
  have := run_items9 x y W (List.range 9) (fun k hk => by simpa using hk)
  simp only [nineB] at this
  rw [this]
  have hr : List.range 9 = [0, 1, 2, 3, 4, 5, 6, 7, 8] := by decide
  simp [hr, eqB, Bool.and_assoc]
end Go.Proofs.Ythbpjmnlgfahmaa
