/- A vector of six numbers: as a value, as a block of six cells; the contracts of greaterOnes, lesserOnes, vectorFrom. -/
import Derived.Test.YtjophhiccbkpjaaProg
import Derived.Test.YtjophhiccbkpjaaMem
import Derived.Deep.RegionWith
import Derived.Deep.DeepCutAuto
namespace Go.Proofs.Ytjophhiccbkpjaa
open Go.RowKit
set_option linter.unusedVariables false

/-- Six numbers as one value. -/
def vec (x : Nat → Int) : Value := .agg #[.int .i64 (x 0), .int .i64 (x 1), .int .i64 (x 2), .int .i64 (x 3), .int .i64 (x 4), .int .i64 (x 5)]
theorem vec_congr {x y : Nat → Int} (h : ∀ i, i < 6 → x i = y i) : vec x = vec y := by
  simp [vec, h 0 (by omega), h 1 (by omega), h 2 (by omega), h 3 (by omega), h 4 (by omega), h 5 (by omega)]
/-- Block g holds six numbers and may be written. -/
def Vec (w : World) (g : Nat) (x : Nat → Int) : Prop := (∀ i, i < 6 → w.cell? ⟨g, i, none⟩ = some (.int .i64 (x i)) ∧ w.frozen? ⟨g, i, none⟩ = false) ∧ g < w.heap.size
theorem Vec.below {B : Nat} {w w' : World} {g : Nat} {x : Nat → Int} (h : Vec w g x) (hb : Below B w w') (hg : g < B) : Vec w' g x :=
  ⟨fun i hi => ⟨(hb.cell (p := ⟨g, i, none⟩) hg).trans (h.1 i hi).1, (hb.frozen (p := ⟨g, i, none⟩) hg).trans (h.1 i hi).2⟩, Nat.lt_of_lt_of_le h.2 hb.size⟩
theorem Vec.congr {w : World} {g : Nat} {x y : Nat → Int} (h : Vec w g x) (e : ∀ i, i < 6 → x i = y i) : Vec w g y :=
  ⟨fun i hi => ⟨by rw [← e i hi]; exact (h.1 i hi).1, (h.1 i hi).2⟩, h.2⟩
theorem upto6 {P : Nat → Prop} (h0 : P 0) (h1 : P 1) (h2 : P 2) (h3 : P 3) (h4 : P 4) (h5 : P 5) : ∀ i, i < 6 → P i := by
  intro i hi
  match i, hi with
  | 0, _ => exact h0
  | 1, _ => exact h1
  | 2, _ => exact h2
  | 3, _ => exact h3
  | 4, _ => exact h4
  | 5, _ => exact h5
theorem Vec.new (w : World) (x : Nat → Int) (t : TypeId) : Vec (w.alloc (.cells #[.int .i64 (x 0), .int .i64 (x 1), .int .i64 (x 2), .int .i64 (x 3), .int .i64 (x 4), .int .i64 (x 5)] t)) w.heap.size x :=
  ⟨upto6 ⟨by simp, by simp⟩ ⟨by simp, by simp⟩ ⟨by simp, by simp⟩ ⟨by simp, by simp⟩ ⟨by simp, by simp⟩ ⟨by simp, by simp⟩, by simp⟩
theorem Vec.set {w : World} {g k : Nat} {x : Nat → Int} (h : Vec w g x) (hk : k < 6) (n : Int) : Vec (w.setCell ⟨g, k, none⟩ (.int .i64 n)) g (fun i => if i = k then n else x i) := by
  refine ⟨fun i hi => ⟨?_, by simpa using (h.1 i hi).2⟩, by simpa using h.2⟩
  by_cases e : i = k
  · subst e; simp only [if_true]; exact World.cell?_setCell_same _ _ _ (h.1 i hi).1
  · rw [World.cell?_setCell_other _ _ _ _ (addr_ne (fun q => e q.symm))]; simp only [if_neg e]; exact (h.1 i hi).1
theorem Vec.setOther {w : World} {g g' q : Nat} {x : Nat → Int} {v : Value} (h : Vec w g x) (hg : g ≠ g') : Vec (w.setCell ⟨g', q, none⟩ v) g x :=
  ⟨fun i hi => ⟨by rw [World.cell?_setCell_other _ _ _ _ (addr_ne' (fun e => hg e.symm))]; exact (h.1 i hi).1, by simpa using (h.1 i hi).2⟩, by simpa using h.2⟩
theorem Vec.six {w : World} {g : Nat} {x : Nat → Int} (h : Vec w g x) :
    (w.cell? ⟨g, 0, none⟩ = some (.int .i64 (x 0)) ∧ w.cell? ⟨g, 1, none⟩ = some (.int .i64 (x 1)) ∧ w.cell? ⟨g, 2, none⟩ = some (.int .i64 (x 2)) ∧ w.cell? ⟨g, 3, none⟩ = some (.int .i64 (x 3)) ∧ w.cell? ⟨g, 4, none⟩ = some (.int .i64 (x 4)) ∧ w.cell? ⟨g, 5, none⟩ = some (.int .i64 (x 5))) ∧
    (w.frozen? ⟨g, 0, none⟩ = false ∧ w.frozen? ⟨g, 1, none⟩ = false ∧ w.frozen? ⟨g, 2, none⟩ = false ∧ w.frozen? ⟨g, 3, none⟩ = false ∧ w.frozen? ⟨g, 4, none⟩ = false ∧ w.frozen? ⟨g, 5, none⟩ = false) :=
  ⟨⟨(h.1 0 (by omega)).1, (h.1 1 (by omega)).1, (h.1 2 (by omega)).1, (h.1 3 (by omega)).1, (h.1 4 (by omega)).1, (h.1 5 (by omega)).1⟩,
   ⟨(h.1 0 (by omega)).2, (h.1 1 (by omega)).2, (h.1 2 (by omega)).2, (h.1 3 (by omega)).2, (h.1 4 (by omega)).2, (h.1 5 (by omega)).2⟩⟩
theorem vec_index (x : Nat → Int) (k : Nat) (hk : k < 6) (w : World) : (Instr.index 73 (.agg #[.int .i64 (x 0), .int .i64 (x 1), .int .i64 (x 2), .int .i64 (x 3), .int .i64 (x 4), .int .i64 (x 5)]) (.int .i64 k)).run Try.prog w = .ok (.int .i64 (x k)) w := by
  revert hk
  exact upto6 (P := fun k => (Instr.index 73 (.agg #[.int .i64 (x 0), .int .i64 (x 1), .int .i64 (x 2), .int .i64 (x 3), .int .i64 (x 4), .int .i64 (x 5)]) (.int .i64 k)).run Try.prog w = .ok (.int .i64 (x k)) w)
    (by kernel_rfl) (by kernel_rfl) (by kernel_rfl) (by kernel_rfl) (by kernel_rfl) (by kernel_rfl) k

theorem max_gt {a b : Int} (h : a < b) : b = max a b := by omega
theorem max_ngt {a b : Int} (h : ¬ a < b) : a = max a b := by omega
theorem min_gt {a b : Int} (h : b < a) : b = min a b := by omega
theorem min_ngt {a b : Int} (h : ¬ b < a) : a = min a b := by omega
/-- The first k numbers are done. -/
def part (f : Int → Int → Int) (x y : Nat → Int) (k i : Nat) : Int := if i < k then f (x i) (y i) else x i
theorem part_step (f : Int → Int → Int) (x y : Nat → Int) (k : Nat) {n : Int} (hn : n = f (x k) (y k)) : ∀ i, i < 6 → (if i = k then n else part f x y k i) = part f x y (k + 1) i := by
  intro i _
  simp only [part]
  by_cases e : i = k
  · subst e; simp [hn]
  · by_cases e2 : i < k
    · rw [if_neg e, if_pos e2, if_pos (by omega)]
    · rw [if_neg e, if_neg e2, if_neg (by omega)]
theorem part_full (f : Int → Int → Int) (x y : Nat → Int) : ∀ i, i < 6 → part f x y 6 i = f (x i) (y i) := fun i hi => by simp [part, hi]

set_option maxHeartbeats 1000000 in
theorem greater_any (x y : Nat → Int) (w : World) :
    Calls Try.prog 63 #[vec x, vec y] w fun r w' => r = .returned (vec fun i => max (x i) (y i)) ∧ Below w.heap.size w w' := by
  unfold vec
  go_enter Try.func63, Try.ntmps63
  go_wp2
  go_loopw [8] (fun i wr => ∃ k : Nat, k ≤ 6 ∧ i = .int .i64 k ∧ Vec wr w.heap.size (part max x y k) ∧ Vec wr (w.heap.size + 1 + 1) (fun _ => 0) ∧ Below w.heap.size w wr) (fun i _ => 6 - (intOf i).toNat)
  case atStart =>
    have v1 := Vec.new w x 73
    have b1 := Go.Joins.below_alloc1 (w.alloc (.cells #[.int .i64 (x 0), .int .i64 (x 1), .int .i64 (x 2), .int .i64 (x 3), .int .i64 (x 4), .int .i64 (x 5)] 73)) (.cells #[.int .i64 (y 0), .int .i64 (y 1), .int .i64 (y 2), .int .i64 (y 3), .int .i64 (y 4), .int .i64 (y 5)] 73)
    have v2 := (v1.below b1 (by simp)).below (Go.Joins.below_alloc1 _ (.cells #[.int .i64 0, .int .i64 0, .int .i64 0, .int .i64 0, .int .i64 0, .int .i64 0] 73)) (by simp; omega)
    refine ⟨0, Nat.zero_le _, rfl, v2.congr (fun i _ => by simp [part]), ?_, (by repeat (first | refine Below.setCell ?_ (by (try simp) <;> omega) _ | refine Below.alloc ?_ (by (try simp) <;> omega) _ | refine Below.drew ?_ | assumption | exact Below.refl _ _ | refine Below.trans ?_ (Below.mono (by assumption) (by (try simp) <;> omega))))⟩
    have := Vec.new ((w.alloc (.cells #[.int .i64 (x 0), .int .i64 (x 1), .int .i64 (x 2), .int .i64 (x 3), .int .i64 (x 4), .int .i64 (x 5)] 73)).alloc (.cells #[.int .i64 (y 0), .int .i64 (y 1), .int .i64 (y 2), .int .i64 (y 3), .int .i64 (y 4), .int .i64 (y 5)] 73)) (fun _ => 0) 73
    simpa using this
  case round =>
    obtain ⟨k, hk, rfl, h2, h4, hBr⟩ := hrel
    by_cases hlt : k < 6
    · have hlt' : (k : Int) < 6 := by omega
      have hi := vec_index y k hlt
      have hc : wr.cell? ⟨w.heap.size, k, none⟩ = some (.int .i64 (x k)) := by have := (h2.1 k hlt).1; simpa [part] using this
      have hf := (h2.1 k hlt).2
      have HH : Hid (Vec wr w.heap.size (part max x y k) ∧ Vec wr (w.heap.size + 1 + 1) (fun _ => 0) ∧ Below w.heap.size w wr) := ⟨h2, h4, hBr⟩
      clear h2 h4 hBr
      by_cases hm : x k < y k
      · go_wp2
        go_roundw
        case rel => exact ⟨k + 1, by omega, by go_num, (HH.out.1.set hlt _).congr (part_step max x y k (max_gt hm)), HH.out.2.1.setOther (by omega), HH.out.2.2.setCell (p := ⟨w.heap.size, k, none⟩) (by simp) _⟩
        case measure => simp [intOf]; omega
      · go_wp2
        go_roundw
        case rel => exact ⟨k + 1, by omega, by go_num, (HH.out.1.set hlt _).congr (part_step max x y k (max_ngt hm)), HH.out.2.1.setOther (by omega), HH.out.2.2.setCell (p := ⟨w.heap.size, k, none⟩) (by simp) _⟩
        case measure => simp [intOf]; omega
    · have hk6 : k = 6 := by omega
      subst hk6
      obtain ⟨⟨c0, c1, c2, c3, c4, c5⟩, _⟩ := (h2.congr (part_full max x y)).six
      obtain ⟨⟨d0, d1, d2, d3, d4, d5⟩, f0, f1, f2, f3, f4, f5⟩ := h4.six
      have HB : Hid (Below w.heap.size w wr) := hBr
      clear h2 h4 hBr
      go_wp2
      have hb := HB.out
      exact bodyPost_ret (v := vec fun i => max (x i) (y i)) (by simp [results, Try.results63, go_sem, vec, d0, d1, d2, d3, d4, d5]) rfl ⟨rfl, (by repeat (first | refine Below.setCell ?_ (by (try simp) <;> omega) _ | refine Below.alloc ?_ (by (try simp) <;> omega) _ | refine Below.drew ?_ | assumption | exact Below.refl _ _ | refine Below.trans ?_ (Below.mono (by assumption) (by (try simp) <;> omega))))⟩

set_option maxHeartbeats 1000000 in
theorem lesser_any (x y : Nat → Int) (w : World) :
    Calls Try.prog 69 #[vec x, vec y] w fun r w' => r = .returned (vec fun i => min (x i) (y i)) ∧ Below w.heap.size w w' := by
  unfold vec
  go_enter Try.func69, Try.ntmps69
  go_wp2
  go_loopw [8] (fun i wr => ∃ k : Nat, k ≤ 6 ∧ i = .int .i64 k ∧ Vec wr w.heap.size (part min x y k) ∧ Vec wr (w.heap.size + 1 + 1) (fun _ => 0) ∧ Below w.heap.size w wr) (fun i _ => 6 - (intOf i).toNat)
  case atStart =>
    have v1 := Vec.new w x 73
    have b1 := Go.Joins.below_alloc1 (w.alloc (.cells #[.int .i64 (x 0), .int .i64 (x 1), .int .i64 (x 2), .int .i64 (x 3), .int .i64 (x 4), .int .i64 (x 5)] 73)) (.cells #[.int .i64 (y 0), .int .i64 (y 1), .int .i64 (y 2), .int .i64 (y 3), .int .i64 (y 4), .int .i64 (y 5)] 73)
    have v2 := (v1.below b1 (by simp)).below (Go.Joins.below_alloc1 _ (.cells #[.int .i64 0, .int .i64 0, .int .i64 0, .int .i64 0, .int .i64 0, .int .i64 0] 73)) (by simp; omega)
    refine ⟨0, Nat.zero_le _, rfl, v2.congr (fun i _ => by simp [part]), ?_, (by repeat (first | refine Below.setCell ?_ (by (try simp) <;> omega) _ | refine Below.alloc ?_ (by (try simp) <;> omega) _ | refine Below.drew ?_ | assumption | exact Below.refl _ _ | refine Below.trans ?_ (Below.mono (by assumption) (by (try simp) <;> omega))))⟩
    have := Vec.new ((w.alloc (.cells #[.int .i64 (x 0), .int .i64 (x 1), .int .i64 (x 2), .int .i64 (x 3), .int .i64 (x 4), .int .i64 (x 5)] 73)).alloc (.cells #[.int .i64 (y 0), .int .i64 (y 1), .int .i64 (y 2), .int .i64 (y 3), .int .i64 (y 4), .int .i64 (y 5)] 73)) (fun _ => 0) 73
    simpa using this
  case round =>
    obtain ⟨k, hk, rfl, h2, h4, hBr⟩ := hrel
    by_cases hlt : k < 6
    · have hlt' : (k : Int) < 6 := by omega
      have hi := vec_index y k hlt
      have hc : wr.cell? ⟨w.heap.size, k, none⟩ = some (.int .i64 (x k)) := by have := (h2.1 k hlt).1; simpa [part] using this
      have hf := (h2.1 k hlt).2
      have HH : Hid (Vec wr w.heap.size (part min x y k) ∧ Vec wr (w.heap.size + 1 + 1) (fun _ => 0) ∧ Below w.heap.size w wr) := ⟨h2, h4, hBr⟩
      clear h2 h4 hBr
      by_cases hm : y k < x k
      · go_wp2
        go_roundw
        case rel => exact ⟨k + 1, by omega, by go_num, (HH.out.1.set hlt _).congr (part_step min x y k (min_gt hm)), HH.out.2.1.setOther (by omega), HH.out.2.2.setCell (p := ⟨w.heap.size, k, none⟩) (by simp) _⟩
        case measure => simp [intOf]; omega
      · go_wp2
        go_roundw
        case rel => exact ⟨k + 1, by omega, by go_num, (HH.out.1.set hlt _).congr (part_step min x y k (min_ngt hm)), HH.out.2.1.setOther (by omega), HH.out.2.2.setCell (p := ⟨w.heap.size, k, none⟩) (by simp) _⟩
        case measure => simp [intOf]; omega
    · have hk6 : k = 6 := by omega
      subst hk6
      obtain ⟨⟨c0, c1, c2, c3, c4, c5⟩, _⟩ := (h2.congr (part_full min x y)).six
      obtain ⟨⟨d0, d1, d2, d3, d4, d5⟩, f0, f1, f2, f3, f4, f5⟩ := h4.six
      have HB : Hid (Below w.heap.size w wr) := hBr
      clear h2 h4 hBr
      go_wp2
      have hb := HB.out
      exact bodyPost_ret (v := vec fun i => min (x i) (y i)) (by simp [results, Try.results69, go_sem, vec, d0, d1, d2, d3, d4, d5]) rfl ⟨rfl, (by repeat (first | refine Below.setCell ?_ (by (try simp) <;> omega) _ | refine Below.alloc ?_ (by (try simp) <;> omega) _ | refine Below.drew ?_ | assumption | exact Below.refl _ _ | refine Below.trans ?_ (Below.mono (by assumption) (by (try simp) <;> omega))))⟩
end Go.Proofs.Ytjophhiccbkpjaa
