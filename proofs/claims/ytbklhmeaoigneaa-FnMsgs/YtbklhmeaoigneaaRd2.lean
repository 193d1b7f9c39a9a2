/- The contract of readText, and what a block of one message holds. -/
import Derived.Test.YtbklhmeaoigneaaRd
import Derived.Test.YtbklhmeaoigneaaCln
namespace Go.Proofs.Ytbklhmeaoigneaa
open Go.RowKit
set_option linter.unusedVariables false

def b8 (s : ByteArray) (i : Nat) : Nat := (s.data.toList.getD i 0).toNat
theorem b8_eq (s : ByteArray) (i : Nat) (h : i < s.size) : s[i].toNat = b8 s i := by unfold b8; rw [byte_at s i h]
theorem b8_bd (s : ByteArray) (i : Nat) : b8 s i ≤ 255 := by unfold b8; have := (s.data.toList.getD i 0).toNat_lt; omega
theorem ret_three {a b c d e f : Value} (h : a = d) (k : b = e) (l : c = f) : Ending.returned (.tuple #[a, b, c]) = .returned (.tuple #[d, e, f]) := by rw [h, k, l]

set_option maxHeartbeats 1000000 in
theorem readText_yes (s : ByteArray) (p : Nat) (w : World) (hs : s.size ≤ 1048576) (h1 : p < s.size) (h2 : p + 1 + b8 s p ≤ s.size) :
    Calls Try.prog 68 #[.string s, .int .i64 p] w fun r w' => r = .returned (.tuple #[.string (s.extract (p + 1) (p + 1 + b8 s p)), .int .i64 ((p + 1 + b8 s p : Nat) : Int), .bool true]) ∧ Below w.heap.size w w' := by
  have E : Hid (s[p].toNat = b8 s p) := b8_eq s p h1
  have hb := byte_bd s[p]
  have h1' : (p : Int) < (s.size : Int) := by omega
  have h2' : (p : Int) + 1 + (s[p].toNat : Int) ≤ (s.size : Int) := by have := E.out; omega
  clear h2
  go_enter Try.func68, Try.ntmps68
  go_wp2_with fail
  refine (clone_any _ _ (by rw [ByteArray.size_extract]; omega)).mono ?_
  rintro r w1 ⟨rfl, hb1⟩
  have B1 : Hid (Below w.heap.size w w1) := hb1
  clear hb1
  go_wp2
  go_ret3
  exact ⟨ret_three (by rw [← E.out]; rfl) (by rw [← E.out]; go_num) rfl, B1.out⟩
set_option maxHeartbeats 1000000 in
theorem readText_no (s : ByteArray) (p : Nat) (w : World) (hs : s.size ≤ 1048576) (hp : p ≤ 2000000) (h : ¬ (p < s.size ∧ p + 1 + b8 s p ≤ s.size)) :
    Calls Try.prog 68 #[.string s, .int .i64 p] w fun r w' => r = .returned (.tuple #[.string ⟨#[]⟩, .int .i64 0, .bool false]) ∧ Below w.heap.size w w' := by
  by_cases h1 : p < s.size
  · have E : Hid (s[p].toNat = b8 s p) := b8_eq s p h1
    have hb := byte_bd s[p]
    have h1' : (p : Int) < (s.size : Int) := by omega
    have h2' : (s.size : Int) < (p : Int) + 1 + (s[p].toNat : Int) := by have := E.out; omega
    clear h
    go_enter Try.func68, Try.ntmps68
    go_wp2
    go_ret3
    exact ⟨rfl, Below.refl _ _⟩
  · have h1' : ¬ (p : Int) < (s.size : Int) := by omega
    clear h
    go_enter Try.func68, Try.ntmps68
    go_wp2
    go_ret3
    exact ⟨rfl, Below.refl _ _⟩

/-- Block g is one message. -/
def Blk (w : World) (g : Nat) (v0 v1 v2 v3 v4 v5 v6 v7 v8 : Value) : Prop := w.heap[g]? = some (Obj.cells #[v0, v1, v2, v3, v4, v5, v6, v7, v8] 43 (0, 0))
theorem Blk.cells {w : World} {g : Nat} {v0 v1 v2 v3 v4 v5 v6 v7 v8 : Value} (h : Blk w g v0 v1 v2 v3 v4 v5 v6 v7 v8) : w.cell? ⟨g, 0, none⟩ = some v0 ∧ w.cell? ⟨g, 1, none⟩ = some v1 ∧ w.cell? ⟨g, 2, none⟩ = some v2 ∧ w.cell? ⟨g, 3, none⟩ = some v3 ∧ w.cell? ⟨g, 4, none⟩ = some v4 ∧ w.cell? ⟨g, 5, none⟩ = some v5 ∧ w.cell? ⟨g, 6, none⟩ = some v6 ∧ w.cell? ⟨g, 7, none⟩ = some v7 ∧ w.cell? ⟨g, 8, none⟩ = some v8 := by
  refine ⟨?_, ?_, ?_, ?_, ?_, ?_, ?_, ?_, ?_⟩ <;> (rw [Go.Joins.cell_of_block h]; rfl)
theorem Blk.frozen {w : World} {g : Nat} {v0 v1 v2 v3 v4 v5 v6 v7 v8 : Value} (h : Blk w g v0 v1 v2 v3 v4 v5 v6 v7 v8) (j : Nat) : w.frozen? ⟨g, j, none⟩ = false := Go.Joins.unfrozen_of_block h j
theorem Blk.below {w w' : World} {B g : Nat} {v0 v1 v2 v3 v4 v5 v6 v7 v8 : Value} (h : Blk w g v0 v1 v2 v3 v4 v5 v6 v7 v8) (hb : Below B w w') (hg : g < B) : Blk w' g v0 v1 v2 v3 v4 v5 v6 v7 v8 := (hb.block g hg).trans h
theorem Blk.lt {w : World} {g : Nat} {v0 v1 v2 v3 v4 v5 v6 v7 v8 : Value} (h : Blk w g v0 v1 v2 v3 v4 v5 v6 v7 v8) : g < w.heap.size := lt_of_heap h
theorem Blk.other {w : World} {g g' i : Nat} {v0 v1 v2 v3 v4 v5 v6 v7 v8 x : Value} (h : Blk w g v0 v1 v2 v3 v4 v5 v6 v7 v8) (hg : g ≠ g') : Blk (w.setCell ⟨g', i, none⟩ x) g v0 v1 v2 v3 v4 v5 v6 v7 v8 := (Below.heap_setCell w ⟨g', i, none⟩ x g hg).trans h
theorem Blk.drew {w : World} {g : Nat} {v0 v1 v2 v3 v4 v5 v6 v7 v8 : Value} (h : Blk w g v0 v1 v2 v3 v4 v5 v6 v7 v8) : Blk w.drew g v0 v1 v2 v3 v4 v5 v6 v7 v8 := h
theorem Blk.new (w : World) (v0 v1 v2 v3 v4 v5 v6 v7 v8 : Value) : Blk (w.alloc (.cells #[v0, v1, v2, v3, v4, v5, v6, v7, v8] 43)) w.heap.size v0 v1 v2 v3 v4 v5 v6 v7 v8 := heap_new _ _
theorem Blk.new2 (w : World) (o : Obj) (v0 v1 v2 v3 v4 v5 v6 v7 v8 : Value) : Blk ((w.alloc o).alloc (.cells #[v0, v1, v2, v3, v4, v5, v6, v7, v8] 43)) (w.heap.size + 1) v0 v1 v2 v3 v4 v5 v6 v7 v8 := by have := Blk.new (w.alloc o) v0 v1 v2 v3 v4 v5 v6 v7 v8; rwa [World.size_alloc] at this
theorem Blk.alloc {w : World} {g : Nat} {v0 v1 v2 v3 v4 v5 v6 v7 v8 : Value} (h : Blk w g v0 v1 v2 v3 v4 v5 v6 v7 v8) (o : Obj) : Blk (w.alloc o) g v0 v1 v2 v3 v4 v5 v6 v7 v8 := (Below.heap_alloc _ _ _ h.lt).trans h
theorem Blk.set0 {w : World} {g : Nat} {v0 v1 v2 v3 v4 v5 v6 v7 v8 x : Value} (h : Blk w g v0 v1 v2 v3 v4 v5 v6 v7 v8) : Blk (w.setCell ⟨g, 0, none⟩ x) g x v1 v2 v3 v4 v5 v6 v7 v8 := (Go.Joins.block_setCell h x).trans rfl
theorem Blk.set1 {w : World} {g : Nat} {v0 v1 v2 v3 v4 v5 v6 v7 v8 x : Value} (h : Blk w g v0 v1 v2 v3 v4 v5 v6 v7 v8) : Blk (w.setCell ⟨g, 1, none⟩ x) g v0 x v2 v3 v4 v5 v6 v7 v8 := (Go.Joins.block_setCell h x).trans rfl
theorem Blk.set2 {w : World} {g : Nat} {v0 v1 v2 v3 v4 v5 v6 v7 v8 x : Value} (h : Blk w g v0 v1 v2 v3 v4 v5 v6 v7 v8) : Blk (w.setCell ⟨g, 2, none⟩ x) g v0 v1 x v3 v4 v5 v6 v7 v8 := (Go.Joins.block_setCell h x).trans rfl
theorem Blk.set3 {w : World} {g : Nat} {v0 v1 v2 v3 v4 v5 v6 v7 v8 x : Value} (h : Blk w g v0 v1 v2 v3 v4 v5 v6 v7 v8) : Blk (w.setCell ⟨g, 3, none⟩ x) g v0 v1 v2 x v4 v5 v6 v7 v8 := (Go.Joins.block_setCell h x).trans rfl
theorem Blk.set4 {w : World} {g : Nat} {v0 v1 v2 v3 v4 v5 v6 v7 v8 x : Value} (h : Blk w g v0 v1 v2 v3 v4 v5 v6 v7 v8) : Blk (w.setCell ⟨g, 4, none⟩ x) g v0 v1 v2 v3 x v5 v6 v7 v8 := (Go.Joins.block_setCell h x).trans rfl
theorem Blk.set5 {w : World} {g : Nat} {v0 v1 v2 v3 v4 v5 v6 v7 v8 x : Value} (h : Blk w g v0 v1 v2 v3 v4 v5 v6 v7 v8) : Blk (w.setCell ⟨g, 5, none⟩ x) g v0 v1 v2 v3 v4 x v6 v7 v8 := (Go.Joins.block_setCell h x).trans rfl
theorem Blk.set6 {w : World} {g : Nat} {v0 v1 v2 v3 v4 v5 v6 v7 v8 x : Value} (h : Blk w g v0 v1 v2 v3 v4 v5 v6 v7 v8) : Blk (w.setCell ⟨g, 6, none⟩ x) g v0 v1 v2 v3 v4 v5 x v7 v8 := (Go.Joins.block_setCell h x).trans rfl
theorem Blk.set7 {w : World} {g : Nat} {v0 v1 v2 v3 v4 v5 v6 v7 v8 x : Value} (h : Blk w g v0 v1 v2 v3 v4 v5 v6 v7 v8) : Blk (w.setCell ⟨g, 7, none⟩ x) g v0 v1 v2 v3 v4 v5 v6 x v8 := (Go.Joins.block_setCell h x).trans rfl
theorem Blk.set8 {w : World} {g : Nat} {v0 v1 v2 v3 v4 v5 v6 v7 v8 x : Value} (h : Blk w g v0 v1 v2 v3 v4 v5 v6 v7 v8) : Blk (w.setCell ⟨g, 8, none⟩ x) g v0 v1 v2 v3 v4 v5 v6 v7 x := (Go.Joins.block_setCell h x).trans rfl
theorem below_set9 {B g : Nat} {a w : World} {v0 v1 v2 v3 v4 v5 v6 v7 v8 : Value} (h : Below B a w) (hg : B ≤ g) : Below B a (((((((((w.setCell ⟨g, 0, none⟩ v0).setCell ⟨g, 1, none⟩ v1).setCell ⟨g, 2, none⟩ v2).setCell ⟨g, 3, none⟩ v3).setCell ⟨g, 4, none⟩ v4).setCell ⟨g, 5, none⟩ v5).setCell ⟨g, 6, none⟩ v6).setCell ⟨g, 7, none⟩ v7).setCell ⟨g, 8, none⟩ v8) := (((((((((h.setCell (p := ⟨g, 0, none⟩) hg v0).setCell (p := ⟨g, 1, none⟩) hg v1).setCell (p := ⟨g, 2, none⟩) hg v2).setCell (p := ⟨g, 3, none⟩) hg v3).setCell (p := ⟨g, 4, none⟩) hg v4).setCell (p := ⟨g, 5, none⟩) hg v5).setCell (p := ⟨g, 6, none⟩) hg v6).setCell (p := ⟨g, 7, none⟩) hg v7).setCell (p := ⟨g, 8, none⟩) hg v8)
end Go.Proofs.Ytbklhmeaoigneaa
