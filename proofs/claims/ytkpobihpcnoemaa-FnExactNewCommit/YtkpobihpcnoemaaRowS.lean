/- A list of numbers that stands through the calls of a law. -/
import Derived.Test.YtkpobihpcnoemaaInts
namespace Go.Proofs.Ytkpobihpcnoemaa
open Go.RowKit
set_option linter.unusedVariables false
def RowS (w : World) (B C : Nat) (a : Option Addr) (n : Nat) (X : Nat → Int) : Prop := IntS w B C a n X ∧ C ≤ w.heap.size
theorem RowS.next {w w' : World} {B C : Nat} {a : Option Addr} {n : Nat} {X : Nat → Int} (h : RowS w B C a n X) (hb : Below w.heap.size w w') : RowS w' B C a n X := ⟨h.1.below hb h.2, Nat.le_trans h.2 hb.size⟩
theorem RowS.turn {w w' : World} {B C B' C' : Nat} {a : Option Addr} {n : Nat} {X : Nat → Int} (h : RowS w B C a n X) (ht : Turned B' C' w w') (ha : C ≤ B' ∨ C' ≤ B) : RowS w' B C a n X := ⟨ht.ints h.1 ha, Nat.le_trans h.2 ht.2.2.2.1⟩
theorem RowS.sl {w : World} {B C : Nat} {a : Option Addr} {n : Nat} {X : Nat → Int} (h : RowS w B C a n X) : Sl w a n 1 (intF X) := h.1.sl
theorem RowS.of {w : World} {B : Nat} {a : Option Addr} {n : Nat} {X : Nat → Int} (h : IntS w B w.heap.size a n X) : RowS w B w.heap.size a n X := ⟨h, Nat.le_refl _⟩
/-- What came in is as it was. -/
theorem below_next {b w w' : World} (h : Below b.heap.size b w) (hb : Below w.heap.size w w') : Below b.heap.size b w' := h.trans (hb.mono h.size)
theorem below_turn {b w w' : World} {B C : Nat} (h : Below b.heap.size b w) (ht : Turned B C w w') (hB : b.heap.size ≤ B) : Below b.heap.size b w' := h.trans (ht.below hB h.size)
theorem Sl.kept {b w : World} {a : Option Addr} {n c : Nat} {F : Nat → Nat → Value} (h : Sl b a n c F) (hb : Below b.heap.size b w) : Sl w a n c F := h.below hb (Nat.le_refl _)
theorem Hid.intro {p : Prop} (h : p) : Hid p := h
/-- One cell that stands. -/
def BoxS (w : World) (g : Nat) (v : Value) : Prop := w.cell? ⟨g, 0, none⟩ = some v ∧ g < w.heap.size
theorem BoxS.next {w w' : World} {g : Nat} {v : Value} (h : BoxS w g v) (hb : Below w.heap.size w w') : BoxS w' g v := ⟨(hb.cell (p := ⟨g, 0, none⟩) h.2).trans h.1, Nat.lt_of_lt_of_le h.2 hb.size⟩
theorem BoxS.turn {w w' : World} {B C g : Nat} {v : Value} (h : BoxS w g v) (ht : Turned B C w w') (ha : g < B ∨ C ≤ g) : BoxS w' g v := ⟨(World.cell?_of_block (a := ⟨g, 0, none⟩) (ht.2.2.2.2 g h.2 ha)).trans h.1, Nat.lt_of_lt_of_le h.2 ht.2.2.2.1⟩
theorem BoxS.new (w : World) (v : Value) (t : TypeId) : BoxS (w.alloc (.cells #[v] t)) w.heap.size v := ⟨by simp, by simp⟩
/-- A draw leaves all as it is. -/
theorem below_drew (w : World) : Below w.heap.size w w.drew := (Below.refl _ _).drew
end Go.Proofs.Ytkpobihpcnoemaa
