/- A variable's cells: a block of some values that may be written. No Go text is spoken of here. -/
import Derived.Test.YtkpobihpcnoemaaDoorGaK
namespace Go.Proofs.YtkpobihpcnoemaaDoor
open Go.RowKit
set_option linter.unusedVariables false

/-- Block g holds these values, and may be written. -/
def Bx (w : World) (g : Nat) (vs : List Value) : Prop := (∀ j, j < vs.length → w.cell? ⟨g, j, none⟩ = vs[j]? ∧ w.frozen? ⟨g, j, none⟩ = false) ∧ g < w.heap.size
theorem Bx.new (w : World) (vs : List Value) (t : TypeId) : Bx (w.alloc (.cells vs.toArray t)) w.heap.size vs := by
  refine ⟨fun j hj => ⟨?_, ?_⟩, by simp⟩
  · have := cells_new w vs t j vs[j] (by simp [hj])
    rw [show ((⟨w.heap.size, 0, none⟩ : Addr).add j) = ⟨w.heap.size, j, none⟩ by unfold Addr.add; split <;> simp_all] at this
    rw [this]; simp [hj]
  · simp
theorem Bx.next {w w' : World} {g : Nat} {vs : List Value} (h : Bx w g vs) (hb : Below w.heap.size w w') : Bx w' g vs :=
  ⟨fun j hj => ⟨(hb.cell (p := ⟨g, j, none⟩) h.2).trans (h.1 j hj).1, (hb.frozen (p := ⟨g, j, none⟩) h.2).trans (h.1 j hj).2⟩, Nat.lt_of_lt_of_le h.2 hb.size⟩
theorem Bx.alloc {w : World} {g : Nat} {vs : List Value} (h : Bx w g vs) (o : Obj) : Bx (w.alloc o) g vs := h.next (Go.Joins.below_alloc1 _ _)
theorem Bx.trn {w w' : World} {B C g : Nat} {vs : List Value} (h : Bx w g vs) (ht : Trn B C w w') (ha : g < B ∨ C ≤ g) : Bx w' g vs :=
  ⟨fun j hj => ⟨(World.cell?_of_block (a := ⟨g, j, none⟩) (ht.2.2.2.2 g h.2 ha)).trans (h.1 j hj).1, (World.frozen?_of_block (a := ⟨g, j, none⟩) (ht.2.2.2.2 g h.2 ha)).trans (h.1 j hj).2⟩, Nat.lt_of_lt_of_le h.2 ht.2.2.2.1⟩
theorem Bx.other {w : World} {g g' q : Nat} {v : Value} {vs : List Value} (h : Bx w g vs) (hg : g ≠ g') : Bx (w.setCell ⟨g', q, none⟩ v) g vs :=
  ⟨fun j hj => ⟨by rw [World.cell?_setCell_other _ _ _ _ (addr_ne' (fun e => hg e.symm))]; exact (h.1 j hj).1, by simpa using (h.1 j hj).2⟩, by simpa using h.2⟩
theorem Bx.set {w : World} {g k : Nat} {vs : List Value} (h : Bx w g vs) (hk : k < vs.length) (v : Value) : Bx (w.setCell ⟨g, k, none⟩ v) g (vs.set k v) := by
  refine ⟨fun j hj => ⟨?_, by simp at hj; simpa using (h.1 j hj).2⟩, by simpa using h.2⟩
  simp at hj
  by_cases e : k = j
  · subst e
    have h1 := (h.1 k hk).1
    rw [List.getElem?_eq_getElem hk] at h1
    rw [World.cell?_setCell_same _ _ _ h1]; simp [hk]
  · rw [World.cell?_setCell_other _ _ _ _ (addr_ne e), (h.1 j hj).1, List.getElem?_set_ne e]
theorem Bx.cell {w : World} {g : Nat} {vs : List Value} (h : Bx w g vs) (j : Nat) {v : Value} (hv : vs[j]? = some v) : w.cell? ⟨g, j, none⟩ = some v := by
  have hj : j < vs.length := by
    rcases Nat.lt_or_ge j vs.length with g | g
    · exact g
    · rw [List.getElem?_eq_none g] at hv; cases hv
  rw [(h.1 j hj).1, hv]
theorem Bx.frz {w : World} {g : Nat} {vs : List Value} (h : Bx w g vs) (j : Nat) (hj : j < vs.length) : w.frozen? ⟨g, j, none⟩ = false := (h.1 j hj).2
end Go.Proofs.YtkpobihpcnoemaaDoor
