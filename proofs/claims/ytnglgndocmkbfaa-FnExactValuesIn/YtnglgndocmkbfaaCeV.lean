/- Lists of Cell: their form (RwCell without the law's own functions). -/
import Derived.Test.YtnglgndocmkbfaaMem
import Derived.Test.YtnglgndocmkbfaaOpenE
import Derived.Test.YtnglgndocmkbfaaRwSz
namespace Go.Proofs.Ytnglgndocmkbfaa
open Go.RowKit Go.Deep
set_option linter.unusedVariables false
set_option linter.unusedSimpArgs false

structure CellV where
  f0 : ByteArray
  f1 : ByteArray
  deriving Inhabited
def cellF (V : Nat → CellV) (i j : Nat) : Value := if j = 0 then .string (V i).f0 else .string (V i).f1
theorem cell_cells {w : World} {b off n k : Nat} {V : Nat → CellV} (h : Elems w b off n 2 (cellF V)) (hk : k < n) :
    w.cell? ⟨b, off + k * 2, none⟩ = some (.string (V k).f0) ∧ w.cell? ⟨b, off + k * 2 + 1, none⟩ = some (.string (V k).f1) :=
  ⟨h k hk 0 (by omega), h k hk 1 (by omega)⟩
def CellR (w : World) (g n : Nat) (V : Nat → CellV) : Prop := Elems w g 0 n 2 (cellF V) ∧ Room w g (n * 2) ∧ g < w.heap.size
theorem CellR.sl {w : World} {g n : Nat} {V : Nat → CellV} (h : CellR w g n V) : Sl w (some ⟨g, 0, none⟩) n 2 (cellF V) := Or.inr ⟨g, 0, rfl, h.2.2, h.1⟩
theorem CellR.next {w w' : World} {g n : Nat} {V : Nat → CellV} (h : CellR w g n V) (hb : Below w.heap.size w w') : CellR w' g n V := ⟨h.1.below hb h.2.2, h.2.1.below hb h.2.2, Nat.lt_of_lt_of_le h.2.2 hb.size⟩
theorem info_cell : (Try.prog.info? 138).map (fun i => (i.zero, i.size, i.bytes)) = some (some (.agg #[.string ⟨#[]⟩, .string ⟨#[]⟩]), 2, 32) := by kernel_rfl
end Go.Proofs.Ytnglgndocmkbfaa
