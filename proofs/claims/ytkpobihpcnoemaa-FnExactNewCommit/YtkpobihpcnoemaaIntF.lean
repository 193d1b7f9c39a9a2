/- A list of numbers, cell by cell. -/
import Derived.Test.YtkpobihpcnoemaaIn
import Derived.Test.YtkpobihpcnoemaaMem
import Derived.Deep.RegionWith
import Derived.Deep.DeepCutAuto
namespace Go.Proofs.Ytkpobihpcnoemaa
open Go.RowKit
set_option linter.unusedVariables false
def intF (X : Nat → Int) (i _ : Nat) : Value := .int .i64 (X i)
theorem int_cell {w : World} {b off n k : Nat} {X : Nat → Int} (h : Elems w b off n 1 (intF X)) (hk : k < n) : w.cell? ⟨b, off + k, none⟩ = some (.int .i64 (X k)) := by
  have := h k hk 0 (by omega); simpa [intF] using this
end Go.Proofs.Ytkpobihpcnoemaa
