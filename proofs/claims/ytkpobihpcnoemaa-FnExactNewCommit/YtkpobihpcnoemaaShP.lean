/- What the law's own functions on shapes answer. -/
import Derived.Test.YtkpobihpcnoemaaSh
import Derived.Test.YtkpobihpcnoemaaBx
import Derived.Test.YtkpobihpcnoemaaRowS
namespace Go.Proofs.Ytkpobihpcnoemaa
open Go.RowKit
set_option linter.unusedVariables false

theorem Bx.newAt {w : World} {g : Nat} {vs : List Value} {t : TypeId} (h : w.heap.size = g) : Bx (w.alloc (.cells vs.toArray t)) g vs := h ▸ Bx.new w vs t
/-- A struct is made anew. -/
def ToP (s : Sh) (x : s.T) (w : World) (r : Ending) (w' : World) : Prop := ∃ cs : List Value, r = .returned (.agg cs.toArray) ∧ Own w' s cs x (Btw w.heap.size w'.heap.size) ∧ Below w.heap.size w w'
/-- A list is made anew. -/
def ToL (e : Sh) (l : List e.T) (w : World) (r : Ending) (w' : World) : Prop :=
  ∃ g, r = .returned (.slice (some ⟨g, 0, none⟩) l.length l.length) ∧ Own w' (.list e) [.slice (some ⟨g, 0, none⟩) l.length l.length] l (Btw w.heap.size w'.heap.size) ∧ Below w.heap.size w w'
end Go.Proofs.Ytkpobihpcnoemaa
