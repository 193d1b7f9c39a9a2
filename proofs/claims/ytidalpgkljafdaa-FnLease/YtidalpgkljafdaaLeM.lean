/- Leases: sizes and marks of what is answered. No Go text is spoken of here. -/
import Derived.Test.YtidalpgkljafdaaShC
import Derived.Test.YtidalpgkljafdaaNtS
namespace Go.Proofs.Ytidalpgkljafdaa
open Go.RowKit
set_option linter.unusedVariables false

theorem small_lea : Small shLeases := ⟨trivial, trivial, ⟨by decide, trivial⟩, trivial, trivial, ⟨by decide, trivial⟩, trivial⟩
theorem cnt_lea {sk nw : Int} {cl : List (Sh.T .int)} {ho un : Int} {kn : List (Sh.T .int)} (h : szD shLeases (sk, nw, cl, ho, un, kn, ()) ≤ 1073741824) : cntT shLeases (sk, nw, cl, ho, un, kn, ()) ≤ 100000000000 := by
  have h1 := cntT_le shLeases (sk, nw, cl, ho, un, kn, ())
  have h2 := cnt_le shLeases (sk, nw, cl, ho, un, kn, ()) small_lea
  have h3 : shLeases.c = 6 := rfl
  omega
theorem cnt_ints {l : List (Sh.T .int)} (h : szD (.list .int) l ≤ 1073741824) : cntD (.list .int) l ≤ 100000000000 := by
  have h2 := cnt_le (.list .int) l ⟨by decide, trivial⟩
  have h3 : Sh.c (.list .int) = 1 := rfl
  omega
theorem sz_int_list (l : List (Sh.T .int)) : szD (.list .int) l = l.length := by
  have e : szD (.list .int) l = l.length + (l.map (szD .int)).sum := rfl
  have h : (l.map (szD .int)).sum = 0 := by
    induction l with
    | nil => rfl
    | cons x t ih => rw [List.map_cons, List.sum_cons, ih rfl]; rfl
  omega
theorem sz_lea (sk nw : Int) (cl : List (Sh.T .int)) (ho un : Int) (kn : List (Sh.T .int)) : szD shLeases (sk, nw, cl, ho, un, kn, ()) = cl.length + kn.length := by
  have e : szD shLeases (sk, nw, cl, ho, un, kn, ()) = 0 + (0 + (szD (.list .int) cl + (0 + (0 + (szD (.list .int) kn + 0))))) := rfl
  rw [e, sz_int_list, sz_int_list]; omega
end Go.Proofs.Ytidalpgkljafdaa
