/- slices.SortFunc of no pairs. -/
import Derived.Shelf.SlSortCmp.NoneTotal
import Derived.Test.YtnapgnkhajkbkaaSoP
namespace Go.Proofs
open Go.Shelf Go.RowKit Go.Lib Go.Sort
theorem Try.sortPairs_none (p : Option Addr) (cap : Nat) (fv : Value) (w : World) :
    Calls Try.prog 46 #[.slice p 0 cap, fv] w fun e w' => e = .returned (.tuple #[]) ∧ w' = w := AnyF.slices_SortFunc_none Try.sortPr p cap fv w
end Go.Proofs
