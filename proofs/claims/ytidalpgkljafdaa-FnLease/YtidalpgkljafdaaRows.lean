/-
  No cell of these rows narrows 'for every input' (looked for: loops, veiled, ifaces, maps, wideKeys, modest, calm, conditions, laid).
  DERIVED. THE GIVEN ROWS OF THIS SEAT. 7 by the template 'for every input the law returns true; each argument reads behind the call as it read before'; 0 by the template 'total and deterministic' (their statements: YtidalpgkljafdaaTotals.lean).
  GIVEN WITH THE SEED: the statements are not yours to turn. If you find one false, say at which input.
  Laid BY PROGRAM, IN A SANDBOX (cutbox-rows.mjs): the forced cells as the released guide's own fill.sh prints them over the translation 80424fc680024557… (all of the seat's roots in one cut). By AI agents, Wed Nov 11 2026. No macro, syntax, notation, axiom, sorry.
-/
import Derived.Test.YtidalpgkljafdaaChecked
import GoSem.Claim
import GoSem.ClaimJoined
import GoSem.ClaimMapViews
import Derived.JoinedTies
import Derived.KernelRfl
namespace Go.Proofs.Ytidalpgkljafdaa
/- THE CELL 'sum', in the pinned program and in every row, IS THE sha256 OF THE DUMP (.gsa) THAT YtidalpgkljafdaaProg.lean LOADS. Nothing in Lean hashes anything: it is a label: what it is worth is what the hold of that sum in a sandbox is worth. -/
noncomputable def Try.pinned : Pinned := { name := "ytidalpgkljafdaa", sum := "80424fc6800245572c034d8f5f4f1ac1a7cc9235d663aff6f05c911ab1e06da7", checked := Try.checked }
namespace Rows
def none {H : Type} : Left H := { results := [], args := [] }

/-- 'laws.FnLease': WHATEVER THE INPUT: true; the input reads as it did. -/
def fnLeaseSpec : ChangeSpec := { name := "fnLease", fn := fun _ => fun
  | [d1, d2] => { results := [.lit (.bool true)], args := [d1, d2] }
  | _ => none }
def fnLeaseRow : OpenClaim := { program := "ytidalpgkljafdaa", sum := "80424fc6800245572c034d8f5f4f1ac1a7cc9235d663aff6f05c911ab1e06da7", func := "loop.example/g00218/laws.FnLease", spec := "fnLease", apart := false }
def FnLeaseSaid : Prop := fnLeaseRow.holds Try.pinned (OpenSpec.ofChange fnLeaseSpec)

/-- ITS FALSE NEIGHBOUR: 'it returns false'. Refute it at one input. -/
def fnLeaseWrong : ChangeSpec := { name := "fnLease", fn := fun _ => fun
  | [d1, d2] => { results := [.lit (.bool false)], args := [d1, d2] }
  | _ => none }
def FnLeaseWrongFalsely : Prop := fnLeaseRow.holds Try.pinned (OpenSpec.ofChange fnLeaseWrong)

/-- 'laws.FnExactNewLeases': WHATEVER THE INPUT: true; the input reads as it did. -/
def fnExactNewLeasesSpec : ChangeSpec := { name := "fnExactNewLeases", fn := fun _ => fun
  | [d1, d2] => { results := [.lit (.bool true)], args := [d1, d2] }
  | _ => none }
def fnExactNewLeasesRow : OpenClaim := { program := "ytidalpgkljafdaa", sum := "80424fc6800245572c034d8f5f4f1ac1a7cc9235d663aff6f05c911ab1e06da7", func := "loop.example/g00218/laws.FnExactNewLeases", spec := "fnExactNewLeases", apart := false }
def FnExactNewLeasesSaid : Prop := fnExactNewLeasesRow.holds Try.pinned (OpenSpec.ofChange fnExactNewLeasesSpec)

/-- ITS FALSE NEIGHBOUR: 'it returns false'. Refute it at one input. -/
def fnExactNewLeasesWrong : ChangeSpec := { name := "fnExactNewLeases", fn := fun _ => fun
  | [d1, d2] => { results := [.lit (.bool false)], args := [d1, d2] }
  | _ => none }
def FnExactNewLeasesWrongFalsely : Prop := fnExactNewLeasesRow.holds Try.pinned (OpenSpec.ofChange fnExactNewLeasesWrong)

/-- 'laws.FnExactGoodLeases': WHATEVER THE INPUT: true; the input reads as it did. -/
def fnExactGoodLeasesSpec : ChangeSpec := { name := "fnExactGoodLeases", fn := fun _ => fun
  | [d] => { results := [.lit (.bool true)], args := [d] }
  | _ => none }
def fnExactGoodLeasesRow : OpenClaim := { program := "ytidalpgkljafdaa", sum := "80424fc6800245572c034d8f5f4f1ac1a7cc9235d663aff6f05c911ab1e06da7", func := "loop.example/g00218/laws.FnExactGoodLeases", spec := "fnExactGoodLeases", apart := false }
def FnExactGoodLeasesSaid : Prop := fnExactGoodLeasesRow.holds Try.pinned (OpenSpec.ofChange fnExactGoodLeasesSpec)

/-- ITS FALSE NEIGHBOUR: 'it returns false'. Refute it at one input. -/
def fnExactGoodLeasesWrong : ChangeSpec := { name := "fnExactGoodLeases", fn := fun _ => fun
  | [d] => { results := [.lit (.bool false)], args := [d] }
  | _ => none }
def FnExactGoodLeasesWrongFalsely : Prop := fnExactGoodLeasesRow.holds Try.pinned (OpenSpec.ofChange fnExactGoodLeasesWrong)

/-- 'laws.FnExactStepLease': WHATEVER THE INPUT: true; the input reads as it did. -/
def fnExactStepLeaseSpec : ChangeSpec := { name := "fnExactStepLease", fn := fun _ => fun
  | [d1, d2] => { results := [.lit (.bool true)], args := [d1, d2] }
  | _ => none }
def fnExactStepLeaseRow : OpenClaim := { program := "ytidalpgkljafdaa", sum := "80424fc6800245572c034d8f5f4f1ac1a7cc9235d663aff6f05c911ab1e06da7", func := "loop.example/g00218/laws.FnExactStepLease", spec := "fnExactStepLease", apart := false }
def FnExactStepLeaseSaid : Prop := fnExactStepLeaseRow.holds Try.pinned (OpenSpec.ofChange fnExactStepLeaseSpec)

/-- ITS FALSE NEIGHBOUR: 'it returns false'. Refute it at one input. -/
def fnExactStepLeaseWrong : ChangeSpec := { name := "fnExactStepLease", fn := fun _ => fun
  | [d1, d2] => { results := [.lit (.bool false)], args := [d1, d2] }
  | _ => none }
def FnExactStepLeaseWrongFalsely : Prop := fnExactStepLeaseRow.holds Try.pinned (OpenSpec.ofChange fnExactStepLeaseWrong)

/-- 'laws.FnExactPlayLeases': WHATEVER THE INPUT: true; the input reads as it did. -/
def fnExactPlayLeasesSpec : ChangeSpec := { name := "fnExactPlayLeases", fn := fun _ => fun
  | [d1, d2, d3] => { results := [.lit (.bool true)], args := [d1, d2, d3] }
  | _ => none }
def fnExactPlayLeasesRow : OpenClaim := { program := "ytidalpgkljafdaa", sum := "80424fc6800245572c034d8f5f4f1ac1a7cc9235d663aff6f05c911ab1e06da7", func := "loop.example/g00218/laws.FnExactPlayLeases", spec := "fnExactPlayLeases", apart := false }
def FnExactPlayLeasesSaid : Prop := fnExactPlayLeasesRow.holds Try.pinned (OpenSpec.ofChange fnExactPlayLeasesSpec)

/-- ITS FALSE NEIGHBOUR: 'it returns false'. Refute it at one input. -/
def fnExactPlayLeasesWrong : ChangeSpec := { name := "fnExactPlayLeases", fn := fun _ => fun
  | [d1, d2, d3] => { results := [.lit (.bool false)], args := [d1, d2, d3] }
  | _ => none }
def FnExactPlayLeasesWrongFalsely : Prop := fnExactPlayLeasesRow.holds Try.pinned (OpenSpec.ofChange fnExactPlayLeasesWrong)

/-- 'laws.FnExactBelieversOf': WHATEVER THE INPUT: true; the input reads as it did. -/
def fnExactBelieversOfSpec : ChangeSpec := { name := "fnExactBelieversOf", fn := fun _ => fun
  | [d] => { results := [.lit (.bool true)], args := [d] }
  | _ => none }
def fnExactBelieversOfRow : OpenClaim := { program := "ytidalpgkljafdaa", sum := "80424fc6800245572c034d8f5f4f1ac1a7cc9235d663aff6f05c911ab1e06da7", func := "loop.example/g00218/laws.FnExactBelieversOf", spec := "fnExactBelieversOf", apart := false }
def FnExactBelieversOfSaid : Prop := fnExactBelieversOfRow.holds Try.pinned (OpenSpec.ofChange fnExactBelieversOfSpec)

/-- ITS FALSE NEIGHBOUR: 'it returns false'. Refute it at one input. -/
def fnExactBelieversOfWrong : ChangeSpec := { name := "fnExactBelieversOf", fn := fun _ => fun
  | [d] => { results := [.lit (.bool false)], args := [d] }
  | _ => none }
def FnExactBelieversOfWrongFalsely : Prop := fnExactBelieversOfRow.holds Try.pinned (OpenSpec.ofChange fnExactBelieversOfWrong)

/-- 'laws.FnExactSafeUntil': WHATEVER THE INPUT: true; the input reads as it did. -/
def fnExactSafeUntilSpec : ChangeSpec := { name := "fnExactSafeUntil", fn := fun _ => fun
  | [d1, d2] => { results := [.lit (.bool true)], args := [d1, d2] }
  | _ => none }
def fnExactSafeUntilRow : OpenClaim := { program := "ytidalpgkljafdaa", sum := "80424fc6800245572c034d8f5f4f1ac1a7cc9235d663aff6f05c911ab1e06da7", func := "loop.example/g00218/laws.FnExactSafeUntil", spec := "fnExactSafeUntil", apart := false }
def FnExactSafeUntilSaid : Prop := fnExactSafeUntilRow.holds Try.pinned (OpenSpec.ofChange fnExactSafeUntilSpec)

/-- ITS FALSE NEIGHBOUR: 'it returns false'. Refute it at one input. -/
def fnExactSafeUntilWrong : ChangeSpec := { name := "fnExactSafeUntil", fn := fun _ => fun
  | [d1, d2] => { results := [.lit (.bool false)], args := [d1, d2] }
  | _ => none }
def FnExactSafeUntilWrongFalsely : Prop := fnExactSafeUntilRow.holds Try.pinned (OpenSpec.ofChange fnExactSafeUntilWrong)

/- THE SECOND FORM. 'bulk': how many values and letters a reading holds, each counted each time it is reached (what is shared counts as often as it is met; a slice's spare places count too). A statement '..UptoSaid' is the law's where the arguments, and the package variables that the reading takes, are together of bulk at most 1048576: NARROWER than '..Said'. Prove '..Said' where nothing that the law and all that it calls make is longer than what came in: it says more and counts as full. Else prove '..UptoSaid'. A law counts once. -/
mutual
def uptoBulk {H : Type} : DataW H → Nat
  | .lit (.string bytes) => bytes.length + 1
  | .lit _ => 1
  | .nil => 1
  | .ptr d => uptoBulk d + 1
  | .slice elems spare => uptoBulkAll elems + uptoBulkAll spare + 1
  | .agg parts => uptoBulkAll parts + 1
  | .iface _ d => uptoBulk d + 1
  | .map entries => uptoBulkEntries entries + 1
  | .held _ => 1
def uptoBulkAll {H : Type} : List (DataW H) → Nat
  | [] => 0
  | d :: r => uptoBulk d + uptoBulkAll r
def uptoBulkEntries {H : Type} : List (Lit × DataW H) → Nat
  | [] => 0
  | x :: r => uptoBulkEntry x + uptoBulkEntries r
def uptoBulkEntry {H : Type} : Lit × DataW H → Nat
  | (.string bytes, d) => bytes.length + uptoBulk d + 1
  | (_, d) => uptoBulk d + 1
 end
def uptoSmall : (H : Type) → List (DataW H) → Bool := fun _ ds => decide (uptoBulkAll ds ≤ 1048576)
def OpenSpec.upto (s : _root_.Go.ChangeSpec) : _root_.Go.OpenSpec := { _root_.Go.OpenSpec.ofChange s with cond := some uptoSmall }

/-- 'laws.FnLease', WHERE WHAT IT READS IS OF BULK AT MOST 1048576: true; the input reads as it did. -/
def fnLeaseUptoRow : OpenClaim := { program := "ytidalpgkljafdaa", sum := "80424fc6800245572c034d8f5f4f1ac1a7cc9235d663aff6f05c911ab1e06da7", func := "loop.example/g00218/laws.FnLease", spec := "fnLease", apart := false, narrowed := true }
def FnLeaseUptoSaid : Prop := fnLeaseUptoRow.holds Try.pinned (OpenSpec.upto fnLeaseSpec)

/-- 'laws.FnExactNewLeases', WHERE WHAT IT READS IS OF BULK AT MOST 1048576: true; the input reads as it did. -/
def fnExactNewLeasesUptoRow : OpenClaim := { program := "ytidalpgkljafdaa", sum := "80424fc6800245572c034d8f5f4f1ac1a7cc9235d663aff6f05c911ab1e06da7", func := "loop.example/g00218/laws.FnExactNewLeases", spec := "fnExactNewLeases", apart := false, narrowed := true }
def FnExactNewLeasesUptoSaid : Prop := fnExactNewLeasesUptoRow.holds Try.pinned (OpenSpec.upto fnExactNewLeasesSpec)

/-- 'laws.FnExactGoodLeases', WHERE WHAT IT READS IS OF BULK AT MOST 1048576: true; the input reads as it did. -/
def fnExactGoodLeasesUptoRow : OpenClaim := { program := "ytidalpgkljafdaa", sum := "80424fc6800245572c034d8f5f4f1ac1a7cc9235d663aff6f05c911ab1e06da7", func := "loop.example/g00218/laws.FnExactGoodLeases", spec := "fnExactGoodLeases", apart := false, narrowed := true }
def FnExactGoodLeasesUptoSaid : Prop := fnExactGoodLeasesUptoRow.holds Try.pinned (OpenSpec.upto fnExactGoodLeasesSpec)

/-- 'laws.FnExactStepLease', WHERE WHAT IT READS IS OF BULK AT MOST 1048576: true; the input reads as it did. -/
def fnExactStepLeaseUptoRow : OpenClaim := { program := "ytidalpgkljafdaa", sum := "80424fc6800245572c034d8f5f4f1ac1a7cc9235d663aff6f05c911ab1e06da7", func := "loop.example/g00218/laws.FnExactStepLease", spec := "fnExactStepLease", apart := false, narrowed := true }
def FnExactStepLeaseUptoSaid : Prop := fnExactStepLeaseUptoRow.holds Try.pinned (OpenSpec.upto fnExactStepLeaseSpec)

/-- 'laws.FnExactPlayLeases', WHERE WHAT IT READS IS OF BULK AT MOST 1048576: true; the input reads as it did. -/
def fnExactPlayLeasesUptoRow : OpenClaim := { program := "ytidalpgkljafdaa", sum := "80424fc6800245572c034d8f5f4f1ac1a7cc9235d663aff6f05c911ab1e06da7", func := "loop.example/g00218/laws.FnExactPlayLeases", spec := "fnExactPlayLeases", apart := false, narrowed := true }
def FnExactPlayLeasesUptoSaid : Prop := fnExactPlayLeasesUptoRow.holds Try.pinned (OpenSpec.upto fnExactPlayLeasesSpec)

/-- 'laws.FnExactBelieversOf', WHERE WHAT IT READS IS OF BULK AT MOST 1048576: true; the input reads as it did. -/
def fnExactBelieversOfUptoRow : OpenClaim := { program := "ytidalpgkljafdaa", sum := "80424fc6800245572c034d8f5f4f1ac1a7cc9235d663aff6f05c911ab1e06da7", func := "loop.example/g00218/laws.FnExactBelieversOf", spec := "fnExactBelieversOf", apart := false, narrowed := true }
def FnExactBelieversOfUptoSaid : Prop := fnExactBelieversOfUptoRow.holds Try.pinned (OpenSpec.upto fnExactBelieversOfSpec)

/-- 'laws.FnExactSafeUntil', WHERE WHAT IT READS IS OF BULK AT MOST 1048576: true; the input reads as it did. -/
def fnExactSafeUntilUptoRow : OpenClaim := { program := "ytidalpgkljafdaa", sum := "80424fc6800245572c034d8f5f4f1ac1a7cc9235d663aff6f05c911ab1e06da7", func := "loop.example/g00218/laws.FnExactSafeUntil", spec := "fnExactSafeUntil", apart := false, narrowed := true }
def FnExactSafeUntilUptoSaid : Prop := fnExactSafeUntilUptoRow.holds Try.pinned (OpenSpec.upto fnExactSafeUntilSpec)

end Rows
end Go.Proofs.Ytidalpgkljafdaa
