/-
  No cell of these rows narrows 'for every input' (looked for: loops, veiled, ifaces, maps, wideKeys, modest, calm, conditions, laid).
  DERIVED. THE GIVEN ROWS OF THIS SEAT. 3 by the template 'for every input the law returns true; each argument reads behind the call as it read before'; 0 by the template 'total and deterministic' (their statements: YtenfaofhoheleaaGreatTotals.lean).
  GIVEN WITH THE SEED: the statements are not yours to turn. If you find one false, say at which input.
  Laid BY PROGRAM, IN A SANDBOX (cutbox-rows.mjs): the forced cells as the released guide's own fill.sh prints them over the translation c34b0acffed6e989… (all of the seat's roots in one cut). By AI agents, Wed Nov 11 2026. No macro, syntax, notation, axiom, sorry.
-/
import Derived.Test.YtenfaofhoheleaaGreatChecked
import GoSem.Claim
import GoSem.ClaimJoined
import GoSem.ClaimMapViews
import Derived.JoinedTies
import Derived.KernelRfl
namespace Go.Proofs.YtenfaofhoheleaaGreat
/- THE CELL 'sum', in the pinned program and in every row, IS THE sha256 OF THE DUMP (.gsa) THAT YtenfaofhoheleaaGreatProg.lean LOADS. Nothing in Lean hashes anything: it is a label: what it is worth is what the hold of that sum in a sandbox is worth. -/
noncomputable def Tryz.pinned : Pinned := { name := "ytenfaofhoheleaagreat", sum := "c34b0acffed6e989043b3eda28491fe6854a94d7b9f305cf89a07464132c4a89", checked := Tryz.checked }
namespace Rows
def none {H : Type} : Left H := { results := [], args := [] }

/-- 'laws.FnExactMapOf': WHATEVER THE INPUT: true; the input reads as it did. -/
def fnExactMapOfSpec : ChangeSpec := { name := "fnExactMapOf", fn := fun _ => fun
  | [d] => { results := [.lit (.bool true)], args := [d] }
  | _ => none }
def fnExactMapOfRow : OpenClaim := { program := "ytenfaofhoheleaagreat", sum := "c34b0acffed6e989043b3eda28491fe6854a94d7b9f305cf89a07464132c4a89", func := "loop.example/g00218/laws.FnExactMapOf", spec := "fnExactMapOf", inPlace := ["internal/bytealg.abigen_runtime_cmpstring"], unfollowed := true, recurses := true, apart := false }
def FnExactMapOfSaid : Prop := fnExactMapOfRow.holds Tryz.pinned (OpenSpec.ofChange fnExactMapOfSpec)

/-- ITS FALSE NEIGHBOUR: 'it returns false'. Refute it at one input. -/
def fnExactMapOfWrong : ChangeSpec := { name := "fnExactMapOf", fn := fun _ => fun
  | [d] => { results := [.lit (.bool false)], args := [d] }
  | _ => none }
def FnExactMapOfWrongFalsely : Prop := fnExactMapOfRow.holds Tryz.pinned (OpenSpec.ofChange fnExactMapOfWrong)

/-- 'laws.FnExactReplayOrder': WHATEVER THE INPUT: true; the input reads as it did. -/
def fnExactReplayOrderSpec : ChangeSpec := { name := "fnExactReplayOrder", fn := fun _ => fun
  | [d1, d2] => { results := [.lit (.bool true)], args := [d1, d2] }
  | _ => none }
def fnExactReplayOrderRow : OpenClaim := { program := "ytenfaofhoheleaagreat", sum := "c34b0acffed6e989043b3eda28491fe6854a94d7b9f305cf89a07464132c4a89", func := "loop.example/g00218/laws.FnExactReplayOrder", spec := "fnExactReplayOrder", inPlace := ["internal/bytealg.abigen_runtime_cmpstring", "slices.overlaps[loop.example/g00218/impl.Cell]"], unfollowed := true, recurses := true, apart := false }
def FnExactReplayOrderSaid : Prop := fnExactReplayOrderRow.holds Tryz.pinned (OpenSpec.ofChange fnExactReplayOrderSpec)

/-- ITS FALSE NEIGHBOUR: 'it returns false'. Refute it at one input. -/
def fnExactReplayOrderWrong : ChangeSpec := { name := "fnExactReplayOrder", fn := fun _ => fun
  | [d1, d2] => { results := [.lit (.bool false)], args := [d1, d2] }
  | _ => none }
def FnExactReplayOrderWrongFalsely : Prop := fnExactReplayOrderRow.holds Tryz.pinned (OpenSpec.ofChange fnExactReplayOrderWrong)

/-- 'laws.FnExactAdvanceEpoch': WHATEVER THE INPUT: true; the input reads as it did. -/
def fnExactAdvanceEpochSpec : ChangeSpec := { name := "fnExactAdvanceEpoch", fn := fun _ => fun
  | [d] => { results := [.lit (.bool true)], args := [d] }
  | _ => none }
def fnExactAdvanceEpochRow : OpenClaim := { program := "ytenfaofhoheleaagreat", sum := "c34b0acffed6e989043b3eda28491fe6854a94d7b9f305cf89a07464132c4a89", func := "loop.example/g00218/laws.FnExactAdvanceEpoch", spec := "fnExactAdvanceEpoch", inPlace := ["internal/bytealg.abigen_runtime_cmpstring"], unfollowed := true, recurses := true, apart := false }
def FnExactAdvanceEpochSaid : Prop := fnExactAdvanceEpochRow.holds Tryz.pinned (OpenSpec.ofChange fnExactAdvanceEpochSpec)

/-- ITS FALSE NEIGHBOUR: 'it returns false'. Refute it at one input. -/
def fnExactAdvanceEpochWrong : ChangeSpec := { name := "fnExactAdvanceEpoch", fn := fun _ => fun
  | [d] => { results := [.lit (.bool false)], args := [d] }
  | _ => none }
def FnExactAdvanceEpochWrongFalsely : Prop := fnExactAdvanceEpochRow.holds Tryz.pinned (OpenSpec.ofChange fnExactAdvanceEpochWrong)

/- THE SECOND FORM. 'bulk': how many values and letters a reading holds, each counted each time it is reached (what is shared counts as often as it is met; a slice's spare places count too). A statement '..UptoSaid' is the law's where the arguments, and the package variables that the reading takes, are together of bulk at most 1048576: NARROWER than '..Said'. Prove '..Said' where nothing that the law and all that it calls make is longer than what came in: it says more and counts as full. Else prove '..UptoSaid'. A law counts once. -/
mutual
def uptoBulk {H : Type} : DataW H → Nat
  | .lit (.string bytes) => bytes.length + 1
  | .lit _ => 1
  | .nil => 1
  | .ptr d => uptoBulk d + 1
  | .slice elems spare => uptoBulkAll elems + uptoBulkAll spare + 1
  | .agg parts => uptoBulkAll parts + 1
  | .iface _ d => uptoBulk d + 1
  | .map entries => uptoBulkEntries entries + 1
  | .held _ => 1
def uptoBulkAll {H : Type} : List (DataW H) → Nat
  | [] => 0
  | d :: r => uptoBulk d + uptoBulkAll r
def uptoBulkEntries {H : Type} : List (Lit × DataW H) → Nat
  | [] => 0
  | x :: r => uptoBulkEntry x + uptoBulkEntries r
def uptoBulkEntry {H : Type} : Lit × DataW H → Nat
  | (.string bytes, d) => bytes.length + uptoBulk d + 1
  | (_, d) => uptoBulk d + 1
 end
def uptoSmall : (H : Type) → List (DataW H) → Bool := fun _ ds => decide (uptoBulkAll ds ≤ 1048576)
def OpenSpec.upto (s : _root_.Go.ChangeSpec) : _root_.Go.OpenSpec := { _root_.Go.OpenSpec.ofChange s with cond := some uptoSmall }

/-- 'laws.FnExactMapOf', WHERE WHAT IT READS IS OF BULK AT MOST 1048576: true; the input reads as it did. -/
def fnExactMapOfUptoRow : OpenClaim := { program := "ytenfaofhoheleaagreat", sum := "c34b0acffed6e989043b3eda28491fe6854a94d7b9f305cf89a07464132c4a89", func := "loop.example/g00218/laws.FnExactMapOf", spec := "fnExactMapOf", inPlace := ["internal/bytealg.abigen_runtime_cmpstring"], unfollowed := true, recurses := true, apart := false, narrowed := true }
def FnExactMapOfUptoSaid : Prop := fnExactMapOfUptoRow.holds Tryz.pinned (OpenSpec.upto fnExactMapOfSpec)

/-- 'laws.FnExactReplayOrder', WHERE WHAT IT READS IS OF BULK AT MOST 1048576: true; the input reads as it did. -/
def fnExactReplayOrderUptoRow : OpenClaim := { program := "ytenfaofhoheleaagreat", sum := "c34b0acffed6e989043b3eda28491fe6854a94d7b9f305cf89a07464132c4a89", func := "loop.example/g00218/laws.FnExactReplayOrder", spec := "fnExactReplayOrder", inPlace := ["internal/bytealg.abigen_runtime_cmpstring", "slices.overlaps[loop.example/g00218/impl.Cell]"], unfollowed := true, recurses := true, apart := false, narrowed := true }
def FnExactReplayOrderUptoSaid : Prop := fnExactReplayOrderUptoRow.holds Tryz.pinned (OpenSpec.upto fnExactReplayOrderSpec)

/-- 'laws.FnExactAdvanceEpoch', WHERE WHAT IT READS IS OF BULK AT MOST 1048576: true; the input reads as it did. -/
def fnExactAdvanceEpochUptoRow : OpenClaim := { program := "ytenfaofhoheleaagreat", sum := "c34b0acffed6e989043b3eda28491fe6854a94d7b9f305cf89a07464132c4a89", func := "loop.example/g00218/laws.FnExactAdvanceEpoch", spec := "fnExactAdvanceEpoch", inPlace := ["internal/bytealg.abigen_runtime_cmpstring"], unfollowed := true, recurses := true, apart := false, narrowed := true }
def FnExactAdvanceEpochUptoSaid : Prop := fnExactAdvanceEpochUptoRow.holds Tryz.pinned (OpenSpec.upto fnExactAdvanceEpochSpec)

end Rows
end Go.Proofs.YtenfaofhoheleaaGreat
