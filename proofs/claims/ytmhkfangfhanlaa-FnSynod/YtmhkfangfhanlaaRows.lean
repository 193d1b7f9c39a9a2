/-
  No cell of these rows narrows 'for every input' (looked for: loops, veiled, ifaces, maps, wideKeys, modest, calm, conditions, laid).
  DERIVED. THE GIVEN ROWS OF THIS SEAT. 8 by the template 'for every input the law returns true; each argument reads behind the call as it read before'; 0 by the template 'total and deterministic' (their statements: YtmhkfangfhanlaaTotals.lean).
  GIVEN WITH THE SEED: the statements are not yours to turn. If you find one false, say at which input.
  Laid BY PROGRAM, IN A SANDBOX (cutbox-rows.mjs): the forced cells as the released guide's own fill.sh prints them over the translation a0566e1097d7527e… (all of the seat's roots in one cut). By AI agents, Wed Nov 11 2026. No macro, syntax, notation, axiom, sorry.
-/
import Derived.Test.YtmhkfangfhanlaaChecked
import GoSem.Claim
import GoSem.ClaimJoined
import GoSem.ClaimMapViews
import Derived.JoinedTies
import Derived.KernelRfl
namespace Go.Proofs.Ytmhkfangfhanlaa
/- THE CELL 'sum', in the pinned program and in every row, IS THE sha256 OF THE DUMP (.gsa) THAT YtmhkfangfhanlaaProg.lean LOADS. Nothing in Lean hashes anything: it is a label: what it is worth is what the hold of that sum in a sandbox is worth. -/
noncomputable def Try.pinned : Pinned := { name := "ytmhkfangfhanlaa", sum := "a0566e1097d7527e411ed53fe389fc1efc2a9ec2fefbb68022e8123089c89658", checked := Try.checked }
namespace Rows
def none {H : Type} : Left H := { results := [], args := [] }

/-- 'laws.FnSynod': WHATEVER THE INPUT: true; the input reads as it did. -/
def fnSynodSpec : ChangeSpec := { name := "fnSynod", fn := fun _ => fun
  | [d] => { results := [.lit (.bool true)], args := [d] }
  | _ => none }
def fnSynodRow : OpenClaim := { program := "ytmhkfangfhanlaa", sum := "a0566e1097d7527e411ed53fe389fc1efc2a9ec2fefbb68022e8123089c89658", func := "loop.example/g00218/laws.FnSynod", spec := "fnSynod", inPlace := ["slices.overlaps[loop.example/g00218/impl.Promise]", "slices.overlaps[int]", "slices.overlaps[string]"], unfollowed := true, recurses := true, apart := false }
def FnSynodSaid : Prop := fnSynodRow.holds Try.pinned (OpenSpec.ofChange fnSynodSpec)

/-- ITS FALSE NEIGHBOUR: 'it returns false'. Refute it at one input. -/
def fnSynodWrong : ChangeSpec := { name := "fnSynod", fn := fun _ => fun
  | [d] => { results := [.lit (.bool false)], args := [d] }
  | _ => none }
def FnSynodWrongFalsely : Prop := fnSynodRow.holds Try.pinned (OpenSpec.ofChange fnSynodWrong)

/-- 'laws.FnStable': WHATEVER THE INPUT: true; the input reads as it did. -/
def fnStableSpec : ChangeSpec := { name := "fnStable", fn := fun _ => fun
  | [d1, d2] => { results := [.lit (.bool true)], args := [d1, d2] }
  | _ => none }
def fnStableRow : OpenClaim := { program := "ytmhkfangfhanlaa", sum := "a0566e1097d7527e411ed53fe389fc1efc2a9ec2fefbb68022e8123089c89658", func := "loop.example/g00218/laws.FnStable", spec := "fnStable", inPlace := ["slices.overlaps[loop.example/g00218/impl.Promise]", "slices.overlaps[int]", "slices.overlaps[string]"], unfollowed := true, recurses := true, apart := false }
def FnStableSaid : Prop := fnStableRow.holds Try.pinned (OpenSpec.ofChange fnStableSpec)

/-- ITS FALSE NEIGHBOUR: 'it returns false'. Refute it at one input. -/
def fnStableWrong : ChangeSpec := { name := "fnStable", fn := fun _ => fun
  | [d1, d2] => { results := [.lit (.bool false)], args := [d1, d2] }
  | _ => none }
def FnStableWrongFalsely : Prop := fnStableRow.holds Try.pinned (OpenSpec.ofChange fnStableWrong)

/-- 'laws.FnExactNewSynod': WHATEVER THE INPUT: true; the input reads as it did. -/
def fnExactNewSynodSpec : ChangeSpec := { name := "fnExactNewSynod", fn := fun _ => fun
  | [d1, d2] => { results := [.lit (.bool true)], args := [d1, d2] }
  | _ => none }
def fnExactNewSynodRow : OpenClaim := { program := "ytmhkfangfhanlaa", sum := "a0566e1097d7527e411ed53fe389fc1efc2a9ec2fefbb68022e8123089c89658", func := "loop.example/g00218/laws.FnExactNewSynod", spec := "fnExactNewSynod", apart := false }
def FnExactNewSynodSaid : Prop := fnExactNewSynodRow.holds Try.pinned (OpenSpec.ofChange fnExactNewSynodSpec)

/-- ITS FALSE NEIGHBOUR: 'it returns false'. Refute it at one input. -/
def fnExactNewSynodWrong : ChangeSpec := { name := "fnExactNewSynod", fn := fun _ => fun
  | [d1, d2] => { results := [.lit (.bool false)], args := [d1, d2] }
  | _ => none }
def FnExactNewSynodWrongFalsely : Prop := fnExactNewSynodRow.holds Try.pinned (OpenSpec.ofChange fnExactNewSynodWrong)

/-- 'laws.FnExactGoodSynod': WHATEVER THE INPUT: true; the input reads as it did. -/
def fnExactGoodSynodSpec : ChangeSpec := { name := "fnExactGoodSynod", fn := fun _ => fun
  | [d] => { results := [.lit (.bool true)], args := [d] }
  | _ => none }
def fnExactGoodSynodRow : OpenClaim := { program := "ytmhkfangfhanlaa", sum := "a0566e1097d7527e411ed53fe389fc1efc2a9ec2fefbb68022e8123089c89658", func := "loop.example/g00218/laws.FnExactGoodSynod", spec := "fnExactGoodSynod", apart := false }
def FnExactGoodSynodSaid : Prop := fnExactGoodSynodRow.holds Try.pinned (OpenSpec.ofChange fnExactGoodSynodSpec)

/-- ITS FALSE NEIGHBOUR: 'it returns false'. Refute it at one input. -/
def fnExactGoodSynodWrong : ChangeSpec := { name := "fnExactGoodSynod", fn := fun _ => fun
  | [d] => { results := [.lit (.bool false)], args := [d] }
  | _ => none }
def FnExactGoodSynodWrongFalsely : Prop := fnExactGoodSynodRow.holds Try.pinned (OpenSpec.ofChange fnExactGoodSynodWrong)

/-- 'laws.FnExactStepSynod': WHATEVER THE INPUT: true; the input reads as it did. -/
def fnExactStepSynodSpec : ChangeSpec := { name := "fnExactStepSynod", fn := fun _ => fun
  | [d1, d2] => { results := [.lit (.bool true)], args := [d1, d2] }
  | _ => none }
def fnExactStepSynodRow : OpenClaim := { program := "ytmhkfangfhanlaa", sum := "a0566e1097d7527e411ed53fe389fc1efc2a9ec2fefbb68022e8123089c89658", func := "loop.example/g00218/laws.FnExactStepSynod", spec := "fnExactStepSynod", inPlace := ["slices.overlaps[loop.example/g00218/impl.Promise]", "slices.overlaps[int]"], unfollowed := true, recurses := true, apart := false }
def FnExactStepSynodSaid : Prop := fnExactStepSynodRow.holds Try.pinned (OpenSpec.ofChange fnExactStepSynodSpec)

/-- ITS FALSE NEIGHBOUR: 'it returns false'. Refute it at one input. -/
def fnExactStepSynodWrong : ChangeSpec := { name := "fnExactStepSynod", fn := fun _ => fun
  | [d1, d2] => { results := [.lit (.bool false)], args := [d1, d2] }
  | _ => none }
def FnExactStepSynodWrongFalsely : Prop := fnExactStepSynodRow.holds Try.pinned (OpenSpec.ofChange fnExactStepSynodWrong)

/-- 'laws.FnExactPlaySynod': WHATEVER THE INPUT: true; the input reads as it did. -/
def fnExactPlaySynodSpec : ChangeSpec := { name := "fnExactPlaySynod", fn := fun _ => fun
  | [d1, d2, d3] => { results := [.lit (.bool true)], args := [d1, d2, d3] }
  | _ => none }
def fnExactPlaySynodRow : OpenClaim := { program := "ytmhkfangfhanlaa", sum := "a0566e1097d7527e411ed53fe389fc1efc2a9ec2fefbb68022e8123089c89658", func := "loop.example/g00218/laws.FnExactPlaySynod", spec := "fnExactPlaySynod", inPlace := ["slices.overlaps[loop.example/g00218/impl.Promise]", "slices.overlaps[int]"], unfollowed := true, recurses := true, apart := false }
def FnExactPlaySynodSaid : Prop := fnExactPlaySynodRow.holds Try.pinned (OpenSpec.ofChange fnExactPlaySynodSpec)

/-- ITS FALSE NEIGHBOUR: 'it returns false'. Refute it at one input. -/
def fnExactPlaySynodWrong : ChangeSpec := { name := "fnExactPlaySynod", fn := fun _ => fun
  | [d1, d2, d3] => { results := [.lit (.bool false)], args := [d1, d2, d3] }
  | _ => none }
def FnExactPlaySynodWrongFalsely : Prop := fnExactPlaySynodRow.holds Try.pinned (OpenSpec.ofChange fnExactPlaySynodWrong)

/-- 'laws.FnExactChosenIn': WHATEVER THE INPUT: true; the input reads as it did. -/
def fnExactChosenInSpec : ChangeSpec := { name := "fnExactChosenIn", fn := fun _ => fun
  | [d] => { results := [.lit (.bool true)], args := [d] }
  | _ => none }
def fnExactChosenInRow : OpenClaim := { program := "ytmhkfangfhanlaa", sum := "a0566e1097d7527e411ed53fe389fc1efc2a9ec2fefbb68022e8123089c89658", func := "loop.example/g00218/laws.FnExactChosenIn", spec := "fnExactChosenIn", inPlace := ["slices.overlaps[string]"], apart := false }
def FnExactChosenInSaid : Prop := fnExactChosenInRow.holds Try.pinned (OpenSpec.ofChange fnExactChosenInSpec)

/-- ITS FALSE NEIGHBOUR: 'it returns false'. Refute it at one input. -/
def fnExactChosenInWrong : ChangeSpec := { name := "fnExactChosenIn", fn := fun _ => fun
  | [d] => { results := [.lit (.bool false)], args := [d] }
  | _ => none }
def FnExactChosenInWrongFalsely : Prop := fnExactChosenInRow.holds Try.pinned (OpenSpec.ofChange fnExactChosenInWrong)

/-- 'laws.FnExactValueAt': WHATEVER THE INPUT: true; the input reads as it did. -/
def fnExactValueAtSpec : ChangeSpec := { name := "fnExactValueAt", fn := fun _ => fun
  | [d1, d2] => { results := [.lit (.bool true)], args := [d1, d2] }
  | _ => none }
def fnExactValueAtRow : OpenClaim := { program := "ytmhkfangfhanlaa", sum := "a0566e1097d7527e411ed53fe389fc1efc2a9ec2fefbb68022e8123089c89658", func := "loop.example/g00218/laws.FnExactValueAt", spec := "fnExactValueAt", apart := false }
def FnExactValueAtSaid : Prop := fnExactValueAtRow.holds Try.pinned (OpenSpec.ofChange fnExactValueAtSpec)

/-- ITS FALSE NEIGHBOUR: 'it returns false'. Refute it at one input. -/
def fnExactValueAtWrong : ChangeSpec := { name := "fnExactValueAt", fn := fun _ => fun
  | [d1, d2] => { results := [.lit (.bool false)], args := [d1, d2] }
  | _ => none }
def FnExactValueAtWrongFalsely : Prop := fnExactValueAtRow.holds Try.pinned (OpenSpec.ofChange fnExactValueAtWrong)

/- THE SECOND FORM. 'bulk': how many values and letters a reading holds, each counted each time it is reached (what is shared counts as often as it is met; a slice's spare places count too). A statement '..UptoSaid' is the law's where the arguments, and the package variables that the reading takes, are together of bulk at most 1048576: NARROWER than '..Said'. Prove '..Said' where nothing that the law and all that it calls make is longer than what came in: it says more and counts as full. Else prove '..UptoSaid'. A law counts once. -/
mutual
def uptoBulk {H : Type} : DataW H → Nat
  | .lit (.string bytes) => bytes.length + 1
  | .lit _ => 1
  | .nil => 1
  | .ptr d => uptoBulk d + 1
  | .slice elems spare => uptoBulkAll elems + uptoBulkAll spare + 1
  | .agg parts => uptoBulkAll parts + 1
  | .iface _ d => uptoBulk d + 1
  | .map entries => uptoBulkEntries entries + 1
  | .held _ => 1
def uptoBulkAll {H : Type} : List (DataW H) → Nat
  | [] => 0
  | d :: r => uptoBulk d + uptoBulkAll r
def uptoBulkEntries {H : Type} : List (Lit × DataW H) → Nat
  | [] => 0
  | x :: r => uptoBulkEntry x + uptoBulkEntries r
def uptoBulkEntry {H : Type} : Lit × DataW H → Nat
  | (.string bytes, d) => bytes.length + uptoBulk d + 1
  | (_, d) => uptoBulk d + 1
 end
def uptoSmall : (H : Type) → List (DataW H) → Bool := fun _ ds => decide (uptoBulkAll ds ≤ 1048576)
def OpenSpec.upto (s : _root_.Go.ChangeSpec) : _root_.Go.OpenSpec := { _root_.Go.OpenSpec.ofChange s with cond := some uptoSmall }

/-- 'laws.FnSynod', WHERE WHAT IT READS IS OF BULK AT MOST 1048576: true; the input reads as it did. -/
def fnSynodUptoRow : OpenClaim := { program := "ytmhkfangfhanlaa", sum := "a0566e1097d7527e411ed53fe389fc1efc2a9ec2fefbb68022e8123089c89658", func := "loop.example/g00218/laws.FnSynod", spec := "fnSynod", inPlace := ["slices.overlaps[loop.example/g00218/impl.Promise]", "slices.overlaps[int]", "slices.overlaps[string]"], unfollowed := true, recurses := true, apart := false, narrowed := true }
def FnSynodUptoSaid : Prop := fnSynodUptoRow.holds Try.pinned (OpenSpec.upto fnSynodSpec)

/-- 'laws.FnStable', WHERE WHAT IT READS IS OF BULK AT MOST 1048576: true; the input reads as it did. -/
def fnStableUptoRow : OpenClaim := { program := "ytmhkfangfhanlaa", sum := "a0566e1097d7527e411ed53fe389fc1efc2a9ec2fefbb68022e8123089c89658", func := "loop.example/g00218/laws.FnStable", spec := "fnStable", inPlace := ["slices.overlaps[loop.example/g00218/impl.Promise]", "slices.overlaps[int]", "slices.overlaps[string]"], unfollowed := true, recurses := true, apart := false, narrowed := true }
def FnStableUptoSaid : Prop := fnStableUptoRow.holds Try.pinned (OpenSpec.upto fnStableSpec)

/-- 'laws.FnExactNewSynod', WHERE WHAT IT READS IS OF BULK AT MOST 1048576: true; the input reads as it did. -/
def fnExactNewSynodUptoRow : OpenClaim := { program := "ytmhkfangfhanlaa", sum := "a0566e1097d7527e411ed53fe389fc1efc2a9ec2fefbb68022e8123089c89658", func := "loop.example/g00218/laws.FnExactNewSynod", spec := "fnExactNewSynod", apart := false, narrowed := true }
def FnExactNewSynodUptoSaid : Prop := fnExactNewSynodUptoRow.holds Try.pinned (OpenSpec.upto fnExactNewSynodSpec)

/-- 'laws.FnExactGoodSynod', WHERE WHAT IT READS IS OF BULK AT MOST 1048576: true; the input reads as it did. -/
def fnExactGoodSynodUptoRow : OpenClaim := { program := "ytmhkfangfhanlaa", sum := "a0566e1097d7527e411ed53fe389fc1efc2a9ec2fefbb68022e8123089c89658", func := "loop.example/g00218/laws.FnExactGoodSynod", spec := "fnExactGoodSynod", apart := false, narrowed := true }
def FnExactGoodSynodUptoSaid : Prop := fnExactGoodSynodUptoRow.holds Try.pinned (OpenSpec.upto fnExactGoodSynodSpec)

/-- 'laws.FnExactStepSynod', WHERE WHAT IT READS IS OF BULK AT MOST 1048576: true; the input reads as it did. -/
def fnExactStepSynodUptoRow : OpenClaim := { program := "ytmhkfangfhanlaa", sum := "a0566e1097d7527e411ed53fe389fc1efc2a9ec2fefbb68022e8123089c89658", func := "loop.example/g00218/laws.FnExactStepSynod", spec := "fnExactStepSynod", inPlace := ["slices.overlaps[loop.example/g00218/impl.Promise]", "slices.overlaps[int]"], unfollowed := true, recurses := true, apart := false, narrowed := true }
def FnExactStepSynodUptoSaid : Prop := fnExactStepSynodUptoRow.holds Try.pinned (OpenSpec.upto fnExactStepSynodSpec)

/-- 'laws.FnExactPlaySynod', WHERE WHAT IT READS IS OF BULK AT MOST 1048576: true; the input reads as it did. -/
def fnExactPlaySynodUptoRow : OpenClaim := { program := "ytmhkfangfhanlaa", sum := "a0566e1097d7527e411ed53fe389fc1efc2a9ec2fefbb68022e8123089c89658", func := "loop.example/g00218/laws.FnExactPlaySynod", spec := "fnExactPlaySynod", inPlace := ["slices.overlaps[loop.example/g00218/impl.Promise]", "slices.overlaps[int]"], unfollowed := true, recurses := true, apart := false, narrowed := true }
def FnExactPlaySynodUptoSaid : Prop := fnExactPlaySynodUptoRow.holds Try.pinned (OpenSpec.upto fnExactPlaySynodSpec)

/-- 'laws.FnExactChosenIn', WHERE WHAT IT READS IS OF BULK AT MOST 1048576: true; the input reads as it did. -/
def fnExactChosenInUptoRow : OpenClaim := { program := "ytmhkfangfhanlaa", sum := "a0566e1097d7527e411ed53fe389fc1efc2a9ec2fefbb68022e8123089c89658", func := "loop.example/g00218/laws.FnExactChosenIn", spec := "fnExactChosenIn", inPlace := ["slices.overlaps[string]"], apart := false, narrowed := true }
def FnExactChosenInUptoSaid : Prop := fnExactChosenInUptoRow.holds Try.pinned (OpenSpec.upto fnExactChosenInSpec)

/-- 'laws.FnExactValueAt', WHERE WHAT IT READS IS OF BULK AT MOST 1048576: true; the input reads as it did. -/
def fnExactValueAtUptoRow : OpenClaim := { program := "ytmhkfangfhanlaa", sum := "a0566e1097d7527e411ed53fe389fc1efc2a9ec2fefbb68022e8123089c89658", func := "loop.example/g00218/laws.FnExactValueAt", spec := "fnExactValueAt", apart := false, narrowed := true }
def FnExactValueAtUptoSaid : Prop := fnExactValueAtUptoRow.holds Try.pinned (OpenSpec.upto fnExactValueAtSpec)

end Rows
end Go.Proofs.Ytmhkfangfhanlaa
