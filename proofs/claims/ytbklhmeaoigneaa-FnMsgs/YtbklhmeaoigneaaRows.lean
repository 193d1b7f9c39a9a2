/-
  No cell of these rows narrows 'for every input' (looked for: loops, veiled, ifaces, maps, wideKeys, modest, calm, conditions, laid).
  DERIVED. THE GIVEN ROWS OF THIS SEAT. 13 by the template 'for every input the law returns true; each argument reads behind the call as it read before'; 0 by the template 'total and deterministic' (their statements: YtbklhmeaoigneaaTotals.lean).
  GIVEN WITH THE SEED: the statements are not yours to turn. If you find one false, say at which input.
  Laid BY PROGRAM, IN A SANDBOX (cutbox-rows.mjs): the forced cells as the released guide's own fill.sh prints them over the translation 6200a4f85b2dae97… (all of the seat's roots in one cut). By AI agents, Wed Nov 11 2026. No macro, syntax, notation, axiom, sorry.
-/
import Derived.Test.YtbklhmeaoigneaaChecked
import GoSem.Claim
import GoSem.ClaimJoined
import GoSem.ClaimMapViews
import Derived.JoinedTies
import Derived.KernelRfl
namespace Go.Proofs.Ytbklhmeaoigneaa
/- THE CELL 'sum', in the pinned program and in every row, IS THE sha256 OF THE DUMP (.gsa) THAT YtbklhmeaoigneaaProg.lean LOADS. Nothing in Lean hashes anything: it is a label: what it is worth is what the hold of that sum in a sandbox is worth. -/
noncomputable def Try.pinned : Pinned := { name := "ytbklhmeaoigneaa", sum := "6200a4f85b2dae978901f9af288910cbf74e11bc09fbb2dee50db79c8769640c", checked := Try.checked }
namespace Rows
def none {H : Type} : Left H := { results := [], args := [] }

/-- 'laws.FnTids': WHATEVER THE INPUT: true; the input reads as it did. -/
def fnTidsSpec : ChangeSpec := { name := "fnTids", fn := fun _ => fun
  | [d1, d2] => { results := [.lit (.bool true)], args := [d1, d2] }
  | _ => none }
def fnTidsRow : OpenClaim := { program := "ytbklhmeaoigneaa", sum := "6200a4f85b2dae978901f9af288910cbf74e11bc09fbb2dee50db79c8769640c", func := "loop.example/g00218/laws.FnTids", spec := "fnTids", apart := false }
def FnTidsSaid : Prop := fnTidsRow.holds Try.pinned (OpenSpec.ofChange fnTidsSpec)

/-- ITS FALSE NEIGHBOUR: 'it returns false'. Refute it at one input. -/
def fnTidsWrong : ChangeSpec := { name := "fnTids", fn := fun _ => fun
  | [d1, d2] => { results := [.lit (.bool false)], args := [d1, d2] }
  | _ => none }
def FnTidsWrongFalsely : Prop := fnTidsRow.holds Try.pinned (OpenSpec.ofChange fnTidsWrong)

/-- 'laws.FnNext': WHATEVER THE INPUT: true; the input reads as it did. -/
def fnNextSpec : ChangeSpec := { name := "fnNext", fn := fun _ => fun
  | [d] => { results := [.lit (.bool true)], args := [d] }
  | _ => none }
def fnNextRow : OpenClaim := { program := "ytbklhmeaoigneaa", sum := "6200a4f85b2dae978901f9af288910cbf74e11bc09fbb2dee50db79c8769640c", func := "loop.example/g00218/laws.FnNext", spec := "fnNext", apart := false }
def FnNextSaid : Prop := fnNextRow.holds Try.pinned (OpenSpec.ofChange fnNextSpec)

/-- ITS FALSE NEIGHBOUR: 'it returns false'. Refute it at one input. -/
def fnNextWrong : ChangeSpec := { name := "fnNext", fn := fun _ => fun
  | [d] => { results := [.lit (.bool false)], args := [d] }
  | _ => none }
def FnNextWrongFalsely : Prop := fnNextRow.holds Try.pinned (OpenSpec.ofChange fnNextWrong)

/-- 'laws.FnMsgs': WHATEVER THE INPUT: true; the input reads as it did. -/
def fnMsgsSpec : ChangeSpec := { name := "fnMsgs", fn := fun _ => fun
  | [d1, d2] => { results := [.lit (.bool true)], args := [d1, d2] }
  | _ => none }
def fnMsgsRow : OpenClaim := { program := "ytbklhmeaoigneaa", sum := "6200a4f85b2dae978901f9af288910cbf74e11bc09fbb2dee50db79c8769640c", func := "loop.example/g00218/laws.FnMsgs", spec := "fnMsgs", apart := false }
def FnMsgsSaid : Prop := fnMsgsRow.holds Try.pinned (OpenSpec.ofChange fnMsgsSpec)

/-- ITS FALSE NEIGHBOUR: 'it returns false'. Refute it at one input. -/
def fnMsgsWrong : ChangeSpec := { name := "fnMsgs", fn := fun _ => fun
  | [d1, d2] => { results := [.lit (.bool false)], args := [d1, d2] }
  | _ => none }
def FnMsgsWrongFalsely : Prop := fnMsgsRow.holds Try.pinned (OpenSpec.ofChange fnMsgsWrong)

/-- 'laws.FnExactGoodTid': WHATEVER THE INPUT: true; the input reads as it did. -/
def fnExactGoodTidSpec : ChangeSpec := { name := "fnExactGoodTid", fn := fun _ => fun
  | [d] => { results := [.lit (.bool true)], args := [d] }
  | _ => none }
def fnExactGoodTidRow : OpenClaim := { program := "ytbklhmeaoigneaa", sum := "6200a4f85b2dae978901f9af288910cbf74e11bc09fbb2dee50db79c8769640c", func := "loop.example/g00218/laws.FnExactGoodTid", spec := "fnExactGoodTid", apart := false }
def FnExactGoodTidSaid : Prop := fnExactGoodTidRow.holds Try.pinned (OpenSpec.ofChange fnExactGoodTidSpec)

/-- ITS FALSE NEIGHBOUR: 'it returns false'. Refute it at one input. -/
def fnExactGoodTidWrong : ChangeSpec := { name := "fnExactGoodTid", fn := fun _ => fun
  | [d] => { results := [.lit (.bool false)], args := [d] }
  | _ => none }
def FnExactGoodTidWrongFalsely : Prop := fnExactGoodTidRow.holds Try.pinned (OpenSpec.ofChange fnExactGoodTidWrong)

/-- 'laws.FnExactPackTid': WHATEVER THE INPUT: true; the input reads as it did. -/
def fnExactPackTidSpec : ChangeSpec := { name := "fnExactPackTid", fn := fun _ => fun
  | [d] => { results := [.lit (.bool true)], args := [d] }
  | _ => none }
def fnExactPackTidRow : OpenClaim := { program := "ytbklhmeaoigneaa", sum := "6200a4f85b2dae978901f9af288910cbf74e11bc09fbb2dee50db79c8769640c", func := "loop.example/g00218/laws.FnExactPackTid", spec := "fnExactPackTid", apart := false }
def FnExactPackTidSaid : Prop := fnExactPackTidRow.holds Try.pinned (OpenSpec.ofChange fnExactPackTidSpec)

/-- ITS FALSE NEIGHBOUR: 'it returns false'. Refute it at one input. -/
def fnExactPackTidWrong : ChangeSpec := { name := "fnExactPackTid", fn := fun _ => fun
  | [d] => { results := [.lit (.bool false)], args := [d] }
  | _ => none }
def FnExactPackTidWrongFalsely : Prop := fnExactPackTidRow.holds Try.pinned (OpenSpec.ofChange fnExactPackTidWrong)

/-- 'laws.FnExactUnpackTid': WHATEVER THE INPUT: true; the input reads as it did. -/
def fnExactUnpackTidSpec : ChangeSpec := { name := "fnExactUnpackTid", fn := fun _ => fun
  | [d] => { results := [.lit (.bool true)], args := [d] }
  | _ => none }
def fnExactUnpackTidRow : OpenClaim := { program := "ytbklhmeaoigneaa", sum := "6200a4f85b2dae978901f9af288910cbf74e11bc09fbb2dee50db79c8769640c", func := "loop.example/g00218/laws.FnExactUnpackTid", spec := "fnExactUnpackTid", apart := false }
def FnExactUnpackTidSaid : Prop := fnExactUnpackTidRow.holds Try.pinned (OpenSpec.ofChange fnExactUnpackTidSpec)

/-- ITS FALSE NEIGHBOUR: 'it returns false'. Refute it at one input. -/
def fnExactUnpackTidWrong : ChangeSpec := { name := "fnExactUnpackTid", fn := fun _ => fun
  | [d] => { results := [.lit (.bool false)], args := [d] }
  | _ => none }
def FnExactUnpackTidWrongFalsely : Prop := fnExactUnpackTidRow.holds Try.pinned (OpenSpec.ofChange fnExactUnpackTidWrong)

/-- 'laws.FnExactCompareTid': WHATEVER THE INPUT: true; the input reads as it did. -/
def fnExactCompareTidSpec : ChangeSpec := { name := "fnExactCompareTid", fn := fun _ => fun
  | [d1, d2] => { results := [.lit (.bool true)], args := [d1, d2] }
  | _ => none }
def fnExactCompareTidRow : OpenClaim := { program := "ytbklhmeaoigneaa", sum := "6200a4f85b2dae978901f9af288910cbf74e11bc09fbb2dee50db79c8769640c", func := "loop.example/g00218/laws.FnExactCompareTid", spec := "fnExactCompareTid", apart := false }
def FnExactCompareTidSaid : Prop := fnExactCompareTidRow.holds Try.pinned (OpenSpec.ofChange fnExactCompareTidSpec)

/-- ITS FALSE NEIGHBOUR: 'it returns false'. Refute it at one input. -/
def fnExactCompareTidWrong : ChangeSpec := { name := "fnExactCompareTid", fn := fun _ => fun
  | [d1, d2] => { results := [.lit (.bool false)], args := [d1, d2] }
  | _ => none }
def FnExactCompareTidWrongFalsely : Prop := fnExactCompareTidRow.holds Try.pinned (OpenSpec.ofChange fnExactCompareTidWrong)

/-- 'laws.FnExactNextTid': WHATEVER THE INPUT: true; the input reads as it did. -/
def fnExactNextTidSpec : ChangeSpec := { name := "fnExactNextTid", fn := fun _ => fun
  | [d1, d2] => { results := [.lit (.bool true)], args := [d1, d2] }
  | _ => none }
def fnExactNextTidRow : OpenClaim := { program := "ytbklhmeaoigneaa", sum := "6200a4f85b2dae978901f9af288910cbf74e11bc09fbb2dee50db79c8769640c", func := "loop.example/g00218/laws.FnExactNextTid", spec := "fnExactNextTid", apart := false }
def FnExactNextTidSaid : Prop := fnExactNextTidRow.holds Try.pinned (OpenSpec.ofChange fnExactNextTidSpec)

/-- ITS FALSE NEIGHBOUR: 'it returns false'. Refute it at one input. -/
def fnExactNextTidWrong : ChangeSpec := { name := "fnExactNextTid", fn := fun _ => fun
  | [d1, d2] => { results := [.lit (.bool false)], args := [d1, d2] }
  | _ => none }
def FnExactNextTidWrongFalsely : Prop := fnExactNextTidRow.holds Try.pinned (OpenSpec.ofChange fnExactNextTidWrong)

/-- 'laws.FnExactGoodMsg': WHATEVER THE INPUT: true; the input reads as it did. -/
def fnExactGoodMsgSpec : ChangeSpec := { name := "fnExactGoodMsg", fn := fun _ => fun
  | [d] => { results := [.lit (.bool true)], args := [d] }
  | _ => none }
def fnExactGoodMsgRow : OpenClaim := { program := "ytbklhmeaoigneaa", sum := "6200a4f85b2dae978901f9af288910cbf74e11bc09fbb2dee50db79c8769640c", func := "loop.example/g00218/laws.FnExactGoodMsg", spec := "fnExactGoodMsg", apart := false }
def FnExactGoodMsgSaid : Prop := fnExactGoodMsgRow.holds Try.pinned (OpenSpec.ofChange fnExactGoodMsgSpec)

/-- ITS FALSE NEIGHBOUR: 'it returns false'. Refute it at one input. -/
def fnExactGoodMsgWrong : ChangeSpec := { name := "fnExactGoodMsg", fn := fun _ => fun
  | [d] => { results := [.lit (.bool false)], args := [d] }
  | _ => none }
def FnExactGoodMsgWrongFalsely : Prop := fnExactGoodMsgRow.holds Try.pinned (OpenSpec.ofChange fnExactGoodMsgWrong)

/-- 'laws.FnExactMsgBytes': WHATEVER THE INPUT: true; the input reads as it did. -/
def fnExactMsgBytesSpec : ChangeSpec := { name := "fnExactMsgBytes", fn := fun _ => fun
  | [d] => { results := [.lit (.bool true)], args := [d] }
  | _ => none }
def fnExactMsgBytesRow : OpenClaim := { program := "ytbklhmeaoigneaa", sum := "6200a4f85b2dae978901f9af288910cbf74e11bc09fbb2dee50db79c8769640c", func := "loop.example/g00218/laws.FnExactMsgBytes", spec := "fnExactMsgBytes", apart := false }
def FnExactMsgBytesSaid : Prop := fnExactMsgBytesRow.holds Try.pinned (OpenSpec.ofChange fnExactMsgBytesSpec)

/-- ITS FALSE NEIGHBOUR: 'it returns false'. Refute it at one input. -/
def fnExactMsgBytesWrong : ChangeSpec := { name := "fnExactMsgBytes", fn := fun _ => fun
  | [d] => { results := [.lit (.bool false)], args := [d] }
  | _ => none }
def FnExactMsgBytesWrongFalsely : Prop := fnExactMsgBytesRow.holds Try.pinned (OpenSpec.ofChange fnExactMsgBytesWrong)

/-- 'laws.FnExactReadMsg': WHATEVER THE INPUT: true; the input reads as it did. -/
def fnExactReadMsgSpec : ChangeSpec := { name := "fnExactReadMsg", fn := fun _ => fun
  | [d] => { results := [.lit (.bool true)], args := [d] }
  | _ => none }
def fnExactReadMsgRow : OpenClaim := { program := "ytbklhmeaoigneaa", sum := "6200a4f85b2dae978901f9af288910cbf74e11bc09fbb2dee50db79c8769640c", func := "loop.example/g00218/laws.FnExactReadMsg", spec := "fnExactReadMsg", apart := false }
def FnExactReadMsgSaid : Prop := fnExactReadMsgRow.holds Try.pinned (OpenSpec.ofChange fnExactReadMsgSpec)

/-- ITS FALSE NEIGHBOUR: 'it returns false'. Refute it at one input. -/
def fnExactReadMsgWrong : ChangeSpec := { name := "fnExactReadMsg", fn := fun _ => fun
  | [d] => { results := [.lit (.bool false)], args := [d] }
  | _ => none }
def FnExactReadMsgWrongFalsely : Prop := fnExactReadMsgRow.holds Try.pinned (OpenSpec.ofChange fnExactReadMsgWrong)

/-- 'laws.FnExactMsgsBytes': WHATEVER THE INPUT: true; the input reads as it did. -/
def fnExactMsgsBytesSpec : ChangeSpec := { name := "fnExactMsgsBytes", fn := fun _ => fun
  | [d] => { results := [.lit (.bool true)], args := [d] }
  | _ => none }
def fnExactMsgsBytesRow : OpenClaim := { program := "ytbklhmeaoigneaa", sum := "6200a4f85b2dae978901f9af288910cbf74e11bc09fbb2dee50db79c8769640c", func := "loop.example/g00218/laws.FnExactMsgsBytes", spec := "fnExactMsgsBytes", apart := false }
def FnExactMsgsBytesSaid : Prop := fnExactMsgsBytesRow.holds Try.pinned (OpenSpec.ofChange fnExactMsgsBytesSpec)

/-- ITS FALSE NEIGHBOUR: 'it returns false'. Refute it at one input. -/
def fnExactMsgsBytesWrong : ChangeSpec := { name := "fnExactMsgsBytes", fn := fun _ => fun
  | [d] => { results := [.lit (.bool false)], args := [d] }
  | _ => none }
def FnExactMsgsBytesWrongFalsely : Prop := fnExactMsgsBytesRow.holds Try.pinned (OpenSpec.ofChange fnExactMsgsBytesWrong)

/-- 'laws.FnExactReadMsgs': WHATEVER THE INPUT: true; the input reads as it did. -/
def fnExactReadMsgsSpec : ChangeSpec := { name := "fnExactReadMsgs", fn := fun _ => fun
  | [d] => { results := [.lit (.bool true)], args := [d] }
  | _ => none }
def fnExactReadMsgsRow : OpenClaim := { program := "ytbklhmeaoigneaa", sum := "6200a4f85b2dae978901f9af288910cbf74e11bc09fbb2dee50db79c8769640c", func := "loop.example/g00218/laws.FnExactReadMsgs", spec := "fnExactReadMsgs", apart := false }
def FnExactReadMsgsSaid : Prop := fnExactReadMsgsRow.holds Try.pinned (OpenSpec.ofChange fnExactReadMsgsSpec)

/-- ITS FALSE NEIGHBOUR: 'it returns false'. Refute it at one input. -/
def fnExactReadMsgsWrong : ChangeSpec := { name := "fnExactReadMsgs", fn := fun _ => fun
  | [d] => { results := [.lit (.bool false)], args := [d] }
  | _ => none }
def FnExactReadMsgsWrongFalsely : Prop := fnExactReadMsgsRow.holds Try.pinned (OpenSpec.ofChange fnExactReadMsgsWrong)

/- THE SECOND FORM. 'bulk': how many values and letters a reading holds, each counted each time it is reached (what is shared counts as often as it is met; a slice's spare places count too). A statement '..UptoSaid' is the law's where the arguments, and the package variables that the reading takes, are together of bulk at most 1048576: NARROWER than '..Said'. Prove '..Said' where nothing that the law and all that it calls make is longer than what came in: it says more and counts as full. Else prove '..UptoSaid'. A law counts once. -/
mutual
def uptoBulk {H : Type} : DataW H → Nat
  | .lit (.string bytes) => bytes.length + 1
  | .lit _ => 1
  | .nil => 1
  | .ptr d => uptoBulk d + 1
  | .slice elems spare => uptoBulkAll elems + uptoBulkAll spare + 1
  | .agg parts => uptoBulkAll parts + 1
  | .iface _ d => uptoBulk d + 1
  | .map entries => uptoBulkEntries entries + 1
  | .held _ => 1
def uptoBulkAll {H : Type} : List (DataW H) → Nat
  | [] => 0
  | d :: r => uptoBulk d + uptoBulkAll r
def uptoBulkEntries {H : Type} : List (Lit × DataW H) → Nat
  | [] => 0
  | x :: r => uptoBulkEntry x + uptoBulkEntries r
def uptoBulkEntry {H : Type} : Lit × DataW H → Nat
  | (.string bytes, d) => bytes.length + uptoBulk d + 1
  | (_, d) => uptoBulk d + 1
 end
def uptoSmall : (H : Type) → List (DataW H) → Bool := fun _ ds => decide (uptoBulkAll ds ≤ 1048576)
def OpenSpec.upto (s : _root_.Go.ChangeSpec) : _root_.Go.OpenSpec := { _root_.Go.OpenSpec.ofChange s with cond := some uptoSmall }

/-- 'laws.FnTids', WHERE WHAT IT READS IS OF BULK AT MOST 1048576: true; the input reads as it did. -/
def fnTidsUptoRow : OpenClaim := { program := "ytbklhmeaoigneaa", sum := "6200a4f85b2dae978901f9af288910cbf74e11bc09fbb2dee50db79c8769640c", func := "loop.example/g00218/laws.FnTids", spec := "fnTids", apart := false, narrowed := true }
def FnTidsUptoSaid : Prop := fnTidsUptoRow.holds Try.pinned (OpenSpec.upto fnTidsSpec)

/-- 'laws.FnNext', WHERE WHAT IT READS IS OF BULK AT MOST 1048576: true; the input reads as it did. -/
def fnNextUptoRow : OpenClaim := { program := "ytbklhmeaoigneaa", sum := "6200a4f85b2dae978901f9af288910cbf74e11bc09fbb2dee50db79c8769640c", func := "loop.example/g00218/laws.FnNext", spec := "fnNext", apart := false, narrowed := true }
def FnNextUptoSaid : Prop := fnNextUptoRow.holds Try.pinned (OpenSpec.upto fnNextSpec)

/-- 'laws.FnMsgs', WHERE WHAT IT READS IS OF BULK AT MOST 1048576: true; the input reads as it did. -/
def fnMsgsUptoRow : OpenClaim := { program := "ytbklhmeaoigneaa", sum := "6200a4f85b2dae978901f9af288910cbf74e11bc09fbb2dee50db79c8769640c", func := "loop.example/g00218/laws.FnMsgs", spec := "fnMsgs", apart := false, narrowed := true }
def FnMsgsUptoSaid : Prop := fnMsgsUptoRow.holds Try.pinned (OpenSpec.upto fnMsgsSpec)

/-- 'laws.FnExactGoodTid', WHERE WHAT IT READS IS OF BULK AT MOST 1048576: true; the input reads as it did. -/
def fnExactGoodTidUptoRow : OpenClaim := { program := "ytbklhmeaoigneaa", sum := "6200a4f85b2dae978901f9af288910cbf74e11bc09fbb2dee50db79c8769640c", func := "loop.example/g00218/laws.FnExactGoodTid", spec := "fnExactGoodTid", apart := false, narrowed := true }
def FnExactGoodTidUptoSaid : Prop := fnExactGoodTidUptoRow.holds Try.pinned (OpenSpec.upto fnExactGoodTidSpec)

/-- 'laws.FnExactPackTid', WHERE WHAT IT READS IS OF BULK AT MOST 1048576: true; the input reads as it did. -/
def fnExactPackTidUptoRow : OpenClaim := { program := "ytbklhmeaoigneaa", sum := "6200a4f85b2dae978901f9af288910cbf74e11bc09fbb2dee50db79c8769640c", func := "loop.example/g00218/laws.FnExactPackTid", spec := "fnExactPackTid", apart := false, narrowed := true }
def FnExactPackTidUptoSaid : Prop := fnExactPackTidUptoRow.holds Try.pinned (OpenSpec.upto fnExactPackTidSpec)

/-- 'laws.FnExactUnpackTid', WHERE WHAT IT READS IS OF BULK AT MOST 1048576: true; the input reads as it did. -/
def fnExactUnpackTidUptoRow : OpenClaim := { program := "ytbklhmeaoigneaa", sum := "6200a4f85b2dae978901f9af288910cbf74e11bc09fbb2dee50db79c8769640c", func := "loop.example/g00218/laws.FnExactUnpackTid", spec := "fnExactUnpackTid", apart := false, narrowed := true }
def FnExactUnpackTidUptoSaid : Prop := fnExactUnpackTidUptoRow.holds Try.pinned (OpenSpec.upto fnExactUnpackTidSpec)

/-- 'laws.FnExactCompareTid', WHERE WHAT IT READS IS OF BULK AT MOST 1048576: true; the input reads as it did. -/
def fnExactCompareTidUptoRow : OpenClaim := { program := "ytbklhmeaoigneaa", sum := "6200a4f85b2dae978901f9af288910cbf74e11bc09fbb2dee50db79c8769640c", func := "loop.example/g00218/laws.FnExactCompareTid", spec := "fnExactCompareTid", apart := false, narrowed := true }
def FnExactCompareTidUptoSaid : Prop := fnExactCompareTidUptoRow.holds Try.pinned (OpenSpec.upto fnExactCompareTidSpec)

/-- 'laws.FnExactNextTid', WHERE WHAT IT READS IS OF BULK AT MOST 1048576: true; the input reads as it did. -/
def fnExactNextTidUptoRow : OpenClaim := { program := "ytbklhmeaoigneaa", sum := "6200a4f85b2dae978901f9af288910cbf74e11bc09fbb2dee50db79c8769640c", func := "loop.example/g00218/laws.FnExactNextTid", spec := "fnExactNextTid", apart := false, narrowed := true }
def FnExactNextTidUptoSaid : Prop := fnExactNextTidUptoRow.holds Try.pinned (OpenSpec.upto fnExactNextTidSpec)

/-- 'laws.FnExactGoodMsg', WHERE WHAT IT READS IS OF BULK AT MOST 1048576: true; the input reads as it did. -/
def fnExactGoodMsgUptoRow : OpenClaim := { program := "ytbklhmeaoigneaa", sum := "6200a4f85b2dae978901f9af288910cbf74e11bc09fbb2dee50db79c8769640c", func := "loop.example/g00218/laws.FnExactGoodMsg", spec := "fnExactGoodMsg", apart := false, narrowed := true }
def FnExactGoodMsgUptoSaid : Prop := fnExactGoodMsgUptoRow.holds Try.pinned (OpenSpec.upto fnExactGoodMsgSpec)

/-- 'laws.FnExactMsgBytes', WHERE WHAT IT READS IS OF BULK AT MOST 1048576: true; the input reads as it did. -/
def fnExactMsgBytesUptoRow : OpenClaim := { program := "ytbklhmeaoigneaa", sum := "6200a4f85b2dae978901f9af288910cbf74e11bc09fbb2dee50db79c8769640c", func := "loop.example/g00218/laws.FnExactMsgBytes", spec := "fnExactMsgBytes", apart := false, narrowed := true }
def FnExactMsgBytesUptoSaid : Prop := fnExactMsgBytesUptoRow.holds Try.pinned (OpenSpec.upto fnExactMsgBytesSpec)

/-- 'laws.FnExactReadMsg', WHERE WHAT IT READS IS OF BULK AT MOST 1048576: true; the input reads as it did. -/
def fnExactReadMsgUptoRow : OpenClaim := { program := "ytbklhmeaoigneaa", sum := "6200a4f85b2dae978901f9af288910cbf74e11bc09fbb2dee50db79c8769640c", func := "loop.example/g00218/laws.FnExactReadMsg", spec := "fnExactReadMsg", apart := false, narrowed := true }
def FnExactReadMsgUptoSaid : Prop := fnExactReadMsgUptoRow.holds Try.pinned (OpenSpec.upto fnExactReadMsgSpec)

/-- 'laws.FnExactMsgsBytes', WHERE WHAT IT READS IS OF BULK AT MOST 1048576: true; the input reads as it did. -/
def fnExactMsgsBytesUptoRow : OpenClaim := { program := "ytbklhmeaoigneaa", sum := "6200a4f85b2dae978901f9af288910cbf74e11bc09fbb2dee50db79c8769640c", func := "loop.example/g00218/laws.FnExactMsgsBytes", spec := "fnExactMsgsBytes", apart := false, narrowed := true }
def FnExactMsgsBytesUptoSaid : Prop := fnExactMsgsBytesUptoRow.holds Try.pinned (OpenSpec.upto fnExactMsgsBytesSpec)

/-- 'laws.FnExactReadMsgs', WHERE WHAT IT READS IS OF BULK AT MOST 1048576: true; the input reads as it did. -/
def fnExactReadMsgsUptoRow : OpenClaim := { program := "ytbklhmeaoigneaa", sum := "6200a4f85b2dae978901f9af288910cbf74e11bc09fbb2dee50db79c8769640c", func := "loop.example/g00218/laws.FnExactReadMsgs", spec := "fnExactReadMsgs", apart := false, narrowed := true }
def FnExactReadMsgsUptoSaid : Prop := fnExactReadMsgsUptoRow.holds Try.pinned (OpenSpec.upto fnExactReadMsgsSpec)

end Rows
end Go.Proofs.Ytbklhmeaoigneaa
