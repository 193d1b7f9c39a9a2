/-
  No cell of these rows narrows 'for every input' (looked for: loops, veiled, ifaces, maps, wideKeys, modest, calm, conditions, laid).
  DERIVED. THE GIVEN ROWS OF THIS SEAT. 13 by the template 'for every input the law returns true; each argument reads behind the call as it read before'; 0 by the template 'total and deterministic' (their statements: YthbpjmnlgfahmaaTotals.lean).
  GIVEN WITH THE SEED: the statements are not yours to turn. If you find one false, say at which input.
  Laid BY PROGRAM, IN A SANDBOX (cutbox-rows.mjs): the forced cells as the released guide's own fill.sh prints them over the translation aa433708cd666c03… (all of the seat's roots in one cut). By AI agents, Wed Nov 11 2026. No macro, syntax, notation, axiom, sorry.
-/
import Derived.Test.YthbpjmnlgfahmaaChecked
import GoSem.Claim
import GoSem.ClaimJoined
import GoSem.ClaimMapViews
import Derived.JoinedTies
import Derived.KernelRfl
namespace Go.Proofs.Ythbpjmnlgfahmaa
/- THE CELL 'sum', in the pinned program and in every row, IS THE sha256 OF THE DUMP (.gsa) THAT YthbpjmnlgfahmaaProg.lean LOADS. Nothing in Lean hashes anything: it is a label: what it is worth is what the hold of that sum in a sandbox is worth. -/
noncomputable def Try.pinned : Pinned := { name := "ythbpjmnlgfahmaa", sum := "aa433708cd666c03fefb90d0c34d7e04cc089df41d0a69b75a30edcc978c40c0", checked := Try.checked }
namespace Rows
def none {H : Type} : Left H := { results := [], args := [] }

/-- 'laws.FnLamport': WHATEVER THE INPUT: true; the input reads as it did. -/
def fnLamportSpec : ChangeSpec := { name := "fnLamport", fn := fun _ => fun
  | [d] => { results := [.lit (.bool true)], args := [d] }
  | _ => none }
def fnLamportRow : OpenClaim := { program := "ythbpjmnlgfahmaa", sum := "aa433708cd666c03fefb90d0c34d7e04cc089df41d0a69b75a30edcc978c40c0", func := "loop.example/g00218/laws.FnLamport", spec := "fnLamport", apart := false }
def FnLamportSaid : Prop := fnLamportRow.holds Try.pinned (OpenSpec.ofChange fnLamportSpec)

/-- ITS FALSE NEIGHBOUR: 'it returns false'. Refute it at one input. -/
def fnLamportWrong : ChangeSpec := { name := "fnLamport", fn := fun _ => fun
  | [d] => { results := [.lit (.bool false)], args := [d] }
  | _ => none }
def FnLamportWrongFalsely : Prop := fnLamportRow.holds Try.pinned (OpenSpec.ofChange fnLamportWrong)

/-- 'laws.FnTwoPhase': WHATEVER THE INPUT: true; the input reads as it did. -/
def fnTwoPhaseSpec : ChangeSpec := { name := "fnTwoPhase", fn := fun _ => fun
  | [d] => { results := [.lit (.bool true)], args := [d] }
  | _ => none }
def fnTwoPhaseRow : OpenClaim := { program := "ythbpjmnlgfahmaa", sum := "aa433708cd666c03fefb90d0c34d7e04cc089df41d0a69b75a30edcc978c40c0", func := "loop.example/g00218/laws.FnTwoPhase", spec := "fnTwoPhase", recurses := true, apart := false }
def FnTwoPhaseSaid : Prop := fnTwoPhaseRow.holds Try.pinned (OpenSpec.ofChange fnTwoPhaseSpec)

/-- ITS FALSE NEIGHBOUR: 'it returns false'. Refute it at one input. -/
def fnTwoPhaseWrong : ChangeSpec := { name := "fnTwoPhase", fn := fun _ => fun
  | [d] => { results := [.lit (.bool false)], args := [d] }
  | _ => none }
def FnTwoPhaseWrongFalsely : Prop := fnTwoPhaseRow.holds Try.pinned (OpenSpec.ofChange fnTwoPhaseWrong)

/-- 'laws.FnStrict': WHATEVER THE INPUT: true; the input reads as it did. -/
def fnStrictSpec : ChangeSpec := { name := "fnStrict", fn := fun _ => fun
  | [d1, d2] => { results := [.lit (.bool true)], args := [d1, d2] }
  | _ => none }
def fnStrictRow : OpenClaim := { program := "ythbpjmnlgfahmaa", sum := "aa433708cd666c03fefb90d0c34d7e04cc089df41d0a69b75a30edcc978c40c0", func := "loop.example/g00218/laws.FnStrict", spec := "fnStrict", unfollowed := true, recurses := true, apart := false }
def FnStrictSaid : Prop := fnStrictRow.holds Try.pinned (OpenSpec.ofChange fnStrictSpec)

/-- ITS FALSE NEIGHBOUR: 'it returns false'. Refute it at one input. -/
def fnStrictWrong : ChangeSpec := { name := "fnStrict", fn := fun _ => fun
  | [d1, d2] => { results := [.lit (.bool false)], args := [d1, d2] }
  | _ => none }
def FnStrictWrongFalsely : Prop := fnStrictRow.holds Try.pinned (OpenSpec.ofChange fnStrictWrong)

/-- 'laws.FnExactGoodEvents': WHATEVER THE INPUT: true; the input reads as it did. -/
def fnExactGoodEventsSpec : ChangeSpec := { name := "fnExactGoodEvents", fn := fun _ => fun
  | [d] => { results := [.lit (.bool true)], args := [d] }
  | _ => none }
def fnExactGoodEventsRow : OpenClaim := { program := "ythbpjmnlgfahmaa", sum := "aa433708cd666c03fefb90d0c34d7e04cc089df41d0a69b75a30edcc978c40c0", func := "loop.example/g00218/laws.FnExactGoodEvents", spec := "fnExactGoodEvents", apart := false }
def FnExactGoodEventsSaid : Prop := fnExactGoodEventsRow.holds Try.pinned (OpenSpec.ofChange fnExactGoodEventsSpec)

/-- ITS FALSE NEIGHBOUR: 'it returns false'. Refute it at one input. -/
def fnExactGoodEventsWrong : ChangeSpec := { name := "fnExactGoodEvents", fn := fun _ => fun
  | [d] => { results := [.lit (.bool false)], args := [d] }
  | _ => none }
def FnExactGoodEventsWrongFalsely : Prop := fnExactGoodEventsRow.holds Try.pinned (OpenSpec.ofChange fnExactGoodEventsWrong)

/-- 'laws.FnExactLamportOf': WHATEVER THE INPUT: true; the input reads as it did. -/
def fnExactLamportOfSpec : ChangeSpec := { name := "fnExactLamportOf", fn := fun _ => fun
  | [d] => { results := [.lit (.bool true)], args := [d] }
  | _ => none }
def fnExactLamportOfRow : OpenClaim := { program := "ythbpjmnlgfahmaa", sum := "aa433708cd666c03fefb90d0c34d7e04cc089df41d0a69b75a30edcc978c40c0", func := "loop.example/g00218/laws.FnExactLamportOf", spec := "fnExactLamportOf", apart := false }
def FnExactLamportOfSaid : Prop := fnExactLamportOfRow.holds Try.pinned (OpenSpec.ofChange fnExactLamportOfSpec)

/-- ITS FALSE NEIGHBOUR: 'it returns false'. Refute it at one input. -/
def fnExactLamportOfWrong : ChangeSpec := { name := "fnExactLamportOf", fn := fun _ => fun
  | [d] => { results := [.lit (.bool false)], args := [d] }
  | _ => none }
def FnExactLamportOfWrongFalsely : Prop := fnExactLamportOfRow.holds Try.pinned (OpenSpec.ofChange fnExactLamportOfWrong)

/-- 'laws.FnExactAheadOf': WHATEVER THE INPUT: true; the input reads as it did. -/
def fnExactAheadOfSpec : ChangeSpec := { name := "fnExactAheadOf", fn := fun _ => fun
  | [d1, d2, d3] => { results := [.lit (.bool true)], args := [d1, d2, d3] }
  | _ => none }
def fnExactAheadOfRow : OpenClaim := { program := "ythbpjmnlgfahmaa", sum := "aa433708cd666c03fefb90d0c34d7e04cc089df41d0a69b75a30edcc978c40c0", func := "loop.example/g00218/laws.FnExactAheadOf", spec := "fnExactAheadOf", apart := false }
def FnExactAheadOfSaid : Prop := fnExactAheadOfRow.holds Try.pinned (OpenSpec.ofChange fnExactAheadOfSpec)

/-- ITS FALSE NEIGHBOUR: 'it returns false'. Refute it at one input. -/
def fnExactAheadOfWrong : ChangeSpec := { name := "fnExactAheadOf", fn := fun _ => fun
  | [d1, d2, d3] => { results := [.lit (.bool false)], args := [d1, d2, d3] }
  | _ => none }
def FnExactAheadOfWrongFalsely : Prop := fnExactAheadOfRow.holds Try.pinned (OpenSpec.ofChange fnExactAheadOfWrong)

/-- 'laws.FnExactGoodOps': WHATEVER THE INPUT: true; the input reads as it did. -/
def fnExactGoodOpsSpec : ChangeSpec := { name := "fnExactGoodOps", fn := fun _ => fun
  | [d] => { results := [.lit (.bool true)], args := [d] }
  | _ => none }
def fnExactGoodOpsRow : OpenClaim := { program := "ythbpjmnlgfahmaa", sum := "aa433708cd666c03fefb90d0c34d7e04cc089df41d0a69b75a30edcc978c40c0", func := "loop.example/g00218/laws.FnExactGoodOps", spec := "fnExactGoodOps", apart := false }
def FnExactGoodOpsSaid : Prop := fnExactGoodOpsRow.holds Try.pinned (OpenSpec.ofChange fnExactGoodOpsSpec)

/-- ITS FALSE NEIGHBOUR: 'it returns false'. Refute it at one input. -/
def fnExactGoodOpsWrong : ChangeSpec := { name := "fnExactGoodOps", fn := fun _ => fun
  | [d] => { results := [.lit (.bool false)], args := [d] }
  | _ => none }
def FnExactGoodOpsWrongFalsely : Prop := fnExactGoodOpsRow.holds Try.pinned (OpenSpec.ofChange fnExactGoodOpsWrong)

/-- 'laws.FnExactConflictsOf': WHATEVER THE INPUT: true; the input reads as it did. -/
def fnExactConflictsOfSpec : ChangeSpec := { name := "fnExactConflictsOf", fn := fun _ => fun
  | [d] => { results := [.lit (.bool true)], args := [d] }
  | _ => none }
def fnExactConflictsOfRow : OpenClaim := { program := "ythbpjmnlgfahmaa", sum := "aa433708cd666c03fefb90d0c34d7e04cc089df41d0a69b75a30edcc978c40c0", func := "loop.example/g00218/laws.FnExactConflictsOf", spec := "fnExactConflictsOf", apart := false }
def FnExactConflictsOfSaid : Prop := fnExactConflictsOfRow.holds Try.pinned (OpenSpec.ofChange fnExactConflictsOfSpec)

/-- ITS FALSE NEIGHBOUR: 'it returns false'. Refute it at one input. -/
def fnExactConflictsOfWrong : ChangeSpec := { name := "fnExactConflictsOf", fn := fun _ => fun
  | [d] => { results := [.lit (.bool false)], args := [d] }
  | _ => none }
def FnExactConflictsOfWrongFalsely : Prop := fnExactConflictsOfRow.holds Try.pinned (OpenSpec.ofChange fnExactConflictsOfWrong)

/-- 'laws.FnExactSerialOrder': WHATEVER THE INPUT: true; the input reads as it did. -/
def fnExactSerialOrderSpec : ChangeSpec := { name := "fnExactSerialOrder", fn := fun _ => fun
  | [d] => { results := [.lit (.bool true)], args := [d] }
  | _ => none }
def fnExactSerialOrderRow : OpenClaim := { program := "ythbpjmnlgfahmaa", sum := "aa433708cd666c03fefb90d0c34d7e04cc089df41d0a69b75a30edcc978c40c0", func := "loop.example/g00218/laws.FnExactSerialOrder", spec := "fnExactSerialOrder", recurses := true, apart := false }
def FnExactSerialOrderSaid : Prop := fnExactSerialOrderRow.holds Try.pinned (OpenSpec.ofChange fnExactSerialOrderSpec)

/-- ITS FALSE NEIGHBOUR: 'it returns false'. Refute it at one input. -/
def fnExactSerialOrderWrong : ChangeSpec := { name := "fnExactSerialOrder", fn := fun _ => fun
  | [d] => { results := [.lit (.bool false)], args := [d] }
  | _ => none }
def FnExactSerialOrderWrongFalsely : Prop := fnExactSerialOrderRow.holds Try.pinned (OpenSpec.ofChange fnExactSerialOrderWrong)

/-- 'laws.FnExactSerialOps': WHATEVER THE INPUT: true; the input reads as it did. -/
def fnExactSerialOpsSpec : ChangeSpec := { name := "fnExactSerialOps", fn := fun _ => fun
  | [d1, d2] => { results := [.lit (.bool true)], args := [d1, d2] }
  | _ => none }
def fnExactSerialOpsRow : OpenClaim := { program := "ythbpjmnlgfahmaa", sum := "aa433708cd666c03fefb90d0c34d7e04cc089df41d0a69b75a30edcc978c40c0", func := "loop.example/g00218/laws.FnExactSerialOps", spec := "fnExactSerialOps", recurses := true, apart := false }
def FnExactSerialOpsSaid : Prop := fnExactSerialOpsRow.holds Try.pinned (OpenSpec.ofChange fnExactSerialOpsSpec)

/-- ITS FALSE NEIGHBOUR: 'it returns false'. Refute it at one input. -/
def fnExactSerialOpsWrong : ChangeSpec := { name := "fnExactSerialOps", fn := fun _ => fun
  | [d1, d2] => { results := [.lit (.bool false)], args := [d1, d2] }
  | _ => none }
def FnExactSerialOpsWrongFalsely : Prop := fnExactSerialOpsRow.holds Try.pinned (OpenSpec.ofChange fnExactSerialOpsWrong)

/-- 'laws.FnExactIsTwoPhase': WHATEVER THE INPUT: true; the input reads as it did. -/
def fnExactIsTwoPhaseSpec : ChangeSpec := { name := "fnExactIsTwoPhase", fn := fun _ => fun
  | [d1, d2] => { results := [.lit (.bool true)], args := [d1, d2] }
  | _ => none }
def fnExactIsTwoPhaseRow : OpenClaim := { program := "ythbpjmnlgfahmaa", sum := "aa433708cd666c03fefb90d0c34d7e04cc089df41d0a69b75a30edcc978c40c0", func := "loop.example/g00218/laws.FnExactIsTwoPhase", spec := "fnExactIsTwoPhase", apart := false }
def FnExactIsTwoPhaseSaid : Prop := fnExactIsTwoPhaseRow.holds Try.pinned (OpenSpec.ofChange fnExactIsTwoPhaseSpec)

/-- ITS FALSE NEIGHBOUR: 'it returns false'. Refute it at one input. -/
def fnExactIsTwoPhaseWrong : ChangeSpec := { name := "fnExactIsTwoPhase", fn := fun _ => fun
  | [d1, d2] => { results := [.lit (.bool false)], args := [d1, d2] }
  | _ => none }
def FnExactIsTwoPhaseWrongFalsely : Prop := fnExactIsTwoPhaseRow.holds Try.pinned (OpenSpec.ofChange fnExactIsTwoPhaseWrong)

/-- 'laws.FnExactReadsFrom': WHATEVER THE INPUT: true; the input reads as it did. -/
def fnExactReadsFromSpec : ChangeSpec := { name := "fnExactReadsFrom", fn := fun _ => fun
  | [d] => { results := [.lit (.bool true)], args := [d] }
  | _ => none }
def fnExactReadsFromRow : OpenClaim := { program := "ythbpjmnlgfahmaa", sum := "aa433708cd666c03fefb90d0c34d7e04cc089df41d0a69b75a30edcc978c40c0", func := "loop.example/g00218/laws.FnExactReadsFrom", spec := "fnExactReadsFrom", unfollowed := true, recurses := true, apart := false }
def FnExactReadsFromSaid : Prop := fnExactReadsFromRow.holds Try.pinned (OpenSpec.ofChange fnExactReadsFromSpec)

/-- ITS FALSE NEIGHBOUR: 'it returns false'. Refute it at one input. -/
def fnExactReadsFromWrong : ChangeSpec := { name := "fnExactReadsFrom", fn := fun _ => fun
  | [d] => { results := [.lit (.bool false)], args := [d] }
  | _ => none }
def FnExactReadsFromWrongFalsely : Prop := fnExactReadsFromRow.holds Try.pinned (OpenSpec.ofChange fnExactReadsFromWrong)

/-- 'laws.FnExactRecoverableOf': WHATEVER THE INPUT: true; the input reads as it did. -/
def fnExactRecoverableOfSpec : ChangeSpec := { name := "fnExactRecoverableOf", fn := fun _ => fun
  | [d] => { results := [.lit (.bool true)], args := [d] }
  | _ => none }
def fnExactRecoverableOfRow : OpenClaim := { program := "ythbpjmnlgfahmaa", sum := "aa433708cd666c03fefb90d0c34d7e04cc089df41d0a69b75a30edcc978c40c0", func := "loop.example/g00218/laws.FnExactRecoverableOf", spec := "fnExactRecoverableOf", unfollowed := true, recurses := true, apart := false }
def FnExactRecoverableOfSaid : Prop := fnExactRecoverableOfRow.holds Try.pinned (OpenSpec.ofChange fnExactRecoverableOfSpec)

/-- ITS FALSE NEIGHBOUR: 'it returns false'. Refute it at one input. -/
def fnExactRecoverableOfWrong : ChangeSpec := { name := "fnExactRecoverableOf", fn := fun _ => fun
  | [d] => { results := [.lit (.bool false)], args := [d] }
  | _ => none }
def FnExactRecoverableOfWrongFalsely : Prop := fnExactRecoverableOfRow.holds Try.pinned (OpenSpec.ofChange fnExactRecoverableOfWrong)

/- THE SECOND FORM. 'bulk': how many values and letters a reading holds, each counted each time it is reached (what is shared counts as often as it is met; a slice's spare places count too). A statement '..UptoSaid' is the law's where the arguments, and the package variables that the reading takes, are together of bulk at most 1048576: NARROWER than '..Said'. Prove '..Said' where nothing that the law and all that it calls make is longer than what came in: it says more and counts as full. Else prove '..UptoSaid'. A law counts once. -/
mutual
def uptoBulk {H : Type} : DataW H → Nat
  | .lit (.string bytes) => bytes.length + 1
  | .lit _ => 1
  | .nil => 1
  | .ptr d => uptoBulk d + 1
  | .slice elems spare => uptoBulkAll elems + uptoBulkAll spare + 1
  | .agg parts => uptoBulkAll parts + 1
  | .iface _ d => uptoBulk d + 1
  | .map entries => uptoBulkEntries entries + 1
  | .held _ => 1
def uptoBulkAll {H : Type} : List (DataW H) → Nat
  | [] => 0
  | d :: r => uptoBulk d + uptoBulkAll r
def uptoBulkEntries {H : Type} : List (Lit × DataW H) → Nat
  | [] => 0
  | x :: r => uptoBulkEntry x + uptoBulkEntries r
def uptoBulkEntry {H : Type} : Lit × DataW H → Nat
  | (.string bytes, d) => bytes.length + uptoBulk d + 1
  | (_, d) => uptoBulk d + 1
 end
def uptoSmall : (H : Type) → List (DataW H) → Bool := fun _ ds => decide (uptoBulkAll ds ≤ 1048576)
def OpenSpec.upto (s : _root_.Go.ChangeSpec) : _root_.Go.OpenSpec := { _root_.Go.OpenSpec.ofChange s with cond := some uptoSmall }

/-- 'laws.FnLamport', WHERE WHAT IT READS IS OF BULK AT MOST 1048576: true; the input reads as it did. -/
def fnLamportUptoRow : OpenClaim := { program := "ythbpjmnlgfahmaa", sum := "aa433708cd666c03fefb90d0c34d7e04cc089df41d0a69b75a30edcc978c40c0", func := "loop.example/g00218/laws.FnLamport", spec := "fnLamport", apart := false, narrowed := true }
def FnLamportUptoSaid : Prop := fnLamportUptoRow.holds Try.pinned (OpenSpec.upto fnLamportSpec)

/-- 'laws.FnTwoPhase', WHERE WHAT IT READS IS OF BULK AT MOST 1048576: true; the input reads as it did. -/
def fnTwoPhaseUptoRow : OpenClaim := { program := "ythbpjmnlgfahmaa", sum := "aa433708cd666c03fefb90d0c34d7e04cc089df41d0a69b75a30edcc978c40c0", func := "loop.example/g00218/laws.FnTwoPhase", spec := "fnTwoPhase", recurses := true, apart := false, narrowed := true }
def FnTwoPhaseUptoSaid : Prop := fnTwoPhaseUptoRow.holds Try.pinned (OpenSpec.upto fnTwoPhaseSpec)

/-- 'laws.FnStrict', WHERE WHAT IT READS IS OF BULK AT MOST 1048576: true; the input reads as it did. -/
def fnStrictUptoRow : OpenClaim := { program := "ythbpjmnlgfahmaa", sum := "aa433708cd666c03fefb90d0c34d7e04cc089df41d0a69b75a30edcc978c40c0", func := "loop.example/g00218/laws.FnStrict", spec := "fnStrict", unfollowed := true, recurses := true, apart := false, narrowed := true }
def FnStrictUptoSaid : Prop := fnStrictUptoRow.holds Try.pinned (OpenSpec.upto fnStrictSpec)

/-- 'laws.FnExactGoodEvents', WHERE WHAT IT READS IS OF BULK AT MOST 1048576: true; the input reads as it did. -/
def fnExactGoodEventsUptoRow : OpenClaim := { program := "ythbpjmnlgfahmaa", sum := "aa433708cd666c03fefb90d0c34d7e04cc089df41d0a69b75a30edcc978c40c0", func := "loop.example/g00218/laws.FnExactGoodEvents", spec := "fnExactGoodEvents", apart := false, narrowed := true }
def FnExactGoodEventsUptoSaid : Prop := fnExactGoodEventsUptoRow.holds Try.pinned (OpenSpec.upto fnExactGoodEventsSpec)

/-- 'laws.FnExactLamportOf', WHERE WHAT IT READS IS OF BULK AT MOST 1048576: true; the input reads as it did. -/
def fnExactLamportOfUptoRow : OpenClaim := { program := "ythbpjmnlgfahmaa", sum := "aa433708cd666c03fefb90d0c34d7e04cc089df41d0a69b75a30edcc978c40c0", func := "loop.example/g00218/laws.FnExactLamportOf", spec := "fnExactLamportOf", apart := false, narrowed := true }
def FnExactLamportOfUptoSaid : Prop := fnExactLamportOfUptoRow.holds Try.pinned (OpenSpec.upto fnExactLamportOfSpec)

/-- 'laws.FnExactAheadOf', WHERE WHAT IT READS IS OF BULK AT MOST 1048576: true; the input reads as it did. -/
def fnExactAheadOfUptoRow : OpenClaim := { program := "ythbpjmnlgfahmaa", sum := "aa433708cd666c03fefb90d0c34d7e04cc089df41d0a69b75a30edcc978c40c0", func := "loop.example/g00218/laws.FnExactAheadOf", spec := "fnExactAheadOf", apart := false, narrowed := true }
def FnExactAheadOfUptoSaid : Prop := fnExactAheadOfUptoRow.holds Try.pinned (OpenSpec.upto fnExactAheadOfSpec)

/-- 'laws.FnExactGoodOps', WHERE WHAT IT READS IS OF BULK AT MOST 1048576: true; the input reads as it did. -/
def fnExactGoodOpsUptoRow : OpenClaim := { program := "ythbpjmnlgfahmaa", sum := "aa433708cd666c03fefb90d0c34d7e04cc089df41d0a69b75a30edcc978c40c0", func := "loop.example/g00218/laws.FnExactGoodOps", spec := "fnExactGoodOps", apart := false, narrowed := true }
def FnExactGoodOpsUptoSaid : Prop := fnExactGoodOpsUptoRow.holds Try.pinned (OpenSpec.upto fnExactGoodOpsSpec)

/-- 'laws.FnExactConflictsOf', WHERE WHAT IT READS IS OF BULK AT MOST 1048576: true; the input reads as it did. -/
def fnExactConflictsOfUptoRow : OpenClaim := { program := "ythbpjmnlgfahmaa", sum := "aa433708cd666c03fefb90d0c34d7e04cc089df41d0a69b75a30edcc978c40c0", func := "loop.example/g00218/laws.FnExactConflictsOf", spec := "fnExactConflictsOf", apart := false, narrowed := true }
def FnExactConflictsOfUptoSaid : Prop := fnExactConflictsOfUptoRow.holds Try.pinned (OpenSpec.upto fnExactConflictsOfSpec)

/-- 'laws.FnExactSerialOrder', WHERE WHAT IT READS IS OF BULK AT MOST 1048576: true; the input reads as it did. -/
def fnExactSerialOrderUptoRow : OpenClaim := { program := "ythbpjmnlgfahmaa", sum := "aa433708cd666c03fefb90d0c34d7e04cc089df41d0a69b75a30edcc978c40c0", func := "loop.example/g00218/laws.FnExactSerialOrder", spec := "fnExactSerialOrder", recurses := true, apart := false, narrowed := true }
def FnExactSerialOrderUptoSaid : Prop := fnExactSerialOrderUptoRow.holds Try.pinned (OpenSpec.upto fnExactSerialOrderSpec)

/-- 'laws.FnExactSerialOps', WHERE WHAT IT READS IS OF BULK AT MOST 1048576: true; the input reads as it did. -/
def fnExactSerialOpsUptoRow : OpenClaim := { program := "ythbpjmnlgfahmaa", sum := "aa433708cd666c03fefb90d0c34d7e04cc089df41d0a69b75a30edcc978c40c0", func := "loop.example/g00218/laws.FnExactSerialOps", spec := "fnExactSerialOps", recurses := true, apart := false, narrowed := true }
def FnExactSerialOpsUptoSaid : Prop := fnExactSerialOpsUptoRow.holds Try.pinned (OpenSpec.upto fnExactSerialOpsSpec)

/-- 'laws.FnExactIsTwoPhase', WHERE WHAT IT READS IS OF BULK AT MOST 1048576: true; the input reads as it did. -/
def fnExactIsTwoPhaseUptoRow : OpenClaim := { program := "ythbpjmnlgfahmaa", sum := "aa433708cd666c03fefb90d0c34d7e04cc089df41d0a69b75a30edcc978c40c0", func := "loop.example/g00218/laws.FnExactIsTwoPhase", spec := "fnExactIsTwoPhase", apart := false, narrowed := true }
def FnExactIsTwoPhaseUptoSaid : Prop := fnExactIsTwoPhaseUptoRow.holds Try.pinned (OpenSpec.upto fnExactIsTwoPhaseSpec)

/-- 'laws.FnExactReadsFrom', WHERE WHAT IT READS IS OF BULK AT MOST 1048576: true; the input reads as it did. -/
def fnExactReadsFromUptoRow : OpenClaim := { program := "ythbpjmnlgfahmaa", sum := "aa433708cd666c03fefb90d0c34d7e04cc089df41d0a69b75a30edcc978c40c0", func := "loop.example/g00218/laws.FnExactReadsFrom", spec := "fnExactReadsFrom", unfollowed := true, recurses := true, apart := false, narrowed := true }
def FnExactReadsFromUptoSaid : Prop := fnExactReadsFromUptoRow.holds Try.pinned (OpenSpec.upto fnExactReadsFromSpec)

/-- 'laws.FnExactRecoverableOf', WHERE WHAT IT READS IS OF BULK AT MOST 1048576: true; the input reads as it did. -/
def fnExactRecoverableOfUptoRow : OpenClaim := { program := "ythbpjmnlgfahmaa", sum := "aa433708cd666c03fefb90d0c34d7e04cc089df41d0a69b75a30edcc978c40c0", func := "loop.example/g00218/laws.FnExactRecoverableOf", spec := "fnExactRecoverableOf", unfollowed := true, recurses := true, apart := false, narrowed := true }
def FnExactRecoverableOfUptoSaid : Prop := fnExactRecoverableOfUptoRow.holds Try.pinned (OpenSpec.upto fnExactRecoverableOfSpec)

end Rows
end Go.Proofs.Ythbpjmnlgfahmaa
