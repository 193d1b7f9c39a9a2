/-
  No cell of these rows narrows 'for every input' (looked for: loops, veiled, ifaces, maps, wideKeys, modest, calm, conditions, laid).
  DERIVED. THE GIVEN ROWS OF THIS SEAT. 8 by the template 'for every input the law returns true; each argument reads behind the call as it read before'; 0 by the template 'total and deterministic' (their statements: YtcbdlalpnlahcaaTotals.lean).
  GIVEN WITH THE SEED: the statements are not yours to turn. If you find one false, say at which input.
  Laid BY PROGRAM, IN A SANDBOX (cutbox-rows.mjs): the forced cells as the released guide's own fill.sh prints them over the translation 10da8b5f0e4cfa52… (all of the seat's roots in one cut). By AI agents, Wed Nov 11 2026. No macro, syntax, notation, axiom, sorry.
-/
import Derived.Test.YtcbdlalpnlahcaaChecked
import GoSem.Claim
import GoSem.ClaimJoined
import GoSem.ClaimMapViews
import Derived.JoinedTies
import Derived.KernelRfl
namespace Go.Proofs.Ytcbdlalpnlahcaa
/- THE CELL 'sum', in the pinned program and in every row, IS THE sha256 OF THE DUMP (.gsa) THAT YtcbdlalpnlahcaaProg.lean LOADS. Nothing in Lean hashes anything: it is a label: what it is worth is what the hold of that sum in a sandbox is worth. -/
noncomputable def Try.pinned : Pinned := { name := "ytcbdlalpnlahcaa", sum := "10da8b5f0e4cfa52f20d2516fd93a9cc49ed0e1a9a91d516774b13c898fcff16", checked := Try.checked }
namespace Rows
def none {H : Type} : Left H := { results := [], args := [] }

/-- 'laws.FnFence': WHATEVER THE INPUT: true; the input reads as it did. -/
def fnFenceSpec : ChangeSpec := { name := "fnFence", fn := fun _ => fun
  | [d] => { results := [.lit (.bool true)], args := [d] }
  | _ => none }
def fnFenceRow : OpenClaim := { program := "ytcbdlalpnlahcaa", sum := "10da8b5f0e4cfa52f20d2516fd93a9cc49ed0e1a9a91d516774b13c898fcff16", func := "loop.example/g00218/laws.FnFence", spec := "fnFence", unfollowed := true, recurses := true, apart := false }
def FnFenceSaid : Prop := fnFenceRow.holds Try.pinned (OpenSpec.ofChange fnFenceSpec)

/-- ITS FALSE NEIGHBOUR: 'it returns false'. Refute it at one input. -/
def fnFenceWrong : ChangeSpec := { name := "fnFence", fn := fun _ => fun
  | [d] => { results := [.lit (.bool false)], args := [d] }
  | _ => none }
def FnFenceWrongFalsely : Prop := fnFenceRow.holds Try.pinned (OpenSpec.ofChange fnFenceWrong)

/-- 'laws.FnLasting': WHATEVER THE INPUT: true; the input reads as it did. -/
def fnLastingSpec : ChangeSpec := { name := "fnLasting", fn := fun _ => fun
  | [d] => { results := [.lit (.bool true)], args := [d] }
  | _ => none }
def fnLastingRow : OpenClaim := { program := "ytcbdlalpnlahcaa", sum := "10da8b5f0e4cfa52f20d2516fd93a9cc49ed0e1a9a91d516774b13c898fcff16", func := "loop.example/g00218/laws.FnLasting", spec := "fnLasting", unfollowed := true, recurses := true, apart := false }
def FnLastingSaid : Prop := fnLastingRow.holds Try.pinned (OpenSpec.ofChange fnLastingSpec)

/-- ITS FALSE NEIGHBOUR: 'it returns false'. Refute it at one input. -/
def fnLastingWrong : ChangeSpec := { name := "fnLasting", fn := fun _ => fun
  | [d] => { results := [.lit (.bool false)], args := [d] }
  | _ => none }
def FnLastingWrongFalsely : Prop := fnLastingRow.holds Try.pinned (OpenSpec.ofChange fnLastingWrong)

/-- 'laws.FnExactNewFence': WHATEVER THE INPUT: true; the input reads as it did. -/
def fnExactNewFenceSpec : ChangeSpec := { name := "fnExactNewFence", fn := fun _ => fun
  | [d] => { results := [.lit (.bool true)], args := [d] }
  | _ => none }
def fnExactNewFenceRow : OpenClaim := { program := "ytcbdlalpnlahcaa", sum := "10da8b5f0e4cfa52f20d2516fd93a9cc49ed0e1a9a91d516774b13c898fcff16", func := "loop.example/g00218/laws.FnExactNewFence", spec := "fnExactNewFence", apart := false }
def FnExactNewFenceSaid : Prop := fnExactNewFenceRow.holds Try.pinned (OpenSpec.ofChange fnExactNewFenceSpec)

/-- ITS FALSE NEIGHBOUR: 'it returns false'. Refute it at one input. -/
def fnExactNewFenceWrong : ChangeSpec := { name := "fnExactNewFence", fn := fun _ => fun
  | [d] => { results := [.lit (.bool false)], args := [d] }
  | _ => none }
def FnExactNewFenceWrongFalsely : Prop := fnExactNewFenceRow.holds Try.pinned (OpenSpec.ofChange fnExactNewFenceWrong)

/-- 'laws.FnExactGoodFence': WHATEVER THE INPUT: true; the input reads as it did. -/
def fnExactGoodFenceSpec : ChangeSpec := { name := "fnExactGoodFence", fn := fun _ => fun
  | [d] => { results := [.lit (.bool true)], args := [d] }
  | _ => none }
def fnExactGoodFenceRow : OpenClaim := { program := "ytcbdlalpnlahcaa", sum := "10da8b5f0e4cfa52f20d2516fd93a9cc49ed0e1a9a91d516774b13c898fcff16", func := "loop.example/g00218/laws.FnExactGoodFence", spec := "fnExactGoodFence", apart := false }
def FnExactGoodFenceSaid : Prop := fnExactGoodFenceRow.holds Try.pinned (OpenSpec.ofChange fnExactGoodFenceSpec)

/-- ITS FALSE NEIGHBOUR: 'it returns false'. Refute it at one input. -/
def fnExactGoodFenceWrong : ChangeSpec := { name := "fnExactGoodFence", fn := fun _ => fun
  | [d] => { results := [.lit (.bool false)], args := [d] }
  | _ => none }
def FnExactGoodFenceWrongFalsely : Prop := fnExactGoodFenceRow.holds Try.pinned (OpenSpec.ofChange fnExactGoodFenceWrong)

/-- 'laws.FnExactStepFence': WHATEVER THE INPUT: true; the input reads as it did. -/
def fnExactStepFenceSpec : ChangeSpec := { name := "fnExactStepFence", fn := fun _ => fun
  | [d1, d2] => { results := [.lit (.bool true)], args := [d1, d2] }
  | _ => none }
def fnExactStepFenceRow : OpenClaim := { program := "ytcbdlalpnlahcaa", sum := "10da8b5f0e4cfa52f20d2516fd93a9cc49ed0e1a9a91d516774b13c898fcff16", func := "loop.example/g00218/laws.FnExactStepFence", spec := "fnExactStepFence", unfollowed := true, recurses := true, apart := false }
def FnExactStepFenceSaid : Prop := fnExactStepFenceRow.holds Try.pinned (OpenSpec.ofChange fnExactStepFenceSpec)

/-- ITS FALSE NEIGHBOUR: 'it returns false'. Refute it at one input. -/
def fnExactStepFenceWrong : ChangeSpec := { name := "fnExactStepFence", fn := fun _ => fun
  | [d1, d2] => { results := [.lit (.bool false)], args := [d1, d2] }
  | _ => none }
def FnExactStepFenceWrongFalsely : Prop := fnExactStepFenceRow.holds Try.pinned (OpenSpec.ofChange fnExactStepFenceWrong)

/-- 'laws.FnExactPlayFence': WHATEVER THE INPUT: true; the input reads as it did. -/
def fnExactPlayFenceSpec : ChangeSpec := { name := "fnExactPlayFence", fn := fun _ => fun
  | [d1, d2] => { results := [.lit (.bool true)], args := [d1, d2] }
  | _ => none }
def fnExactPlayFenceRow : OpenClaim := { program := "ytcbdlalpnlahcaa", sum := "10da8b5f0e4cfa52f20d2516fd93a9cc49ed0e1a9a91d516774b13c898fcff16", func := "loop.example/g00218/laws.FnExactPlayFence", spec := "fnExactPlayFence", unfollowed := true, recurses := true, apart := false }
def FnExactPlayFenceSaid : Prop := fnExactPlayFenceRow.holds Try.pinned (OpenSpec.ofChange fnExactPlayFenceSpec)

/-- ITS FALSE NEIGHBOUR: 'it returns false'. Refute it at one input. -/
def fnExactPlayFenceWrong : ChangeSpec := { name := "fnExactPlayFence", fn := fun _ => fun
  | [d1, d2] => { results := [.lit (.bool false)], args := [d1, d2] }
  | _ => none }
def FnExactPlayFenceWrongFalsely : Prop := fnExactPlayFenceRow.holds Try.pinned (OpenSpec.ofChange fnExactPlayFenceWrong)

/-- 'laws.FnExactLastingIn': WHATEVER THE INPUT: true; the input reads as it did. -/
def fnExactLastingInSpec : ChangeSpec := { name := "fnExactLastingIn", fn := fun _ => fun
  | [d] => { results := [.lit (.bool true)], args := [d] }
  | _ => none }
def fnExactLastingInRow : OpenClaim := { program := "ytcbdlalpnlahcaa", sum := "10da8b5f0e4cfa52f20d2516fd93a9cc49ed0e1a9a91d516774b13c898fcff16", func := "loop.example/g00218/laws.FnExactLastingIn", spec := "fnExactLastingIn", apart := false }
def FnExactLastingInSaid : Prop := fnExactLastingInRow.holds Try.pinned (OpenSpec.ofChange fnExactLastingInSpec)

/-- ITS FALSE NEIGHBOUR: 'it returns false'. Refute it at one input. -/
def fnExactLastingInWrong : ChangeSpec := { name := "fnExactLastingIn", fn := fun _ => fun
  | [d] => { results := [.lit (.bool false)], args := [d] }
  | _ => none }
def FnExactLastingInWrongFalsely : Prop := fnExactLastingInRow.holds Try.pinned (OpenSpec.ofChange fnExactLastingInWrong)

/-- 'laws.FnExactLeastEpoch': WHATEVER THE INPUT: true; the input reads as it did. -/
def fnExactLeastEpochSpec : ChangeSpec := { name := "fnExactLeastEpoch", fn := fun _ => fun
  | [d] => { results := [.lit (.bool true)], args := [d] }
  | _ => none }
def fnExactLeastEpochRow : OpenClaim := { program := "ytcbdlalpnlahcaa", sum := "10da8b5f0e4cfa52f20d2516fd93a9cc49ed0e1a9a91d516774b13c898fcff16", func := "loop.example/g00218/laws.FnExactLeastEpoch", spec := "fnExactLeastEpoch", apart := false }
def FnExactLeastEpochSaid : Prop := fnExactLeastEpochRow.holds Try.pinned (OpenSpec.ofChange fnExactLeastEpochSpec)

/-- ITS FALSE NEIGHBOUR: 'it returns false'. Refute it at one input. -/
def fnExactLeastEpochWrong : ChangeSpec := { name := "fnExactLeastEpoch", fn := fun _ => fun
  | [d] => { results := [.lit (.bool false)], args := [d] }
  | _ => none }
def FnExactLeastEpochWrongFalsely : Prop := fnExactLeastEpochRow.holds Try.pinned (OpenSpec.ofChange fnExactLeastEpochWrong)

/- THE SECOND FORM. 'bulk': how many values and letters a reading holds, each counted each time it is reached (what is shared counts as often as it is met; a slice's spare places count too). A statement '..UptoSaid' is the law's where the arguments, and the package variables that the reading takes, are together of bulk at most 1048576: NARROWER than '..Said'. Prove '..Said' where nothing that the law and all that it calls make is longer than what came in: it says more and counts as full. Else prove '..UptoSaid'. A law counts once. -/
mutual
def uptoBulk {H : Type} : DataW H → Nat
  | .lit (.string bytes) => bytes.length + 1
  | .lit _ => 1
  | .nil => 1
  | .ptr d => uptoBulk d + 1
  | .slice elems spare => uptoBulkAll elems + uptoBulkAll spare + 1
  | .agg parts => uptoBulkAll parts + 1
  | .iface _ d => uptoBulk d + 1
  | .map entries => uptoBulkEntries entries + 1
  | .held _ => 1
def uptoBulkAll {H : Type} : List (DataW H) → Nat
  | [] => 0
  | d :: r => uptoBulk d + uptoBulkAll r
def uptoBulkEntries {H : Type} : List (Lit × DataW H) → Nat
  | [] => 0
  | x :: r => uptoBulkEntry x + uptoBulkEntries r
def uptoBulkEntry {H : Type} : Lit × DataW H → Nat
  | (.string bytes, d) => bytes.length + uptoBulk d + 1
  | (_, d) => uptoBulk d + 1
 end
def uptoSmall : (H : Type) → List (DataW H) → Bool := fun _ ds => decide (uptoBulkAll ds ≤ 1048576)
def OpenSpec.upto (s : _root_.Go.ChangeSpec) : _root_.Go.OpenSpec := { _root_.Go.OpenSpec.ofChange s with cond := some uptoSmall }

/-- 'laws.FnFence', WHERE WHAT IT READS IS OF BULK AT MOST 1048576: true; the input reads as it did. -/
def fnFenceUptoRow : OpenClaim := { program := "ytcbdlalpnlahcaa", sum := "10da8b5f0e4cfa52f20d2516fd93a9cc49ed0e1a9a91d516774b13c898fcff16", func := "loop.example/g00218/laws.FnFence", spec := "fnFence", unfollowed := true, recurses := true, apart := false, narrowed := true }
def FnFenceUptoSaid : Prop := fnFenceUptoRow.holds Try.pinned (OpenSpec.upto fnFenceSpec)

/-- 'laws.FnLasting', WHERE WHAT IT READS IS OF BULK AT MOST 1048576: true; the input reads as it did. -/
def fnLastingUptoRow : OpenClaim := { program := "ytcbdlalpnlahcaa", sum := "10da8b5f0e4cfa52f20d2516fd93a9cc49ed0e1a9a91d516774b13c898fcff16", func := "loop.example/g00218/laws.FnLasting", spec := "fnLasting", unfollowed := true, recurses := true, apart := false, narrowed := true }
def FnLastingUptoSaid : Prop := fnLastingUptoRow.holds Try.pinned (OpenSpec.upto fnLastingSpec)

/-- 'laws.FnExactNewFence', WHERE WHAT IT READS IS OF BULK AT MOST 1048576: true; the input reads as it did. -/
def fnExactNewFenceUptoRow : OpenClaim := { program := "ytcbdlalpnlahcaa", sum := "10da8b5f0e4cfa52f20d2516fd93a9cc49ed0e1a9a91d516774b13c898fcff16", func := "loop.example/g00218/laws.FnExactNewFence", spec := "fnExactNewFence", apart := false, narrowed := true }
def FnExactNewFenceUptoSaid : Prop := fnExactNewFenceUptoRow.holds Try.pinned (OpenSpec.upto fnExactNewFenceSpec)

/-- 'laws.FnExactGoodFence', WHERE WHAT IT READS IS OF BULK AT MOST 1048576: true; the input reads as it did. -/
def fnExactGoodFenceUptoRow : OpenClaim := { program := "ytcbdlalpnlahcaa", sum := "10da8b5f0e4cfa52f20d2516fd93a9cc49ed0e1a9a91d516774b13c898fcff16", func := "loop.example/g00218/laws.FnExactGoodFence", spec := "fnExactGoodFence", apart := false, narrowed := true }
def FnExactGoodFenceUptoSaid : Prop := fnExactGoodFenceUptoRow.holds Try.pinned (OpenSpec.upto fnExactGoodFenceSpec)

/-- 'laws.FnExactStepFence', WHERE WHAT IT READS IS OF BULK AT MOST 1048576: true; the input reads as it did. -/
def fnExactStepFenceUptoRow : OpenClaim := { program := "ytcbdlalpnlahcaa", sum := "10da8b5f0e4cfa52f20d2516fd93a9cc49ed0e1a9a91d516774b13c898fcff16", func := "loop.example/g00218/laws.FnExactStepFence", spec := "fnExactStepFence", unfollowed := true, recurses := true, apart := false, narrowed := true }
def FnExactStepFenceUptoSaid : Prop := fnExactStepFenceUptoRow.holds Try.pinned (OpenSpec.upto fnExactStepFenceSpec)

/-- 'laws.FnExactPlayFence', WHERE WHAT IT READS IS OF BULK AT MOST 1048576: true; the input reads as it did. -/
def fnExactPlayFenceUptoRow : OpenClaim := { program := "ytcbdlalpnlahcaa", sum := "10da8b5f0e4cfa52f20d2516fd93a9cc49ed0e1a9a91d516774b13c898fcff16", func := "loop.example/g00218/laws.FnExactPlayFence", spec := "fnExactPlayFence", unfollowed := true, recurses := true, apart := false, narrowed := true }
def FnExactPlayFenceUptoSaid : Prop := fnExactPlayFenceUptoRow.holds Try.pinned (OpenSpec.upto fnExactPlayFenceSpec)

/-- 'laws.FnExactLastingIn', WHERE WHAT IT READS IS OF BULK AT MOST 1048576: true; the input reads as it did. -/
def fnExactLastingInUptoRow : OpenClaim := { program := "ytcbdlalpnlahcaa", sum := "10da8b5f0e4cfa52f20d2516fd93a9cc49ed0e1a9a91d516774b13c898fcff16", func := "loop.example/g00218/laws.FnExactLastingIn", spec := "fnExactLastingIn", apart := false, narrowed := true }
def FnExactLastingInUptoSaid : Prop := fnExactLastingInUptoRow.holds Try.pinned (OpenSpec.upto fnExactLastingInSpec)

/-- 'laws.FnExactLeastEpoch', WHERE WHAT IT READS IS OF BULK AT MOST 1048576: true; the input reads as it did. -/
def fnExactLeastEpochUptoRow : OpenClaim := { program := "ytcbdlalpnlahcaa", sum := "10da8b5f0e4cfa52f20d2516fd93a9cc49ed0e1a9a91d516774b13c898fcff16", func := "loop.example/g00218/laws.FnExactLeastEpoch", spec := "fnExactLeastEpoch", apart := false, narrowed := true }
def FnExactLeastEpochUptoSaid : Prop := fnExactLeastEpochUptoRow.holds Try.pinned (OpenSpec.upto fnExactLeastEpochSpec)

end Rows
end Go.Proofs.Ytcbdlalpnlahcaa
