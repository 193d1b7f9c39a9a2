/-
  No cell of these rows narrows 'for every input' (looked for: loops, veiled, ifaces, maps, wideKeys, modest, calm, conditions, laid).
  DERIVED. THE GIVEN ROWS OF THIS SEAT. 8 by the template 'for every input the law returns true; each argument reads behind the call as it read before'; 0 by the template 'total and deterministic' (their statements: YtnapgnkhajkbkaaTotals.lean).
  GIVEN WITH THE SEED: the statements are not yours to turn. If you find one false, say at which input.
  Laid BY PROGRAM, IN A SANDBOX (cutbox-rows.mjs): the forced cells as the released guide's own fill.sh prints them over the translation cadb7bf4aa11b21b… (all of the seat's roots in one cut). By AI agents, Wed Nov 11 2026. No macro, syntax, notation, axiom, sorry.
-/
import Derived.Test.YtnapgnkhajkbkaaChecked
import GoSem.Claim
import GoSem.ClaimJoined
import GoSem.ClaimMapViews
import Derived.JoinedTies
import Derived.KernelRfl
namespace Go.Proofs.Ytnapgnkhajkbkaa
/- THE CELL 'sum', in the pinned program and in every row, IS THE sha256 OF THE DUMP (.gsa) THAT YtnapgnkhajkbkaaProg.lean LOADS. Nothing in Lean hashes anything: it is a label: what it is worth is what the hold of that sum in a sandbox is worth. -/
noncomputable def Try.pinned : Pinned := { name := "ytnapgnkhajkbkaa", sum := "cadb7bf4aa11b21bc63ed2cc6c072f02f1915ae0814183662685844623fe341a", checked := Try.checked }
namespace Rows
def none {H : Type} : Left H := { results := [], args := [] }

/-- 'laws.FnWaiting': WHATEVER THE INPUT: true; the input reads as it did. -/
def fnWaitingSpec : ChangeSpec := { name := "fnWaiting", fn := fun _ => fun
  | [d] => { results := [.lit (.bool true)], args := [d] }
  | _ => none }
def fnWaitingRow : OpenClaim := { program := "ytnapgnkhajkbkaa", sum := "cadb7bf4aa11b21bc63ed2cc6c072f02f1915ae0814183662685844623fe341a", func := "loop.example/g00218/laws.FnWaiting", spec := "fnWaiting", inPlace := ["slices.overlaps[loop.example/g00218/impl.Hold]", "internal/bytealg.abigen_runtime_cmpstring", "slices.overlaps[loop.example/g00218/impl.Lock]"], unfollowed := true, recurses := true, apart := false }
def FnWaitingSaid : Prop := fnWaitingRow.holds Try.pinned (OpenSpec.ofChange fnWaitingSpec)

/-- ITS FALSE NEIGHBOUR: 'it returns false'. Refute it at one input. -/
def fnWaitingWrong : ChangeSpec := { name := "fnWaiting", fn := fun _ => fun
  | [d] => { results := [.lit (.bool false)], args := [d] }
  | _ => none }
def FnWaitingWrongFalsely : Prop := fnWaitingRow.holds Try.pinned (OpenSpec.ofChange fnWaitingWrong)

/-- 'laws.FnGranted': WHATEVER THE INPUT: true; the input reads as it did. -/
def fnGrantedSpec : ChangeSpec := { name := "fnGranted", fn := fun _ => fun
  | [d1, d2] => { results := [.lit (.bool true)], args := [d1, d2] }
  | _ => none }
def fnGrantedRow : OpenClaim := { program := "ytnapgnkhajkbkaa", sum := "cadb7bf4aa11b21bc63ed2cc6c072f02f1915ae0814183662685844623fe341a", func := "loop.example/g00218/laws.FnGranted", spec := "fnGranted", inPlace := ["internal/bytealg.abigen_runtime_cmpstring", "slices.overlaps[loop.example/g00218/impl.Lock]", "slices.overlaps[loop.example/g00218/impl.Hold]"], unfollowed := true, recurses := true, apart := false }
def FnGrantedSaid : Prop := fnGrantedRow.holds Try.pinned (OpenSpec.ofChange fnGrantedSpec)

/-- ITS FALSE NEIGHBOUR: 'it returns false'. Refute it at one input. -/
def fnGrantedWrong : ChangeSpec := { name := "fnGranted", fn := fun _ => fun
  | [d1, d2] => { results := [.lit (.bool false)], args := [d1, d2] }
  | _ => none }
def FnGrantedWrongFalsely : Prop := fnGrantedRow.holds Try.pinned (OpenSpec.ofChange fnGrantedWrong)

/-- 'laws.FnExactGoodLocks': WHATEVER THE INPUT: true; the input reads as it did. -/
def fnExactGoodLocksSpec : ChangeSpec := { name := "fnExactGoodLocks", fn := fun _ => fun
  | [d] => { results := [.lit (.bool true)], args := [d] }
  | _ => none }
def fnExactGoodLocksRow : OpenClaim := { program := "ytnapgnkhajkbkaa", sum := "cadb7bf4aa11b21bc63ed2cc6c072f02f1915ae0814183662685844623fe341a", func := "loop.example/g00218/laws.FnExactGoodLocks", spec := "fnExactGoodLocks", apart := false }
def FnExactGoodLocksSaid : Prop := fnExactGoodLocksRow.holds Try.pinned (OpenSpec.ofChange fnExactGoodLocksSpec)

/-- ITS FALSE NEIGHBOUR: 'it returns false'. Refute it at one input. -/
def fnExactGoodLocksWrong : ChangeSpec := { name := "fnExactGoodLocks", fn := fun _ => fun
  | [d] => { results := [.lit (.bool false)], args := [d] }
  | _ => none }
def FnExactGoodLocksWrongFalsely : Prop := fnExactGoodLocksRow.holds Try.pinned (OpenSpec.ofChange fnExactGoodLocksWrong)

/-- 'laws.FnExactAskLock': WHATEVER THE INPUT: true; the input reads as it did. -/
def fnExactAskLockSpec : ChangeSpec := { name := "fnExactAskLock", fn := fun _ => fun
  | [d1, d2, d3, d4] => { results := [.lit (.bool true)], args := [d1, d2, d3, d4] }
  | _ => none }
def fnExactAskLockRow : OpenClaim := { program := "ytnapgnkhajkbkaa", sum := "cadb7bf4aa11b21bc63ed2cc6c072f02f1915ae0814183662685844623fe341a", func := "loop.example/g00218/laws.FnExactAskLock", spec := "fnExactAskLock", inPlace := ["internal/bytealg.abigen_runtime_cmpstring", "slices.overlaps[loop.example/g00218/impl.Lock]", "slices.overlaps[loop.example/g00218/impl.Hold]"], unfollowed := true, recurses := true, apart := false }
def FnExactAskLockSaid : Prop := fnExactAskLockRow.holds Try.pinned (OpenSpec.ofChange fnExactAskLockSpec)

/-- ITS FALSE NEIGHBOUR: 'it returns false'. Refute it at one input. -/
def fnExactAskLockWrong : ChangeSpec := { name := "fnExactAskLock", fn := fun _ => fun
  | [d1, d2, d3, d4] => { results := [.lit (.bool false)], args := [d1, d2, d3, d4] }
  | _ => none }
def FnExactAskLockWrongFalsely : Prop := fnExactAskLockRow.holds Try.pinned (OpenSpec.ofChange fnExactAskLockWrong)

/-- 'laws.FnExactReleaseAll': WHATEVER THE INPUT: true; the input reads as it did. -/
def fnExactReleaseAllSpec : ChangeSpec := { name := "fnExactReleaseAll", fn := fun _ => fun
  | [d1, d2] => { results := [.lit (.bool true)], args := [d1, d2] }
  | _ => none }
def fnExactReleaseAllRow : OpenClaim := { program := "ytnapgnkhajkbkaa", sum := "cadb7bf4aa11b21bc63ed2cc6c072f02f1915ae0814183662685844623fe341a", func := "loop.example/g00218/laws.FnExactReleaseAll", spec := "fnExactReleaseAll", inPlace := ["slices.overlaps[loop.example/g00218/impl.Hold]"], unfollowed := true, recurses := true, apart := false }
def FnExactReleaseAllSaid : Prop := fnExactReleaseAllRow.holds Try.pinned (OpenSpec.ofChange fnExactReleaseAllSpec)

/-- ITS FALSE NEIGHBOUR: 'it returns false'. Refute it at one input. -/
def fnExactReleaseAllWrong : ChangeSpec := { name := "fnExactReleaseAll", fn := fun _ => fun
  | [d1, d2] => { results := [.lit (.bool false)], args := [d1, d2] }
  | _ => none }
def FnExactReleaseAllWrongFalsely : Prop := fnExactReleaseAllRow.holds Try.pinned (OpenSpec.ofChange fnExactReleaseAllWrong)

/-- 'laws.FnExactWaitsFor': WHATEVER THE INPUT: true; the input reads as it did. -/
def fnExactWaitsForSpec : ChangeSpec := { name := "fnExactWaitsFor", fn := fun _ => fun
  | [d] => { results := [.lit (.bool true)], args := [d] }
  | _ => none }
def fnExactWaitsForRow : OpenClaim := { program := "ytnapgnkhajkbkaa", sum := "cadb7bf4aa11b21bc63ed2cc6c072f02f1915ae0814183662685844623fe341a", func := "loop.example/g00218/laws.FnExactWaitsFor", spec := "fnExactWaitsFor", unfollowed := true, recurses := true, apart := false }
def FnExactWaitsForSaid : Prop := fnExactWaitsForRow.holds Try.pinned (OpenSpec.ofChange fnExactWaitsForSpec)

/-- ITS FALSE NEIGHBOUR: 'it returns false'. Refute it at one input. -/
def fnExactWaitsForWrong : ChangeSpec := { name := "fnExactWaitsFor", fn := fun _ => fun
  | [d] => { results := [.lit (.bool false)], args := [d] }
  | _ => none }
def FnExactWaitsForWrongFalsely : Prop := fnExactWaitsForRow.holds Try.pinned (OpenSpec.ofChange fnExactWaitsForWrong)

/-- 'laws.FnExactPlayLocks': WHATEVER THE INPUT: true; the input reads as it did. -/
def fnExactPlayLocksSpec : ChangeSpec := { name := "fnExactPlayLocks", fn := fun _ => fun
  | [d] => { results := [.lit (.bool true)], args := [d] }
  | _ => none }
def fnExactPlayLocksRow : OpenClaim := { program := "ytnapgnkhajkbkaa", sum := "cadb7bf4aa11b21bc63ed2cc6c072f02f1915ae0814183662685844623fe341a", func := "loop.example/g00218/laws.FnExactPlayLocks", spec := "fnExactPlayLocks", inPlace := ["slices.overlaps[loop.example/g00218/impl.Hold]", "internal/bytealg.abigen_runtime_cmpstring", "slices.overlaps[loop.example/g00218/impl.Lock]"], unfollowed := true, recurses := true, apart := false }
def FnExactPlayLocksSaid : Prop := fnExactPlayLocksRow.holds Try.pinned (OpenSpec.ofChange fnExactPlayLocksSpec)

/-- ITS FALSE NEIGHBOUR: 'it returns false'. Refute it at one input. -/
def fnExactPlayLocksWrong : ChangeSpec := { name := "fnExactPlayLocks", fn := fun _ => fun
  | [d] => { results := [.lit (.bool false)], args := [d] }
  | _ => none }
def FnExactPlayLocksWrongFalsely : Prop := fnExactPlayLocksRow.holds Try.pinned (OpenSpec.ofChange fnExactPlayLocksWrong)

/-- 'laws.FnExactHolderOf': WHATEVER THE INPUT: true; the input reads as it did. -/
def fnExactHolderOfSpec : ChangeSpec := { name := "fnExactHolderOf", fn := fun _ => fun
  | [d1, d2] => { results := [.lit (.bool true)], args := [d1, d2] }
  | _ => none }
def fnExactHolderOfRow : OpenClaim := { program := "ytnapgnkhajkbkaa", sum := "cadb7bf4aa11b21bc63ed2cc6c072f02f1915ae0814183662685844623fe341a", func := "loop.example/g00218/laws.FnExactHolderOf", spec := "fnExactHolderOf", inPlace := ["internal/bytealg.abigen_runtime_cmpstring"], unfollowed := true, recurses := true, apart := false }
def FnExactHolderOfSaid : Prop := fnExactHolderOfRow.holds Try.pinned (OpenSpec.ofChange fnExactHolderOfSpec)

/-- ITS FALSE NEIGHBOUR: 'it returns false'. Refute it at one input. -/
def fnExactHolderOfWrong : ChangeSpec := { name := "fnExactHolderOf", fn := fun _ => fun
  | [d1, d2] => { results := [.lit (.bool false)], args := [d1, d2] }
  | _ => none }
def FnExactHolderOfWrongFalsely : Prop := fnExactHolderOfRow.holds Try.pinned (OpenSpec.ofChange fnExactHolderOfWrong)

/- THE SECOND FORM. 'bulk': how many values and letters a reading holds, each counted each time it is reached (what is shared counts as often as it is met; a slice's spare places count too). A statement '..UptoSaid' is the law's where the arguments, and the package variables that the reading takes, are together of bulk at most 1048576: NARROWER than '..Said'. Prove '..Said' where nothing that the law and all that it calls make is longer than what came in: it says more and counts as full. Else prove '..UptoSaid'. A law counts once. -/
mutual
def uptoBulk {H : Type} : DataW H → Nat
  | .lit (.string bytes) => bytes.length + 1
  | .lit _ => 1
  | .nil => 1
  | .ptr d => uptoBulk d + 1
  | .slice elems spare => uptoBulkAll elems + uptoBulkAll spare + 1
  | .agg parts => uptoBulkAll parts + 1
  | .iface _ d => uptoBulk d + 1
  | .map entries => uptoBulkEntries entries + 1
  | .held _ => 1
def uptoBulkAll {H : Type} : List (DataW H) → Nat
  | [] => 0
  | d :: r => uptoBulk d + uptoBulkAll r
def uptoBulkEntries {H : Type} : List (Lit × DataW H) → Nat
  | [] => 0
  | x :: r => uptoBulkEntry x + uptoBulkEntries r
def uptoBulkEntry {H : Type} : Lit × DataW H → Nat
  | (.string bytes, d) => bytes.length + uptoBulk d + 1
  | (_, d) => uptoBulk d + 1
 end
def uptoSmall : (H : Type) → List (DataW H) → Bool := fun _ ds => decide (uptoBulkAll ds ≤ 1048576)
def OpenSpec.upto (s : _root_.Go.ChangeSpec) : _root_.Go.OpenSpec := { _root_.Go.OpenSpec.ofChange s with cond := some uptoSmall }

/-- 'laws.FnWaiting', WHERE WHAT IT READS IS OF BULK AT MOST 1048576: true; the input reads as it did. -/
def fnWaitingUptoRow : OpenClaim := { program := "ytnapgnkhajkbkaa", sum := "cadb7bf4aa11b21bc63ed2cc6c072f02f1915ae0814183662685844623fe341a", func := "loop.example/g00218/laws.FnWaiting", spec := "fnWaiting", inPlace := ["slices.overlaps[loop.example/g00218/impl.Hold]", "internal/bytealg.abigen_runtime_cmpstring", "slices.overlaps[loop.example/g00218/impl.Lock]"], unfollowed := true, recurses := true, apart := false, narrowed := true }
def FnWaitingUptoSaid : Prop := fnWaitingUptoRow.holds Try.pinned (OpenSpec.upto fnWaitingSpec)

/-- 'laws.FnGranted', WHERE WHAT IT READS IS OF BULK AT MOST 1048576: true; the input reads as it did. -/
def fnGrantedUptoRow : OpenClaim := { program := "ytnapgnkhajkbkaa", sum := "cadb7bf4aa11b21bc63ed2cc6c072f02f1915ae0814183662685844623fe341a", func := "loop.example/g00218/laws.FnGranted", spec := "fnGranted", inPlace := ["internal/bytealg.abigen_runtime_cmpstring", "slices.overlaps[loop.example/g00218/impl.Lock]", "slices.overlaps[loop.example/g00218/impl.Hold]"], unfollowed := true, recurses := true, apart := false, narrowed := true }
def FnGrantedUptoSaid : Prop := fnGrantedUptoRow.holds Try.pinned (OpenSpec.upto fnGrantedSpec)

/-- 'laws.FnExactGoodLocks', WHERE WHAT IT READS IS OF BULK AT MOST 1048576: true; the input reads as it did. -/
def fnExactGoodLocksUptoRow : OpenClaim := { program := "ytnapgnkhajkbkaa", sum := "cadb7bf4aa11b21bc63ed2cc6c072f02f1915ae0814183662685844623fe341a", func := "loop.example/g00218/laws.FnExactGoodLocks", spec := "fnExactGoodLocks", apart := false, narrowed := true }
def FnExactGoodLocksUptoSaid : Prop := fnExactGoodLocksUptoRow.holds Try.pinned (OpenSpec.upto fnExactGoodLocksSpec)

/-- 'laws.FnExactAskLock', WHERE WHAT IT READS IS OF BULK AT MOST 1048576: true; the input reads as it did. -/
def fnExactAskLockUptoRow : OpenClaim := { program := "ytnapgnkhajkbkaa", sum := "cadb7bf4aa11b21bc63ed2cc6c072f02f1915ae0814183662685844623fe341a", func := "loop.example/g00218/laws.FnExactAskLock", spec := "fnExactAskLock", inPlace := ["internal/bytealg.abigen_runtime_cmpstring", "slices.overlaps[loop.example/g00218/impl.Lock]", "slices.overlaps[loop.example/g00218/impl.Hold]"], unfollowed := true, recurses := true, apart := false, narrowed := true }
def FnExactAskLockUptoSaid : Prop := fnExactAskLockUptoRow.holds Try.pinned (OpenSpec.upto fnExactAskLockSpec)

/-- 'laws.FnExactReleaseAll', WHERE WHAT IT READS IS OF BULK AT MOST 1048576: true; the input reads as it did. -/
def fnExactReleaseAllUptoRow : OpenClaim := { program := "ytnapgnkhajkbkaa", sum := "cadb7bf4aa11b21bc63ed2cc6c072f02f1915ae0814183662685844623fe341a", func := "loop.example/g00218/laws.FnExactReleaseAll", spec := "fnExactReleaseAll", inPlace := ["slices.overlaps[loop.example/g00218/impl.Hold]"], unfollowed := true, recurses := true, apart := false, narrowed := true }
def FnExactReleaseAllUptoSaid : Prop := fnExactReleaseAllUptoRow.holds Try.pinned (OpenSpec.upto fnExactReleaseAllSpec)

/-- 'laws.FnExactWaitsFor', WHERE WHAT IT READS IS OF BULK AT MOST 1048576: true; the input reads as it did. -/
def fnExactWaitsForUptoRow : OpenClaim := { program := "ytnapgnkhajkbkaa", sum := "cadb7bf4aa11b21bc63ed2cc6c072f02f1915ae0814183662685844623fe341a", func := "loop.example/g00218/laws.FnExactWaitsFor", spec := "fnExactWaitsFor", unfollowed := true, recurses := true, apart := false, narrowed := true }
def FnExactWaitsForUptoSaid : Prop := fnExactWaitsForUptoRow.holds Try.pinned (OpenSpec.upto fnExactWaitsForSpec)

/-- 'laws.FnExactPlayLocks', WHERE WHAT IT READS IS OF BULK AT MOST 1048576: true; the input reads as it did. -/
def fnExactPlayLocksUptoRow : OpenClaim := { program := "ytnapgnkhajkbkaa", sum := "cadb7bf4aa11b21bc63ed2cc6c072f02f1915ae0814183662685844623fe341a", func := "loop.example/g00218/laws.FnExactPlayLocks", spec := "fnExactPlayLocks", inPlace := ["slices.overlaps[loop.example/g00218/impl.Hold]", "internal/bytealg.abigen_runtime_cmpstring", "slices.overlaps[loop.example/g00218/impl.Lock]"], unfollowed := true, recurses := true, apart := false, narrowed := true }
def FnExactPlayLocksUptoSaid : Prop := fnExactPlayLocksUptoRow.holds Try.pinned (OpenSpec.upto fnExactPlayLocksSpec)

/-- 'laws.FnExactHolderOf', WHERE WHAT IT READS IS OF BULK AT MOST 1048576: true; the input reads as it did. -/
def fnExactHolderOfUptoRow : OpenClaim := { program := "ytnapgnkhajkbkaa", sum := "cadb7bf4aa11b21bc63ed2cc6c072f02f1915ae0814183662685844623fe341a", func := "loop.example/g00218/laws.FnExactHolderOf", spec := "fnExactHolderOf", inPlace := ["internal/bytealg.abigen_runtime_cmpstring"], unfollowed := true, recurses := true, apart := false, narrowed := true }
def FnExactHolderOfUptoSaid : Prop := fnExactHolderOfUptoRow.holds Try.pinned (OpenSpec.upto fnExactHolderOfSpec)

end Rows
end Go.Proofs.Ytnapgnkhajkbkaa
