/-
  No cell of these rows narrows 'for every input' (looked for: loops, veiled, ifaces, maps, wideKeys, modest, calm, conditions, laid).
  DERIVED. THE GIVEN ROWS OF THIS SEAT. 7 by the template 'for every input the law returns true; each argument reads behind the call as it read before'; 0 by the template 'total and deterministic' (their statements: YtkniokbioggkeaaTotals.lean).
  GIVEN WITH THE SEED: the statements are not yours to turn. If you find one false, say at which input.
  Laid BY PROGRAM, IN A SANDBOX (cutbox-rows.mjs): the forced cells as the released guide's own fill.sh prints them over the translation 206a00b0d31c1d91… (all of the seat's roots in one cut). By AI agents, Wed Nov 11 2026. No macro, syntax, notation, axiom, sorry.
-/
import Derived.Test.YtkniokbioggkeaaChecked
import GoSem.Claim
import GoSem.ClaimJoined
import GoSem.ClaimMapViews
import Derived.JoinedTies
import Derived.KernelRfl
namespace Go.Proofs.Ytkniokbioggkeaa
/- THE CELL 'sum', in the pinned program and in every row, IS THE sha256 OF THE DUMP (.gsa) THAT YtkniokbioggkeaaProg.lean LOADS. Nothing in Lean hashes anything: it is a label: what it is worth is what the hold of that sum in a sandbox is worth. -/
noncomputable def Try.pinned : Pinned := { name := "ytkniokbioggkeaa", sum := "206a00b0d31c1d916de958f205ce0075f4843b6eb2aed50ffba03bc79066dd34", checked := Try.checked }
namespace Rows
def none {H : Type} : Left H := { results := [], args := [] }

/-- 'laws.FnLocal': WHATEVER THE INPUT: true; the input reads as it did. -/
def fnLocalSpec : ChangeSpec := { name := "fnLocal", fn := fun _ => fun
  | [d] => { results := [.lit (.bool true)], args := [d] }
  | _ => none }
def fnLocalRow : OpenClaim := { program := "ytkniokbioggkeaa", sum := "206a00b0d31c1d916de958f205ce0075f4843b6eb2aed50ffba03bc79066dd34", func := "loop.example/g00218/laws.FnLocal", spec := "fnLocal", inPlace := ["internal/bytealg.abigen_runtime_cmpstring", "slices.overlaps[loop.example/g00218/impl.Cell]"], unfollowed := true, recurses := true, apart := false }
def FnLocalSaid : Prop := fnLocalRow.holds Try.pinned (OpenSpec.ofChange fnLocalSpec)

/-- ITS FALSE NEIGHBOUR: 'it returns false'. Refute it at one input. -/
def fnLocalWrong : ChangeSpec := { name := "fnLocal", fn := fun _ => fun
  | [d] => { results := [.lit (.bool false)], args := [d] }
  | _ => none }
def FnLocalWrongFalsely : Prop := fnLocalRow.holds Try.pinned (OpenSpec.ofChange fnLocalWrong)

/-- 'laws.FnLinear': WHATEVER THE INPUT: true; the input reads as it did. -/
def fnLinearSpec : ChangeSpec := { name := "fnLinear", fn := fun _ => fun
  | [d1, d2] => { results := [.lit (.bool true)], args := [d1, d2] }
  | _ => none }
def fnLinearRow : OpenClaim := { program := "ytkniokbioggkeaa", sum := "206a00b0d31c1d916de958f205ce0075f4843b6eb2aed50ffba03bc79066dd34", func := "loop.example/g00218/laws.FnLinear", spec := "fnLinear", inPlace := ["internal/bytealg.abigen_runtime_cmpstring", "slices.overlaps[loop.example/g00218/impl.Cell]"], unfollowed := true, recurses := true, apart := false }
def FnLinearSaid : Prop := fnLinearRow.holds Try.pinned (OpenSpec.ofChange fnLinearSpec)

/-- ITS FALSE NEIGHBOUR: 'it returns false'. Refute it at one input. -/
def fnLinearWrong : ChangeSpec := { name := "fnLinear", fn := fun _ => fun
  | [d1, d2] => { results := [.lit (.bool false)], args := [d1, d2] }
  | _ => none }
def FnLinearWrongFalsely : Prop := fnLinearRow.holds Try.pinned (OpenSpec.ofChange fnLinearWrong)

/-- 'laws.FnExactGoodCalls': WHATEVER THE INPUT: true; the input reads as it did. -/
def fnExactGoodCallsSpec : ChangeSpec := { name := "fnExactGoodCalls", fn := fun _ => fun
  | [d] => { results := [.lit (.bool true)], args := [d] }
  | _ => none }
def fnExactGoodCallsRow : OpenClaim := { program := "ytkniokbioggkeaa", sum := "206a00b0d31c1d916de958f205ce0075f4843b6eb2aed50ffba03bc79066dd34", func := "loop.example/g00218/laws.FnExactGoodCalls", spec := "fnExactGoodCalls", apart := false }
def FnExactGoodCallsSaid : Prop := fnExactGoodCallsRow.holds Try.pinned (OpenSpec.ofChange fnExactGoodCallsSpec)

/-- ITS FALSE NEIGHBOUR: 'it returns false'. Refute it at one input. -/
def fnExactGoodCallsWrong : ChangeSpec := { name := "fnExactGoodCalls", fn := fun _ => fun
  | [d] => { results := [.lit (.bool false)], args := [d] }
  | _ => none }
def FnExactGoodCallsWrongFalsely : Prop := fnExactGoodCallsRow.holds Try.pinned (OpenSpec.ofChange fnExactGoodCallsWrong)

/-- 'laws.FnExactIsLinear': WHATEVER THE INPUT: true; the input reads as it did. -/
def fnExactIsLinearSpec : ChangeSpec := { name := "fnExactIsLinear", fn := fun _ => fun
  | [d] => { results := [.lit (.bool true)], args := [d] }
  | _ => none }
def fnExactIsLinearRow : OpenClaim := { program := "ytkniokbioggkeaa", sum := "206a00b0d31c1d916de958f205ce0075f4843b6eb2aed50ffba03bc79066dd34", func := "loop.example/g00218/laws.FnExactIsLinear", spec := "fnExactIsLinear", inPlace := ["internal/bytealg.abigen_runtime_cmpstring", "slices.overlaps[loop.example/g00218/impl.Cell]"], unfollowed := true, recurses := true, apart := false }
def FnExactIsLinearSaid : Prop := fnExactIsLinearRow.holds Try.pinned (OpenSpec.ofChange fnExactIsLinearSpec)

/-- ITS FALSE NEIGHBOUR: 'it returns false'. Refute it at one input. -/
def fnExactIsLinearWrong : ChangeSpec := { name := "fnExactIsLinear", fn := fun _ => fun
  | [d] => { results := [.lit (.bool false)], args := [d] }
  | _ => none }
def FnExactIsLinearWrongFalsely : Prop := fnExactIsLinearRow.holds Try.pinned (OpenSpec.ofChange fnExactIsLinearWrong)

/-- 'laws.FnExactLinearOrder': WHATEVER THE INPUT: true; the input reads as it did. -/
def fnExactLinearOrderSpec : ChangeSpec := { name := "fnExactLinearOrder", fn := fun _ => fun
  | [d] => { results := [.lit (.bool true)], args := [d] }
  | _ => none }
def fnExactLinearOrderRow : OpenClaim := { program := "ytkniokbioggkeaa", sum := "206a00b0d31c1d916de958f205ce0075f4843b6eb2aed50ffba03bc79066dd34", func := "loop.example/g00218/laws.FnExactLinearOrder", spec := "fnExactLinearOrder", inPlace := ["internal/bytealg.abigen_runtime_cmpstring", "slices.overlaps[loop.example/g00218/impl.Cell]"], unfollowed := true, recurses := true, apart := false }
def FnExactLinearOrderSaid : Prop := fnExactLinearOrderRow.holds Try.pinned (OpenSpec.ofChange fnExactLinearOrderSpec)

/-- ITS FALSE NEIGHBOUR: 'it returns false'. Refute it at one input. -/
def fnExactLinearOrderWrong : ChangeSpec := { name := "fnExactLinearOrder", fn := fun _ => fun
  | [d] => { results := [.lit (.bool false)], args := [d] }
  | _ => none }
def FnExactLinearOrderWrongFalsely : Prop := fnExactLinearOrderRow.holds Try.pinned (OpenSpec.ofChange fnExactLinearOrderWrong)

/-- 'laws.FnExactIsSequential': WHATEVER THE INPUT: true; the input reads as it did. -/
def fnExactIsSequentialSpec : ChangeSpec := { name := "fnExactIsSequential", fn := fun _ => fun
  | [d] => { results := [.lit (.bool true)], args := [d] }
  | _ => none }
def fnExactIsSequentialRow : OpenClaim := { program := "ytkniokbioggkeaa", sum := "206a00b0d31c1d916de958f205ce0075f4843b6eb2aed50ffba03bc79066dd34", func := "loop.example/g00218/laws.FnExactIsSequential", spec := "fnExactIsSequential", inPlace := ["internal/bytealg.abigen_runtime_cmpstring", "slices.overlaps[loop.example/g00218/impl.Cell]"], unfollowed := true, recurses := true, apart := false }
def FnExactIsSequentialSaid : Prop := fnExactIsSequentialRow.holds Try.pinned (OpenSpec.ofChange fnExactIsSequentialSpec)

/-- ITS FALSE NEIGHBOUR: 'it returns false'. Refute it at one input. -/
def fnExactIsSequentialWrong : ChangeSpec := { name := "fnExactIsSequential", fn := fun _ => fun
  | [d] => { results := [.lit (.bool false)], args := [d] }
  | _ => none }
def FnExactIsSequentialWrongFalsely : Prop := fnExactIsSequentialRow.holds Try.pinned (OpenSpec.ofChange fnExactIsSequentialWrong)

/-- 'laws.FnExactFitsOrder': WHATEVER THE INPUT: true; the input reads as it did. -/
def fnExactFitsOrderSpec : ChangeSpec := { name := "fnExactFitsOrder", fn := fun _ => fun
  | [d1, d2] => { results := [.lit (.bool true)], args := [d1, d2] }
  | _ => none }
def fnExactFitsOrderRow : OpenClaim := { program := "ytkniokbioggkeaa", sum := "206a00b0d31c1d916de958f205ce0075f4843b6eb2aed50ffba03bc79066dd34", func := "loop.example/g00218/laws.FnExactFitsOrder", spec := "fnExactFitsOrder", inPlace := ["internal/bytealg.abigen_runtime_cmpstring", "slices.overlaps[loop.example/g00218/impl.Cell]"], unfollowed := true, recurses := true, apart := false }
def FnExactFitsOrderSaid : Prop := fnExactFitsOrderRow.holds Try.pinned (OpenSpec.ofChange fnExactFitsOrderSpec)

/-- ITS FALSE NEIGHBOUR: 'it returns false'. Refute it at one input. -/
def fnExactFitsOrderWrong : ChangeSpec := { name := "fnExactFitsOrder", fn := fun _ => fun
  | [d1, d2] => { results := [.lit (.bool false)], args := [d1, d2] }
  | _ => none }
def FnExactFitsOrderWrongFalsely : Prop := fnExactFitsOrderRow.holds Try.pinned (OpenSpec.ofChange fnExactFitsOrderWrong)

/- THE SECOND FORM. 'bulk': how many values and letters a reading holds, each counted each time it is reached (what is shared counts as often as it is met; a slice's spare places count too). A statement '..UptoSaid' is the law's where the arguments, and the package variables that the reading takes, are together of bulk at most 1048576: NARROWER than '..Said'. Prove '..Said' where nothing that the law and all that it calls make is longer than what came in: it says more and counts as full. Else prove '..UptoSaid'. A law counts once. -/
mutual
def uptoBulk {H : Type} : DataW H → Nat
  | .lit (.string bytes) => bytes.length + 1
  | .lit _ => 1
  | .nil => 1
  | .ptr d => uptoBulk d + 1
  | .slice elems spare => uptoBulkAll elems + uptoBulkAll spare + 1
  | .agg parts => uptoBulkAll parts + 1
  | .iface _ d => uptoBulk d + 1
  | .map entries => uptoBulkEntries entries + 1
  | .held _ => 1
def uptoBulkAll {H : Type} : List (DataW H) → Nat
  | [] => 0
  | d :: r => uptoBulk d + uptoBulkAll r
def uptoBulkEntries {H : Type} : List (Lit × DataW H) → Nat
  | [] => 0
  | x :: r => uptoBulkEntry x + uptoBulkEntries r
def uptoBulkEntry {H : Type} : Lit × DataW H → Nat
  | (.string bytes, d) => bytes.length + uptoBulk d + 1
  | (_, d) => uptoBulk d + 1
 end
def uptoSmall : (H : Type) → List (DataW H) → Bool := fun _ ds => decide (uptoBulkAll ds ≤ 1048576)
def OpenSpec.upto (s : _root_.Go.ChangeSpec) : _root_.Go.OpenSpec := { _root_.Go.OpenSpec.ofChange s with cond := some uptoSmall }

/-- 'laws.FnLocal', WHERE WHAT IT READS IS OF BULK AT MOST 1048576: true; the input reads as it did. -/
def fnLocalUptoRow : OpenClaim := { program := "ytkniokbioggkeaa", sum := "206a00b0d31c1d916de958f205ce0075f4843b6eb2aed50ffba03bc79066dd34", func := "loop.example/g00218/laws.FnLocal", spec := "fnLocal", inPlace := ["internal/bytealg.abigen_runtime_cmpstring", "slices.overlaps[loop.example/g00218/impl.Cell]"], unfollowed := true, recurses := true, apart := false, narrowed := true }
def FnLocalUptoSaid : Prop := fnLocalUptoRow.holds Try.pinned (OpenSpec.upto fnLocalSpec)

/-- 'laws.FnLinear', WHERE WHAT IT READS IS OF BULK AT MOST 1048576: true; the input reads as it did. -/
def fnLinearUptoRow : OpenClaim := { program := "ytkniokbioggkeaa", sum := "206a00b0d31c1d916de958f205ce0075f4843b6eb2aed50ffba03bc79066dd34", func := "loop.example/g00218/laws.FnLinear", spec := "fnLinear", inPlace := ["internal/bytealg.abigen_runtime_cmpstring", "slices.overlaps[loop.example/g00218/impl.Cell]"], unfollowed := true, recurses := true, apart := false, narrowed := true }
def FnLinearUptoSaid : Prop := fnLinearUptoRow.holds Try.pinned (OpenSpec.upto fnLinearSpec)

/-- 'laws.FnExactGoodCalls', WHERE WHAT IT READS IS OF BULK AT MOST 1048576: true; the input reads as it did. -/
def fnExactGoodCallsUptoRow : OpenClaim := { program := "ytkniokbioggkeaa", sum := "206a00b0d31c1d916de958f205ce0075f4843b6eb2aed50ffba03bc79066dd34", func := "loop.example/g00218/laws.FnExactGoodCalls", spec := "fnExactGoodCalls", apart := false, narrowed := true }
def FnExactGoodCallsUptoSaid : Prop := fnExactGoodCallsUptoRow.holds Try.pinned (OpenSpec.upto fnExactGoodCallsSpec)

/-- 'laws.FnExactIsLinear', WHERE WHAT IT READS IS OF BULK AT MOST 1048576: true; the input reads as it did. -/
def fnExactIsLinearUptoRow : OpenClaim := { program := "ytkniokbioggkeaa", sum := "206a00b0d31c1d916de958f205ce0075f4843b6eb2aed50ffba03bc79066dd34", func := "loop.example/g00218/laws.FnExactIsLinear", spec := "fnExactIsLinear", inPlace := ["internal/bytealg.abigen_runtime_cmpstring", "slices.overlaps[loop.example/g00218/impl.Cell]"], unfollowed := true, recurses := true, apart := false, narrowed := true }
def FnExactIsLinearUptoSaid : Prop := fnExactIsLinearUptoRow.holds Try.pinned (OpenSpec.upto fnExactIsLinearSpec)

/-- 'laws.FnExactLinearOrder', WHERE WHAT IT READS IS OF BULK AT MOST 1048576: true; the input reads as it did. -/
def fnExactLinearOrderUptoRow : OpenClaim := { program := "ytkniokbioggkeaa", sum := "206a00b0d31c1d916de958f205ce0075f4843b6eb2aed50ffba03bc79066dd34", func := "loop.example/g00218/laws.FnExactLinearOrder", spec := "fnExactLinearOrder", inPlace := ["internal/bytealg.abigen_runtime_cmpstring", "slices.overlaps[loop.example/g00218/impl.Cell]"], unfollowed := true, recurses := true, apart := false, narrowed := true }
def FnExactLinearOrderUptoSaid : Prop := fnExactLinearOrderUptoRow.holds Try.pinned (OpenSpec.upto fnExactLinearOrderSpec)

/-- 'laws.FnExactIsSequential', WHERE WHAT IT READS IS OF BULK AT MOST 1048576: true; the input reads as it did. -/
def fnExactIsSequentialUptoRow : OpenClaim := { program := "ytkniokbioggkeaa", sum := "206a00b0d31c1d916de958f205ce0075f4843b6eb2aed50ffba03bc79066dd34", func := "loop.example/g00218/laws.FnExactIsSequential", spec := "fnExactIsSequential", inPlace := ["internal/bytealg.abigen_runtime_cmpstring", "slices.overlaps[loop.example/g00218/impl.Cell]"], unfollowed := true, recurses := true, apart := false, narrowed := true }
def FnExactIsSequentialUptoSaid : Prop := fnExactIsSequentialUptoRow.holds Try.pinned (OpenSpec.upto fnExactIsSequentialSpec)

/-- 'laws.FnExactFitsOrder', WHERE WHAT IT READS IS OF BULK AT MOST 1048576: true; the input reads as it did. -/
def fnExactFitsOrderUptoRow : OpenClaim := { program := "ytkniokbioggkeaa", sum := "206a00b0d31c1d916de958f205ce0075f4843b6eb2aed50ffba03bc79066dd34", func := "loop.example/g00218/laws.FnExactFitsOrder", spec := "fnExactFitsOrder", inPlace := ["internal/bytealg.abigen_runtime_cmpstring", "slices.overlaps[loop.example/g00218/impl.Cell]"], unfollowed := true, recurses := true, apart := false, narrowed := true }
def FnExactFitsOrderUptoSaid : Prop := fnExactFitsOrderUptoRow.holds Try.pinned (OpenSpec.upto fnExactFitsOrderSpec)

end Rows
end Go.Proofs.Ytkniokbioggkeaa
