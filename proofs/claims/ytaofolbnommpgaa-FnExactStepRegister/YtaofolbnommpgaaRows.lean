/-
  No cell of these rows narrows 'for every input' (looked for: loops, veiled, ifaces, maps, wideKeys, modest, calm, conditions, laid).
  DERIVED. THE GIVEN ROWS OF THIS SEAT. 8 by the template 'for every input the law returns true; each argument reads behind the call as it read before'; 0 by the template 'total and deterministic' (their statements: YtaofolbnommpgaaTotals.lean).
  GIVEN WITH THE SEED: the statements are not yours to turn. If you find one false, say at which input.
  Laid BY PROGRAM, IN A SANDBOX (cutbox-rows.mjs): the forced cells as the released guide's own fill.sh prints them over the translation 966562a6bdee97d3… (all of the seat's roots in one cut). By AI agents, Wed Nov 11 2026. No macro, syntax, notation, axiom, sorry.
-/
import Derived.Test.YtaofolbnommpgaaChecked
import GoSem.Claim
import GoSem.ClaimJoined
import GoSem.ClaimMapViews
import Derived.JoinedTies
import Derived.KernelRfl
namespace Go.Proofs.Ytaofolbnommpgaa
/- THE CELL 'sum', in the pinned program and in every row, IS THE sha256 OF THE DUMP (.gsa) THAT YtaofolbnommpgaaProg.lean LOADS. Nothing in Lean hashes anything: it is a label: what it is worth is what the hold of that sum in a sandbox is worth. -/
noncomputable def Try.pinned : Pinned := { name := "ytaofolbnommpgaa", sum := "966562a6bdee97d3f2025efb3435db5c970fe60450e561e47dbae831288ee9da", checked := Try.checked }
namespace Rows
def none {H : Type} : Left H := { results := [], args := [] }

/-- 'laws.FnAbd': WHATEVER THE INPUT: true; the input reads as it did. -/
def fnAbdSpec : ChangeSpec := { name := "fnAbd", fn := fun _ => fun
  | [d] => { results := [.lit (.bool true)], args := [d] }
  | _ => none }
def fnAbdRow : OpenClaim := { program := "ytaofolbnommpgaa", sum := "966562a6bdee97d3f2025efb3435db5c970fe60450e561e47dbae831288ee9da", func := "loop.example/g00218/laws.FnAbd", spec := "fnAbd", inPlace := ["slices.overlaps[int]", "internal/bytealg.abigen_runtime_cmpstring", "slices.overlaps[loop.example/g00218/impl.Cell]"], unfollowed := true, recurses := true, apart := false }
def FnAbdSaid : Prop := fnAbdRow.holds Try.pinned (OpenSpec.ofChange fnAbdSpec)

/-- ITS FALSE NEIGHBOUR: 'it returns false'. Refute it at one input. -/
def fnAbdWrong : ChangeSpec := { name := "fnAbd", fn := fun _ => fun
  | [d] => { results := [.lit (.bool false)], args := [d] }
  | _ => none }
def FnAbdWrongFalsely : Prop := fnAbdRow.holds Try.pinned (OpenSpec.ofChange fnAbdWrong)

/-- 'laws.FnNewest': WHATEVER THE INPUT: true; the input reads as it did. -/
def fnNewestSpec : ChangeSpec := { name := "fnNewest", fn := fun _ => fun
  | [d1, d2] => { results := [.lit (.bool true)], args := [d1, d2] }
  | _ => none }
def fnNewestRow : OpenClaim := { program := "ytaofolbnommpgaa", sum := "966562a6bdee97d3f2025efb3435db5c970fe60450e561e47dbae831288ee9da", func := "loop.example/g00218/laws.FnNewest", spec := "fnNewest", inPlace := ["slices.overlaps[int]"], unfollowed := true, recurses := true, apart := false }
def FnNewestSaid : Prop := fnNewestRow.holds Try.pinned (OpenSpec.ofChange fnNewestSpec)

/-- ITS FALSE NEIGHBOUR: 'it returns false'. Refute it at one input. -/
def fnNewestWrong : ChangeSpec := { name := "fnNewest", fn := fun _ => fun
  | [d1, d2] => { results := [.lit (.bool false)], args := [d1, d2] }
  | _ => none }
def FnNewestWrongFalsely : Prop := fnNewestRow.holds Try.pinned (OpenSpec.ofChange fnNewestWrong)

/-- 'laws.FnExactNewRegister': WHATEVER THE INPUT: true; the input reads as it did. -/
def fnExactNewRegisterSpec : ChangeSpec := { name := "fnExactNewRegister", fn := fun _ => fun
  | [d] => { results := [.lit (.bool true)], args := [d] }
  | _ => none }
def fnExactNewRegisterRow : OpenClaim := { program := "ytaofolbnommpgaa", sum := "966562a6bdee97d3f2025efb3435db5c970fe60450e561e47dbae831288ee9da", func := "loop.example/g00218/laws.FnExactNewRegister", spec := "fnExactNewRegister", apart := false }
def FnExactNewRegisterSaid : Prop := fnExactNewRegisterRow.holds Try.pinned (OpenSpec.ofChange fnExactNewRegisterSpec)

/-- ITS FALSE NEIGHBOUR: 'it returns false'. Refute it at one input. -/
def fnExactNewRegisterWrong : ChangeSpec := { name := "fnExactNewRegister", fn := fun _ => fun
  | [d] => { results := [.lit (.bool false)], args := [d] }
  | _ => none }
def FnExactNewRegisterWrongFalsely : Prop := fnExactNewRegisterRow.holds Try.pinned (OpenSpec.ofChange fnExactNewRegisterWrong)

/-- 'laws.FnExactGoodRegister': WHATEVER THE INPUT: true; the input reads as it did. -/
def fnExactGoodRegisterSpec : ChangeSpec := { name := "fnExactGoodRegister", fn := fun _ => fun
  | [d] => { results := [.lit (.bool true)], args := [d] }
  | _ => none }
def fnExactGoodRegisterRow : OpenClaim := { program := "ytaofolbnommpgaa", sum := "966562a6bdee97d3f2025efb3435db5c970fe60450e561e47dbae831288ee9da", func := "loop.example/g00218/laws.FnExactGoodRegister", spec := "fnExactGoodRegister", apart := false }
def FnExactGoodRegisterSaid : Prop := fnExactGoodRegisterRow.holds Try.pinned (OpenSpec.ofChange fnExactGoodRegisterSpec)

/-- ITS FALSE NEIGHBOUR: 'it returns false'. Refute it at one input. -/
def fnExactGoodRegisterWrong : ChangeSpec := { name := "fnExactGoodRegister", fn := fun _ => fun
  | [d] => { results := [.lit (.bool false)], args := [d] }
  | _ => none }
def FnExactGoodRegisterWrongFalsely : Prop := fnExactGoodRegisterRow.holds Try.pinned (OpenSpec.ofChange fnExactGoodRegisterWrong)

/-- 'laws.FnExactStepRegister': WHATEVER THE INPUT: true; the input reads as it did. -/
def fnExactStepRegisterSpec : ChangeSpec := { name := "fnExactStepRegister", fn := fun _ => fun
  | [d1, d2] => { results := [.lit (.bool true)], args := [d1, d2] }
  | _ => none }
def fnExactStepRegisterRow : OpenClaim := { program := "ytaofolbnommpgaa", sum := "966562a6bdee97d3f2025efb3435db5c970fe60450e561e47dbae831288ee9da", func := "loop.example/g00218/laws.FnExactStepRegister", spec := "fnExactStepRegister", inPlace := ["slices.overlaps[int]"], unfollowed := true, recurses := true, apart := false }
def FnExactStepRegisterSaid : Prop := fnExactStepRegisterRow.holds Try.pinned (OpenSpec.ofChange fnExactStepRegisterSpec)

/-- ITS FALSE NEIGHBOUR: 'it returns false'. Refute it at one input. -/
def fnExactStepRegisterWrong : ChangeSpec := { name := "fnExactStepRegister", fn := fun _ => fun
  | [d1, d2] => { results := [.lit (.bool false)], args := [d1, d2] }
  | _ => none }
def FnExactStepRegisterWrongFalsely : Prop := fnExactStepRegisterRow.holds Try.pinned (OpenSpec.ofChange fnExactStepRegisterWrong)

/-- 'laws.FnExactPlayRegister': WHATEVER THE INPUT: true; the input reads as it did. -/
def fnExactPlayRegisterSpec : ChangeSpec := { name := "fnExactPlayRegister", fn := fun _ => fun
  | [d1, d2] => { results := [.lit (.bool true)], args := [d1, d2] }
  | _ => none }
def fnExactPlayRegisterRow : OpenClaim := { program := "ytaofolbnommpgaa", sum := "966562a6bdee97d3f2025efb3435db5c970fe60450e561e47dbae831288ee9da", func := "loop.example/g00218/laws.FnExactPlayRegister", spec := "fnExactPlayRegister", inPlace := ["slices.overlaps[int]"], unfollowed := true, recurses := true, apart := false }
def FnExactPlayRegisterSaid : Prop := fnExactPlayRegisterRow.holds Try.pinned (OpenSpec.ofChange fnExactPlayRegisterSpec)

/-- ITS FALSE NEIGHBOUR: 'it returns false'. Refute it at one input. -/
def fnExactPlayRegisterWrong : ChangeSpec := { name := "fnExactPlayRegister", fn := fun _ => fun
  | [d1, d2] => { results := [.lit (.bool false)], args := [d1, d2] }
  | _ => none }
def FnExactPlayRegisterWrongFalsely : Prop := fnExactPlayRegisterRow.holds Try.pinned (OpenSpec.ofChange fnExactPlayRegisterWrong)

/-- 'laws.FnExactCallsOf': WHATEVER THE INPUT: true; the input reads as it did. -/
def fnExactCallsOfSpec : ChangeSpec := { name := "fnExactCallsOf", fn := fun _ => fun
  | [d] => { results := [.lit (.bool true)], args := [d] }
  | _ => none }
def fnExactCallsOfRow : OpenClaim := { program := "ytaofolbnommpgaa", sum := "966562a6bdee97d3f2025efb3435db5c970fe60450e561e47dbae831288ee9da", func := "loop.example/g00218/laws.FnExactCallsOf", spec := "fnExactCallsOf", apart := false }
def FnExactCallsOfSaid : Prop := fnExactCallsOfRow.holds Try.pinned (OpenSpec.ofChange fnExactCallsOfSpec)

/-- ITS FALSE NEIGHBOUR: 'it returns false'. Refute it at one input. -/
def fnExactCallsOfWrong : ChangeSpec := { name := "fnExactCallsOf", fn := fun _ => fun
  | [d] => { results := [.lit (.bool false)], args := [d] }
  | _ => none }
def FnExactCallsOfWrongFalsely : Prop := fnExactCallsOfRow.holds Try.pinned (OpenSpec.ofChange fnExactCallsOfWrong)

/-- 'laws.FnExactNewestOf': WHATEVER THE INPUT: true; the input reads as it did. -/
def fnExactNewestOfSpec : ChangeSpec := { name := "fnExactNewestOf", fn := fun _ => fun
  | [d] => { results := [.lit (.bool true)], args := [d] }
  | _ => none }
def fnExactNewestOfRow : OpenClaim := { program := "ytaofolbnommpgaa", sum := "966562a6bdee97d3f2025efb3435db5c970fe60450e561e47dbae831288ee9da", func := "loop.example/g00218/laws.FnExactNewestOf", spec := "fnExactNewestOf", apart := false }
def FnExactNewestOfSaid : Prop := fnExactNewestOfRow.holds Try.pinned (OpenSpec.ofChange fnExactNewestOfSpec)

/-- ITS FALSE NEIGHBOUR: 'it returns false'. Refute it at one input. -/
def fnExactNewestOfWrong : ChangeSpec := { name := "fnExactNewestOf", fn := fun _ => fun
  | [d] => { results := [.lit (.bool false)], args := [d] }
  | _ => none }
def FnExactNewestOfWrongFalsely : Prop := fnExactNewestOfRow.holds Try.pinned (OpenSpec.ofChange fnExactNewestOfWrong)

/- THE SECOND FORM. 'bulk': how many values and letters a reading holds, each counted each time it is reached (what is shared counts as often as it is met; a slice's spare places count too). A statement '..UptoSaid' is the law's where the arguments, and the package variables that the reading takes, are together of bulk at most 1048576: NARROWER than '..Said'. Prove '..Said' where nothing that the law and all that it calls make is longer than what came in: it says more and counts as full. Else prove '..UptoSaid'. A law counts once. -/
mutual
def uptoBulk {H : Type} : DataW H → Nat
  | .lit (.string bytes) => bytes.length + 1
  | .lit _ => 1
  | .nil => 1
  | .ptr d => uptoBulk d + 1
  | .slice elems spare => uptoBulkAll elems + uptoBulkAll spare + 1
  | .agg parts => uptoBulkAll parts + 1
  | .iface _ d => uptoBulk d + 1
  | .map entries => uptoBulkEntries entries + 1
  | .held _ => 1
def uptoBulkAll {H : Type} : List (DataW H) → Nat
  | [] => 0
  | d :: r => uptoBulk d + uptoBulkAll r
def uptoBulkEntries {H : Type} : List (Lit × DataW H) → Nat
  | [] => 0
  | x :: r => uptoBulkEntry x + uptoBulkEntries r
def uptoBulkEntry {H : Type} : Lit × DataW H → Nat
  | (.string bytes, d) => bytes.length + uptoBulk d + 1
  | (_, d) => uptoBulk d + 1
 end
def uptoSmall : (H : Type) → List (DataW H) → Bool := fun _ ds => decide (uptoBulkAll ds ≤ 1048576)
def OpenSpec.upto (s : _root_.Go.ChangeSpec) : _root_.Go.OpenSpec := { _root_.Go.OpenSpec.ofChange s with cond := some uptoSmall }

/-- 'laws.FnAbd', WHERE WHAT IT READS IS OF BULK AT MOST 1048576: true; the input reads as it did. -/
def fnAbdUptoRow : OpenClaim := { program := "ytaofolbnommpgaa", sum := "966562a6bdee97d3f2025efb3435db5c970fe60450e561e47dbae831288ee9da", func := "loop.example/g00218/laws.FnAbd", spec := "fnAbd", inPlace := ["slices.overlaps[int]", "internal/bytealg.abigen_runtime_cmpstring", "slices.overlaps[loop.example/g00218/impl.Cell]"], unfollowed := true, recurses := true, apart := false, narrowed := true }
def FnAbdUptoSaid : Prop := fnAbdUptoRow.holds Try.pinned (OpenSpec.upto fnAbdSpec)

/-- 'laws.FnNewest', WHERE WHAT IT READS IS OF BULK AT MOST 1048576: true; the input reads as it did. -/
def fnNewestUptoRow : OpenClaim := { program := "ytaofolbnommpgaa", sum := "966562a6bdee97d3f2025efb3435db5c970fe60450e561e47dbae831288ee9da", func := "loop.example/g00218/laws.FnNewest", spec := "fnNewest", inPlace := ["slices.overlaps[int]"], unfollowed := true, recurses := true, apart := false, narrowed := true }
def FnNewestUptoSaid : Prop := fnNewestUptoRow.holds Try.pinned (OpenSpec.upto fnNewestSpec)

/-- 'laws.FnExactNewRegister', WHERE WHAT IT READS IS OF BULK AT MOST 1048576: true; the input reads as it did. -/
def fnExactNewRegisterUptoRow : OpenClaim := { program := "ytaofolbnommpgaa", sum := "966562a6bdee97d3f2025efb3435db5c970fe60450e561e47dbae831288ee9da", func := "loop.example/g00218/laws.FnExactNewRegister", spec := "fnExactNewRegister", apart := false, narrowed := true }
def FnExactNewRegisterUptoSaid : Prop := fnExactNewRegisterUptoRow.holds Try.pinned (OpenSpec.upto fnExactNewRegisterSpec)

/-- 'laws.FnExactGoodRegister', WHERE WHAT IT READS IS OF BULK AT MOST 1048576: true; the input reads as it did. -/
def fnExactGoodRegisterUptoRow : OpenClaim := { program := "ytaofolbnommpgaa", sum := "966562a6bdee97d3f2025efb3435db5c970fe60450e561e47dbae831288ee9da", func := "loop.example/g00218/laws.FnExactGoodRegister", spec := "fnExactGoodRegister", apart := false, narrowed := true }
def FnExactGoodRegisterUptoSaid : Prop := fnExactGoodRegisterUptoRow.holds Try.pinned (OpenSpec.upto fnExactGoodRegisterSpec)

/-- 'laws.FnExactStepRegister', WHERE WHAT IT READS IS OF BULK AT MOST 1048576: true; the input reads as it did. -/
def fnExactStepRegisterUptoRow : OpenClaim := { program := "ytaofolbnommpgaa", sum := "966562a6bdee97d3f2025efb3435db5c970fe60450e561e47dbae831288ee9da", func := "loop.example/g00218/laws.FnExactStepRegister", spec := "fnExactStepRegister", inPlace := ["slices.overlaps[int]"], unfollowed := true, recurses := true, apart := false, narrowed := true }
def FnExactStepRegisterUptoSaid : Prop := fnExactStepRegisterUptoRow.holds Try.pinned (OpenSpec.upto fnExactStepRegisterSpec)

/-- 'laws.FnExactPlayRegister', WHERE WHAT IT READS IS OF BULK AT MOST 1048576: true; the input reads as it did. -/
def fnExactPlayRegisterUptoRow : OpenClaim := { program := "ytaofolbnommpgaa", sum := "966562a6bdee97d3f2025efb3435db5c970fe60450e561e47dbae831288ee9da", func := "loop.example/g00218/laws.FnExactPlayRegister", spec := "fnExactPlayRegister", inPlace := ["slices.overlaps[int]"], unfollowed := true, recurses := true, apart := false, narrowed := true }
def FnExactPlayRegisterUptoSaid : Prop := fnExactPlayRegisterUptoRow.holds Try.pinned (OpenSpec.upto fnExactPlayRegisterSpec)

/-- 'laws.FnExactCallsOf', WHERE WHAT IT READS IS OF BULK AT MOST 1048576: true; the input reads as it did. -/
def fnExactCallsOfUptoRow : OpenClaim := { program := "ytaofolbnommpgaa", sum := "966562a6bdee97d3f2025efb3435db5c970fe60450e561e47dbae831288ee9da", func := "loop.example/g00218/laws.FnExactCallsOf", spec := "fnExactCallsOf", apart := false, narrowed := true }
def FnExactCallsOfUptoSaid : Prop := fnExactCallsOfUptoRow.holds Try.pinned (OpenSpec.upto fnExactCallsOfSpec)

/-- 'laws.FnExactNewestOf', WHERE WHAT IT READS IS OF BULK AT MOST 1048576: true; the input reads as it did. -/
def fnExactNewestOfUptoRow : OpenClaim := { program := "ytaofolbnommpgaa", sum := "966562a6bdee97d3f2025efb3435db5c970fe60450e561e47dbae831288ee9da", func := "loop.example/g00218/laws.FnExactNewestOf", spec := "fnExactNewestOf", apart := false, narrowed := true }
def FnExactNewestOfUptoSaid : Prop := fnExactNewestOfUptoRow.holds Try.pinned (OpenSpec.upto fnExactNewestOfSpec)

end Rows
end Go.Proofs.Ytaofolbnommpgaa
