/-
  No cell of these rows narrows 'for every input' (looked for: loops, veiled, ifaces, maps, wideKeys, modest, calm, conditions, laid).
  DERIVED. THE GIVEN ROWS OF THIS SEAT. 7 by the template 'for every input the law returns true; each argument reads behind the call as it read before'; 0 by the template 'total and deterministic' (their statements: YtiepfdkfadbllaaTotals.lean).
  GIVEN WITH THE SEED: the statements are not yours to turn. If you find one false, say at which input.
  Laid BY PROGRAM, IN A SANDBOX (cutbox-rows.mjs): the forced cells as the released guide's own fill.sh prints them over the translation e350a5dc7eff7812… (all of the seat's roots in one cut). By AI agents, Wed Nov 11 2026. No macro, syntax, notation, axiom, sorry.
-/
import Derived.Test.YtiepfdkfadbllaaChecked
import GoSem.Claim
import GoSem.ClaimJoined
import GoSem.ClaimMapViews
import Derived.JoinedTies
import Derived.KernelRfl
namespace Go.Proofs.Ytiepfdkfadbllaa
/- THE CELL 'sum', in the pinned program and in every row, IS THE sha256 OF THE DUMP (.gsa) THAT YtiepfdkfadbllaaProg.lean LOADS. Nothing in Lean hashes anything: it is a label: what it is worth is what the hold of that sum in a sandbox is worth. -/
noncomputable def Try.pinned : Pinned := { name := "ytiepfdkfadbllaa", sum := "e350a5dc7eff781236d8447b891d49a47d9378e59b24492e3c2462dbe321f38e", checked := Try.checked }
namespace Rows
def none {H : Type} : Left H := { results := [], args := [] }

/-- 'laws.FnThomas': WHATEVER THE INPUT: true; the input reads as it did. -/
def fnThomasSpec : ChangeSpec := { name := "fnThomas", fn := fun _ => fun
  | [d1, d2] => { results := [.lit (.bool true)], args := [d1, d2] }
  | _ => none }
def fnThomasRow : OpenClaim := { program := "ytiepfdkfadbllaa", sum := "e350a5dc7eff781236d8447b891d49a47d9378e59b24492e3c2462dbe321f38e", func := "loop.example/g00218/laws.FnThomas", spec := "fnThomas", inPlace := ["internal/bytealg.abigen_runtime_cmpstring", "slices.overlaps[loop.example/g00218/impl.Entry]"], unfollowed := true, recurses := true, apart := false }
def FnThomasSaid : Prop := fnThomasRow.holds Try.pinned (OpenSpec.ofChange fnThomasSpec)

/-- ITS FALSE NEIGHBOUR: 'it returns false'. Refute it at one input. -/
def fnThomasWrong : ChangeSpec := { name := "fnThomas", fn := fun _ => fun
  | [d1, d2] => { results := [.lit (.bool false)], args := [d1, d2] }
  | _ => none }
def FnThomasWrongFalsely : Prop := fnThomasRow.holds Try.pinned (OpenSpec.ofChange fnThomasWrong)

/-- 'laws.FnCompact': WHATEVER THE INPUT: true; the input reads as it did. -/
def fnCompactSpec : ChangeSpec := { name := "fnCompact", fn := fun _ => fun
  | [d1, d2] => { results := [.lit (.bool true)], args := [d1, d2] }
  | _ => none }
def fnCompactRow : OpenClaim := { program := "ytiepfdkfadbllaa", sum := "e350a5dc7eff781236d8447b891d49a47d9378e59b24492e3c2462dbe321f38e", func := "loop.example/g00218/laws.FnCompact", spec := "fnCompact", inPlace := ["internal/bytealg.abigen_runtime_cmpstring", "slices.overlaps[loop.example/g00218/impl.Entry]"], unfollowed := true, recurses := true, apart := false }
def FnCompactSaid : Prop := fnCompactRow.holds Try.pinned (OpenSpec.ofChange fnCompactSpec)

/-- ITS FALSE NEIGHBOUR: 'it returns false'. Refute it at one input. -/
def fnCompactWrong : ChangeSpec := { name := "fnCompact", fn := fun _ => fun
  | [d1, d2] => { results := [.lit (.bool false)], args := [d1, d2] }
  | _ => none }
def FnCompactWrongFalsely : Prop := fnCompactRow.holds Try.pinned (OpenSpec.ofChange fnCompactWrong)

/-- 'laws.FnExactGoodLog': WHATEVER THE INPUT: true; the input reads as it did. -/
def fnExactGoodLogSpec : ChangeSpec := { name := "fnExactGoodLog", fn := fun _ => fun
  | [d] => { results := [.lit (.bool true)], args := [d] }
  | _ => none }
def fnExactGoodLogRow : OpenClaim := { program := "ytiepfdkfadbllaa", sum := "e350a5dc7eff781236d8447b891d49a47d9378e59b24492e3c2462dbe321f38e", func := "loop.example/g00218/laws.FnExactGoodLog", spec := "fnExactGoodLog", apart := false }
def FnExactGoodLogSaid : Prop := fnExactGoodLogRow.holds Try.pinned (OpenSpec.ofChange fnExactGoodLogSpec)

/-- ITS FALSE NEIGHBOUR: 'it returns false'. Refute it at one input. -/
def fnExactGoodLogWrong : ChangeSpec := { name := "fnExactGoodLog", fn := fun _ => fun
  | [d] => { results := [.lit (.bool false)], args := [d] }
  | _ => none }
def FnExactGoodLogWrongFalsely : Prop := fnExactGoodLogRow.holds Try.pinned (OpenSpec.ofChange fnExactGoodLogWrong)

/-- 'laws.FnExactReplayLog': WHATEVER THE INPUT: true; the input reads as it did. -/
def fnExactReplayLogSpec : ChangeSpec := { name := "fnExactReplayLog", fn := fun _ => fun
  | [d] => { results := [.lit (.bool true)], args := [d] }
  | _ => none }
def fnExactReplayLogRow : OpenClaim := { program := "ytiepfdkfadbllaa", sum := "e350a5dc7eff781236d8447b891d49a47d9378e59b24492e3c2462dbe321f38e", func := "loop.example/g00218/laws.FnExactReplayLog", spec := "fnExactReplayLog", inPlace := ["internal/bytealg.abigen_runtime_cmpstring", "slices.overlaps[loop.example/g00218/impl.Entry]"], unfollowed := true, recurses := true, apart := false }
def FnExactReplayLogSaid : Prop := fnExactReplayLogRow.holds Try.pinned (OpenSpec.ofChange fnExactReplayLogSpec)

/-- ITS FALSE NEIGHBOUR: 'it returns false'. Refute it at one input. -/
def fnExactReplayLogWrong : ChangeSpec := { name := "fnExactReplayLog", fn := fun _ => fun
  | [d] => { results := [.lit (.bool false)], args := [d] }
  | _ => none }
def FnExactReplayLogWrongFalsely : Prop := fnExactReplayLogRow.holds Try.pinned (OpenSpec.ofChange fnExactReplayLogWrong)

/-- 'laws.FnExactCompactLog': WHATEVER THE INPUT: true; the input reads as it did. -/
def fnExactCompactLogSpec : ChangeSpec := { name := "fnExactCompactLog", fn := fun _ => fun
  | [d] => { results := [.lit (.bool true)], args := [d] }
  | _ => none }
def fnExactCompactLogRow : OpenClaim := { program := "ytiepfdkfadbllaa", sum := "e350a5dc7eff781236d8447b891d49a47d9378e59b24492e3c2462dbe321f38e", func := "loop.example/g00218/laws.FnExactCompactLog", spec := "fnExactCompactLog", inPlace := ["internal/bytealg.abigen_runtime_cmpstring", "slices.overlaps[loop.example/g00218/impl.Entry]"], unfollowed := true, recurses := true, apart := false }
def FnExactCompactLogSaid : Prop := fnExactCompactLogRow.holds Try.pinned (OpenSpec.ofChange fnExactCompactLogSpec)

/-- ITS FALSE NEIGHBOUR: 'it returns false'. Refute it at one input. -/
def fnExactCompactLogWrong : ChangeSpec := { name := "fnExactCompactLog", fn := fun _ => fun
  | [d] => { results := [.lit (.bool false)], args := [d] }
  | _ => none }
def FnExactCompactLogWrongFalsely : Prop := fnExactCompactLogRow.holds Try.pinned (OpenSpec.ofChange fnExactCompactLogWrong)

/-- 'laws.FnExactMergeLogs': WHATEVER THE INPUT: true; the input reads as it did. -/
def fnExactMergeLogsSpec : ChangeSpec := { name := "fnExactMergeLogs", fn := fun _ => fun
  | [d1, d2] => { results := [.lit (.bool true)], args := [d1, d2] }
  | _ => none }
def fnExactMergeLogsRow : OpenClaim := { program := "ytiepfdkfadbllaa", sum := "e350a5dc7eff781236d8447b891d49a47d9378e59b24492e3c2462dbe321f38e", func := "loop.example/g00218/laws.FnExactMergeLogs", spec := "fnExactMergeLogs", unfollowed := true, recurses := true, apart := false }
def FnExactMergeLogsSaid : Prop := fnExactMergeLogsRow.holds Try.pinned (OpenSpec.ofChange fnExactMergeLogsSpec)

/-- ITS FALSE NEIGHBOUR: 'it returns false'. Refute it at one input. -/
def fnExactMergeLogsWrong : ChangeSpec := { name := "fnExactMergeLogs", fn := fun _ => fun
  | [d1, d2] => { results := [.lit (.bool false)], args := [d1, d2] }
  | _ => none }
def FnExactMergeLogsWrongFalsely : Prop := fnExactMergeLogsRow.holds Try.pinned (OpenSpec.ofChange fnExactMergeLogsWrong)

/-- 'laws.FnExactTruncateLog': WHATEVER THE INPUT: true; the input reads as it did. -/
def fnExactTruncateLogSpec : ChangeSpec := { name := "fnExactTruncateLog", fn := fun _ => fun
  | [d1, d2] => { results := [.lit (.bool true)], args := [d1, d2] }
  | _ => none }
def fnExactTruncateLogRow : OpenClaim := { program := "ytiepfdkfadbllaa", sum := "e350a5dc7eff781236d8447b891d49a47d9378e59b24492e3c2462dbe321f38e", func := "loop.example/g00218/laws.FnExactTruncateLog", spec := "fnExactTruncateLog", inPlace := ["internal/bytealg.abigen_runtime_cmpstring", "slices.overlaps[loop.example/g00218/impl.Entry]"], unfollowed := true, recurses := true, apart := false }
def FnExactTruncateLogSaid : Prop := fnExactTruncateLogRow.holds Try.pinned (OpenSpec.ofChange fnExactTruncateLogSpec)

/-- ITS FALSE NEIGHBOUR: 'it returns false'. Refute it at one input. -/
def fnExactTruncateLogWrong : ChangeSpec := { name := "fnExactTruncateLog", fn := fun _ => fun
  | [d1, d2] => { results := [.lit (.bool false)], args := [d1, d2] }
  | _ => none }
def FnExactTruncateLogWrongFalsely : Prop := fnExactTruncateLogRow.holds Try.pinned (OpenSpec.ofChange fnExactTruncateLogWrong)

/- THE SECOND FORM. 'bulk': how many values and letters a reading holds, each counted each time it is reached (what is shared counts as often as it is met; a slice's spare places count too). A statement '..UptoSaid' is the law's where the arguments, and the package variables that the reading takes, are together of bulk at most 1048576: NARROWER than '..Said'. Prove '..Said' where nothing that the law and all that it calls make is longer than what came in: it says more and counts as full. Else prove '..UptoSaid'. A law counts once. -/
mutual
def uptoBulk {H : Type} : DataW H → Nat
  | .lit (.string bytes) => bytes.length + 1
  | .lit _ => 1
  | .nil => 1
  | .ptr d => uptoBulk d + 1
  | .slice elems spare => uptoBulkAll elems + uptoBulkAll spare + 1
  | .agg parts => uptoBulkAll parts + 1
  | .iface _ d => uptoBulk d + 1
  | .map entries => uptoBulkEntries entries + 1
  | .held _ => 1
def uptoBulkAll {H : Type} : List (DataW H) → Nat
  | [] => 0
  | d :: r => uptoBulk d + uptoBulkAll r
def uptoBulkEntries {H : Type} : List (Lit × DataW H) → Nat
  | [] => 0
  | x :: r => uptoBulkEntry x + uptoBulkEntries r
def uptoBulkEntry {H : Type} : Lit × DataW H → Nat
  | (.string bytes, d) => bytes.length + uptoBulk d + 1
  | (_, d) => uptoBulk d + 1
 end
def uptoSmall : (H : Type) → List (DataW H) → Bool := fun _ ds => decide (uptoBulkAll ds ≤ 1048576)
def OpenSpec.upto (s : _root_.Go.ChangeSpec) : _root_.Go.OpenSpec := { _root_.Go.OpenSpec.ofChange s with cond := some uptoSmall }

/-- 'laws.FnThomas', WHERE WHAT IT READS IS OF BULK AT MOST 1048576: true; the input reads as it did. -/
def fnThomasUptoRow : OpenClaim := { program := "ytiepfdkfadbllaa", sum := "e350a5dc7eff781236d8447b891d49a47d9378e59b24492e3c2462dbe321f38e", func := "loop.example/g00218/laws.FnThomas", spec := "fnThomas", inPlace := ["internal/bytealg.abigen_runtime_cmpstring", "slices.overlaps[loop.example/g00218/impl.Entry]"], unfollowed := true, recurses := true, apart := false, narrowed := true }
def FnThomasUptoSaid : Prop := fnThomasUptoRow.holds Try.pinned (OpenSpec.upto fnThomasSpec)

/-- 'laws.FnCompact', WHERE WHAT IT READS IS OF BULK AT MOST 1048576: true; the input reads as it did. -/
def fnCompactUptoRow : OpenClaim := { program := "ytiepfdkfadbllaa", sum := "e350a5dc7eff781236d8447b891d49a47d9378e59b24492e3c2462dbe321f38e", func := "loop.example/g00218/laws.FnCompact", spec := "fnCompact", inPlace := ["internal/bytealg.abigen_runtime_cmpstring", "slices.overlaps[loop.example/g00218/impl.Entry]"], unfollowed := true, recurses := true, apart := false, narrowed := true }
def FnCompactUptoSaid : Prop := fnCompactUptoRow.holds Try.pinned (OpenSpec.upto fnCompactSpec)

/-- 'laws.FnExactGoodLog', WHERE WHAT IT READS IS OF BULK AT MOST 1048576: true; the input reads as it did. -/
def fnExactGoodLogUptoRow : OpenClaim := { program := "ytiepfdkfadbllaa", sum := "e350a5dc7eff781236d8447b891d49a47d9378e59b24492e3c2462dbe321f38e", func := "loop.example/g00218/laws.FnExactGoodLog", spec := "fnExactGoodLog", apart := false, narrowed := true }
def FnExactGoodLogUptoSaid : Prop := fnExactGoodLogUptoRow.holds Try.pinned (OpenSpec.upto fnExactGoodLogSpec)

/-- 'laws.FnExactReplayLog', WHERE WHAT IT READS IS OF BULK AT MOST 1048576: true; the input reads as it did. -/
def fnExactReplayLogUptoRow : OpenClaim := { program := "ytiepfdkfadbllaa", sum := "e350a5dc7eff781236d8447b891d49a47d9378e59b24492e3c2462dbe321f38e", func := "loop.example/g00218/laws.FnExactReplayLog", spec := "fnExactReplayLog", inPlace := ["internal/bytealg.abigen_runtime_cmpstring", "slices.overlaps[loop.example/g00218/impl.Entry]"], unfollowed := true, recurses := true, apart := false, narrowed := true }
def FnExactReplayLogUptoSaid : Prop := fnExactReplayLogUptoRow.holds Try.pinned (OpenSpec.upto fnExactReplayLogSpec)

/-- 'laws.FnExactCompactLog', WHERE WHAT IT READS IS OF BULK AT MOST 1048576: true; the input reads as it did. -/
def fnExactCompactLogUptoRow : OpenClaim := { program := "ytiepfdkfadbllaa", sum := "e350a5dc7eff781236d8447b891d49a47d9378e59b24492e3c2462dbe321f38e", func := "loop.example/g00218/laws.FnExactCompactLog", spec := "fnExactCompactLog", inPlace := ["internal/bytealg.abigen_runtime_cmpstring", "slices.overlaps[loop.example/g00218/impl.Entry]"], unfollowed := true, recurses := true, apart := false, narrowed := true }
def FnExactCompactLogUptoSaid : Prop := fnExactCompactLogUptoRow.holds Try.pinned (OpenSpec.upto fnExactCompactLogSpec)

/-- 'laws.FnExactMergeLogs', WHERE WHAT IT READS IS OF BULK AT MOST 1048576: true; the input reads as it did. -/
def fnExactMergeLogsUptoRow : OpenClaim := { program := "ytiepfdkfadbllaa", sum := "e350a5dc7eff781236d8447b891d49a47d9378e59b24492e3c2462dbe321f38e", func := "loop.example/g00218/laws.FnExactMergeLogs", spec := "fnExactMergeLogs", unfollowed := true, recurses := true, apart := false, narrowed := true }
def FnExactMergeLogsUptoSaid : Prop := fnExactMergeLogsUptoRow.holds Try.pinned (OpenSpec.upto fnExactMergeLogsSpec)

/-- 'laws.FnExactTruncateLog', WHERE WHAT IT READS IS OF BULK AT MOST 1048576: true; the input reads as it did. -/
def fnExactTruncateLogUptoRow : OpenClaim := { program := "ytiepfdkfadbllaa", sum := "e350a5dc7eff781236d8447b891d49a47d9378e59b24492e3c2462dbe321f38e", func := "loop.example/g00218/laws.FnExactTruncateLog", spec := "fnExactTruncateLog", inPlace := ["internal/bytealg.abigen_runtime_cmpstring", "slices.overlaps[loop.example/g00218/impl.Entry]"], unfollowed := true, recurses := true, apart := false, narrowed := true }
def FnExactTruncateLogUptoSaid : Prop := fnExactTruncateLogUptoRow.holds Try.pinned (OpenSpec.upto fnExactTruncateLogSpec)

end Rows
end Go.Proofs.Ytiepfdkfadbllaa
