/-
  NARROWER THAN 'FOR EVERY INPUT', by the rows' own cells (each row's printed sentence says how): FnCommit: ifaces, laid · FnTold: ifaces, laid · FnExactStepCommit: ifaces, laid · FnExactPlayCommit: ifaces, laid.
  DERIVED. THE GIVEN ROWS OF THIS SEAT. 4 by the template 'for every input the law returns true; each argument reads behind the call as it read before'; 0 by the template 'total and deterministic' (their statements: YtkpobihpcnoemaaDoorTotals.lean).
  GIVEN WITH THE SEED: the statements are not yours to turn. If you find one false, say at which input.
  Laid BY PROGRAM, IN A SANDBOX (cutbox-rows.mjs): the forced cells as the released guide's own fill.sh prints them over the translation b33ec8a05c173c75… (all of the seat's roots in one cut). By AI agents, Wed Nov 11 2026. No macro, syntax, notation, axiom, sorry.
-/
import Derived.Test.YtkpobihpcnoemaaDoorChecked
import GoSem.Claim
import GoSem.ClaimJoined
import GoSem.ClaimMapViews
import Derived.JoinedTies
import Derived.KernelRfl
namespace Go.Proofs.YtkpobihpcnoemaaDoor
/- THE CELL 'sum', in the pinned program and in every row, IS THE sha256 OF THE DUMP (.gsa) THAT YtkpobihpcnoemaaDoorProg.lean LOADS. Nothing in Lean hashes anything: it is a label: what it is worth is what the hold of that sum in a sandbox is worth. -/
noncomputable def Tryd.pinned : Pinned := { name := "ytkpobihpcnoemaadoor", sum := "b33ec8a05c173c75536a8cd03697b6a44d44c528f1ac4bd9c2ce5a79461e1bcb", checked := Tryd.checked }
namespace Rows
def none {H : Type} : Left H := { results := [], args := [] }

/- WHAT THE LISTED PACKAGE-LEVEL VARIABLES READ AS WHEN THE CALL BEGINS. Each datum BY PROGRAM (the guide's laid-datum.mjs) off the statement by which the dump's own 'gosem.cut.vars' lays the variable. In a bare row this is a premise. The card (YtkpobihpcnoemaaDoorCards.lean) ties it to the program's text. -/
def laid_loop_example_g00218_impl_errCommitFault {H : Type} : DataW H := .iface "*errors.errorString" (.ptr (.agg [.lit (.string [99, 111, 109, 109, 105, 116, 58, 32, 116, 104, 101, 32, 115, 116, 101, 112, 32, 108, 97, 99, 107, 115, 32, 119, 104, 97, 116, 32, 105, 116, 32, 97, 115, 107, 115, 32, 102, 111, 114])]))

/-- 'laws.FnCommit': WHATEVER THE INPUT: true; the input reads as it did. -/
def fnCommitSpec : ChangeSpec := { name := "fnCommit", vars := ["loop.example/g00218/impl.errCommitFault"], fn := fun _ => fun
  | [d, g1] => { results := [.lit (.bool true)], args := [d], vars := [g1] }
  | _ => none }
def fnCommitRow : OpenClaim := { program := "ytkpobihpcnoemaadoor", sum := "b33ec8a05c173c75536a8cd03697b6a44d44c528f1ac4bd9c2ce5a79461e1bcb", func := "loop.example/g00218/laws.FnCommit", spec := "fnCommit", unfollowed := true, recurses := true, named := ["loop.example/g00218/impl.errCommitFault"], ifaces := true, apart := false, laid := [("loop.example/g00218/impl.errCommitFault", laid_loop_example_g00218_impl_errCommitFault)] }
def FnCommitSaid : Prop := fnCommitRow.holds Tryd.pinned (OpenSpec.ofChange fnCommitSpec)

/-- ITS FALSE NEIGHBOUR: 'it returns false'. Refute it at one input. -/
def fnCommitWrong : ChangeSpec := { name := "fnCommit", vars := ["loop.example/g00218/impl.errCommitFault"], fn := fun _ => fun
  | [d, g1] => { results := [.lit (.bool false)], args := [d], vars := [g1] }
  | _ => none }
def FnCommitWrongFalsely : Prop := fnCommitRow.holds Tryd.pinned (OpenSpec.ofChange fnCommitWrong)

/-- 'laws.FnTold': WHATEVER THE INPUT: true; the input reads as it did. -/
def fnToldSpec : ChangeSpec := { name := "fnTold", vars := ["loop.example/g00218/impl.errCommitFault"], fn := fun _ => fun
  | [d1, d2, g1] => { results := [.lit (.bool true)], args := [d1, d2], vars := [g1] }
  | _ => none }
def fnToldRow : OpenClaim := { program := "ytkpobihpcnoemaadoor", sum := "b33ec8a05c173c75536a8cd03697b6a44d44c528f1ac4bd9c2ce5a79461e1bcb", func := "loop.example/g00218/laws.FnTold", spec := "fnTold", unfollowed := true, recurses := true, named := ["loop.example/g00218/impl.errCommitFault"], ifaces := true, apart := false, laid := [("loop.example/g00218/impl.errCommitFault", laid_loop_example_g00218_impl_errCommitFault)] }
def FnToldSaid : Prop := fnToldRow.holds Tryd.pinned (OpenSpec.ofChange fnToldSpec)

/-- ITS FALSE NEIGHBOUR: 'it returns false'. Refute it at one input. -/
def fnToldWrong : ChangeSpec := { name := "fnTold", vars := ["loop.example/g00218/impl.errCommitFault"], fn := fun _ => fun
  | [d1, d2, g1] => { results := [.lit (.bool false)], args := [d1, d2], vars := [g1] }
  | _ => none }
def FnToldWrongFalsely : Prop := fnToldRow.holds Tryd.pinned (OpenSpec.ofChange fnToldWrong)

/-- 'laws.FnExactStepCommit': WHATEVER THE INPUT: true; the input reads as it did. -/
def fnExactStepCommitSpec : ChangeSpec := { name := "fnExactStepCommit", vars := ["loop.example/g00218/impl.errCommitFault"], fn := fun _ => fun
  | [d1, d2, g1] => { results := [.lit (.bool true)], args := [d1, d2], vars := [g1] }
  | _ => none }
def fnExactStepCommitRow : OpenClaim := { program := "ytkpobihpcnoemaadoor", sum := "b33ec8a05c173c75536a8cd03697b6a44d44c528f1ac4bd9c2ce5a79461e1bcb", func := "loop.example/g00218/laws.FnExactStepCommit", spec := "fnExactStepCommit", unfollowed := true, recurses := true, named := ["loop.example/g00218/impl.errCommitFault"], ifaces := true, apart := false, laid := [("loop.example/g00218/impl.errCommitFault", laid_loop_example_g00218_impl_errCommitFault)] }
def FnExactStepCommitSaid : Prop := fnExactStepCommitRow.holds Tryd.pinned (OpenSpec.ofChange fnExactStepCommitSpec)

/-- ITS FALSE NEIGHBOUR: 'it returns false'. Refute it at one input. -/
def fnExactStepCommitWrong : ChangeSpec := { name := "fnExactStepCommit", vars := ["loop.example/g00218/impl.errCommitFault"], fn := fun _ => fun
  | [d1, d2, g1] => { results := [.lit (.bool false)], args := [d1, d2], vars := [g1] }
  | _ => none }
def FnExactStepCommitWrongFalsely : Prop := fnExactStepCommitRow.holds Tryd.pinned (OpenSpec.ofChange fnExactStepCommitWrong)

/-- 'laws.FnExactPlayCommit': WHATEVER THE INPUT: true; the input reads as it did. -/
def fnExactPlayCommitSpec : ChangeSpec := { name := "fnExactPlayCommit", vars := ["loop.example/g00218/impl.errCommitFault"], fn := fun _ => fun
  | [d1, d2, g1] => { results := [.lit (.bool true)], args := [d1, d2], vars := [g1] }
  | _ => none }
def fnExactPlayCommitRow : OpenClaim := { program := "ytkpobihpcnoemaadoor", sum := "b33ec8a05c173c75536a8cd03697b6a44d44c528f1ac4bd9c2ce5a79461e1bcb", func := "loop.example/g00218/laws.FnExactPlayCommit", spec := "fnExactPlayCommit", unfollowed := true, recurses := true, named := ["loop.example/g00218/impl.errCommitFault"], ifaces := true, apart := false, laid := [("loop.example/g00218/impl.errCommitFault", laid_loop_example_g00218_impl_errCommitFault)] }
def FnExactPlayCommitSaid : Prop := fnExactPlayCommitRow.holds Tryd.pinned (OpenSpec.ofChange fnExactPlayCommitSpec)

/-- ITS FALSE NEIGHBOUR: 'it returns false'. Refute it at one input. -/
def fnExactPlayCommitWrong : ChangeSpec := { name := "fnExactPlayCommit", vars := ["loop.example/g00218/impl.errCommitFault"], fn := fun _ => fun
  | [d1, d2, g1] => { results := [.lit (.bool false)], args := [d1, d2], vars := [g1] }
  | _ => none }
def FnExactPlayCommitWrongFalsely : Prop := fnExactPlayCommitRow.holds Tryd.pinned (OpenSpec.ofChange fnExactPlayCommitWrong)

/- THE SECOND FORM. 'bulk': how many values and letters a reading holds, each counted each time it is reached (what is shared counts as often as it is met; a slice's spare places count too). A statement '..UptoSaid' is the law's where the arguments, and the package variables that the reading takes, are together of bulk at most 1048576: NARROWER than '..Said'. Prove '..Said' where nothing that the law and all that it calls make is longer than what came in: it says more and counts as full. Else prove '..UptoSaid'. A law counts once. -/
mutual
def uptoBulk {H : Type} : DataW H → Nat
  | .lit (.string bytes) => bytes.length + 1
  | .lit _ => 1
  | .nil => 1
  | .ptr d => uptoBulk d + 1
  | .slice elems spare => uptoBulkAll elems + uptoBulkAll spare + 1
  | .agg parts => uptoBulkAll parts + 1
  | .iface _ d => uptoBulk d + 1
  | .map entries => uptoBulkEntries entries + 1
  | .held _ => 1
def uptoBulkAll {H : Type} : List (DataW H) → Nat
  | [] => 0
  | d :: r => uptoBulk d + uptoBulkAll r
def uptoBulkEntries {H : Type} : List (Lit × DataW H) → Nat
  | [] => 0
  | x :: r => uptoBulkEntry x + uptoBulkEntries r
def uptoBulkEntry {H : Type} : Lit × DataW H → Nat
  | (.string bytes, d) => bytes.length + uptoBulk d + 1
  | (_, d) => uptoBulk d + 1
 end
def uptoSmall : (H : Type) → List (DataW H) → Bool := fun _ ds => decide (uptoBulkAll ds ≤ 1048576)
def OpenSpec.upto (s : _root_.Go.ChangeSpec) : _root_.Go.OpenSpec := { _root_.Go.OpenSpec.ofChange s with cond := some uptoSmall }

/-- 'laws.FnCommit', WHERE WHAT IT READS IS OF BULK AT MOST 1048576: true; the input reads as it did. -/
def fnCommitUptoRow : OpenClaim := { program := "ytkpobihpcnoemaadoor", sum := "b33ec8a05c173c75536a8cd03697b6a44d44c528f1ac4bd9c2ce5a79461e1bcb", func := "loop.example/g00218/laws.FnCommit", spec := "fnCommit", unfollowed := true, recurses := true, named := ["loop.example/g00218/impl.errCommitFault"], ifaces := true, apart := false, laid := [("loop.example/g00218/impl.errCommitFault", laid_loop_example_g00218_impl_errCommitFault)], narrowed := true }
def FnCommitUptoSaid : Prop := fnCommitUptoRow.holds Tryd.pinned (OpenSpec.upto fnCommitSpec)

/-- 'laws.FnTold', WHERE WHAT IT READS IS OF BULK AT MOST 1048576: true; the input reads as it did. -/
def fnToldUptoRow : OpenClaim := { program := "ytkpobihpcnoemaadoor", sum := "b33ec8a05c173c75536a8cd03697b6a44d44c528f1ac4bd9c2ce5a79461e1bcb", func := "loop.example/g00218/laws.FnTold", spec := "fnTold", unfollowed := true, recurses := true, named := ["loop.example/g00218/impl.errCommitFault"], ifaces := true, apart := false, laid := [("loop.example/g00218/impl.errCommitFault", laid_loop_example_g00218_impl_errCommitFault)], narrowed := true }
def FnToldUptoSaid : Prop := fnToldUptoRow.holds Tryd.pinned (OpenSpec.upto fnToldSpec)

/-- 'laws.FnExactStepCommit', WHERE WHAT IT READS IS OF BULK AT MOST 1048576: true; the input reads as it did. -/
def fnExactStepCommitUptoRow : OpenClaim := { program := "ytkpobihpcnoemaadoor", sum := "b33ec8a05c173c75536a8cd03697b6a44d44c528f1ac4bd9c2ce5a79461e1bcb", func := "loop.example/g00218/laws.FnExactStepCommit", spec := "fnExactStepCommit", unfollowed := true, recurses := true, named := ["loop.example/g00218/impl.errCommitFault"], ifaces := true, apart := false, laid := [("loop.example/g00218/impl.errCommitFault", laid_loop_example_g00218_impl_errCommitFault)], narrowed := true }
def FnExactStepCommitUptoSaid : Prop := fnExactStepCommitUptoRow.holds Tryd.pinned (OpenSpec.upto fnExactStepCommitSpec)

/-- 'laws.FnExactPlayCommit', WHERE WHAT IT READS IS OF BULK AT MOST 1048576: true; the input reads as it did. -/
def fnExactPlayCommitUptoRow : OpenClaim := { program := "ytkpobihpcnoemaadoor", sum := "b33ec8a05c173c75536a8cd03697b6a44d44c528f1ac4bd9c2ce5a79461e1bcb", func := "loop.example/g00218/laws.FnExactPlayCommit", spec := "fnExactPlayCommit", unfollowed := true, recurses := true, named := ["loop.example/g00218/impl.errCommitFault"], ifaces := true, apart := false, laid := [("loop.example/g00218/impl.errCommitFault", laid_loop_example_g00218_impl_errCommitFault)], narrowed := true }
def FnExactPlayCommitUptoSaid : Prop := fnExactPlayCommitUptoRow.holds Tryd.pinned (OpenSpec.upto fnExactPlayCommitSpec)

end Rows
end Go.Proofs.YtkpobihpcnoemaaDoor
