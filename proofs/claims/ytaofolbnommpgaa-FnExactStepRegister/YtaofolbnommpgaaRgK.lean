/- Registers: how many marks a register takes. -/
import Derived.Test.YtaofolbnommpgaaShC
import Derived.Test.YtaofolbnommpgaaShM
import Derived.Test.YtaofolbnommpgaaMgA
namespace Go.Proofs.Ytaofolbnommpgaa
open Go.RowKit
set_option linter.unusedVariables false

theorem cnt_reg {ck : Int} {cp : List (Sh.T shCopy)} {os : List (Sh.T shRegOp)} (h : szD shRegister (ck, cp, os, ()) ≤ 1073741824) : cntT shRegister (ck, cp, os, ()) ≤ 100000000000 := by
  have h1 := cntT_le shRegister (ck, cp, os, ())
  have h2 := cnt_le shRegister (ck, cp, os, ()) ⟨trivial, ⟨by decide, trivial, trivial, trivial, trivial⟩, ⟨by decide, trivial, trivial, trivial, trivial, ⟨by decide, trivial⟩, ⟨trivial, trivial, trivial, trivial⟩, trivial, trivial, trivial⟩, trivial⟩
  have h3 : shRegister.c = 3 := rfl
  omega
end Go.Proofs.Ytaofolbnommpgaa
