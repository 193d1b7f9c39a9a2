/- Registers: sizes of what a step answers; contracts as the laws speak of them. -/
import Derived.Test.YtaofolbnommpgaaRsY
import Derived.Test.YtaofolbnommpgaaShD
import Derived.Test.YtaofolbnommpgaaRgK
namespace Go.Proofs.Ytaofolbnommpgaa
open Go.RowKit
set_option linter.unusedVariables false
set_option linter.unusedSimpArgs false

theorem rsS_good {ck : Int} {cp : List (Sh.T shCopy)} {os : List (Sh.T shRegOp)} {bg : Bool} {cl : Int} {wt : Bool} {vl : ByteArray} {oi ni : Int} {y : Sh.T shRegister} (h : rsS ck cp os bg cl wt vl oi ni = some y) : goodR y.1 y.2.1 y.2.2.1 := by
  by_cases hg : goodR ck cp os
  case neg => rw [rsS_bad hg] at h; cases h
  by_cases hk : ck = 1000
  · rw [rsS_end hk] at h; cases h
  cases e : rsB ck cp os bg cl wt vl oi ni with
  | none => rw [rsS_none e] at h; cases h
  | some x =>
    by_cases hx : goodR (ck + 1) x.1 x.2
    · rw [rsS_yes hg hk e hx] at h; cases h; exact hx
    · rw [rsS_no e hx] at h; cases h
theorem sz_rsS (ck : Int) (cp : List (Sh.T shCopy)) (os : List (Sh.T shRegOp)) (bg : Bool) (cl : Int) (wt : Bool) (vl : ByteArray) (oi ni : Int) : szD shRegister ((rsS ck cp os bg cl wt vl oi ni).getD z0R) ≤ 1073741824 := by
  cases e : rsS ck cp os bg cl wt vl oi ni with
  | none => exact Nat.zero_le _
  | some y =>
    have h1 : szD shRegister (y.1, y.2.1, y.2.2.1, ()) ≤ 2000 := sz_small (good_sml (rsS_good e))
    show szD shRegister y ≤ _
    exact Nat.le_trans h1 (by decide)
/-- These are the parts of an answer. -/
def partsR (A : Option (Sh.T shRegister)) (CK : Int) (CP : List (Sh.T shCopy)) (OS : List (Sh.T shRegOp)) (z : Bool) : Prop := (A.getD z0R).1 = CK ∧ (A.getD z0R).2.1 = CP ∧ (A.getD z0R).2.2.1 = OS ∧ A.isSome = z
theorem parts_sz {A : Option (Sh.T shRegister)} {CK : Int} {CP : List (Sh.T shCopy)} {OS : List (Sh.T shRegOp)} {z : Bool} (h : partsR A CK CP OS z) (hs : szD shRegister (A.getD z0R) ≤ 1073741824) : szD shRegister (CK, CP, OS, ()) ≤ 1073741824 := by
  obtain ⟨h1, h2, h3, h4⟩ := h
  rw [← h1, ← h2, ← h3]; exact hs
theorem parts_ans {A : Option (Sh.T shRegister)} {CK : Int} {CP : List (Sh.T shCopy)} {OS : List (Sh.T shRegOp)} {z : Bool} {w w' : World} {r : Ending} (h : partsR A CK CP OS z) (hp : RsP A w r w') : AnsP shRegister (CK, CP, OS, ()) z w r w' := by
  obtain ⟨h1, h2, h3, h4⟩ := h
  rw [← h1, ← h2, ← h3, ← h4]; exact hp
theorem step_vl {bg : Bool} {cl : Int} {wt : Bool} {vl : ByteArray} {oi ni : Int} (h : szD shRegStep (bg, cl, wt, vl, oi, ni, ()) ≤ 1073741824) : vl.size ≤ 1073741824 := by
  have e : szD shRegStep (bg, cl, wt, vl, oi, ni, ()) = 0 + (0 + (0 + (vl.size + (0 + (0 + 0))))) := rfl
  omega
theorem stepRegister_l (cs : List Value) (ck : Int) (cp : List (Sh.T shCopy)) (os : List (Sh.T shRegOp)) (bg : Bool) (cl : Int) (wt : Bool) (vl : ByteArray) (oi ni : Int) (w : World) (CK : Int) (CP : List (Sh.T shCopy)) (OS : List (Sh.T shRegOp)) (z : Bool) (hA : partsR (rsS ck cp os bg cl wt vl oi ni) CK CP OS z) (hz : szD shRegister (ck, cp, os, ()) ≤ 1073741824) (hs : szD shRegStep (bg, cl, wt, vl, oi, ni, ()) ≤ 1073741824) (h : Lies w shRegister cs (ck, cp, os, ())) :
    Calls Try.prog 20 #[.agg cs.toArray, .agg #[.bool bg, .int .i64 cl, .bool wt, .string vl, .int .i64 oi, .int .i64 ni]] w (AnsP shRegister (CK, CP, OS, ()) z w) :=
  (stepRegister_n cs ck cp os bg cl wt vl oi ni w hz (step_vl hs) h).mono (fun r w' hp => parts_ans hA hp)
theorem specStepRegister_l (cs : List Value) (ck : Int) (cp : List (Sh.T shCopy)) (os : List (Sh.T shRegOp)) (bg : Bool) (cl : Int) (wt : Bool) (vl : ByteArray) (oi ni : Int) (w : World) (CK : Int) (CP : List (Sh.T shCopy)) (OS : List (Sh.T shRegOp)) (z : Bool) (hA : partsR (rsS ck cp os bg cl wt vl oi ni) CK CP OS z) (hz : szD shRegister (ck, cp, os, ()) ≤ 1073741824) (hs : szD shRegStep (bg, cl, wt, vl, oi, ni, ()) ≤ 1073741824) (h : Lies w shRegister cs (ck, cp, os, ())) :
    Calls Try.prog 21 #[.agg cs.toArray, .agg #[.bool bg, .int .i64 cl, .bool wt, .string vl, .int .i64 oi, .int .i64 ni]] w (AnsP shRegister (CK, CP, OS, ()) z w) :=
  (specStepRegister_n cs ck cp os bg cl wt vl oi ni w hz (step_vl hs) h).mono (fun r w' hp => parts_ans hA hp)
end Go.Proofs.Ytaofolbnommpgaa
