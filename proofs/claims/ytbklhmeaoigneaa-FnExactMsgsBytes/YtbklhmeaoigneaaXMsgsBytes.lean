/- At every list of messages impl.MsgsBytes answers as the specification does, writes into no argument, and the argument reads behind the call as it read before. No condition. -/
import Derived.Test.YtbklhmeaoigneaaMsgSB
import Derived.Test.YtbklhmeaoigneaaOpenMsgs
import Derived.ProofKit
import Derived.OpenShut
import Derived.ShutString
import Derived.ChangeOld
import Derived.Below
import Derived.Lib.SmallJoins
namespace Go.Proofs.Ytbklhmeaoigneaa.xMsgsBytes
open Go.ChangeShapes Go.WideShapes Go.ChangeAt Go.RowKit
open Go.ChangeMaps (open_string shut_string)
set_option linter.unusedVariables false

set_option maxHeartbeats 1000000 in
theorem walk (a : Option Addr) (n cap : Nat) (M : Nat → MsgV) (w : World) (hm : n ≤ maxLen) (hs : Sl w a n 9 (msgF M)) (hz : ∀ i, i < n → (M i).key.size ≤ maxLen ∧ (M i).val.size ≤ maxLen) :
    Calls Try.prog 14 #[.slice a n cap] w fun r w' => r = .returned (.bool true) ∧ Below w.heap.size w w' := by
  have HS : Hid (Sl w a n 9 (msgF M) ∧ ∀ i, i < n → (M i).key.size ≤ maxLen ∧ (M i).val.size ≤ maxLen) := ⟨hs, hz⟩
  clear hs hz
  go_enter Try.func14, Try.ntmps14
  go_wp2_with fail
  refine (szMsgS_any _ _ _ M _ hm HS.out.1 HS.out.2).mono ?_
  rintro r w1 ⟨l, rfl, hln, hb1⟩
  have B1 : Hid (Below w.heap.size w w1) := hb1
  have HLN : Hid (0 ≤ l → n ≤ 1048576) := hln
  clear hb1 hln
  by_cases hl : l < 0
  · go_wp2
    go_ret
    exact ⟨rfl, B1.out⟩
  have hn : n ≤ 1048576 := HLN.out (by omega)
  have S1 : Hid (Sl w1 a n 9 (msgF M)) := HS.out.1.below B1.out (Nat.le_refl _)
  go_wp2_with fail
  refine (toMsgS_any _ _ _ M _ hn S1.out).mono ?_
  rintro r w2 ⟨rfl, hE2, hg2, hb2⟩
  have HE2 : Hid (Elems w2 w1.heap.size 0 n 9 (msgF M)) := hE2
  have B2 : Hid (Below w.heap.size w w2) := B1.out.trans (hb2.mono B1.out.size)
  clear hE2 hb2
  go_wp2_with fail
  refine (specMsgsBytes_any _ _ _ M _ hn (Or.inr ⟨_, _, rfl, hg2, HE2.out⟩) HS.out.2).mono ?_
  rintro r w3 ⟨rfl, hb3⟩
  have B3 : Hid (Below w.heap.size w w3) := B2.out.trans (hb3.mono B2.out.size)
  clear hb3 HE2 hg2 S1
  go_wp2_with fail
  refine (toMsgS_any _ _ _ M _ hn (HS.out.1.below B3.out (Nat.le_refl _))).mono ?_
  rintro r w4 ⟨rfl, hE4, hg4, hb4⟩
  have HE4 : Hid (Elems w4 w3.heap.size 0 n 9 (msgF M)) := hE4
  have B4 : Hid (Below w.heap.size w w4) := B3.out.trans (hb4.mono B3.out.size)
  clear hE4 hb4
  go_wp2_with fail
  refine (msgsBytes_any _ _ _ M _ hn (Or.inr ⟨_, _, rfl, hg4, HE4.out⟩) HS.out.2).mono ?_
  rintro r w5 ⟨rfl, hb5⟩
  have HE5 : Hid (Elems w5 w3.heap.size 0 n 9 (msgF M)) := HE4.out.below hb5 hg4
  have hg5 : w3.heap.size < w5.heap.size := Nat.lt_of_lt_of_le hg4 hb5.size
  have B5 : Hid (Below w.heap.size w w5) := B4.out.trans (hb5.mono B4.out.size)
  clear hb5 HE4 hg4
  generalize msgsS M n = T
  generalize msgsOk M n = K
  go_wp2_with fail
  refine (toMsgS_any _ _ _ M _ hn (HS.out.1.below B5.out (Nat.le_refl _))).mono ?_
  rintro r w6 ⟨rfl, hE6, hg6, hb6⟩
  have HE6 : Hid (Elems w6 w5.heap.size 0 n 9 (msgF M) ∧ Elems w6 w3.heap.size 0 n 9 (msgF M)) := ⟨hE6, HE5.out.below hb6 hg5⟩
  have hg6' : w3.heap.size < w6.heap.size := Nat.lt_trans hg5 hg6
  have B6 : Hid (Below w.heap.size w w6) := B5.out.trans (hb6.mono B5.out.size)
  clear hE6 hb6 HE5
  go_wp2_with fail
  refine (eqMsgS_same _ _ _ _ _ M _ hn (Or.inr ⟨_, _, rfl, hg6', HE6.out.2⟩) (Or.inr ⟨_, _, rfl, hg6, HE6.out.1⟩)).mono ?_
  rintro r w7 ⟨rfl, hb7⟩
  have B7 : Hid (Below w.heap.size w w7) := B6.out.trans (hb7.mono B6.out.size)
  clear hb7
  go_wp2
  go_ret
  exact ⟨rfl, B7.out⟩

theorem own : ownKnob Try.prog.godebug = none := by kernel_rfl
theorem laidOut : laidOutB Try.prog = true := by kernel_rfl

set_option maxRecDepth 100000 in
theorem lifted (os : Os) (started : os.Started) (H : Type) (enc : TypeId × Value → H) :
    ReturnsInHanded {} Try.checked os 14 .any (Rows.fnExactMsgsBytesSpec.pre6 enc Try.prog Try.f14 Rows.fnExactMsgsBytesRow.domain false) (Rows.fnExactMsgsBytesSpec.post enc Try.prog Try.f14 false true false false) := by
  refine returnsInHanded_of_change (C := Try.checked) own started (by kernel_rfl) Try.func14
    (ChangeSpec.witness6 (enc := enc) (C := Try.checked) false ⟨#[], #[.slice none 0 0], []⟩ 8 (by kernel_rfl) (by kernel_rfl) (by kernel_rfl) (by kernel_rfl)) ?_
  intro W base args ds gs before hval0 hW hcnd _
  have hval : ∀ (j : Nat) t v, Try.f14.params[j]? = some t → args[j]? = some v → Value.okWide Try.prog W .any base t v := hval0
  have hW' := hW
  obtain ⟨p, q, hA0, hV, rfl, hfz, hnd⟩ := hW
  have hA : DataW.TrodAll enc Try.prog W 0 (fun _ => true) true Try.f14.params.toList args.toList ds p := hA0
  rw [Try.params14] at hA hval
  obtain ⟨v0, vs0, d0, ds0, p0, q0, hargs, rfl, rfl, h0, r0⟩ := trodAll_cons hA
  obtain ⟨rfl, rfl, rfl⟩ := trodAll_nil r0
  obtain rfl : args = #[v0] := by cases args; simp_all
  obtain ⟨rfl, rfl⟩ := trodVars_none hV
  have k0 := h0
  have lt0 : ∀ x ∈ p0, x.block < W.heap.size := by obtain ⟨m, hm⟩ := k0; exact DataW.trod_lt m _ _ _ hm
  obtain ⟨a0, len0, cap0, rfl⟩ := okWide_slice Try.underlying74 (hval 0 74 v0 rfl rfl)
  obtain ⟨n0, M0, s0, z0⟩ := open_msgs h0
  clear hA0 hval0
  refine (walk (w := W) a0 len0 cap0 M0 n0 s0 z0).mono fun e W' ⟨he, bel⟩ => ?_
  subst he
  exact ⟨_, rfl, _, _, _, [], _, [], hW', trodAll_mk1 (shut_bool Try.underlying4 _), (trodAll_cons_mk (Below.trod laidOut (by kernel_rfl) (of_decide_eq_true (by kernel_rfl)) k0 bel lt0) trodAll_mk0), rfl, bel.frame _, fun h => by cases h⟩

theorem over : Rows.fnExactMsgsBytesRow.holds Try.pinned (OpenSpec.ofChange Rows.fnExactMsgsBytesSpec) :=
  OpenClaim.holds_of_wide 14 Try.f14 rfl rfl rfl rfl rfl rfl rfl ⟨rfl, rfl, rfl, rfl, rfl⟩ rfl rfl rfl rfl rfl (by kernel_rfl) Try.func14 (by kernel_rfl)
    (of_decide_eq_true (by kernel_rfl)) (by unfold Func.isWrapper; first | (rw [if_pos (by decide +kernel)]; kernel_rfl) | (rw [if_neg (by decide +kernel)]; exact ⟨rfl, rfl⟩))
    (fun os started H enc _ => lifted os started H enc)

end Go.Proofs.Ytbklhmeaoigneaa.xMsgsBytes
namespace Go.Proofs.Ytbklhmeaoigneaa
theorem xMsgsBytes_holds : Rows.FnExactMsgsBytesSaid := xMsgsBytes.over
#print axioms xMsgsBytes_holds
end Go.Proofs.Ytbklhmeaoigneaa
