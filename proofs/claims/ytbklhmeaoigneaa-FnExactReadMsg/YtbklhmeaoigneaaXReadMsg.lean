/- At every text impl.ReadMsg answers as the specification does, and the argument reads behind the call as it read before. No condition. -/
import Derived.Test.YtbklhmeaoigneaaRdQ
import Derived.ProofKit
import Derived.OpenShut
import Derived.ShutString
import Derived.ChangeOld
import Derived.Below
import Derived.Lib.SmallJoins
namespace Go.Proofs.Ytbklhmeaoigneaa.xReadMsg
open Go.ChangeShapes Go.WideShapes Go.ChangeAt Go.RowKit
open Go.ChangeMaps (open_string shut_string)
set_option linter.unusedVariables false

set_option maxHeartbeats 1000000 in
theorem walk (s : ByteArray) (hm : s.size ≤ maxLen) (w : World) :
    Calls Try.prog 13 #[.string s] w fun r w' => r = .returned (.bool true) ∧ Below w.heap.size w w' := by
  have hm' := hm
  unfold maxLen at hm'
  by_cases hs : s.size ≤ 1048576
  case neg =>
    have hs' : (1048576 : Int) < (s.size : Int) := by omega
    clear hm
    go_enter Try.func13, Try.ntmps13
    go_wp2
    go_ret
    exact ⟨rfl, Below.refl _ _⟩
  case pos =>
  have hs' : ¬ (1048576 : Int) < (s.size : Int) := by omega
  obtain ⟨k0, k1, k2, k3, ks, kv, k6, k7, k8, hA⟩ := rAgg_form s
  have HA : Hid (rAgg s = #[.int .i64 k0, .int .i64 k1, .int .i64 k2, .int .i64 k3, .string ks, .string kv, .int .i64 k6, .int .i64 k7, .bool k8]) := hA
  clear hA hm
  go_enter Try.func13, Try.ntmps13
  go_wp2_with fail
  refine (specReadMsg_any s _ hs).mono ?_
  rintro r w2 ⟨rfl, hb2⟩
  rw [HA.out]
  generalize hE : mI s (rEnd s) = en
  have HE : Hid (mI s (rEnd s) = en) := hE
  have B2 : Hid (Below w.heap.size w w2) := hb2
  have hz2 : w.heap.size ≤ w2.heap.size := hb2.size
  clear hb2 hE
  go_wp2_with fail
  refine (readMsg_any s _ hs).mono ?_
  rintro r w3 ⟨rfl, hb3⟩
  rw [HA.out, HE.out]
  have m3 : Blk w3 w2.heap.size (.int .i64 k0) (.int .i64 k1) (.int .i64 k2) (.int .i64 k3) (.string ks) (.string kv) (.int .i64 k6) (.int .i64 k7) (.bool k8) := (Blk.new w2 _ _ _ _ _ _ _ _ _).below hb3 (by simp)
  have B3 : Hid (Below w.heap.size w w3) := (B2.out.alloc hz2 _).trans (hb3.mono (by simp; omega))
  have hl3 := m3.lt
  have hz3 : w.heap.size ≤ w3.heap.size := B3.out.size
  obtain ⟨c0, c1, c2, c3, c4, c5, c6, c7, c8⟩ := m3.cells
  clear hb3 m3
  go_wp2_with fail
  refine (eqMsg_same _ _ _ _ _ _ _ _ _ _).mono ?_
  rintro r w4 ⟨rfl, hb4⟩
  have B4 : Hid (Below w.heap.size w w4) := (B3.out.alloc hz3 _).trans (hb4.mono (by simp; omega))
  clear hb4 c0 c1 c2 c3 c4 c5 c6 c7 c8
  go_wp2
  go_ret
  exact ⟨rfl, B4.out⟩

theorem own : ownKnob Try.prog.godebug = none := by kernel_rfl
theorem laidOut : laidOutB Try.prog = true := by kernel_rfl

set_option maxRecDepth 100000 in
theorem lifted (os : Os) (started : os.Started) (H : Type) (enc : TypeId × Value → H) :
    ReturnsInHanded {} Try.checked os 13 .any (Rows.fnExactReadMsgSpec.pre6 enc Try.prog Try.f13 Rows.fnExactReadMsgRow.domain false) (Rows.fnExactReadMsgSpec.post enc Try.prog Try.f13 false true false false) := by
  refine returnsInHanded_of_change (C := Try.checked) own started (by kernel_rfl) Try.func13
    (ChangeSpec.witness6 (enc := enc) (C := Try.checked) false ⟨#[], #[.string ⟨#[]⟩], []⟩ 8 (by kernel_rfl) (by kernel_rfl) (by kernel_rfl) (by kernel_rfl)) ?_
  intro W base args ds gs before hval0 hW hcnd _
  have hval : ∀ (j : Nat) t v, Try.f13.params[j]? = some t → args[j]? = some v → Value.okWide Try.prog W .any base t v := hval0
  have hW' := hW
  obtain ⟨p, q, hA0, hV, rfl, hfz, hnd⟩ := hW
  have hA : DataW.TrodAll enc Try.prog W 0 (fun _ => true) true Try.f13.params.toList args.toList ds p := hA0
  rw [Try.params13] at hA hval
  obtain ⟨v0, vs0, d0, ds0, p0, q0, hargs, rfl, rfl, h0, r0⟩ := trodAll_cons hA
  obtain ⟨rfl, rfl, rfl⟩ := trodAll_nil r0
  obtain rfl : args = #[v0] := by cases args; simp_all
  obtain ⟨rfl, rfl⟩ := trodVars_none hV
  have k0 := h0
  have lt0 : ∀ x ∈ p0, x.block < W.heap.size := by obtain ⟨m, hm⟩ := k0; exact DataW.trod_lt m _ _ _ hm
  obtain ⟨a0, rfl, rfl, rfl, w0⟩ := open_string Try.underlying9 (hval 0 9 v0 rfl rfl) h0
  clear hA0 hval0
  refine (walk (w := W) a0 w0).mono fun e W' ⟨he, bel⟩ => ?_
  subst he
  exact ⟨_, rfl, _, _, _, [], _, [], hW', trodAll_mk1 (shut_bool Try.underlying4 _), (trodAll_cons_mk (Below.trod laidOut (by kernel_rfl) (of_decide_eq_true (by kernel_rfl)) k0 bel lt0) trodAll_mk0), rfl, bel.frame _, fun h => by cases h⟩

theorem over : Rows.fnExactReadMsgRow.holds Try.pinned (OpenSpec.ofChange Rows.fnExactReadMsgSpec) :=
  OpenClaim.holds_of_wide 13 Try.f13 rfl rfl rfl rfl rfl rfl rfl ⟨rfl, rfl, rfl, rfl, rfl⟩ rfl rfl rfl rfl rfl (by kernel_rfl) Try.func13 (by kernel_rfl)
    (of_decide_eq_true (by kernel_rfl)) (by unfold Func.isWrapper; first | (rw [if_pos (by decide +kernel)]; kernel_rfl) | (rw [if_neg (by decide +kernel)]; exact ⟨rfl, rfl⟩))
    (fun os started H enc _ => lifted os started H enc)

end Go.Proofs.Ytbklhmeaoigneaa.xReadMsg
namespace Go.Proofs.Ytbklhmeaoigneaa
theorem xReadMsg_holds : Rows.FnExactReadMsgSaid := xReadMsg.over
#print axioms xReadMsg_holds
end Go.Proofs.Ytbklhmeaoigneaa
