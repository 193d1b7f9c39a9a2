/- At every text impl.ReadMsgs answers as the specification does, its answer owns its memory, and the argument reads behind the call as it read before. No condition. -/
import Derived.Test.YtbklhmeaoigneaaRdS
import Derived.Test.YtbklhmeaoigneaaMsgK
import Derived.Test.YtbklhmeaoigneaaWords
import Derived.ProofKit
import Derived.OpenShut
import Derived.ShutString
import Derived.ChangeOld
import Derived.Below
import Derived.Lib.SmallJoins
namespace Go.Proofs.Ytbklhmeaoigneaa
open Go.RowKit
theorem below_next {b w w' : World} (h : Below b.heap.size b w) (hb : Below w.heap.size w w') : Below b.heap.size b w' := h.trans (hb.mono h.size)
end Go.Proofs.Ytbklhmeaoigneaa
namespace Go.Proofs.Ytbklhmeaoigneaa.xReadMsgs
open Go.ChangeShapes Go.WideShapes Go.ChangeAt Go.RowKit
open Go.ChangeMaps (open_string shut_string)
set_option linter.unusedVariables false

set_option maxRecDepth 100000 in
set_option maxHeartbeats 4000000 in
theorem walk (s : ByteArray) (hm : s.size ≤ maxLen) (w : World) :
    Calls Try.prog 15 #[.string s] w fun r w' => r = .returned (.bool true) ∧ Below w.heap.size w w' := by
  have hm' := hm
  unfold maxLen at hm'
  by_cases hs : s.size ≤ 1048576
  case neg =>
    have hs' : (1048576 : Int) < (s.size : Int) := by omega
    clear hm
    go_enter Try.func15, Try.ntmps15
    go_wp2
    go_ret
    exact ⟨rfl, Below.refl _ _⟩
  case pos =>
  have hs' : ¬ (1048576 : Int) < (s.size : Int) := by omega
  clear hm
  go_enter Try.func15, Try.ntmps15
  go_wp2_with fail
  refine (specReadMsgs_any s _ hs).mono ?_
  rintro r w1 ⟨⟨a1, cap1, rfl, hi⟩, hb⟩
  have HB1 : Hid (Below w.heap.size w w1) := below_next (Below.refl _ _) hb
  have sz1 : w.heap.size ≤ w1.heap.size := hb.size
  have S_1 : Hid (SRow w1 w.heap.size w1.heap.size a1 (rmN s) 9 (msgF (rmM s))) := hi
  clear hb hi
  go_wp2_with fail
  refine (readMsgs_any s _ hs).mono ?_
  rintro r w2 ⟨⟨a2, cap2, rfl, hi⟩, hb⟩
  have HB2 : Hid (Below w.heap.size w w2) := below_next HB1.out hb
  have sz2 : w1.heap.size ≤ w2.heap.size := hb.size
  have S_2 : Hid (SRow w2 w.heap.size w1.heap.size a1 (rmN s) 9 (msgF (rmM s))) := S_1.out.next hb
  have G_2 : Hid (SRow w2 w1.heap.size w2.heap.size a2 (rmN s) 9 (msgF (rmM s))) := hi
  clear hb hi S_1 HB1
  have hN : rmN s ≤ 1048576 := Nat.le_trans (rmN_le s) (by omega)
  go_wp2_with fail
  refine (eqMsgS_same _ _ _ _ _ (rmM s) _ hN G_2.out.sl S_2.out.sl).mono ?_
  rintro r w3 ⟨rfl, hb⟩
  have HB3 : Hid (Below w.heap.size w w3) := below_next HB2.out hb
  have sz3 : w2.heap.size ≤ w3.heap.size := hb.size
  have S_3 : Hid (SRow w3 w.heap.size w1.heap.size a1 (rmN s) 9 (msgF (rmM s))) := S_2.out.next hb
  have G_3 : Hid (SRow w3 w1.heap.size w2.heap.size a2 (rmN s) 9 (msgF (rmM s))) := G_2.out.next hb
  clear hb S_2 G_2 HB2
  go_wp2_with fail
  refine (markMsgS_any _ _ _ (rmM s) 1 _ _ _ hN (by omega) (by omega) G_3.out).mono ?_
  rintro r w4 ⟨rfl, hi, ht⟩
  have HB4 : Hid (Below w.heap.size w w4) := below_trn HB3.out ht (by omega)
  have sz4 : w3.heap.size ≤ w4.heap.size := ht.2.2.2.1
  have S_4 : Hid (SRow w4 w.heap.size w1.heap.size a1 (rmN s) 9 (msgF (rmM s))) := S_3.out.trn ht (by omega)
  have G_4 : Hid (SRow w4 w1.heap.size w2.heap.size a2 (rmN s) 9 (msgF (mkM 1))) := hi
  clear ht hi S_3 G_3 HB3
  go_wp2_with fail
  refine (heldMsgS_any _ _ _ 1 _ hN (by omega) (by omega) G_4.out.sl).mono ?_
  rintro r w5 ⟨rfl, hb⟩
  have HB5 : Hid (Below w.heap.size w w5) := below_next HB4.out hb
  have sz5 : w4.heap.size ≤ w5.heap.size := hb.size
  have S_5 : Hid (SRow w5 w.heap.size w1.heap.size a1 (rmN s) 9 (msgF (rmM s))) := S_4.out.next hb
  have G_5 : Hid (SRow w5 w1.heap.size w2.heap.size a2 (rmN s) 9 (msgF (mkM 1))) := G_4.out.next hb
  clear hb S_4 G_4 HB4
  go_wp2_with fail
  refine (readMsgs_any s _ hs).mono ?_
  rintro r w6 ⟨⟨a9, cap9, rfl, hi⟩, hb⟩
  have HB6 : Hid (Below w.heap.size w w6) := below_next HB5.out hb
  have sz6 : w5.heap.size ≤ w6.heap.size := hb.size
  have S_6 : Hid (SRow w6 w.heap.size w1.heap.size a1 (rmN s) 9 (msgF (rmM s))) := S_5.out.next hb
  have G_6 : Hid (SRow w6 w1.heap.size w2.heap.size a2 (rmN s) 9 (msgF (mkM 1))) := G_5.out.next hb
  have H_6 : Hid (SRow w6 w5.heap.size w6.heap.size a9 (rmN s) 9 (msgF (rmM s))) := hi
  clear hb hi S_5 G_5 HB5
  go_wp2_with fail
  refine (eqMsgS_same _ _ _ _ _ (rmM s) _ hN H_6.out.sl S_6.out.sl).mono ?_
  rintro r w7 ⟨rfl, hb⟩
  have HB7 : Hid (Below w.heap.size w w7) := below_next HB6.out hb
  have sz7 : w6.heap.size ≤ w7.heap.size := hb.size
  have S_7 : Hid (SRow w7 w.heap.size w1.heap.size a1 (rmN s) 9 (msgF (rmM s))) := S_6.out.next hb
  have G_7 : Hid (SRow w7 w1.heap.size w2.heap.size a2 (rmN s) 9 (msgF (mkM 1))) := G_6.out.next hb
  have H_7 : Hid (SRow w7 w5.heap.size w6.heap.size a9 (rmN s) 9 (msgF (rmM s))) := H_6.out.next hb
  clear hb S_6 G_6 H_6 HB6
  go_wp2_with fail
  refine (heldMsgS_any _ _ _ 1 _ hN (by omega) (by omega) G_7.out.sl).mono ?_
  rintro r w8 ⟨rfl, hb⟩
  have HB8 : Hid (Below w.heap.size w w8) := below_next HB7.out hb
  have sz8 : w7.heap.size ≤ w8.heap.size := hb.size
  have S_8 : Hid (SRow w8 w.heap.size w1.heap.size a1 (rmN s) 9 (msgF (rmM s))) := S_7.out.next hb
  have G_8 : Hid (SRow w8 w1.heap.size w2.heap.size a2 (rmN s) 9 (msgF (mkM 1))) := G_7.out.next hb
  have H_8 : Hid (SRow w8 w5.heap.size w6.heap.size a9 (rmN s) 9 (msgF (rmM s))) := H_7.out.next hb
  clear hb S_7 G_7 H_7 HB7
  have HE := HB8
  go_wp2
  go_ret
  exact ⟨rfl, HE.out⟩


theorem own : ownKnob Try.prog.godebug = none := by kernel_rfl
theorem laidOut : laidOutB Try.prog = true := by kernel_rfl

set_option maxRecDepth 100000 in
theorem lifted (os : Os) (started : os.Started) (H : Type) (enc : TypeId × Value → H) :
    ReturnsInHanded {} Try.checked os 15 .any (Rows.fnExactReadMsgsSpec.pre6 enc Try.prog Try.f15 Rows.fnExactReadMsgsRow.domain false) (Rows.fnExactReadMsgsSpec.post enc Try.prog Try.f15 false true false false) := by
  refine returnsInHanded_of_change (C := Try.checked) own started (by kernel_rfl) Try.func15
    (ChangeSpec.witness6 (enc := enc) (C := Try.checked) false ⟨#[], #[.string ⟨#[]⟩], []⟩ 8 (by kernel_rfl) (by kernel_rfl) (by kernel_rfl) (by kernel_rfl)) ?_
  intro W base args ds gs before hval0 hW hcnd _
  have hval : ∀ (j : Nat) t v, Try.f15.params[j]? = some t → args[j]? = some v → Value.okWide Try.prog W .any base t v := hval0
  have hW' := hW
  obtain ⟨p, q, hA0, hV, rfl, hfz, hnd⟩ := hW
  have hA : DataW.TrodAll enc Try.prog W 0 (fun _ => true) true Try.f15.params.toList args.toList ds p := hA0
  rw [Try.params15] at hA hval
  obtain ⟨v0, vs0, d0, ds0, p0, q0, hargs, rfl, rfl, h0, r0⟩ := trodAll_cons hA
  obtain ⟨rfl, rfl, rfl⟩ := trodAll_nil r0
  obtain rfl : args = #[v0] := by cases args; simp_all
  obtain ⟨rfl, rfl⟩ := trodVars_none hV
  have k0 := h0
  have lt0 : ∀ x ∈ p0, x.block < W.heap.size := by obtain ⟨m, hm⟩ := k0; exact DataW.trod_lt m _ _ _ hm
  obtain ⟨a0, rfl, rfl, rfl, w0⟩ := open_string Try.underlying9 (hval 0 9 v0 rfl rfl) h0
  clear hA0 hval0
  refine (walk (w := W) a0 w0).mono fun e W' ⟨he, bel⟩ => ?_
  subst he
  exact ⟨_, rfl, _, _, _, [], _, [], hW', trodAll_mk1 (shut_bool Try.underlying4 _), (trodAll_cons_mk (Below.trod laidOut (by kernel_rfl) (of_decide_eq_true (by kernel_rfl)) k0 bel lt0) trodAll_mk0), rfl, bel.frame _, fun h => by cases h⟩

set_option maxHeartbeats 40000000 in
theorem closed : joinedFacts Try.pinned.checked.prog 15 Try.f15 Rows.fnExactReadMsgsSpec Rows.fnExactReadMsgsRow = true := by
  unfold joinedFacts
  repeat' (first | (with_reducible refine both ?_ ?_) | (with_reducible exact may_enter') | (with_reducible refine lifts_eq ?_) | (with_reducible refine make_eq ?_) | as_aux_lemma => kernel_rfl)
theorem named : Try.pinned.checked.prog.funcNamed Rows.fnExactReadMsgsRow.func = some 15 := by kernel_rfl
theorem over : Rows.fnExactReadMsgsRow.holds Try.pinned (OpenSpec.ofChange Rows.fnExactReadMsgsSpec) :=
  OpenClaim.holds_of_wide 15 Try.f15 rfl rfl rfl rfl rfl rfl rfl ⟨rfl, rfl, rfl, rfl, rfl⟩ rfl rfl rfl rfl rfl named Try.func15 closed
    (of_decide_eq_true (by as_aux_lemma => kernel_rfl)) (by unfold Func.isWrapper; first | (rw [if_pos (by decide +kernel)]; kernel_rfl) | (rw [if_neg (by decide +kernel)]; exact ⟨rfl, rfl⟩))
    (fun os started H enc _ => lifted os started H enc)

end Go.Proofs.Ytbklhmeaoigneaa.xReadMsgs
namespace Go.Proofs.Ytbklhmeaoigneaa
theorem xReadMsgs_holds : Rows.FnExactReadMsgsSaid := xReadMsgs.over
#print axioms xReadMsgs_holds
end Go.Proofs.Ytbklhmeaoigneaa
