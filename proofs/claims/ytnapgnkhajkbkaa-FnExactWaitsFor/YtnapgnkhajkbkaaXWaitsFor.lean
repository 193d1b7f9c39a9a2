/- At every list of locks impl.WaitsFor answers as the specification does, writes into no argument, its answer owns its memory, and each argument reads behind the call as it read before. No condition. -/
import Derived.Test.YtnapgnkhajkbkaaWfI
import Derived.Test.YtnapgnkhajkbkaaLkM
import Derived.Test.YtnapgnkhajkbkaaOpenLk
import Derived.Test.YtnapgnkhajkbkaaWords
import Derived.ProofKit
import Derived.OpenShut
import Derived.ShutString
import Derived.ChangeOld
import Derived.Below
import Derived.Lib.SmallJoins
namespace Go.Proofs.Ytnapgnkhajkbkaa.xWaitsFor
open Go.ChangeShapes Go.WideShapes Go.ChangeAt Go.RowKit
open Go.ChangeMaps (open_string shut_string)
set_option linter.unusedVariables false

set_option maxRecDepth 100000 in
set_option maxHeartbeats 4000000 in
theorem walk (a : Option Addr) (n cap : Nat) (V : Nat → LkV) (A : Nat → LkA) (w : World) (hm : n ≤ maxLen) (hs : LkS w a n V A) (hS : ∀ i, i < n → LkLen (V i)) :
    Calls Try.prog 8 #[.slice a n cap] w fun r w' => r = .returned (.bool true) ∧ Below w.heap.size w w' := by
  have HS : Hid (LkS w a n V A ∧ (∀ i, i < n → LkLen (V i))) := ⟨hs, hS⟩
  clear hs hS
  go_enter Try.func8, Try.ntmps8
  go_wp2_with fail
  refine (szLockS_any _ _ _ V A _ hm HS.out.1 HS.out.2).mono ?_
  rintro r w1 ⟨l, rfl, hl, hb⟩
  have HB1 : Hid (Below w.heap.size w w1) := hb
  have sz1 : w.heap.size ≤ w1.heap.size := hb.size
  clear hb
  by_cases hneg : l < 0
  · go_wp2
    go_ret
    exact ⟨rfl, HB1.out⟩
  obtain ⟨hn, hz0⟩ := hl (by omega)
  have HZ : Hid (∀ i, i < n → LkOk (V i)) := hz0
  clear hl hz0
  go_wp2_with fail
  refine (toLockS_own _ _ _ V A _ hn HZ.out (HS.out.1.next HB1.out)).mono ?_
  rintro r w2 ⟨Aw1, rfl, hi, hb⟩
  have HB2 : Hid (Below w.heap.size w w2) := below_next HB1.out hb
  have sz2 : w1.heap.size ≤ w2.heap.size := hb.size
  have A_2 : Hid (LkO w2 w1.heap.size w2.heap.size w1.heap.size n V Aw1) := hi
  clear hb hi HB1
  go_wp2_with fail
  refine (specWaitsFor_any _ _ _ V _ _ hn HZ.out A_2.out.lks).mono ?_
  rintro r w3 ⟨L, hso, hme, hN, ⟨a2, cap2, rfl, hi⟩, hb⟩
  have HSO : Hid (SortP L ∧ ∀ z, z ∈ L ↔ (goodL V n = true ∧ inW V n z)) := ⟨hso, hme⟩
  clear hso hme
  have HB3 : Hid (Below w.heap.size w w3) := below_next HB2.out hb
  have sz3 : w2.heap.size ≤ w3.heap.size := hb.size
  have A_3 : Hid (LkO w3 w1.heap.size w2.heap.size w1.heap.size n V Aw1) := A_2.out.next hb
  have S_3 : Hid (PRow w3 w2.heap.size w3.heap.size a2 L.length (pP L) (pQ L)) := hi
  clear hb hi A_2 HB2
  clear A_3
  go_wp2_with fail
  refine (toLockS_own _ _ _ V A _ hn HZ.out (HS.out.1.next HB3.out)).mono ?_
  rintro r w4 ⟨Aw3, rfl, hi, hb⟩
  have HB4 : Hid (Below w.heap.size w w4) := below_next HB3.out hb
  have sz4 : w3.heap.size ≤ w4.heap.size := hb.size
  have S_4 : Hid (PRow w4 w2.heap.size w3.heap.size a2 L.length (pP L) (pQ L)) := S_3.out.next hb
  have X_4 : Hid (LkO w4 w3.heap.size w4.heap.size w3.heap.size n V Aw3) := hi
  clear hb hi S_3 HB3
  have szx : w3.heap.size < w4.heap.size := by have := X_4.out.1.1.2.2.2; exact this
  go_wp2_with fail
  refine (waitsFor_any _ _ _ V _ _ hn HZ.out X_4.out.lks).mono ?_
  rintro r w5 ⟨L2, hso, hme, _, ⟨a4, cap4, rfl, hi⟩, hb⟩
  have eL : L = L2 := sortP_ext HSO.out.1 hso (fun z => (HSO.out.2 z).trans (hme z).symm)
  subst eL
  clear hso hme
  have HB5 : Hid (Below w.heap.size w w5) := below_next HB4.out hb
  have sz5 : w4.heap.size ≤ w5.heap.size := hb.size
  have S_5 : Hid (PRow w5 w2.heap.size w3.heap.size a2 L.length (pP L) (pQ L)) := S_4.out.next hb
  have X_5 : Hid (LkO w5 w3.heap.size w4.heap.size w3.heap.size n V Aw3) := X_4.out.next hb
  have G_5 : Hid (PRow w5 w4.heap.size w5.heap.size a4 L.length (pP L) (pQ L)) := hi
  clear hb hi S_4 X_4 HB4
  go_wp2_with fail
  refine (eqPairS_same _ _ _ _ _ (pP L) (pQ L) _ hN G_5.out.sl S_5.out.sl).mono ?_
  rintro r w6 ⟨rfl, hb⟩
  have HB6 : Hid (Below w.heap.size w w6) := below_next HB5.out hb
  have sz6 : w5.heap.size ≤ w6.heap.size := hb.size
  have S_6 : Hid (PRow w6 w2.heap.size w3.heap.size a2 L.length (pP L) (pQ L)) := S_5.out.next hb
  have X_6 : Hid (LkO w6 w3.heap.size w4.heap.size w3.heap.size n V Aw3) := X_5.out.next hb
  have G_6 : Hid (PRow w6 w4.heap.size w5.heap.size a4 L.length (pP L) (pQ L)) := G_5.out.next hb
  clear hb S_5 X_5 G_5 HB5
  go_wp2_with fail
  refine (toLockS_own _ _ _ V A _ hn HZ.out (HS.out.1.next HB6.out)).mono ?_
  rintro r w7 ⟨Aw6, rfl, hi, hb⟩
  have HB7 : Hid (Below w.heap.size w w7) := below_next HB6.out hb
  have sz7 : w6.heap.size ≤ w7.heap.size := hb.size
  have S_7 : Hid (PRow w7 w2.heap.size w3.heap.size a2 L.length (pP L) (pQ L)) := S_6.out.next hb
  have X_7 : Hid (LkO w7 w3.heap.size w4.heap.size w3.heap.size n V Aw3) := X_6.out.next hb
  have G_7 : Hid (PRow w7 w4.heap.size w5.heap.size a4 L.length (pP L) (pQ L)) := G_6.out.next hb
  have A_7 : Hid (LkO w7 w6.heap.size w7.heap.size w6.heap.size n V Aw6) := hi
  clear hb hi S_6 X_6 G_6 HB6
  go_wp2_with fail
  refine (eqLockS_same _ _ _ _ _ V _ _ _ hn HZ.out X_7.out.lks A_7.out.lks).mono ?_
  rintro r w8 ⟨rfl, hb⟩
  have HB8 : Hid (Below w.heap.size w w8) := below_next HB7.out hb
  have sz8 : w7.heap.size ≤ w8.heap.size := hb.size
  have S_8 : Hid (PRow w8 w2.heap.size w3.heap.size a2 L.length (pP L) (pQ L)) := S_7.out.next hb
  have X_8 : Hid (LkO w8 w3.heap.size w4.heap.size w3.heap.size n V Aw3) := X_7.out.next hb
  have G_8 : Hid (PRow w8 w4.heap.size w5.heap.size a4 L.length (pP L) (pQ L)) := G_7.out.next hb
  have A_8 : Hid (LkO w8 w6.heap.size w7.heap.size w6.heap.size n V Aw6) := A_7.out.next hb
  clear hb S_7 X_7 G_7 A_7 HB7
  clear A_8
  go_wp2_with fail
  refine (markLockS_any _ _ _ _ V _ _ hn HZ.out X_8.out.toW).mono ?_
  rintro r w9 ⟨⟨xk, rfl, hxk, hxk2⟩, ht⟩
  have HB9 : Hid (Below w.heap.size w w9) := below_turn HB8.out (show Turned _ _ _ _ from ht) (by omega)
  have sz9 : w8.heap.size ≤ w9.heap.size := ht.2.2.2.1
  have S_9 : Hid (PRow w9 w2.heap.size w3.heap.size a2 L.length (pP L) (pQ L)) := S_8.out.turn (show Turned _ _ _ _ from ht) (by omega)
  have G_9 : Hid (PRow w9 w4.heap.size w5.heap.size a4 L.length (pP L) (pQ L)) := G_8.out.turn (show Turned _ _ _ _ from ht) (by omega)
  clear ht S_8 G_8 X_8 HB8
  have hxk' : ¬ xk < 0 := by omega
  go_wp2_with fail
  refine (eqPairS_same _ _ _ _ _ (pP L) (pQ L) _ hN G_9.out.sl S_9.out.sl).mono ?_
  rintro r w10 ⟨rfl, hb⟩
  have HB10 : Hid (Below w.heap.size w w10) := below_next HB9.out hb
  have sz10 : w9.heap.size ≤ w10.heap.size := hb.size
  have S_10 : Hid (PRow w10 w2.heap.size w3.heap.size a2 L.length (pP L) (pQ L)) := S_9.out.next hb
  have G_10 : Hid (PRow w10 w4.heap.size w5.heap.size a4 L.length (pP L) (pQ L)) := G_9.out.next hb
  clear hb S_9 G_9 HB9
  go_wp2_with fail
  refine (markPairS_any _ _ _ (pP L) (pQ L) 1 w4.heap.size w5.heap.size _ hN (by omega) (by omega) G_10.out).mono ?_
  rintro r w11 ⟨rfl, hi, ht⟩
  have HB11 : Hid (Below w.heap.size w w11) := below_turn HB10.out ht (by omega)
  have sz11 : w10.heap.size ≤ w11.heap.size := ht.2.2.2.1
  have S_11 : Hid (PRow w11 w2.heap.size w3.heap.size a2 L.length (pP L) (pQ L)) := S_10.out.turn ht (by omega)
  have G_11 : Hid (PRow w11 w4.heap.size w5.heap.size a4 L.length (mkP 1) (mkQ 1)) := hi
  clear ht hi S_10 G_10 HB10
  go_wp2_with fail
  refine (heldPairS_any _ _ _ 1 _ hN (by omega) (by omega) G_11.out.sl).mono ?_
  rintro r w' ⟨rfl, hw⟩
  have hw := hw.symm
  subst hw
  go_wp2_with fail
  refine (toLockS_own _ _ _ V A _ hn HZ.out (HS.out.1.next HB11.out)).mono ?_
  rintro r w12 ⟨Aw11, rfl, hi, hb⟩
  have HB12 : Hid (Below w.heap.size w w12) := below_next HB11.out hb
  have sz12 : w11.heap.size ≤ w12.heap.size := hb.size
  have S_12 : Hid (PRow w12 w2.heap.size w3.heap.size a2 L.length (pP L) (pQ L)) := S_11.out.next hb
  have G_12 : Hid (PRow w12 w4.heap.size w5.heap.size a4 L.length (mkP 1) (mkQ 1)) := G_11.out.next hb
  have A_12 : Hid (LkO w12 w11.heap.size w12.heap.size w11.heap.size n V Aw11) := hi
  clear hb hi S_11 G_11 HB11
  go_wp2_with fail
  refine (waitsFor_any _ _ _ V _ _ hn HZ.out A_12.out.lks).mono ?_
  rintro r w13 ⟨L2, hso, hme, _, ⟨a9, cap9, rfl, hi⟩, hb⟩
  have eL : L = L2 := sortP_ext HSO.out.1 hso (fun z => (HSO.out.2 z).trans (hme z).symm)
  subst eL
  clear hso hme
  have HB13 : Hid (Below w.heap.size w w13) := below_next HB12.out hb
  have sz13 : w12.heap.size ≤ w13.heap.size := hb.size
  have S_13 : Hid (PRow w13 w2.heap.size w3.heap.size a2 L.length (pP L) (pQ L)) := S_12.out.next hb
  have G_13 : Hid (PRow w13 w4.heap.size w5.heap.size a4 L.length (mkP 1) (mkQ 1)) := G_12.out.next hb
  have A_13 : Hid (LkO w13 w11.heap.size w12.heap.size w11.heap.size n V Aw11) := A_12.out.next hb
  have H_13 : Hid (PRow w13 w12.heap.size w13.heap.size a9 L.length (pP L) (pQ L)) := hi
  clear hb hi S_12 G_12 A_12 HB12
  clear A_13
  go_wp2_with fail
  refine (eqPairS_same _ _ _ _ _ (pP L) (pQ L) _ hN H_13.out.sl S_13.out.sl).mono ?_
  rintro r w14 ⟨rfl, hb⟩
  have HB14 : Hid (Below w.heap.size w w14) := below_next HB13.out hb
  have sz14 : w13.heap.size ≤ w14.heap.size := hb.size
  have S_14 : Hid (PRow w14 w2.heap.size w3.heap.size a2 L.length (pP L) (pQ L)) := S_13.out.next hb
  have G_14 : Hid (PRow w14 w4.heap.size w5.heap.size a4 L.length (mkP 1) (mkQ 1)) := G_13.out.next hb
  have H_14 : Hid (PRow w14 w12.heap.size w13.heap.size a9 L.length (pP L) (pQ L)) := H_13.out.next hb
  clear hb S_13 G_13 H_13 HB13
  go_wp2_with fail
  refine (heldPairS_any _ _ _ 1 _ hN (by omega) (by omega) G_14.out.sl).mono ?_
  rintro r w' ⟨rfl, hw⟩
  have hw := hw.symm
  subst hw
  have HE := HB14
  go_wp2
  go_ret
  exact ⟨rfl, HE.out⟩


theorem own : ownKnob Try.prog.godebug = none := by kernel_rfl
theorem laidOut : laidOutB Try.prog = true := by kernel_rfl

set_option maxRecDepth 100000 in
theorem lifted (os : Os) (started : os.Started) (H : Type) (enc : TypeId × Value → H) :
    ReturnsInHanded {} Try.checked os 8 .any (Rows.fnExactWaitsForSpec.pre6 enc Try.prog Try.f8 Rows.fnExactWaitsForRow.domain false) (Rows.fnExactWaitsForSpec.post enc Try.prog Try.f8 false true false false) := by
  refine returnsInHanded_of_change (C := Try.checked) own started (by kernel_rfl) Try.func8
    (ChangeSpec.witness6 (enc := enc) (C := Try.checked) false ⟨#[], #[.slice none 0 0], []⟩ 8 (by kernel_rfl) (by kernel_rfl) (by kernel_rfl) (by kernel_rfl)) ?_
  intro W base args ds gs before hval0 hW hcnd _
  have hval : ∀ (j : Nat) t v, Try.f8.params[j]? = some t → args[j]? = some v → Value.okWide Try.prog W .any base t v := hval0
  have hW' := hW
  obtain ⟨p, q, hA0, hV, rfl, hfz, hnd⟩ := hW
  have hA : DataW.TrodAll enc Try.prog W 0 (fun _ => true) true Try.f8.params.toList args.toList ds p := hA0
  rw [Try.params8] at hA hval
  obtain ⟨v0, vs0, d0, ds0, p0, q0, hargs, rfl, rfl, h0, r0⟩ := trodAll_cons hA
  obtain ⟨rfl, rfl, rfl⟩ := trodAll_nil r0
  obtain rfl : args = #[v0] := by cases args; simp_all
  obtain ⟨rfl, rfl⟩ := trodVars_none hV
  have k0 := h0
  have lt0 : ∀ x ∈ p0, x.block < W.heap.size := by obtain ⟨m, hm⟩ := k0; exact DataW.trod_lt m _ _ _ hm
  obtain ⟨a0, len0, cap0, rfl⟩ := okWide_slice Try.underlying52 (hval 0 52 v0 rfl rfl)
  obtain ⟨n0, V0, A0, s0, b0⟩ := open_locks h0
  clear hA0 hval0
  refine (walk (w := W) a0 len0 cap0 V0 A0 n0 s0 b0).mono fun e W' ⟨he, bel⟩ => ?_
  subst he
  exact ⟨_, rfl, _, _, _, [], _, [], hW', trodAll_mk1 (shut_bool Try.underlying4 _), (trodAll_cons_mk (Below.trod laidOut (by kernel_rfl) (of_decide_eq_true (by kernel_rfl)) k0 bel lt0) trodAll_mk0), rfl, bel.frame _, fun h => by cases h⟩

set_option maxHeartbeats 40000000 in
theorem closed : joinedFacts Try.pinned.checked.prog 8 Try.f8 Rows.fnExactWaitsForSpec Rows.fnExactWaitsForRow = true := by
  unfold joinedFacts
  repeat' (first | (with_reducible refine both ?_ ?_) | (with_reducible exact may_enter') | (with_reducible refine lifts_eq ?_) | (with_reducible refine make_eq ?_) | as_aux_lemma => kernel_rfl)
theorem named : Try.pinned.checked.prog.funcNamed Rows.fnExactWaitsForRow.func = some 8 := by kernel_rfl
theorem over : Rows.fnExactWaitsForRow.holds Try.pinned (OpenSpec.ofChange Rows.fnExactWaitsForSpec) :=
  OpenClaim.holds_of_wide 8 Try.f8 rfl rfl rfl rfl rfl rfl rfl ⟨rfl, rfl, rfl, rfl, rfl⟩ rfl rfl rfl rfl rfl named Try.func8 closed
    (of_decide_eq_true (by as_aux_lemma => kernel_rfl)) (by unfold Func.isWrapper; first | (rw [if_pos (by decide +kernel)]; kernel_rfl) | (rw [if_neg (by decide +kernel)]; exact ⟨rfl, rfl⟩))
    (fun os started H enc _ => lifted os started H enc)

end Go.Proofs.Ytnapgnkhajkbkaa.xWaitsFor
namespace Go.Proofs.Ytnapgnkhajkbkaa
theorem xWaitsFor_holds : Rows.FnExactWaitsForSaid := xWaitsFor.over
#print axioms xWaitsFor_holds
end Go.Proofs.Ytnapgnkhajkbkaa

