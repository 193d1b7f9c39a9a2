/- At every store and key impl.LookUp answers as the specification does, writes into no argument, and each argument reads behind the call as it read before. No condition. -/
import Derived.Test.YtenfaofhoheleaaLu
import Derived.Test.YtenfaofhoheleaaWords
import Derived.ProofKit
import Derived.OpenShut
import Derived.ShutString
import Derived.ChangeOld
import Derived.Below
import Derived.Lib.SmallJoins
namespace Go.Proofs.Ytenfaofhoheleaa.xLookUp
open Go.ChangeShapes Go.WideShapes Go.ChangeAt Go.RowKit
open Go.ChangeMaps (open_string shut_string)
set_option linter.unusedVariables false

set_option maxRecDepth 100000 in
set_option maxHeartbeats 4000000 in
theorem walk (A : StA) (V : StV) (w : World) (hz : StLen V) (hs : StAt w A V) (key : ByteArray) (hk : key.size ≤ maxLen) :
    Calls Try.prog 4 #[.agg #[.int .i64 V.ep, .slice A.ra V.rn A.rc, .slice A.ta V.tn A.tc, .slice A.oa V.on A.oc], .string key] w fun r w' => r = .returned (.bool true) ∧ Below w.heap.size w w' := by
  have HS : Hid (StAt w A V ∧ StLen V) := ⟨hs, hz⟩
  clear hs hz
  unfold maxLen at hk
  have H0 : Hid (Bx (w.alloc (.cells #[.int .i64 V.ep, .slice A.ra V.rn A.rc, .slice A.ta V.tn A.tc, .slice A.oa V.on A.oc] 26)) w.heap.size [.int .i64 V.ep, .slice A.ra V.rn A.rc, .slice A.ta V.tn A.tc, .slice A.oa V.on A.oc] ∧ Below w.heap.size w (w.alloc (.cells #[.int .i64 V.ep, .slice A.ra V.rn A.rc, .slice A.ta V.tn A.tc, .slice A.oa V.on A.oc] 26))) := ⟨Bx.new w [.int .i64 V.ep, .slice A.ra V.rn A.rc, .slice A.ta V.tn A.tc, .slice A.oa V.on A.oc] _, Go.Joins.below_alloc1 _ _⟩
  by_cases hkb : (1048576 : Int) < (key.size : Int)
  · go_enter Try.func4, Try.ntmps4
    go_wp2
    go_ret
    exact ⟨rfl, H0.out.2⟩
  go_enter Try.func4, Try.ntmps4
  go_wp2_with fail
  refine (szStore_any A V _ _ HS.out.2 (HS.out.1.next H0.out.2) (by omega) (by omega)).mono ?_
  rintro r w1 ⟨l, rfl, hl1, hl2, hb⟩
  obtain ⟨t, ht⟩ : ∃ t, t = w.heap.size := ⟨_, rfl⟩
  have H1 : Hid (Bx w1 t [.int .i64 V.ep, .slice A.ra V.rn A.rc, .slice A.ta V.tn A.tc, .slice A.oa V.on A.oc] ∧ Below w.heap.size w w1) := ⟨by rw [ht]; exact H0.out.1.next hb, below_next' H0.out.2 hb⟩
  clear hb H0
  have htw : w.heap.size = t := ht.symm
  rw [← ht]
  clear ht
  by_cases hneg : l < 0
  · go_wp2
    go_ret
    exact ⟨rfl, H1.out.2⟩
  have HK : Hid (StOk V) := hl2 (by omega)
  clear hl2
  have c0 := H1.out.1.cell 0 rfl
  have c1 := H1.out.1.cell 1 rfl
  have c2 := H1.out.1.cell 2 rfl
  have c3 := H1.out.1.cell 3 rfl
  have z0 := H1.out.1.2
  go_wp2_with fail
  refine (toStore_any A V _ HK.out (HS.out.1.next H1.out.2)).mono ?_
  rintro r w2 ⟨A2, rfl, hi, hb⟩
  have H2 : Hid (Bx w2 t [.int .i64 V.ep, .slice A.ra V.rn A.rc, .slice A.ta V.tn A.tc, .slice A.oa V.on A.oc] ∧ StAt w2 A2 V ∧ Below w.heap.size w w2) := ⟨H1.out.1.next hb, hi.at, below_next' H1.out.2 hb⟩
  clear hb hi H1 c0 c1 c2 c3 z0
  go_wp2_with fail
  refine (specLookUp_any A2 V key _ HS.out.2 HK.out H2.out.2.1).mono ?_
  rintro r w3' ⟨o, f, rfl, hP, hb⟩
  obtain ⟨w3, hw3⟩ : ∃ w3, w3 = w3'.alloc (.cells #[.string o.f0, .string o.f1, .int .i64 o.f2, .int .i64 o.f3, .bool o.f4, .int .i64 o.f5] 39) := ⟨_, rfl⟩
  obtain ⟨s, hs⟩ : ∃ s, s = w3'.heap.size := ⟨_, rfl⟩
  have H3 : Hid (Bx w3 t [.int .i64 V.ep, .slice A.ra V.rn A.rc, .slice A.ta V.tn A.tc, .slice A.oa V.on A.oc] ∧ Bx w3 s [.string o.f0, .string o.f1, .int .i64 o.f2, .int .i64 o.f3, .bool o.f4, .int .i64 o.f5] ∧ Below w.heap.size w w3 ∧ LkP V key o f) := by
    rw [hw3, hs]
    exact ⟨(H2.out.1.next hb).alloc _, Bx.new w3' [.string o.f0, .string o.f1, .int .i64 o.f2, .int .i64 o.f3, .bool o.f4, .int .i64 o.f5] _, below_next' (below_next' H2.out.2.2 hb) (Go.Joins.below_alloc1 _ _), hP⟩
  clear hb H2 hP
  have c0 := H3.out.1.cell 0 rfl
  have c1 := H3.out.1.cell 1 rfl
  have c2 := H3.out.1.cell 2 rfl
  have c3 := H3.out.1.cell 3 rfl
  have z0 := H3.out.1.2
  rw [hw3] at c0 c1 c2 c3 z0
  go_wp2_with fail
  rw [← hw3, ← hs]
  clear c0 c1 c2 c3 z0 hw3 hs
  refine (toStore_any A V _ HK.out (HS.out.1.next H3.out.2.2.1)).mono ?_
  rintro r w4 ⟨A4, rfl, hi, hb⟩
  obtain ⟨w5, hw5⟩ : ∃ w5, w5 = w4.alloc (.cells #[.int .i64 V.ep, .slice A4.ra V.rn A4.rc, .slice A4.ta V.tn A4.tc, .slice A4.oa V.on A4.oc] 32) := ⟨_, rfl⟩
  obtain ⟨u, hu⟩ : ∃ u, u = w4.heap.size := ⟨_, rfl⟩
  have H5 : Hid (Bx w5 t [.int .i64 V.ep, .slice A.ra V.rn A.rc, .slice A.ta V.tn A.tc, .slice A.oa V.on A.oc] ∧ Bx w5 s [.string o.f0, .string o.f1, .int .i64 o.f2, .int .i64 o.f3, .bool o.f4, .int .i64 o.f5] ∧ Bx w5 u [.int .i64 V.ep, .slice A4.ra V.rn A4.rc, .slice A4.ta V.tn A4.tc, .slice A4.oa V.on A4.oc] ∧ StAt w5 A4 V ∧ Below w.heap.size w w5 ∧ LkP V key o f) := by
    rw [hw5, hu]
    exact ⟨(H3.out.1.next hb).alloc _, (H3.out.2.1.next hb).alloc _, Bx.new w4 [.int .i64 V.ep, .slice A4.ra V.rn A4.rc, .slice A4.ta V.tn A4.tc, .slice A4.oa V.on A4.oc] _, hi.at.next (Go.Joins.below_alloc1 _ _), below_next' (below_next' H3.out.2.2.1 hb) (Go.Joins.below_alloc1 _ _), H3.out.2.2.2⟩
  clear hb hi H3
  go_wp2_with fail
  rw [← hw5, ← hu]
  clear hw5 hu
  refine (lookUp_any A4 V key _ HS.out.2 HK.out H5.out.2.2.2.1).mono ?_
  rintro r w6 ⟨o', f', rfl, hP, hb⟩
  obtain ⟨rfl, rfl⟩ := H5.out.2.2.2.2.2.same hP
  obtain ⟨w7, hw7⟩ : ∃ w7, w7 = w6.alloc (.cells #[.string o.f0, .string o.f1, .int .i64 o.f2, .int .i64 o.f3, .bool o.f4, .int .i64 o.f5] 39) := ⟨_, rfl⟩
  obtain ⟨v, hv⟩ : ∃ v, v = w6.heap.size := ⟨_, rfl⟩
  have H7 : Hid (Bx w7 t [.int .i64 V.ep, .slice A.ra V.rn A.rc, .slice A.ta V.tn A.tc, .slice A.oa V.on A.oc] ∧ Bx w7 s [.string o.f0, .string o.f1, .int .i64 o.f2, .int .i64 o.f3, .bool o.f4, .int .i64 o.f5] ∧ Bx w7 u [.int .i64 V.ep, .slice A4.ra V.rn A4.rc, .slice A4.ta V.tn A4.tc, .slice A4.oa V.on A4.oc] ∧ Bx w7 v [.string o.f0, .string o.f1, .int .i64 o.f2, .int .i64 o.f3, .bool o.f4, .int .i64 o.f5] ∧ StAt w7 A4 V ∧ Below w.heap.size w w7) := by
    rw [hw7, hv]
    exact ⟨(H5.out.1.next hb).alloc _, (H5.out.2.1.next hb).alloc _, (H5.out.2.2.1.next hb).alloc _, Bx.new w6 [.string o.f0, .string o.f1, .int .i64 o.f2, .int .i64 o.f3, .bool o.f4, .int .i64 o.f5] _, (H5.out.2.2.2.1.next hb).next (Go.Joins.below_alloc1 _ _), below_next' (below_next' H5.out.2.2.2.2.1 hb) (Go.Joins.below_alloc1 _ _)⟩
  clear hb hP H5
  have a0 := H7.out.2.1.cell 0 rfl
  have a1 := H7.out.2.1.cell 1 rfl
  have a2 := H7.out.2.1.cell 2 rfl
  have a3 := H7.out.2.1.cell 3 rfl
  have a4 := H7.out.2.1.cell 4 rfl
  have a5 := H7.out.2.1.cell 5 rfl
  have az := H7.out.2.1.2
  rw [hw7] at a0 a1 a2 a3 a4 a5 az
  go_wp2_with fail
  rw [← hw7]
  refine (eqRecord_same o _).mono ?_
  rintro r w8 ⟨rfl, hb⟩
  have hd : Below w7.heap.size w7 w8.drew := hb.drew
  have H8 : Hid (Bx w8.drew t [.int .i64 V.ep, .slice A.ra V.rn A.rc, .slice A.ta V.tn A.tc, .slice A.oa V.on A.oc] ∧ Bx w8.drew u [.int .i64 V.ep, .slice A4.ra V.rn A4.rc, .slice A4.ta V.tn A4.tc, .slice A4.oa V.on A4.oc] ∧ StAt w8.drew A4 V ∧ Below w.heap.size w w8.drew) := ⟨H7.out.1.next hd, H7.out.2.2.1.next hd, H7.out.2.2.2.2.1.next hd, below_next' H7.out.2.2.2.2.2 hd⟩
  clear hb hd H7 a0 a1 a2 a3 a4 a5 az hw7 hv
  cases f
  all_goals
    go_upto_region 12 with fail
    refine wp_region_noPanic ?_
    refine wp_region_held_drew (S := fun W => Bx W t [.int .i64 V.ep, .slice A.ra V.rn A.rc, .slice A.ta V.tn A.tc, .slice A.oa V.on A.oc] ∧ Bx W u [.int .i64 V.ep, .slice A4.ra V.rn A4.rc, .slice A4.ta V.tn A4.tc, .slice A4.oa V.on A4.oc]) (by kernel_rfl) ⟨H8.out.1, H8.out.2.1⟩ (fun hHeld => ?_)
    refine take_v (v := ?_) 0 ⟨some 43, Op.load 32 (Operand.tmp 8), _, _, _, none⟩ rfl (fun _ _ _ h => h) ?_ hHeld ?_
    rotate_left
    · (intro W hSW; (have s0 := hSW.1.cell 0 rfl; have s1 := hSW.1.cell 1 rfl; have s2 := hSW.1.cell 2 rfl; have s3 := hSW.1.cell 3 rfl; have s4 := hSW.2.cell 0 rfl; have s5 := hSW.2.cell 1 rfl; have s6 := hSW.2.cell 2 rfl; have s7 := hSW.2.cell 3 rfl; have s8 := hSW.1.2; have s9 := hSW.2.2); go_simp <;> (try with_reducible rfl))
    refine take_v (v := ?_) 1 ⟨some 44, Op.load 26 (Operand.tmp 2), _, _, _, none⟩ rfl (fun _ _ _ h => h) ?_ hHeld ?_
    rotate_left
    · (intro W hSW; (have s0 := hSW.1.cell 0 rfl; have s1 := hSW.1.cell 1 rfl; have s2 := hSW.1.cell 2 rfl; have s3 := hSW.1.cell 3 rfl; have s4 := hSW.2.cell 0 rfl; have s5 := hSW.2.cell 1 rfl; have s6 := hSW.2.cell 2 rfl; have s7 := hSW.2.cell 3 rfl; have s8 := hSW.1.2; have s9 := hSW.2.2); go_simp <;> (try with_reducible rfl))
    refine ready_call 2 ⟨some 45, Op.call { callee := Callee.value (Operand.func 7), args := #[Operand.tmp 44], argTypes := #[26] }, _, _, _, none⟩ (by kernel_rfl) rfl (by kernel_rfl) (fun KC hK => ?_)
    go_wp2_with fail
    refine (toStore_any A V _ HK.out (HS.out.1.next H8.out.2.2.2)).mono ?_
    rintro r w9 ⟨A9, rfl, hi, hb⟩
    have H9 : Hid (Bx w9 t [.int .i64 V.ep, .slice A.ra V.rn A.rc, .slice A.ta V.tn A.tc, .slice A.oa V.on A.oc] ∧ Bx w9 u [.int .i64 V.ep, .slice A4.ra V.rn A4.rc, .slice A4.ta V.tn A4.tc, .slice A4.oa V.on A4.oc] ∧ StAt w9 A4 V ∧ StAt w9 A9 V ∧ Below w.heap.size w w9) := ⟨H8.out.1.next hb, H8.out.2.1.next hb, H8.out.2.2.1.next hb, hi.at, below_next' H8.out.2.2.2 hb⟩
    clear hb hi
    refine hK.out _ _ ⟨H9.out.1, H9.out.2.1⟩ (fun hHeld => ?_)
    clear hK KC
    refine ready_call 3 ⟨some 46, Op.call { callee := Callee.value (Operand.func 9), args := #[Operand.tmp 43, Operand.tmp 45], argTypes := #[32, 32] }, _, _, _, none⟩ (by kernel_rfl) rfl (by kernel_rfl) (fun KC hK => ?_)
    go_wp2_with fail
    refine (eqStore_same A4 A9 V _ HK.out H9.out.2.2.1 H9.out.2.2.2.1).mono ?_
    rintro r wA ⟨rfl, hb⟩
    have HA : Hid (Bx wA t [.int .i64 V.ep, .slice A.ra V.rn A.rc, .slice A.ta V.tn A.tc, .slice A.oa V.on A.oc] ∧ Bx wA u [.int .i64 V.ep, .slice A4.ra V.rn A4.rc, .slice A4.ta V.tn A4.tc, .slice A4.oa V.on A4.oc] ∧ Below w.heap.size w wA) := ⟨H9.out.1.next hb, H9.out.2.1.next hb, below_next' H9.out.2.2.2.2 hb⟩
    clear hb
    refine hK.out _ _ ⟨HA.out.1, HA.out.2.1⟩ (fun hHeld => ?_)
    clear hK KC
    refine take_v (v := ?_) 4 ⟨some 47, Op.unOp UnOp.not 4 (Operand.tmp 46), _, _, _, none⟩ rfl (fun _ _ _ h => h) ?_ hHeld ?_
    rotate_left
    · (intro W _; go_simp <;> (try with_reducible rfl))
    refine wpAnyH_done (by kernel_rfl) ?_ _
    refine NoPanic.normal ?_
    go_wp2
    go_ret
    exact ⟨rfl, HA.out.2.2⟩


theorem own : ownKnob Try.prog.godebug = none := by kernel_rfl
theorem laidOut : laidOutB Try.prog = true := by kernel_rfl

set_option maxRecDepth 100000 in
theorem lifted (os : Os) (started : os.Started) (H : Type) (enc : TypeId × Value → H) :
    ReturnsInHanded {} Try.checked os 4 .any (Rows.fnExactLookUpSpec.pre6 enc Try.prog Try.f4 Rows.fnExactLookUpRow.domain false) (Rows.fnExactLookUpSpec.post enc Try.prog Try.f4 false true false false) := by
  refine returnsInHanded_of_change (C := Try.checked) own started (by kernel_rfl) Try.func4
    (ChangeSpec.witness6 (enc := enc) (C := Try.checked) false ⟨#[], #[.agg #[.int .i64 0, .slice none 0 0, .slice none 0 0, .slice none 0 0], .string ⟨#[]⟩], []⟩ 8 (by kernel_rfl) (by kernel_rfl) (by kernel_rfl) (by kernel_rfl)) ?_
  intro W base args ds gs before hval0 hW hcnd _
  have hval : ∀ (j : Nat) t v, Try.f4.params[j]? = some t → args[j]? = some v → Value.okWide Try.prog W .any base t v := hval0
  have hW' := hW
  obtain ⟨p, q, hA0, hV, rfl, hfz, hnd⟩ := hW
  have hA : DataW.TrodAll enc Try.prog W 0 (fun _ => true) true Try.f4.params.toList args.toList ds p := hA0
  rw [Try.params4] at hA hval
  obtain ⟨v0, vs0, d0, ds0, p0, q0, hargs, rfl, rfl, h0, r0⟩ := trodAll_cons hA
  obtain ⟨v1, vs1, d1, ds1, p1, q1, rfl, rfl, rfl, h1, r1⟩ := trodAll_cons r0
  obtain ⟨rfl, rfl, rfl⟩ := trodAll_nil r1
  obtain rfl : args = #[v0, v1] := by cases args; simp_all
  obtain ⟨rfl, rfl⟩ := trodVars_none hV
  have k0 := h0
  have lt0 : ∀ x ∈ p0, x.block < W.heap.size := by obtain ⟨m, hm⟩ := k0; exact DataW.trod_lt m _ _ _ hm
  obtain ⟨A0, V0, rfl, n0, s0⟩ := open_store (hval 0 26 v0 rfl rfl) h0
  have k1 := h1
  have lt1 : ∀ x ∈ p1, x.block < W.heap.size := by obtain ⟨m, hm⟩ := k1; exact DataW.trod_lt m _ _ _ hm
  obtain ⟨a1, rfl, rfl, rfl, w1⟩ := open_string Try.underlying9 (hval 1 9 v1 rfl rfl) h1
  clear hA0 hval0
  refine (walk (w := W) A0 V0 n0 s0 a1 w1).mono fun e W' ⟨he, bel⟩ => ?_
  subst he
  exact ⟨_, rfl, _, _, _, [], _, [], hW', trodAll_mk1 (shut_bool Try.underlying4 _), (trodAll_cons_mk (Below.trod laidOut (by kernel_rfl) (of_decide_eq_true (by kernel_rfl)) k0 bel lt0) (trodAll_cons_mk (Below.trod laidOut (by kernel_rfl) (of_decide_eq_true (by kernel_rfl)) k1 bel lt1) trodAll_mk0)), rfl, bel.frame _, fun h => by cases h⟩

set_option maxHeartbeats 40000000 in
theorem closed : joinedFacts Try.pinned.checked.prog 4 Try.f4 Rows.fnExactLookUpSpec Rows.fnExactLookUpRow = true := by
  unfold joinedFacts
  repeat' (first | (with_reducible refine both ?_ ?_) | (with_reducible exact may_enter') | (with_reducible refine lifts_eq ?_) | (with_reducible refine make_eq ?_) | as_aux_lemma => kernel_rfl)
theorem named : Try.pinned.checked.prog.funcNamed Rows.fnExactLookUpRow.func = some 4 := by kernel_rfl
theorem over : Rows.fnExactLookUpRow.holds Try.pinned (OpenSpec.ofChange Rows.fnExactLookUpSpec) :=
  OpenClaim.holds_of_wide 4 Try.f4 rfl rfl rfl rfl rfl rfl rfl ⟨rfl, rfl, rfl, rfl, rfl⟩ rfl rfl rfl rfl rfl named Try.func4 closed
    (of_decide_eq_true (by as_aux_lemma => kernel_rfl)) (by unfold Func.isWrapper; first | (rw [if_pos (by decide +kernel)]; kernel_rfl) | (rw [if_neg (by decide +kernel)]; exact ⟨rfl, rfl⟩))
    (fun os started H enc _ => lifted os started H enc)

end Go.Proofs.Ytenfaofhoheleaa.xLookUp
namespace Go.Proofs.Ytenfaofhoheleaa
theorem xLookUp_holds : Rows.FnExactLookUpSaid := xLookUp.over
#print axioms xLookUp_holds
end Go.Proofs.Ytenfaofhoheleaa
