/- At every argument impl.LivesIn answers as the specification does, field by field, writes into no argument, its answer owns its memory, and each argument reads behind the call as it read before. No condition. -/
import Derived.Test.YtkpobihpcnoemaaCmU
import Derived.Test.YtkpobihpcnoemaaNtZ
import Derived.Test.YtkpobihpcnoemaaNtT
import Derived.Test.YtkpobihpcnoemaaNtE
import Derived.Test.YtkpobihpcnoemaaNtO
import Derived.Test.YtkpobihpcnoemaaWords
import Derived.ProofKit
import Derived.OpenShut
import Derived.ShutString
import Derived.ChangeOld
import Derived.Below
import Derived.Lib.SmallJoins
namespace Go.Proofs.Ytkpobihpcnoemaa.xLivesIn
open Go.ChangeShapes Go.WideShapes Go.ChangeAt Go.RowKit
open Go.ChangeMaps (open_string shut_string)
set_option linter.unusedVariables false

set_option maxRecDepth 100000 in
set_option maxHeartbeats 4000000 in
theorem walk (w : World) (cs0 : List Value) (X0 : Sh.T shCommit) (li0 : Lies w shCommit cs0 X0) (fi0 : Fits shCommit X0) :
    Calls Try.prog 7 #[.agg cs0.toArray] w fun r w' => r = .returned (.bool true) ∧ Below w.heap.size w w' := by
  obtain ⟨ss, dr, rc, ⟨⟩⟩ := X0
  obtain ⟨a0_1, k0_1, rfl, l0_1⟩ := lies_Commit li0
  have HL0 : Hid (Lies w shCommit [.slice a0_1 ss.length k0_1, .int .i64 dr, .int .i64 rc] (ss, dr, rc, ())) := li0
  have HF0 : Hid (Fits shCommit (ss, dr, rc, ())) := fi0
  clear li0 fi0 l0_1
  obtain ⟨vt, vb, hVA⟩ : ∃ t z, liA ss dr rc = (t, z) := ⟨_, _, rfl⟩
  have HVA : Hid (liA ss dr rc = (vt, vb)) := hVA
  clear hVA
  go_enter Try.func7, Try.ntmps7
  go_wp2_with fail
  obtain ⟨w1, hw1⟩ : ∃ x, x = w.alloc (.cells #[.slice a0_1 ss.length k0_1, .int .i64 dr, .int .i64 rc] 36) := ⟨_, rfl⟩
  have hb : Below w.heap.size w w1 := hw1 ▸ Go.Joins.below_alloc1 _ _
  have HB1 : Hid (Below w.heap.size w w1) := below_next (Below.refl _ _) hb
  have sz1 : w.heap.size < w1.heap.size := by rw [hw1]; simp
  have A0_1 : Hid (Bx w1 w.heap.size [.slice a0_1 ss.length k0_1, .int .i64 dr, .int .i64 rc]) := hw1 ▸ Bx.new w [.slice a0_1 ss.length k0_1, .int .i64 dr, .int .i64 rc] _
  rw [← hw1]
  clear hb hw1 
  refine (szCommit_n [.slice a0_1 ss.length k0_1, .int .i64 dr, .int .i64 rc] ss dr rc _ _ (by omega) (by omega) HF0.out (HL0.out.next HB1.out)).mono ?_
  rintro r w2 ⟨⟨y0, rfl, hy0⟩, hb⟩
  have HB2 : Hid (Below w.heap.size w w2) := below_next HB1.out hb
  have sz2 : w1.heap.size ≤ w2.heap.size := hb.size
  have A0_2 : Hid (Bx w2 w.heap.size [.slice a0_1 ss.length k0_1, .int .i64 dr, .int .i64 rc]) := A0_1.out.next hb
  clear hb A0_1 HB1
  by_cases ng0 : y0 < 0
  · clear hy0
    go_wp2
    go_ret
    exact ⟨rfl, HB2.out⟩
  have HS0 : Hid (szD shCommit (ss, dr, rc, ()) ≤ 1073741824) := Hid.intro (by rcases hy0 with e | e <;> omega)
  have hb0 : 0 ≤ y0 ∧ y0 ≤ 1048576 := by rcases hy0 with e | e <;> omega
  clear hy0
  have cA00 := A0_2.out.cell 0 rfl
  have cA01 := A0_2.out.cell 1 rfl
  have cA02 := A0_2.out.cell 2 rfl
  have zA0 := A0_2.out.2
  go_wp2_with fail
  refine (toCommit_n [.slice a0_1 ss.length k0_1, .int .i64 dr, .int .i64 rc] ss dr rc _ HS0.out (HL0.out.next HB2.out)).mono ?_
  rintro r w3 ⟨cs9, rfl, ho, hb⟩
  obtain ⟨p3_1, q3_1, _, hev, _⟩ := own_Commit ho
  subst hev
  have HB3 : Hid (Below w.heap.size w w3) := below_next HB2.out hb
  have sz3 : w2.heap.size ≤ w3.heap.size := hb.size
  have A0_3 : Hid (Bx w3 w.heap.size [.slice a0_1 ss.length k0_1, .int .i64 dr, .int .i64 rc]) := A0_2.out.next hb
  have D_3 : Hid (Own w3 shCommit [.slice p3_1 ss.length q3_1, .int .i64 dr, .int .i64 rc] (ss, dr, rc, ()) (Btw w2.heap.size w3.heap.size)) := ho
  clear hb ho cA00 cA01 cA02 zA0 A0_2 HB2
  go_wp2_with fail
  refine ((show Calls _ _ _ _ (AiP (vt, vb) _) from HVA.out ▸ specLivesIn_n [.slice p3_1 ss.length q3_1, .int .i64 dr, .int .i64 rc] ss dr rc _ HS0.out D_3.out.lies)).mono ?_
  rintro r w4 ⟨rfl, hb⟩
  have HB4 : Hid (Below w.heap.size w w4) := below_next HB3.out hb
  have sz4 : w3.heap.size ≤ w4.heap.size := hb.size
  have A0_4 : Hid (Bx w4 w.heap.size [.slice a0_1 ss.length k0_1, .int .i64 dr, .int .i64 rc]) := A0_3.out.next hb
  have D_4 : Hid (Own w4 shCommit [.slice p3_1 ss.length q3_1, .int .i64 dr, .int .i64 rc] (ss, dr, rc, ()) (Btw w2.heap.size w3.heap.size)) := D_3.out.next hb
  clear hb A0_3 D_3 HB3
  clear D_4
  have cA00 := A0_4.out.cell 0 rfl
  have cA01 := A0_4.out.cell 1 rfl
  have cA02 := A0_4.out.cell 2 rfl
  have zA0 := A0_4.out.2
  go_wp2_with fail
  refine (toCommit_n [.slice a0_1 ss.length k0_1, .int .i64 dr, .int .i64 rc] ss dr rc _ HS0.out (HL0.out.next HB4.out)).mono ?_
  rintro r w5 ⟨cs9, rfl, ho, hb⟩
  obtain ⟨p5_1, q5_1, _, hev, _⟩ := own_Commit ho
  subst hev
  have HB5 : Hid (Below w.heap.size w w5) := below_next HB4.out hb
  have sz5 : w4.heap.size ≤ w5.heap.size := hb.size
  have A0_5 : Hid (Bx w5 w.heap.size [.slice a0_1 ss.length k0_1, .int .i64 dr, .int .i64 rc]) := A0_4.out.next hb
  have P_5 : Hid (Own w5 shCommit [.slice p5_1 ss.length q5_1, .int .i64 dr, .int .i64 rc] (ss, dr, rc, ()) (Btw w4.heap.size w5.heap.size)) := ho
  clear hb ho cA00 cA01 cA02 zA0 A0_4 HB4
  go_wp2_with fail
  obtain ⟨w6, hw6⟩ : ∃ x, x = w5.alloc (.cells #[.slice p5_1 ss.length q5_1, .int .i64 dr, .int .i64 rc] 25) := ⟨_, rfl⟩
  have hb : Below w5.heap.size w5 w6 := hw6 ▸ Go.Joins.below_alloc1 _ _
  have HB6 : Hid (Below w.heap.size w w6) := below_next HB5.out hb
  have sz6 : w5.heap.size < w6.heap.size := by rw [hw6]; simp
  have A0_6 : Hid (Bx w6 w.heap.size [.slice a0_1 ss.length k0_1, .int .i64 dr, .int .i64 rc]) := A0_5.out.next hb
  have P_6 : Hid (Own w6 shCommit [.slice p5_1 ss.length q5_1, .int .i64 dr, .int .i64 rc] (ss, dr, rc, ()) (Btw w4.heap.size w5.heap.size)) := P_5.out.next hb
  have U0_6 : Hid (Bx w6 w5.heap.size [.slice p5_1 ss.length q5_1, .int .i64 dr, .int .i64 rc]) := hw6 ▸ Bx.new w5 [.slice p5_1 ss.length q5_1, .int .i64 dr, .int .i64 rc] _
  rw [← hw6]
  clear hb hw6 A0_5 P_5 HB5
  refine ((show Calls _ _ _ _ (AiP (vt, vb) _) from HVA.out ▸ livesIn_n [.slice p5_1 ss.length q5_1, .int .i64 dr, .int .i64 rc] ss dr rc _ HS0.out P_6.out.lies)).mono ?_
  rintro r w7 ⟨rfl, hb⟩
  have HB7 : Hid (Below w.heap.size w w7) := below_next HB6.out hb
  have sz7 : w6.heap.size ≤ w7.heap.size := hb.size
  have A0_7 : Hid (Bx w7 w.heap.size [.slice a0_1 ss.length k0_1, .int .i64 dr, .int .i64 rc]) := A0_6.out.next hb
  have P_7 : Hid (Own w7 shCommit [.slice p5_1 ss.length q5_1, .int .i64 dr, .int .i64 rc] (ss, dr, rc, ()) (Btw w4.heap.size w5.heap.size)) := P_6.out.next hb
  have U0_7 : Hid (Bx w7 w5.heap.size [.slice p5_1 ss.length q5_1, .int .i64 dr, .int .i64 rc]) := U0_6.out.next hb
  clear hb A0_6 P_6 U0_6 HB6
  go_upto_region 10 with fail
  have hb : Below w7.heap.size w7 w7.drew := below_drew _
  have HB8 : Hid (Below w.heap.size w w7.drew) := below_next HB7.out hb
  have sz8 : w7.heap.size ≤ w7.drew.heap.size := hb.size
  have A0_8 : Hid (Bx w7.drew w.heap.size [.slice a0_1 ss.length k0_1, .int .i64 dr, .int .i64 rc]) := A0_7.out.next hb
  have P_8 : Hid (Own w7.drew shCommit [.slice p5_1 ss.length q5_1, .int .i64 dr, .int .i64 rc] (ss, dr, rc, ()) (Btw w4.heap.size w5.heap.size)) := P_7.out.next hb
  have U0_8 : Hid (Bx w7.drew w5.heap.size [.slice p5_1 ss.length q5_1, .int .i64 dr, .int .i64 rc]) := U0_7.out.next hb
  clear hb A0_7 P_7 U0_7 HB7
  refine wp_region_noPanic ?_
  refine wp_region_held_drew (S := fun W => Bx W w.heap.size [.slice a0_1 ss.length k0_1, .int .i64 dr, .int .i64 rc] ∧ Bx W w5.heap.size [.slice p5_1 ss.length q5_1, .int .i64 dr, .int .i64 rc]) (by kernel_rfl) ⟨A0_8.out, U0_8.out⟩ (fun hHeld => ?_)
  refine take_v (v := ?_) 0 ⟨some 35, Op.load 25 (Operand.tmp 6), _, _, _, none⟩ rfl (fun _ _ _ h => h) ?_ hHeld ?_
  rotate_left
  · (intro W hSW; (have s0_0 := hSW.1.cell 0 rfl; have s0_1 := hSW.1.cell 1 rfl; have s0_2 := hSW.1.cell 2 rfl; have s0z := hSW.1.2; have s1_0 := hSW.2.cell 0 rfl; have s1_1 := hSW.2.cell 1 rfl; have s1_2 := hSW.2.cell 2 rfl; have s1z := hSW.2.2); go_simp <;> (try with_reducible rfl))
  refine take_v (v := ?_) 1 ⟨some 36, Op.load 36 (Operand.tmp 1), _, _, _, none⟩ rfl (fun _ _ _ h => h) ?_ hHeld ?_
  rotate_left
  · (intro W hSW; (have s0_0 := hSW.1.cell 0 rfl; have s0_1 := hSW.1.cell 1 rfl; have s0_2 := hSW.1.cell 2 rfl; have s0z := hSW.1.2; have s1_0 := hSW.2.cell 0 rfl; have s1_1 := hSW.2.cell 1 rfl; have s1_2 := hSW.2.cell 2 rfl; have s1z := hSW.2.2); go_simp <;> (try with_reducible rfl))
  refine ready_call 2 ⟨some 37, Op.call { callee := Callee.value (Operand.func 18), args := #[Operand.tmp 36], argTypes := #[36] }, _, _, _, none⟩ (by kernel_rfl) rfl (by kernel_rfl) (fun KC hK => ?_)
  go_wp2_with fail
  refine (toCommit_n [.slice a0_1 ss.length k0_1, .int .i64 dr, .int .i64 rc] ss dr rc _ HS0.out (HL0.out.next HB8.out)).mono ?_
  rintro r w9 ⟨cs9, rfl, ho, hb⟩
  obtain ⟨p9_1, q9_1, _, hev, _⟩ := own_Commit ho
  subst hev
  have HB9 : Hid (Below w.heap.size w w9) := below_next HB8.out hb
  have sz9 : w7.drew.heap.size ≤ w9.heap.size := hb.size
  have A0_9 : Hid (Bx w9 w.heap.size [.slice a0_1 ss.length k0_1, .int .i64 dr, .int .i64 rc]) := A0_8.out.next hb
  have P_9 : Hid (Own w9 shCommit [.slice p5_1 ss.length q5_1, .int .i64 dr, .int .i64 rc] (ss, dr, rc, ()) (Btw w4.heap.size w5.heap.size)) := P_8.out.next hb
  have U0_9 : Hid (Bx w9 w5.heap.size [.slice p5_1 ss.length q5_1, .int .i64 dr, .int .i64 rc]) := U0_8.out.next hb
  have D_9 : Hid (Own w9 shCommit [.slice p9_1 ss.length q9_1, .int .i64 dr, .int .i64 rc] (ss, dr, rc, ()) (Btw w7.drew.heap.size w9.heap.size)) := ho
  clear hb ho A0_8 P_8 U0_8 HB8
  refine hK.out _ _ ⟨A0_9.out, U0_9.out⟩ (fun hHeld => ?_)
  clear hK KC
  refine ready_call 3 ⟨some 38, Op.call { callee := Callee.value (Operand.func 11), args := #[Operand.tmp 35, Operand.tmp 37], argTypes := #[25, 25] }, _, _, _, none⟩ (by kernel_rfl) rfl (by kernel_rfl) (fun KC hK => ?_)
  go_wp2_with fail
  refine (eqCommit_n [.slice p5_1 ss.length q5_1, .int .i64 dr, .int .i64 rc] [.slice p9_1 ss.length q9_1, .int .i64 dr, .int .i64 rc] ss dr rc _ HS0.out P_9.out.lies D_9.out.lies).mono ?_
  rintro r w10 ⟨rfl, hb⟩
  have HB10 : Hid (Below w.heap.size w w10) := below_next HB9.out hb
  have sz10 : w9.heap.size ≤ w10.heap.size := hb.size
  have A0_10 : Hid (Bx w10 w.heap.size [.slice a0_1 ss.length k0_1, .int .i64 dr, .int .i64 rc]) := A0_9.out.next hb
  have P_10 : Hid (Own w10 shCommit [.slice p5_1 ss.length q5_1, .int .i64 dr, .int .i64 rc] (ss, dr, rc, ()) (Btw w4.heap.size w5.heap.size)) := P_9.out.next hb
  have U0_10 : Hid (Bx w10 w5.heap.size [.slice p5_1 ss.length q5_1, .int .i64 dr, .int .i64 rc]) := U0_9.out.next hb
  have D_10 : Hid (Own w10 shCommit [.slice p9_1 ss.length q9_1, .int .i64 dr, .int .i64 rc] (ss, dr, rc, ()) (Btw w7.drew.heap.size w9.heap.size)) := D_9.out.next hb
  clear hb A0_9 P_9 U0_9 D_9 HB9
  refine hK.out _ _ ⟨A0_10.out, U0_10.out⟩ (fun hHeld => ?_)
  clear hK KC
  refine take_v (v := ?_) 4 ⟨some 39, Op.unOp UnOp.not 4 (Operand.tmp 38), _, _, _, none⟩ rfl (fun _ _ _ h => h) ?_ hHeld ?_
  rotate_left
  · (intro W _; go_simp <;> (try with_reducible rfl))
  refine wpAnyH_done (by kernel_rfl) ?_ _
  refine NoPanic.normal ?_
  clear D_10
  have HE := HB10
  go_wp2
  go_ret
  exact ⟨rfl, HE.out⟩


theorem own : ownKnob Try.prog.godebug = none := by kernel_rfl
theorem laidOut : laidOutB Try.prog = true := by kernel_rfl

set_option maxRecDepth 100000 in
theorem lifted (os : Os) (started : os.Started) (H : Type) (enc : TypeId × Value → H) :
    ReturnsInHanded {} Try.checked os 7 .any (Rows.fnExactLivesInSpec.pre6 enc Try.prog Try.f7 Rows.fnExactLivesInRow.domain false) (Rows.fnExactLivesInSpec.post enc Try.prog Try.f7 false true false false) := by
  refine returnsInHanded_of_change (C := Try.checked) own started (by kernel_rfl) Try.func7
    (ChangeSpec.witness6 (enc := enc) (C := Try.checked) false ⟨#[], #[.agg #[.slice none 0 0, .int .i64 0, .int .i64 0]], []⟩ 8 (by kernel_rfl) (by kernel_rfl) (by kernel_rfl) (by kernel_rfl)) ?_
  intro W base args ds gs before hval0 hW hcnd _
  have hval : ∀ (j : Nat) t v, Try.f7.params[j]? = some t → args[j]? = some v → Value.okWide Try.prog W .any base t v := hval0
  have hW' := hW
  obtain ⟨p, q, hA0, hV, rfl, hfz, hnd⟩ := hW
  have hA : DataW.TrodAll enc Try.prog W 0 (fun _ => true) true Try.f7.params.toList args.toList ds p := hA0
  rw [Try.params7] at hA hval
  obtain ⟨v0, vs0, d0, ds0, p0, q0, hargs, rfl, rfl, h0, r0⟩ := trodAll_cons hA
  obtain ⟨rfl, rfl, rfl⟩ := trodAll_nil r0
  obtain rfl : args = #[v0] := by cases args; simp_all
  obtain ⟨rfl, rfl⟩ := trodVars_none hV
  have k0 := h0
  have lt0 : ∀ x ∈ p0, x.block < W.heap.size := by obtain ⟨m, hm⟩ := k0; exact DataW.trod_lt m _ _ _ hm
  obtain ⟨cs0, X0, rfl, li0, fi0⟩ := open_Commit_n (hval 0 36 v0 rfl rfl) h0
  clear hA0 hval0
  refine (walk (w := W) cs0 X0 li0 fi0).mono fun e W' ⟨he, bel⟩ => ?_
  subst he
  exact ⟨_, rfl, _, _, _, [], _, [], hW', trodAll_mk1 (shut_bool Try.underlying4 _), (trodAll_cons_mk (Below.trod laidOut (by kernel_rfl) (of_decide_eq_true (by kernel_rfl)) k0 bel lt0) trodAll_mk0), rfl, bel.frame _, fun h => by cases h⟩

set_option maxHeartbeats 40000000 in
theorem closed : joinedFacts Try.pinned.checked.prog 7 Try.f7 Rows.fnExactLivesInSpec Rows.fnExactLivesInRow = true := by
  unfold joinedFacts
  repeat' (first | (with_reducible refine both ?_ ?_) | (with_reducible exact may_enter') | (with_reducible refine lifts_eq ?_) | (with_reducible refine make_eq ?_) | as_aux_lemma => kernel_rfl)
theorem named : Try.pinned.checked.prog.funcNamed Rows.fnExactLivesInRow.func = some 7 := by kernel_rfl
theorem over : Rows.fnExactLivesInRow.holds Try.pinned (OpenSpec.ofChange Rows.fnExactLivesInSpec) :=
  OpenClaim.holds_of_wide 7 Try.f7 rfl rfl rfl rfl rfl rfl rfl ⟨rfl, rfl, rfl, rfl, rfl⟩ rfl rfl rfl rfl rfl named Try.func7 closed
    (of_decide_eq_true (by as_aux_lemma => kernel_rfl)) (by unfold Func.isWrapper; first | (rw [if_pos (by decide +kernel)]; kernel_rfl) | (rw [if_neg (by decide +kernel)]; exact ⟨rfl, rfl⟩))
    (fun os started H enc _ => lifted os started H enc)

end Go.Proofs.Ytkpobihpcnoemaa.xLivesIn
namespace Go.Proofs.Ytkpobihpcnoemaa
theorem xLivesIn_holds : Rows.FnExactLivesInSaid := xLivesIn.over
#print axioms xLivesIn_holds
end Go.Proofs.Ytkpobihpcnoemaa
