/- At every group and every number impl.IsMajority answers as the specification does, writes into no argument, and each argument reads behind the call as it read before. No condition. -/
import Derived.Test.YtalnmollgielcaaImI
import Derived.Test.YtalnmollgielcaaGrL
import Derived.Test.YtalnmollgielcaaOpenG
import Derived.Test.YtalnmollgielcaaRg2
import Derived.Test.YtalnmollgielcaaWords
import Derived.ProofKit
import Derived.OpenShut
import Derived.ShutString
import Derived.ChangeOld
import Derived.Below
import Derived.Lib.SmallJoins
namespace Go.Proofs.Ytalnmollgielcaa.xIsMajority
open Go.ChangeShapes Go.WideShapes Go.ChangeAt Go.RowKit
open Go.ChangeMaps (open_string shut_string)
set_option linter.unusedVariables false

set_option maxRecDepth 100000 in
set_option maxHeartbeats 4000000 in
theorem walk (a : Option Addr) (n cap : Nat) (X : Nat → Int) (w : World) (hm : n ≤ maxLen) (hs : Sl w a n 1 (intF X)) (m : Int) (wm : (Lit.int .i64 m).wf = true) :
    Calls Try.prog 7 #[.agg #[.slice a n cap], .int .i64 m] w fun r w' => r = .returned (.bool true) ∧ Below w.heap.size w w' := by
  have HS : Hid (Sl w a n 1 (intF X)) := hs
  have HM : Hid (-9223372036854775808 ≤ m ∧ m ≤ 9223372036854775807) := wf_bounds wm
  clear hs wm
  go_enter Try.func7, Try.ntmps7
  go_wp2_with fail
  refine (szGroup_any _ _ _ _ _ hm (by omega) (by omega)).mono ?_
  rintro r w1 ⟨rfl, hb⟩
  have HB1 : Hid (Below w.heap.size w w1) := below_next (Go.Joins.below_alloc1 _ _) hb
  have A_1 : Hid (BoxS w1 w.heap.size (.slice a n cap)) := (BoxS.new w (.slice a n cap) 49).next hb
  clear hb
  by_cases hn : n ≤ 1048576
  case neg =>
    have hlt : (1048576 : Int) < (n : Int) := by omega
    rw [if_pos hlt]
    go_wp2
    go_ret
    exact ⟨rfl, HB1.out⟩
  case pos =>
  have hlt : ¬ (1048576 : Int) - (n : Int) < 0 := by omega
  have hnB : n ≤ 1073741824 := by omega
  rw [if_neg (by omega)]
  have cA := A_1.out.1
  have zA := A_1.out.2
  go_wp2_with fail
  refine (toGroup_any _ _ _ X _ hn (HS.out.kept HB1.out)).mono ?_
  rintro r w2 ⟨⟨g2, rfl, hi⟩, hb⟩
  have HB2 : Hid (Below w.heap.size w w2) := below_next HB1.out hb
  have sz2 : w1.heap.size ≤ w2.heap.size := hb.size
  have A_2 : Hid (BoxS w2 w.heap.size (.slice a n cap)) := A_1.out.next hb
  have D_2 : Hid (RowS w2 w1.heap.size w2.heap.size (some ⟨g2, 0, none⟩) n X) := RowS.of hi
  clear hb hi cA zA A_1 HB1
  go_wp2_with fail
  refine (specIsMajority_any _ _ _ X m _ hnB HM.out.1 HM.out.2 D_2.out.sl).mono ?_
  rintro r w3 ⟨rfl, hb⟩
  have HB3 : Hid (Below w.heap.size w w3) := below_next HB2.out hb
  have sz3 : w2.heap.size ≤ w3.heap.size := hb.size
  have A_3 : Hid (BoxS w3 w.heap.size (.slice a n cap)) := A_2.out.next hb
  have D_3 : Hid (RowS w3 w1.heap.size w2.heap.size (some ⟨g2, 0, none⟩) n X) := D_2.out.next hb
  clear hb A_2 D_2 HB2
  clear D_3
  have cA := A_3.out.1
  have zA := A_3.out.2
  go_wp2_with fail
  refine (toGroup_any _ _ _ X _ hn (HS.out.kept HB3.out)).mono ?_
  rintro r w4 ⟨⟨g4, rfl, hi⟩, hb⟩
  have HB4 : Hid (Below w.heap.size w w4) := below_next HB3.out hb
  have sz4 : w3.heap.size ≤ w4.heap.size := hb.size
  have A_4 : Hid (BoxS w4 w.heap.size (.slice a n cap)) := A_3.out.next hb
  have P_4 : Hid (RowS w4 w3.heap.size w4.heap.size (some ⟨g4, 0, none⟩) n X) := RowS.of hi
  clear hb hi cA zA A_3 HB3
  go_wp2_with fail
  obtain ⟨w5, hw5⟩ : ∃ x, x = w4.alloc (.cells #[.slice (some ⟨g4, 0, none⟩) n n] 25) := ⟨_, rfl⟩
  have hb : Below w4.heap.size w4 w5 := hw5 ▸ Go.Joins.below_alloc1 _ _
  have HB5 : Hid (Below w.heap.size w w5) := below_next HB4.out hb
  have sz5 : w4.heap.size < w5.heap.size := by rw [hw5]; simp
  have A_5 : Hid (BoxS w5 w.heap.size (.slice a n cap)) := A_4.out.next hb
  have P_5 : Hid (RowS w5 w3.heap.size w4.heap.size (some ⟨g4, 0, none⟩) n X) := P_4.out.next hb
  have U_5 : Hid (BoxS w5 w4.heap.size (.slice (some ⟨g4, 0, none⟩) n n)) := hw5 ▸ BoxS.new _ _ _
  rw [← hw5]
  clear hb hw5 A_4 P_4 HB4
  refine (isMajority_any _ _ _ X m _ hnB P_5.out.sl).mono ?_
  rintro r w6 ⟨rfl, hb⟩
  have HB6 : Hid (Below w.heap.size w w6) := below_next HB5.out hb
  have sz6 : w5.heap.size ≤ w6.heap.size := hb.size
  have A_6 : Hid (BoxS w6 w.heap.size (.slice a n cap)) := A_5.out.next hb
  have P_6 : Hid (RowS w6 w3.heap.size w4.heap.size (some ⟨g4, 0, none⟩) n X) := P_5.out.next hb
  have U_6 : Hid (BoxS w6 w4.heap.size (.slice (some ⟨g4, 0, none⟩) n n)) := U_5.out.next hb
  clear hb A_5 P_5 U_5 HB5
  generalize grB X n m = z at *
  generalize imB X n m = y at *
  go_upto_region 10 with fail
  have hb : Below w6.heap.size w6 w6.drew := below_drew _
  have HB7 : Hid (Below w.heap.size w w6.drew) := below_next HB6.out hb
  have sz7 : w6.heap.size ≤ w6.drew.heap.size := hb.size
  have A_7 : Hid (BoxS w6.drew w.heap.size (.slice a n cap)) := A_6.out.next hb
  have P_7 : Hid (RowS w6.drew w3.heap.size w4.heap.size (some ⟨g4, 0, none⟩) n X) := P_6.out.next hb
  have U_7 : Hid (BoxS w6.drew w4.heap.size (.slice (some ⟨g4, 0, none⟩) n n)) := U_6.out.next hb
  clear hb A_6 P_6 U_6 HB6
  refine wp_region_noPanic ?_
  refine wp_region_held_drew (S := fun W => BoxS W w.heap.size (.slice a n cap) ∧ BoxS W w4.heap.size (.slice (some ⟨g4, 0, none⟩) n n)) (by kernel_rfl) ⟨A_7.out, U_7.out⟩ (fun hHeld => ?_)
  refine take_v (v := ?_) 0 ⟨some 39, Op.load 25 (Operand.tmp 8), _, _, _, none⟩ rfl (fun _ _ _ h => h) ?_ hHeld ?_
  rotate_left
  · (intro W hSW; (have s0 := hSW.1.1; have s0z := hSW.1.2; have s1 := hSW.2.1; have s1z := hSW.2.2); go_simp <;> (try with_reducible rfl))
  refine take_v (v := ?_) 1 ⟨some 40, Op.load 49 (Operand.tmp 2), _, _, _, none⟩ rfl (fun _ _ _ h => h) ?_ hHeld ?_
  rotate_left
  · (intro W hSW; (have s0 := hSW.1.1; have s0z := hSW.1.2; have s1 := hSW.2.1; have s1z := hSW.2.2); go_simp <;> (try with_reducible rfl))
  refine ready_call 2 ⟨some 41, Op.call { callee := Callee.value (Operand.func 38), args := #[Operand.tmp 40], argTypes := #[49] }, _, _, _, none⟩ (by kernel_rfl) rfl (by kernel_rfl) (fun KC hK => ?_)
  go_wp2_with fail
  refine (toGroup_any _ _ _ X _ hn (HS.out.kept HB7.out)).mono ?_
  rintro r w8 ⟨⟨g8, rfl, hi⟩, hb⟩
  have HB8 : Hid (Below w.heap.size w w8) := below_next HB7.out hb
  have sz8 : w6.drew.heap.size ≤ w8.heap.size := hb.size
  have A_8 : Hid (BoxS w8 w.heap.size (.slice a n cap)) := A_7.out.next hb
  have P_8 : Hid (RowS w8 w3.heap.size w4.heap.size (some ⟨g4, 0, none⟩) n X) := P_7.out.next hb
  have U_8 : Hid (BoxS w8 w4.heap.size (.slice (some ⟨g4, 0, none⟩) n n)) := U_7.out.next hb
  have D_8 : Hid (RowS w8 w6.drew.heap.size w8.heap.size (some ⟨g8, 0, none⟩) n X) := RowS.of hi
  clear hb hi A_7 P_7 U_7 HB7
  refine hK.out _ _ ⟨A_8.out, U_8.out⟩ (fun hHeld => ?_)
  clear hK KC
  refine ready_call 3 ⟨some 42, Op.call { callee := Callee.value (Operand.func 40), args := #[Operand.tmp 39, Operand.tmp 41], argTypes := #[25, 25] }, _, _, _, none⟩ (by kernel_rfl) rfl (by kernel_rfl) (fun KC hK => ?_)
  go_wp2_with fail
  refine (eqGroup_same _ _ _ _ _ X _ hn P_8.out.sl D_8.out.sl).mono ?_
  rintro r w9 ⟨rfl, hb⟩
  have HB9 : Hid (Below w.heap.size w w9) := below_next HB8.out hb
  have sz9 : w8.heap.size ≤ w9.heap.size := hb.size
  have A_9 : Hid (BoxS w9 w.heap.size (.slice a n cap)) := A_8.out.next hb
  have P_9 : Hid (RowS w9 w3.heap.size w4.heap.size (some ⟨g4, 0, none⟩) n X) := P_8.out.next hb
  have U_9 : Hid (BoxS w9 w4.heap.size (.slice (some ⟨g4, 0, none⟩) n n)) := U_8.out.next hb
  have D_9 : Hid (RowS w9 w6.drew.heap.size w8.heap.size (some ⟨g8, 0, none⟩) n X) := D_8.out.next hb
  clear hb A_8 P_8 U_8 D_8 HB8
  refine hK.out _ _ ⟨A_9.out, U_9.out⟩ (fun hHeld => ?_)
  clear hK KC
  refine take_v (v := ?_) 4 ⟨some 43, Op.unOp UnOp.not 4 (Operand.tmp 42), _, _, _, none⟩ rfl (fun _ _ _ h => h) ?_ hHeld ?_
  rotate_left
  · (intro W _; go_simp <;> (try with_reducible rfl))
  refine wpAnyH_done (by kernel_rfl) ?_ _
  refine NoPanic.normal ?_
  have HE := HB9
  go_wp2
  go_ret
  exact ⟨rfl, HE.out⟩


theorem own : ownKnob Try.prog.godebug = none := by kernel_rfl
theorem laidOut : laidOutB Try.prog = true := by kernel_rfl

set_option maxRecDepth 100000 in
theorem lifted (os : Os) (started : os.Started) (H : Type) (enc : TypeId × Value → H) :
    ReturnsInHanded {} Try.checked os 7 .any (Rows.fnExactIsMajoritySpec.pre6 enc Try.prog Try.f7 Rows.fnExactIsMajorityRow.domain false) (Rows.fnExactIsMajoritySpec.post enc Try.prog Try.f7 false true false false) := by
  refine returnsInHanded_of_change (C := Try.checked) own started (by kernel_rfl) Try.func7
    (ChangeSpec.witness6 (enc := enc) (C := Try.checked) false ⟨#[], #[.agg #[.slice none 0 0], .int .i64 0], []⟩ 8 (by kernel_rfl) (by kernel_rfl) (by kernel_rfl) (by kernel_rfl)) ?_
  intro W base args ds gs before hval0 hW hcnd _
  have hval : ∀ (j : Nat) t v, Try.f7.params[j]? = some t → args[j]? = some v → Value.okWide Try.prog W .any base t v := hval0
  have hW' := hW
  obtain ⟨p, q, hA0, hV, rfl, hfz, hnd⟩ := hW
  have hA : DataW.TrodAll enc Try.prog W 0 (fun _ => true) true Try.f7.params.toList args.toList ds p := hA0
  rw [Try.params7] at hA hval
  obtain ⟨v0, vs0, d0, ds0, p0, q0, hargs, rfl, rfl, h0, r0⟩ := trodAll_cons hA
  obtain ⟨v1, vs1, d1, ds1, p1, q1, rfl, rfl, rfl, h1, r1⟩ := trodAll_cons r0
  obtain ⟨rfl, rfl, rfl⟩ := trodAll_nil r1
  obtain rfl : args = #[v0, v1] := by cases args; simp_all
  obtain ⟨rfl, rfl⟩ := trodVars_none hV
  have k0 := h0
  have lt0 : ∀ x ∈ p0, x.block < W.heap.size := by obtain ⟨m, hm⟩ := k0; exact DataW.trod_lt m _ _ _ hm
  obtain ⟨a0, len0, cap0, rfl, n0, X0, s0⟩ := open_group (hval 0 49 v0 rfl rfl) h0
  have k1 := h1
  have lt1 : ∀ x ∈ p1, x.block < W.heap.size := by obtain ⟨m, hm⟩ := k1; exact DataW.trod_lt m _ _ _ hm
  obtain ⟨a1, rfl, rfl, rfl, w1⟩ := open_int Try.underlying3 (hval 1 3 v1 rfl rfl) h1
  clear hA0 hval0
  refine (walk (w := W) a0 len0 cap0 X0 n0 s0 a1 w1).mono fun e W' ⟨he, bel⟩ => ?_
  subst he
  exact ⟨_, rfl, _, _, _, [], _, [], hW', trodAll_mk1 (shut_bool Try.underlying4 _), (trodAll_cons_mk (Below.trod laidOut (by kernel_rfl) (of_decide_eq_true (by kernel_rfl)) k0 bel lt0) (trodAll_cons_mk (Below.trod laidOut (by kernel_rfl) (of_decide_eq_true (by kernel_rfl)) k1 bel lt1) trodAll_mk0)), rfl, bel.frame _, fun h => by cases h⟩

set_option maxHeartbeats 40000000 in
theorem closed : joinedFacts Try.pinned.checked.prog 7 Try.f7 Rows.fnExactIsMajoritySpec Rows.fnExactIsMajorityRow = true := by
  unfold joinedFacts
  repeat' (first | (with_reducible refine both ?_ ?_) | (with_reducible exact may_enter') | (with_reducible refine lifts_eq ?_) | (with_reducible refine make_eq ?_) | as_aux_lemma => kernel_rfl)
theorem named : Try.pinned.checked.prog.funcNamed Rows.fnExactIsMajorityRow.func = some 7 := by kernel_rfl
theorem over : Rows.fnExactIsMajorityRow.holds Try.pinned (OpenSpec.ofChange Rows.fnExactIsMajoritySpec) :=
  OpenClaim.holds_of_wide 7 Try.f7 rfl rfl rfl rfl rfl rfl rfl ⟨rfl, rfl, rfl, rfl, rfl⟩ rfl rfl rfl rfl rfl named Try.func7 closed
    (of_decide_eq_true (by as_aux_lemma => kernel_rfl)) (by unfold Func.isWrapper; first | (rw [if_pos (by decide +kernel)]; kernel_rfl) | (rw [if_neg (by decide +kernel)]; exact ⟨rfl, rfl⟩))
    (fun os started H enc _ => lifted os started H enc)

end Go.Proofs.Ytalnmollgielcaa.xIsMajority
namespace Go.Proofs.Ytalnmollgielcaa
theorem xIsMajority_holds : Rows.FnExactIsMajoritySaid := xIsMajority.over
#print axioms xIsMajority_holds
end Go.Proofs.Ytalnmollgielcaa
