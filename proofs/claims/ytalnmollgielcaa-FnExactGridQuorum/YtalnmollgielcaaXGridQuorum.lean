/- At every four numbers impl.GridQuorum answers as the specification does, and its answer owns its memory. No condition. -/
import Derived.Test.YtalnmollgielcaaGqI
import Derived.Test.YtalnmollgielcaaGqS
import Derived.Test.YtalnmollgielcaaGrL
import Derived.Test.YtalnmollgielcaaOpenE
import Derived.Test.YtalnmollgielcaaRg2
import Derived.Test.YtalnmollgielcaaWords
import Derived.ProofKit
import Derived.OpenShut
import Derived.ShutString
import Derived.ChangeOld
import Derived.Below
import Derived.Lib.SmallJoins
namespace Go.Proofs.Ytalnmollgielcaa.xGridQuorum
open Go.ChangeShapes Go.WideShapes Go.ChangeAt Go.RowKit
open Go.ChangeMaps (open_string shut_string)
set_option linter.unusedVariables false

theorem gqL_len (R C r c : Int) : (gqL R C r c).length ≤ 12 := by
  unfold gqL
  split
  case isTrue h =>
    have q : (1 ≤ R ∧ R ≤ 12) ∧ (1 ≤ C ∧ C ≤ 12) ∧ R * C ≤ 12 ∧ (0 ≤ r ∧ r ≤ R - 1) ∧ (0 ≤ c ∧ c ≤ C - 1) := by simpa only [gqB, decide_eq_true_eq] using h
    have h1 := gridTo_len (C := C.toNat) (r := r.toNat) (c := c.toNat) R.toNat
    have e : ((C.toNat * R.toNat : Nat) : Int) = R * C := by rw [Int.natCast_mul, Int.toNat_of_nonneg (by omega), Int.toNat_of_nonneg (by omega), Int.mul_comm]
    omega
  case isFalse => simp

set_option maxRecDepth 100000 in
set_option maxHeartbeats 4000000 in
theorem walk (R : Int) (wR : (Lit.int .i64 R).wf = true) (C : Int) (wC : (Lit.int .i64 C).wf = true) (r : Int) (wr : (Lit.int .i64 r).wf = true) (c : Int) (wc : (Lit.int .i64 c).wf = true) (w : World) :
    Calls Try.prog 11 #[.int .i64 R, .int .i64 C, .int .i64 r, .int .i64 c] w fun r w' => r = .returned (.bool true) ∧ Below w.heap.size w w' := by
  have HSP : Hid (∀ W : World, Calls Try.prog 33 #[.int .i64 R, .int .i64 C, .int .i64 r, .int .i64 c] W (GtPost (gqL R C r c) (gqB R C r c) W)) := fun W => specGridQuorum_any R C r c W (wf_bounds wR) (wf_bounds wC)
  have HIM : Hid (∀ W : World, Calls Try.prog 32 #[.int .i64 R, .int .i64 C, .int .i64 r, .int .i64 c] W (GtPost (gqL R C r c) (gqB R C r c) W)) := fun W => gridQuorum_any R C r c W (wf_bounds wR) (wf_bounds wC)
  have hN0 : (gqL R C r c).length ≤ 1048576 := Nat.le_trans (gqL_len R C r c) (by omega)
  generalize gqL R C r c = L at *
  generalize gqB R C r c = ok at *
  clear wR wC wr wc
  go_enter Try.func11, Try.ntmps11
  go_wp2_with fail
  refine (HSP.out _).mono ?_
  rintro r w1 ⟨⟨a1, cap1, rfl, hi⟩, hb⟩
  have HB1 : Hid (Below w.heap.size w w1) := below_next (Below.refl _ _) hb
  have sz1 : w.heap.size ≤ w1.heap.size := hb.size
  have S_1 : Hid (RowS w1 w.heap.size w1.heap.size a1 L.length (atZ L)) := RowS.of hi
  clear hb hi
  go_wp2_with fail
  obtain ⟨w2, hw2⟩ : ∃ x, x = w1.alloc (.cells #[.slice a1 L.length cap1] 25) := ⟨_, rfl⟩
  have hb : Below w1.heap.size w1 w2 := hw2 ▸ Go.Joins.below_alloc1 _ _
  have HB2 : Hid (Below w.heap.size w w2) := below_next HB1.out hb
  have sz2 : w1.heap.size < w2.heap.size := by rw [hw2]; simp
  have S_2 : Hid (RowS w2 w.heap.size w1.heap.size a1 L.length (atZ L)) := S_1.out.next hb
  have SB_2 : Hid (BoxS w2 w1.heap.size (.slice a1 L.length cap1)) := hw2 ▸ BoxS.new _ _ _
  rw [← hw2]
  clear hb hw2 S_1 HB1
  refine (HIM.out _).mono ?_
  rintro r w3 ⟨⟨a3, cap3, rfl, hi⟩, hb⟩
  have HB3 : Hid (Below w.heap.size w w3) := below_next HB2.out hb
  have sz3 : w2.heap.size ≤ w3.heap.size := hb.size
  have S_3 : Hid (RowS w3 w.heap.size w1.heap.size a1 L.length (atZ L)) := S_2.out.next hb
  have SB_3 : Hid (BoxS w3 w1.heap.size (.slice a1 L.length cap1)) := SB_2.out.next hb
  have G_3 : Hid (RowS w3 w2.heap.size w3.heap.size a3 L.length (atZ L)) := RowS.of hi
  clear hb hi S_2 SB_2 HB2
  have cSB := SB_3.out.1
  have zSB := SB_3.out.2
  go_wp2_with fail
  obtain ⟨w4, hw4⟩ : ∃ x, x = w3.alloc (.cells #[.slice a3 L.length cap3] 25) := ⟨_, rfl⟩
  have hb : Below w3.heap.size w3 w4 := hw4 ▸ Go.Joins.below_alloc1 _ _
  have HB4 : Hid (Below w.heap.size w w4) := below_next HB3.out hb
  have sz4 : w3.heap.size < w4.heap.size := by rw [hw4]; simp
  have S_4 : Hid (RowS w4 w.heap.size w1.heap.size a1 L.length (atZ L)) := S_3.out.next hb
  have SB_4 : Hid (BoxS w4 w1.heap.size (.slice a1 L.length cap1)) := SB_3.out.next hb
  have G_4 : Hid (RowS w4 w2.heap.size w3.heap.size a3 L.length (atZ L)) := G_3.out.next hb
  have GB_4 : Hid (BoxS w4 w3.heap.size (.slice a3 L.length cap3)) := hw4 ▸ BoxS.new _ _ _
  rw [← hw4]
  clear hb hw4 cSB zSB S_3 SB_3 G_3 HB3
  refine (eqGroup_same _ _ _ _ _ (atZ L) _ hN0 G_4.out.sl S_4.out.sl).mono ?_
  rintro r w5 ⟨rfl, hb⟩
  have HB5 : Hid (Below w.heap.size w w5) := below_next HB4.out hb
  have sz5 : w4.heap.size ≤ w5.heap.size := hb.size
  have S_5 : Hid (RowS w5 w.heap.size w1.heap.size a1 L.length (atZ L)) := S_4.out.next hb
  have SB_5 : Hid (BoxS w5 w1.heap.size (.slice a1 L.length cap1)) := SB_4.out.next hb
  have G_5 : Hid (RowS w5 w2.heap.size w3.heap.size a3 L.length (atZ L)) := G_4.out.next hb
  have GB_5 : Hid (BoxS w5 w3.heap.size (.slice a3 L.length cap3)) := GB_4.out.next hb
  clear hb S_4 SB_4 G_4 GB_4 HB4
  have cGB := GB_5.out.1
  have zGB := GB_5.out.2
  go_wp2_with fail
  refine (markGroup_any _ _ _ (atZ L) _ _ _ _ hN0 (by omega) (by omega) G_5.out.2 G_5.out.1).mono ?_
  rintro r w6 ⟨rfl, hi, ht⟩
  have HB6 : Hid (Below w.heap.size w w6) := below_turn HB5.out ht (by omega)
  have sz6 : w5.heap.size ≤ w6.heap.size := ht.2.2.2.1
  have S_6 : Hid (RowS w6 w.heap.size w1.heap.size a1 L.length (atZ L)) := S_5.out.turn ht (by omega)
  have SB_6 : Hid (BoxS w6 w1.heap.size (.slice a1 L.length cap1)) := SB_5.out.turn ht (by omega)
  have G_6 : Hid (RowS w6 w2.heap.size w3.heap.size a3 L.length (fun i => 1 + (i : Int))) := ⟨hi, Nat.le_trans G_5.out.2 sz6⟩
  have GB_6 : Hid (BoxS w6 w3.heap.size (.slice a3 L.length cap3)) := GB_5.out.turn ht (by omega)
  clear ht hi cGB zGB S_5 SB_5 G_5 GB_5 HB5
  have cGB := GB_6.out.1
  have zGB := GB_6.out.2
  go_wp2_with fail
  refine (heldGroup_any _ _ _ 1 _ hN0 (by omega) (by omega) G_6.out.sl).mono ?_
  rintro r w7 ⟨rfl, hb⟩
  have HB7 : Hid (Below w.heap.size w w7) := below_next HB6.out hb
  have sz7 : w6.heap.size ≤ w7.heap.size := hb.size
  have S_7 : Hid (RowS w7 w.heap.size w1.heap.size a1 L.length (atZ L)) := S_6.out.next hb
  have SB_7 : Hid (BoxS w7 w1.heap.size (.slice a1 L.length cap1)) := SB_6.out.next hb
  have G_7 : Hid (RowS w7 w2.heap.size w3.heap.size a3 L.length (fun i => 1 + (i : Int))) := G_6.out.next hb
  have GB_7 : Hid (BoxS w7 w3.heap.size (.slice a3 L.length cap3)) := GB_6.out.next hb
  clear hb cGB zGB S_6 SB_6 G_6 GB_6 HB6
  go_wp2_with fail
  refine (HIM.out _).mono ?_
  rintro r w8 ⟨⟨a8, cap8, rfl, hi⟩, hb⟩
  have HB8 : Hid (Below w.heap.size w w8) := below_next HB7.out hb
  have sz8 : w7.heap.size ≤ w8.heap.size := hb.size
  have S_8 : Hid (RowS w8 w.heap.size w1.heap.size a1 L.length (atZ L)) := S_7.out.next hb
  have SB_8 : Hid (BoxS w8 w1.heap.size (.slice a1 L.length cap1)) := SB_7.out.next hb
  have G_8 : Hid (RowS w8 w2.heap.size w3.heap.size a3 L.length (fun i => 1 + (i : Int))) := G_7.out.next hb
  have GB_8 : Hid (BoxS w8 w3.heap.size (.slice a3 L.length cap3)) := GB_7.out.next hb
  have H_8 : Hid (RowS w8 w7.heap.size w8.heap.size a8 L.length (atZ L)) := RowS.of hi
  clear hb hi S_7 SB_7 G_7 GB_7 HB7
  have cSB := SB_8.out.1
  have zSB := SB_8.out.2
  go_wp2_with fail
  obtain ⟨w9, hw9⟩ : ∃ x, x = w8.alloc (.cells #[.slice a8 L.length cap8] 25) := ⟨_, rfl⟩
  have hb : Below w8.heap.size w8 w9 := hw9 ▸ Go.Joins.below_alloc1 _ _
  have HB9 : Hid (Below w.heap.size w w9) := below_next HB8.out hb
  have sz9 : w8.heap.size < w9.heap.size := by rw [hw9]; simp
  have S_9 : Hid (RowS w9 w.heap.size w1.heap.size a1 L.length (atZ L)) := S_8.out.next hb
  have SB_9 : Hid (BoxS w9 w1.heap.size (.slice a1 L.length cap1)) := SB_8.out.next hb
  have G_9 : Hid (RowS w9 w2.heap.size w3.heap.size a3 L.length (fun i => 1 + (i : Int))) := G_8.out.next hb
  have GB_9 : Hid (BoxS w9 w3.heap.size (.slice a3 L.length cap3)) := GB_8.out.next hb
  have H_9 : Hid (RowS w9 w7.heap.size w8.heap.size a8 L.length (atZ L)) := H_8.out.next hb
  have HB_9 : Hid (BoxS w9 w8.heap.size (.slice a8 L.length cap8)) := hw9 ▸ BoxS.new _ _ _
  rw [← hw9]
  clear hb hw9 cSB zSB S_8 SB_8 G_8 GB_8 H_8 HB8
  refine (eqGroup_same _ _ _ _ _ (atZ L) _ hN0 H_9.out.sl S_9.out.sl).mono ?_
  rintro r w10 ⟨rfl, hb⟩
  have HB10 : Hid (Below w.heap.size w w10) := below_next HB9.out hb
  have sz10 : w9.heap.size ≤ w10.heap.size := hb.size
  have S_10 : Hid (RowS w10 w.heap.size w1.heap.size a1 L.length (atZ L)) := S_9.out.next hb
  have SB_10 : Hid (BoxS w10 w1.heap.size (.slice a1 L.length cap1)) := SB_9.out.next hb
  have G_10 : Hid (RowS w10 w2.heap.size w3.heap.size a3 L.length (fun i => 1 + (i : Int))) := G_9.out.next hb
  have GB_10 : Hid (BoxS w10 w3.heap.size (.slice a3 L.length cap3)) := GB_9.out.next hb
  have H_10 : Hid (RowS w10 w7.heap.size w8.heap.size a8 L.length (atZ L)) := H_9.out.next hb
  have HB_10 : Hid (BoxS w10 w8.heap.size (.slice a8 L.length cap8)) := HB_9.out.next hb
  clear hb S_9 SB_9 G_9 GB_9 H_9 HB_9 HB9
  have cGB := GB_10.out.1
  have zGB := GB_10.out.2
  go_wp2_with fail
  refine (heldGroup_any _ _ _ 1 _ hN0 (by omega) (by omega) G_10.out.sl).mono ?_
  rintro r w11 ⟨rfl, hb⟩
  have HB11 : Hid (Below w.heap.size w w11) := below_next HB10.out hb
  have sz11 : w10.heap.size ≤ w11.heap.size := hb.size
  have S_11 : Hid (RowS w11 w.heap.size w1.heap.size a1 L.length (atZ L)) := S_10.out.next hb
  have SB_11 : Hid (BoxS w11 w1.heap.size (.slice a1 L.length cap1)) := SB_10.out.next hb
  have G_11 : Hid (RowS w11 w2.heap.size w3.heap.size a3 L.length (fun i => 1 + (i : Int))) := G_10.out.next hb
  have GB_11 : Hid (BoxS w11 w3.heap.size (.slice a3 L.length cap3)) := GB_10.out.next hb
  have H_11 : Hid (RowS w11 w7.heap.size w8.heap.size a8 L.length (atZ L)) := H_10.out.next hb
  have HB_11 : Hid (BoxS w11 w8.heap.size (.slice a8 L.length cap8)) := HB_10.out.next hb
  clear hb cGB zGB S_10 SB_10 G_10 GB_10 H_10 HB_10 HB10
  have HE := HB11
  go_wp2
  go_ret
  exact ⟨rfl, HE.out⟩


theorem own : ownKnob Try.prog.godebug = none := by kernel_rfl
theorem laidOut : laidOutB Try.prog = true := by kernel_rfl

set_option maxRecDepth 100000 in
theorem lifted (os : Os) (started : os.Started) (H : Type) (enc : TypeId × Value → H) :
    ReturnsInHanded {} Try.checked os 11 .any (Rows.fnExactGridQuorumSpec.pre6 enc Try.prog Try.f11 Rows.fnExactGridQuorumRow.domain false) (Rows.fnExactGridQuorumSpec.post enc Try.prog Try.f11 false true false false) := by
  refine returnsInHanded_of_change (C := Try.checked) own started (by kernel_rfl) Try.func11
    (ChangeSpec.witness6 (enc := enc) (C := Try.checked) false ⟨#[], #[.int .i64 0, .int .i64 0, .int .i64 0, .int .i64 0], []⟩ 8 (by kernel_rfl) (by kernel_rfl) (by kernel_rfl) (by kernel_rfl)) ?_
  intro W base args ds gs before hval0 hW hcnd _
  have hval : ∀ (j : Nat) t v, Try.f11.params[j]? = some t → args[j]? = some v → Value.okWide Try.prog W .any base t v := hval0
  have hW' := hW
  obtain ⟨p, q, hA0, hV, rfl, hfz, hnd⟩ := hW
  have hA : DataW.TrodAll enc Try.prog W 0 (fun _ => true) true Try.f11.params.toList args.toList ds p := hA0
  rw [Try.params11] at hA hval
  obtain ⟨v0, vs0, d0, ds0, p0, q0, hargs, rfl, rfl, h0, r0⟩ := trodAll_cons hA
  obtain ⟨v1, vs1, d1, ds1, p1, q1, rfl, rfl, rfl, h1, r1⟩ := trodAll_cons r0
  obtain ⟨v2, vs2, d2, ds2, p2, q2, rfl, rfl, rfl, h2, r2⟩ := trodAll_cons r1
  obtain ⟨v3, vs3, d3, ds3, p3, q3, rfl, rfl, rfl, h3, r3⟩ := trodAll_cons r2
  obtain ⟨rfl, rfl, rfl⟩ := trodAll_nil r3
  obtain rfl : args = #[v0, v1, v2, v3] := by cases args; simp_all
  obtain ⟨rfl, rfl⟩ := trodVars_none hV
  have k0 := h0
  have lt0 : ∀ x ∈ p0, x.block < W.heap.size := by obtain ⟨m, hm⟩ := k0; exact DataW.trod_lt m _ _ _ hm
  obtain ⟨a0, rfl, rfl, rfl, w0⟩ := open_int Try.underlying3 (hval 0 3 v0 rfl rfl) h0
  have k1 := h1
  have lt1 : ∀ x ∈ p1, x.block < W.heap.size := by obtain ⟨m, hm⟩ := k1; exact DataW.trod_lt m _ _ _ hm
  obtain ⟨a1, rfl, rfl, rfl, w1⟩ := open_int Try.underlying3 (hval 1 3 v1 rfl rfl) h1
  have k2 := h2
  have lt2 : ∀ x ∈ p2, x.block < W.heap.size := by obtain ⟨m, hm⟩ := k2; exact DataW.trod_lt m _ _ _ hm
  obtain ⟨a2, rfl, rfl, rfl, w2⟩ := open_int Try.underlying3 (hval 2 3 v2 rfl rfl) h2
  have k3 := h3
  have lt3 : ∀ x ∈ p3, x.block < W.heap.size := by obtain ⟨m, hm⟩ := k3; exact DataW.trod_lt m _ _ _ hm
  obtain ⟨a3, rfl, rfl, rfl, w3⟩ := open_int Try.underlying3 (hval 3 3 v3 rfl rfl) h3
  clear hA0 hval0
  refine (walk (w := W) a0 w0 a1 w1 a2 w2 a3 w3).mono fun e W' ⟨he, bel⟩ => ?_
  subst he
  exact ⟨_, rfl, _, _, _, [], _, [], hW', trodAll_mk1 (shut_bool Try.underlying4 _), (trodAll_cons_mk (Below.trod laidOut (by kernel_rfl) (of_decide_eq_true (by kernel_rfl)) k0 bel lt0) (trodAll_cons_mk (Below.trod laidOut (by kernel_rfl) (of_decide_eq_true (by kernel_rfl)) k1 bel lt1) (trodAll_cons_mk (Below.trod laidOut (by kernel_rfl) (of_decide_eq_true (by kernel_rfl)) k2 bel lt2) (trodAll_cons_mk (Below.trod laidOut (by kernel_rfl) (of_decide_eq_true (by kernel_rfl)) k3 bel lt3) trodAll_mk0)))), rfl, bel.frame _, fun h => by cases h⟩

set_option maxHeartbeats 40000000 in
theorem closed : joinedFacts Try.pinned.checked.prog 11 Try.f11 Rows.fnExactGridQuorumSpec Rows.fnExactGridQuorumRow = true := by
  unfold joinedFacts
  repeat' (first | (with_reducible refine both ?_ ?_) | (with_reducible exact may_enter') | (with_reducible refine lifts_eq ?_) | (with_reducible refine make_eq ?_) | as_aux_lemma => kernel_rfl)
theorem named : Try.pinned.checked.prog.funcNamed Rows.fnExactGridQuorumRow.func = some 11 := by kernel_rfl
theorem over : Rows.fnExactGridQuorumRow.holds Try.pinned (OpenSpec.ofChange Rows.fnExactGridQuorumSpec) :=
  OpenClaim.holds_of_wide 11 Try.f11 rfl rfl rfl rfl rfl rfl rfl ⟨rfl, rfl, rfl, rfl, rfl⟩ rfl rfl rfl rfl rfl named Try.func11 closed
    (of_decide_eq_true (by as_aux_lemma => kernel_rfl)) (by unfold Func.isWrapper; first | (rw [if_pos (by decide +kernel)]; kernel_rfl) | (rw [if_neg (by decide +kernel)]; exact ⟨rfl, rfl⟩))
    (fun os started H enc _ => lifted os started H enc)

end Go.Proofs.Ytalnmollgielcaa.xGridQuorum
namespace Go.Proofs.Ytalnmollgielcaa
theorem xGridQuorum_holds : Rows.FnExactGridQuorumSaid := xGridQuorum.over
#print axioms xGridQuorum_holds
end Go.Proofs.Ytalnmollgielcaa
