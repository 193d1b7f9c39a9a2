/- At every number and every list of groups impl.MinimalOf answers as the specification does, writes into no argument, its answer owns its memory, and each argument reads behind the call as it read before. No condition. -/
import Derived.Test.YtalnmollgielcaaMnT
import Derived.Test.YtalnmollgielcaaGsM
import Derived.Test.YtalnmollgielcaaWords
import Derived.ProofKit
import Derived.OpenShut
import Derived.ShutString
import Derived.ChangeOld
import Derived.Below
import Derived.Lib.SmallJoins
namespace Go.Proofs.Ytalnmollgielcaa.xMinimalOf
open Go.ChangeShapes Go.WideShapes Go.ChangeAt Go.RowKit
open Go.ChangeMaps (open_string shut_string)
set_option linter.unusedVariables false

set_option maxRecDepth 100000 in
set_option maxHeartbeats 4000000 in
theorem walk (m : Int) (wm : (Lit.int .i64 m).wf = true) (a : Option Addr) (n cap : Nat) (V : Nat → GV) (A : Nat → GA) (w : World) (hm : n ≤ maxLen) (hs : GsS w a n V A) (hS : ∀ i, i < n → (V i).n ≤ maxLen) :
    Calls Try.prog 13 #[.int .i64 m, .slice a n cap] w fun r w' => r = .returned (.bool true) ∧ Below w.heap.size w w' := by
  have HS : Hid (GsS w a n V A ∧ (∀ i, i < n → (V i).n ≤ maxLen)) := ⟨hs, hS⟩
  have HM : Hid (-9223372036854775808 ≤ m ∧ m ≤ 9223372036854775807) := wf_bounds wm
  clear hs hS wm
  go_enter Try.func13, Try.ntmps13
  go_wp2_with fail
  refine (szGroupS_any _ _ _ V A _ hm HS.out.1 HS.out.2).mono ?_
  rintro r w1 ⟨l, rfl, hl, hb⟩
  have HB1 : Hid (Below w.heap.size w w1) := hb
  have sz1 : w.heap.size ≤ w1.heap.size := hb.size
  clear hb
  by_cases hneg : l < 0
  · go_wp2
    go_ret
    exact ⟨rfl, HB1.out⟩
  obtain ⟨hn, hz0⟩ := hl (by omega)
  have hnM : n ≤ maxLen := hm
  have HZ : Hid (∀ i, i < n → (V i).n ≤ 1048576) := hz0
  clear hl hz0
  have HSP : Hid (∀ (A' : Nat → GA) (x : Option Addr) (c : Nat) (W : World), (∀ i, i < n → ∃ ad, (A' i).a = some ad) → GsS W x n V A' → Calls Try.prog 30 #[.int .i64 m, .slice x n c] W (MiPost V (miL V n m) (gsB V n m) W)) := fun A' x c W h1 h2 => specMinimalOf_any m x n c V A' W hn HM.out.1 HM.out.2 HZ.out (fun i hi => Or.inl (h1 i hi)) h2
  have HIM : Hid (∀ (A' : Nat → GA) (x : Option Addr) (c : Nat) (W : World), GsS W x n V A' → Calls Try.prog 29 #[.int .i64 m, .slice x n c] W (MiPost V (miL V n m) (gsB V n m) W)) := fun A' x c W h2 => minimalOf_any m x n c V A' W hn HZ.out h2
  have hN : (miL V n m).length ≤ 1048576 := Nat.le_trans (miL_len V n m) (by omega)
  have HZU : Hid (∀ r, r < (miL V n m).length → (anV V (miL V n m) r).n ≤ 1048576) := miL_n HZ.out
  generalize miL V n m = L at *
  generalize gsB V n m = ok at *
  have hs1 : ¬ (1 : Int) + ((sumN V n : Nat) : Int) < 0 := by omega
  have hs2 : ¬ (1 : Int) + ((sumN (anV V L) L.length : Nat) : Int) < 0 := by omega
  go_wp2_with fail
  refine (toGroupS_any _ _ _ V A _ hn HZ.out (HS.out.1.next HB1.out)).mono ?_
  rintro r w2 ⟨A2, b2, som2, rfl, hi, hb⟩
  have HB2 : Hid (Below w.heap.size w w2) := below_next HB1.out hb
  have sz2 : w1.heap.size ≤ w2.heap.size := hb.size
  have D_2 : Hid (GsD w2 (some ⟨w1.heap.size, 0, none⟩) w1.heap.size w1.heap.size w2.heap.size n V A2 b2) := hi
  clear hb hi HB1
  go_wp2_with fail
  refine (HSP.out _ _ _ _ som2 D_2.out.gs).mono ?_
  rintro r w3 ⟨⟨a3, cap3, g3, A3, b3, rfl, hi⟩, hb⟩
  have HB3 : Hid (Below w.heap.size w w3) := below_next HB2.out hb
  have sz3 : w2.heap.size ≤ w3.heap.size := hb.size
  have D_3 : Hid (GsD w3 (some ⟨w1.heap.size, 0, none⟩) w1.heap.size w1.heap.size w2.heap.size n V A2 b2) := D_2.out.next hb
  have S_3 : Hid (GsD w3 a3 g3 w2.heap.size w3.heap.size L.length (anV V L) A3 b3) := hi
  clear hb hi D_2 HB2
  clear D_3
  go_wp2_with fail
  refine (toGroupS_any _ _ _ V A _ hn HZ.out (HS.out.1.next HB3.out)).mono ?_
  rintro r w4 ⟨A4, b4, som4, rfl, hi, hb⟩
  have HB4 : Hid (Below w.heap.size w w4) := below_next HB3.out hb
  have sz4 : w3.heap.size ≤ w4.heap.size := hb.size
  have S_4 : Hid (GsD w4 a3 g3 w2.heap.size w3.heap.size L.length (anV V L) A3 b3) := S_3.out.next hb
  have X_4 : Hid (GsD w4 (some ⟨w3.heap.size, 0, none⟩) w3.heap.size w3.heap.size w4.heap.size n V A4 b4) := hi
  clear hb hi S_3 HB3
  go_wp2_with fail
  refine (HIM.out _ _ _ _ X_4.out.gs).mono ?_
  rintro r w5 ⟨⟨a5, cap5, g5, A5, b5, rfl, hi⟩, hb⟩
  have HB5 : Hid (Below w.heap.size w w5) := below_next HB4.out hb
  have sz5 : w4.heap.size ≤ w5.heap.size := hb.size
  have S_5 : Hid (GsD w5 a3 g3 w2.heap.size w3.heap.size L.length (anV V L) A3 b3) := S_4.out.next hb
  have X_5 : Hid (GsD w5 (some ⟨w3.heap.size, 0, none⟩) w3.heap.size w3.heap.size w4.heap.size n V A4 b4) := X_4.out.next hb
  have G_5 : Hid (GsD w5 a5 g5 w4.heap.size w5.heap.size L.length (anV V L) A5 b5) := hi
  clear hb hi S_4 X_4 HB4
  go_wp2_with fail
  refine (eqGroupS_same _ _ _ _ _ (anV V L) _ _ _ hN HZU.out G_5.out.gs S_5.out.gs).mono ?_
  rintro r w6 ⟨rfl, hb⟩
  have HB6 : Hid (Below w.heap.size w w6) := below_next HB5.out hb
  have sz6 : w5.heap.size ≤ w6.heap.size := hb.size
  have S_6 : Hid (GsD w6 a3 g3 w2.heap.size w3.heap.size L.length (anV V L) A3 b3) := S_5.out.next hb
  have X_6 : Hid (GsD w6 (some ⟨w3.heap.size, 0, none⟩) w3.heap.size w3.heap.size w4.heap.size n V A4 b4) := X_5.out.next hb
  have G_6 : Hid (GsD w6 a5 g5 w4.heap.size w5.heap.size L.length (anV V L) A5 b5) := G_5.out.next hb
  clear hb S_5 X_5 G_5 HB5
  go_wp2_with fail
  refine (toGroupS_any _ _ _ V A _ hn HZ.out (HS.out.1.next HB6.out)).mono ?_
  rintro r w7 ⟨A7, b7, som7, rfl, hi, hb⟩
  have HB7 : Hid (Below w.heap.size w w7) := below_next HB6.out hb
  have sz7 : w6.heap.size ≤ w7.heap.size := hb.size
  have S_7 : Hid (GsD w7 a3 g3 w2.heap.size w3.heap.size L.length (anV V L) A3 b3) := S_6.out.next hb
  have X_7 : Hid (GsD w7 (some ⟨w3.heap.size, 0, none⟩) w3.heap.size w3.heap.size w4.heap.size n V A4 b4) := X_6.out.next hb
  have G_7 : Hid (GsD w7 a5 g5 w4.heap.size w5.heap.size L.length (anV V L) A5 b5) := G_6.out.next hb
  have D_7 : Hid (GsD w7 (some ⟨w6.heap.size, 0, none⟩) w6.heap.size w6.heap.size w7.heap.size n V A7 b7) := hi
  clear hb hi S_6 X_6 G_6 HB6
  go_wp2_with fail
  refine (eqGroupS_same _ _ _ _ _ V _ _ _ hn HZ.out X_7.out.gs D_7.out.gs).mono ?_
  rintro r w8 ⟨rfl, hb⟩
  have HB8 : Hid (Below w.heap.size w w8) := below_next HB7.out hb
  have sz8 : w7.heap.size ≤ w8.heap.size := hb.size
  have S_8 : Hid (GsD w8 a3 g3 w2.heap.size w3.heap.size L.length (anV V L) A3 b3) := S_7.out.next hb
  have X_8 : Hid (GsD w8 (some ⟨w3.heap.size, 0, none⟩) w3.heap.size w3.heap.size w4.heap.size n V A4 b4) := X_7.out.next hb
  have G_8 : Hid (GsD w8 a5 g5 w4.heap.size w5.heap.size L.length (anV V L) A5 b5) := G_7.out.next hb
  have D_8 : Hid (GsD w8 (some ⟨w6.heap.size, 0, none⟩) w6.heap.size w6.heap.size w7.heap.size n V A7 b7) := D_7.out.next hb
  clear hb S_7 X_7 G_7 D_7 HB7
  clear D_8
  go_wp2_with fail
  refine (markGroupS_any _ _ _ _ _ _ V _ _ 1 _ hn (by omega) (by omega) HZ.out X_8.out (by omega)).mono ?_
  rintro r w9 ⟨rfl, hi, ht⟩
  have HB9 : Hid (Below w.heap.size w w9) := below_turn HB8.out ht (by omega)
  have sz9 : w8.heap.size ≤ w9.heap.size := ht.2.2.2.1
  have S_9 : Hid (GsD w9 a3 g3 w2.heap.size w3.heap.size L.length (anV V L) A3 b3) := S_8.out.turn ht (by omega)
  have X_9 : Hid (GsD w9 (some ⟨w3.heap.size, 0, none⟩) w3.heap.size w3.heap.size w4.heap.size n (mkV V 1 n) A4 b4) := hi
  have G_9 : Hid (GsD w9 a5 g5 w4.heap.size w5.heap.size L.length (anV V L) A5 b5) := G_8.out.turn ht (by omega)
  clear ht hi S_8 X_8 G_8 HB8
  clear X_9
  go_wp2_with fail
  refine (eqGroupS_same _ _ _ _ _ (anV V L) _ _ _ hN HZU.out G_9.out.gs S_9.out.gs).mono ?_
  rintro r w10 ⟨rfl, hb⟩
  have HB10 : Hid (Below w.heap.size w w10) := below_next HB9.out hb
  have sz10 : w9.heap.size ≤ w10.heap.size := hb.size
  have S_10 : Hid (GsD w10 a3 g3 w2.heap.size w3.heap.size L.length (anV V L) A3 b3) := S_9.out.next hb
  have G_10 : Hid (GsD w10 a5 g5 w4.heap.size w5.heap.size L.length (anV V L) A5 b5) := G_9.out.next hb
  clear hb S_9 G_9 HB9
  go_wp2_with fail
  refine (markGroupS_any _ _ _ _ _ _ (anV V L) _ _ 1 _ hN (by omega) (by omega) HZU.out G_10.out (by omega)).mono ?_
  rintro r w11 ⟨rfl, hi, ht⟩
  have HB11 : Hid (Below w.heap.size w w11) := below_turn HB10.out ht (by omega)
  have sz11 : w10.heap.size ≤ w11.heap.size := ht.2.2.2.1
  have S_11 : Hid (GsD w11 a3 g3 w2.heap.size w3.heap.size L.length (anV V L) A3 b3) := S_10.out.turn ht (by omega)
  have G_11 : Hid (GsD w11 a5 g5 w4.heap.size w5.heap.size L.length (mkV (anV V L) 1 L.length) A5 b5) := hi
  clear ht hi S_10 G_10 HB10
  go_wp2_with fail
  refine (heldGroupS_any _ _ _ (anV V L) _ 1 _ hN (by omega) (by omega) HZU.out G_11.out.gs).mono ?_
  rintro r w' ⟨rfl, hw⟩
  have hw := hw.symm
  subst hw
  go_wp2_with fail
  refine (toGroupS_any _ _ _ V A _ hn HZ.out (HS.out.1.next HB11.out)).mono ?_
  rintro r w12 ⟨A12, b12, som12, rfl, hi, hb⟩
  have HB12 : Hid (Below w.heap.size w w12) := below_next HB11.out hb
  have sz12 : w11.heap.size ≤ w12.heap.size := hb.size
  have S_12 : Hid (GsD w12 a3 g3 w2.heap.size w3.heap.size L.length (anV V L) A3 b3) := S_11.out.next hb
  have G_12 : Hid (GsD w12 a5 g5 w4.heap.size w5.heap.size L.length (mkV (anV V L) 1 L.length) A5 b5) := G_11.out.next hb
  have D_12 : Hid (GsD w12 (some ⟨w11.heap.size, 0, none⟩) w11.heap.size w11.heap.size w12.heap.size n V A12 b12) := hi
  clear hb hi S_11 G_11 HB11
  go_wp2_with fail
  refine (HIM.out _ _ _ _ D_12.out.gs).mono ?_
  rintro r w13 ⟨⟨a13, cap13, g13, A13, b13, rfl, hi⟩, hb⟩
  have HB13 : Hid (Below w.heap.size w w13) := below_next HB12.out hb
  have sz13 : w12.heap.size ≤ w13.heap.size := hb.size
  have S_13 : Hid (GsD w13 a3 g3 w2.heap.size w3.heap.size L.length (anV V L) A3 b3) := S_12.out.next hb
  have G_13 : Hid (GsD w13 a5 g5 w4.heap.size w5.heap.size L.length (mkV (anV V L) 1 L.length) A5 b5) := G_12.out.next hb
  have D_13 : Hid (GsD w13 (some ⟨w11.heap.size, 0, none⟩) w11.heap.size w11.heap.size w12.heap.size n V A12 b12) := D_12.out.next hb
  have H_13 : Hid (GsD w13 a13 g13 w12.heap.size w13.heap.size L.length (anV V L) A13 b13) := hi
  clear hb hi S_12 G_12 D_12 HB12
  clear D_13
  go_wp2_with fail
  refine (eqGroupS_same _ _ _ _ _ (anV V L) _ _ _ hN HZU.out H_13.out.gs S_13.out.gs).mono ?_
  rintro r w14 ⟨rfl, hb⟩
  have HB14 : Hid (Below w.heap.size w w14) := below_next HB13.out hb
  have sz14 : w13.heap.size ≤ w14.heap.size := hb.size
  have S_14 : Hid (GsD w14 a3 g3 w2.heap.size w3.heap.size L.length (anV V L) A3 b3) := S_13.out.next hb
  have G_14 : Hid (GsD w14 a5 g5 w4.heap.size w5.heap.size L.length (mkV (anV V L) 1 L.length) A5 b5) := G_13.out.next hb
  have H_14 : Hid (GsD w14 a13 g13 w12.heap.size w13.heap.size L.length (anV V L) A13 b13) := H_13.out.next hb
  clear hb S_13 G_13 H_13 HB13
  go_wp2_with fail
  refine (heldGroupS_any _ _ _ (anV V L) _ 1 _ hN (by omega) (by omega) HZU.out G_14.out.gs).mono ?_
  rintro r w' ⟨rfl, hw⟩
  have hw := hw.symm
  subst hw
  have HE := HB14
  go_wp2
  go_ret
  exact ⟨rfl, HE.out⟩


theorem own : ownKnob Try.prog.godebug = none := by kernel_rfl
theorem laidOut : laidOutB Try.prog = true := by kernel_rfl

set_option maxRecDepth 100000 in
theorem lifted (os : Os) (started : os.Started) (H : Type) (enc : TypeId × Value → H) :
    ReturnsInHanded {} Try.checked os 13 .any (Rows.fnExactMinimalOfSpec.pre6 enc Try.prog Try.f13 Rows.fnExactMinimalOfRow.domain false) (Rows.fnExactMinimalOfSpec.post enc Try.prog Try.f13 false true false false) := by
  refine returnsInHanded_of_change (C := Try.checked) own started (by kernel_rfl) Try.func13
    (ChangeSpec.witness6 (enc := enc) (C := Try.checked) false ⟨#[], #[.int .i64 0, .slice none 0 0], []⟩ 8 (by kernel_rfl) (by kernel_rfl) (by kernel_rfl) (by kernel_rfl)) ?_
  intro W base args ds gs before hval0 hW hcnd _
  have hval : ∀ (j : Nat) t v, Try.f13.params[j]? = some t → args[j]? = some v → Value.okWide Try.prog W .any base t v := hval0
  have hW' := hW
  obtain ⟨p, q, hA0, hV, rfl, hfz, hnd⟩ := hW
  have hA : DataW.TrodAll enc Try.prog W 0 (fun _ => true) true Try.f13.params.toList args.toList ds p := hA0
  rw [Try.params13] at hA hval
  obtain ⟨v0, vs0, d0, ds0, p0, q0, hargs, rfl, rfl, h0, r0⟩ := trodAll_cons hA
  obtain ⟨v1, vs1, d1, ds1, p1, q1, rfl, rfl, rfl, h1, r1⟩ := trodAll_cons r0
  obtain ⟨rfl, rfl, rfl⟩ := trodAll_nil r1
  obtain rfl : args = #[v0, v1] := by cases args; simp_all
  obtain ⟨rfl, rfl⟩ := trodVars_none hV
  have k0 := h0
  have lt0 : ∀ x ∈ p0, x.block < W.heap.size := by obtain ⟨m, hm⟩ := k0; exact DataW.trod_lt m _ _ _ hm
  obtain ⟨a0, rfl, rfl, rfl, w0⟩ := open_int Try.underlying3 (hval 0 3 v0 rfl rfl) h0
  have k1 := h1
  have lt1 : ∀ x ∈ p1, x.block < W.heap.size := by obtain ⟨m, hm⟩ := k1; exact DataW.trod_lt m _ _ _ hm
  obtain ⟨a1, len1, cap1, rfl⟩ := okWide_slice Try.underlying60 (hval 1 60 v1 rfl rfl)
  obtain ⟨n1, V1, A1, s1, b1⟩ := open_groups h1
  clear hA0 hval0
  refine (walk (w := W) a0 w0 a1 len1 cap1 V1 A1 n1 s1 b1).mono fun e W' ⟨he, bel⟩ => ?_
  subst he
  exact ⟨_, rfl, _, _, _, [], _, [], hW', trodAll_mk1 (shut_bool Try.underlying4 _), (trodAll_cons_mk (Below.trod laidOut (by kernel_rfl) (of_decide_eq_true (by kernel_rfl)) k0 bel lt0) (trodAll_cons_mk (Below.trod laidOut (by kernel_rfl) (of_decide_eq_true (by kernel_rfl)) k1 bel lt1) trodAll_mk0)), rfl, bel.frame _, fun h => by cases h⟩

set_option maxHeartbeats 40000000 in
theorem closed : joinedFacts Try.pinned.checked.prog 13 Try.f13 Rows.fnExactMinimalOfSpec Rows.fnExactMinimalOfRow = true := by
  unfold joinedFacts
  repeat' (first | (with_reducible refine both ?_ ?_) | (with_reducible exact may_enter') | (with_reducible refine lifts_eq ?_) | (with_reducible refine make_eq ?_) | as_aux_lemma => kernel_rfl)
theorem named : Try.pinned.checked.prog.funcNamed Rows.fnExactMinimalOfRow.func = some 13 := by kernel_rfl
theorem over : Rows.fnExactMinimalOfRow.holds Try.pinned (OpenSpec.ofChange Rows.fnExactMinimalOfSpec) :=
  OpenClaim.holds_of_wide 13 Try.f13 rfl rfl rfl rfl rfl rfl rfl ⟨rfl, rfl, rfl, rfl, rfl⟩ rfl rfl rfl rfl rfl named Try.func13 closed
    (of_decide_eq_true (by as_aux_lemma => kernel_rfl)) (by unfold Func.isWrapper; first | (rw [if_pos (by decide +kernel)]; kernel_rfl) | (rw [if_neg (by decide +kernel)]; exact ⟨rfl, rfl⟩))
    (fun os started H enc _ => lifted os started H enc)

end Go.Proofs.Ytalnmollgielcaa.xMinimalOf
namespace Go.Proofs.Ytalnmollgielcaa
theorem xMinimalOf_holds : Rows.FnExactMinimalOfSaid := xMinimalOf.over
#print axioms xMinimalOf_holds
end Go.Proofs.Ytalnmollgielcaa
