/- At every number and every list of groups impl.AllMeet answers as the specification does, writes into no argument, and each argument reads behind the call as it read before. No condition. -/
import Derived.Test.YtalnmollgielcaaAmO
import Derived.Test.YtalnmollgielcaaGsM
import Derived.Test.YtalnmollgielcaaWords
import Derived.ProofKit
import Derived.OpenShut
import Derived.ShutString
import Derived.ChangeOld
import Derived.Below
import Derived.Lib.SmallJoins
namespace Go.Proofs.Ytalnmollgielcaa.xAllMeet
open Go.ChangeShapes Go.WideShapes Go.ChangeAt Go.RowKit
open Go.ChangeMaps (open_string shut_string)
set_option linter.unusedVariables false

set_option maxRecDepth 100000 in
set_option maxHeartbeats 4000000 in
theorem walk (m : Int) (wm : (Lit.int .i64 m).wf = true) (a : Option Addr) (n cap : Nat) (V : Nat → GV) (A : Nat → GA) (w : World) (hm : n ≤ maxLen) (hs : GsS w a n V A) (hS : ∀ i, i < n → (V i).n ≤ maxLen) :
    Calls Try.prog 12 #[.int .i64 m, .slice a n cap] w fun r w' => r = .returned (.bool true) ∧ Below w.heap.size w w' := by
  have HS : Hid (GsS w a n V A ∧ (∀ i, i < n → (V i).n ≤ maxLen)) := ⟨hs, hS⟩
  have HM : Hid (-9223372036854775808 ≤ m ∧ m ≤ 9223372036854775807) := wf_bounds wm
  clear hs hS wm
  go_enter Try.func12, Try.ntmps12
  go_wp2_with fail
  refine (szGroupS_any _ _ _ V A _ hm HS.out.1 HS.out.2).mono ?_
  rintro r w1 ⟨l, rfl, hl, hb⟩
  have HB1 : Hid (Below w.heap.size w w1) := hb
  have sz1 : w.heap.size ≤ w1.heap.size := hb.size
  clear hb
  by_cases hneg : l < 0
  · go_wp2
    go_ret
    exact ⟨rfl, HB1.out⟩
  obtain ⟨hn, hz0⟩ := hl (by omega)
  have hnM : n ≤ maxLen := hm
  have HZ : Hid (∀ i, i < n → (V i).n ≤ 1048576) := hz0
  clear hl hz0
  go_wp2_with fail
  refine (toGroupS_any _ _ _ V A _ hn HZ.out (HS.out.1.next HB1.out)).mono ?_
  rintro r w2 ⟨A2, b2, rfl, hi, hb⟩
  have HB2 : Hid (Below w.heap.size w w2) := below_next HB1.out hb
  have sz2 : w1.heap.size ≤ w2.heap.size := hb.size
  have D_2 : Hid (GsD w2 (some ⟨w1.heap.size, 0, none⟩) w1.heap.size w1.heap.size w2.heap.size n V A2 b2) := hi
  clear hb hi HB1
  go_wp2_with fail
  refine (specAllMeet_any m _ _ _ V _ _ hn (Nat.le_refl _) hnM HM.out.1 HM.out.2 HZ.out D_2.out.gs).mono ?_
  rintro r w3 ⟨rfl, hb⟩
  have HB3 : Hid (Below w.heap.size w w3) := below_next HB2.out hb
  have sz3 : w2.heap.size ≤ w3.heap.size := hb.size
  have D_3 : Hid (GsD w3 (some ⟨w1.heap.size, 0, none⟩) w1.heap.size w1.heap.size w2.heap.size n V A2 b2) := D_2.out.next hb
  clear hb D_2 HB2
  clear D_3
  go_wp2_with fail
  refine (toGroupS_any _ _ _ V A _ hn HZ.out (HS.out.1.next HB3.out)).mono ?_
  rintro r w4 ⟨A4, b4, rfl, hi, hb⟩
  have HB4 : Hid (Below w.heap.size w w4) := below_next HB3.out hb
  have sz4 : w3.heap.size ≤ w4.heap.size := hb.size
  have X_4 : Hid (GsD w4 (some ⟨w3.heap.size, 0, none⟩) w3.heap.size w3.heap.size w4.heap.size n V A4 b4) := hi
  clear hb hi HB3
  go_wp2_with fail
  refine (allMeet_any m _ _ _ V _ _ hn HZ.out X_4.out.gs).mono ?_
  rintro r w5 ⟨rfl, hb⟩
  have HB5 : Hid (Below w.heap.size w w5) := below_next HB4.out hb
  have sz5 : w4.heap.size ≤ w5.heap.size := hb.size
  have X_5 : Hid (GsD w5 (some ⟨w3.heap.size, 0, none⟩) w3.heap.size w3.heap.size w4.heap.size n V A4 b4) := X_4.out.next hb
  clear hb X_4 HB4
  generalize amB V n m = y at *
  generalize gsB V n m = z at *
  go_wp2_with fail
  refine (toGroupS_any _ _ _ V A _ hn HZ.out (HS.out.1.next HB5.out)).mono ?_
  rintro r w6 ⟨A6, b6, rfl, hi, hb⟩
  have HB6 : Hid (Below w.heap.size w w6) := below_next HB5.out hb
  have sz6 : w5.heap.size ≤ w6.heap.size := hb.size
  have X_6 : Hid (GsD w6 (some ⟨w3.heap.size, 0, none⟩) w3.heap.size w3.heap.size w4.heap.size n V A4 b4) := X_5.out.next hb
  have D_6 : Hid (GsD w6 (some ⟨w5.heap.size, 0, none⟩) w5.heap.size w5.heap.size w6.heap.size n V A6 b6) := hi
  clear hb hi X_5 HB5
  go_wp2_with fail
  refine (eqGroupS_same _ _ _ _ _ V _ _ _ hn HZ.out X_6.out.gs D_6.out.gs).mono ?_
  rintro r w7 ⟨rfl, hb⟩
  have HB7 : Hid (Below w.heap.size w w7) := below_next HB6.out hb
  have sz7 : w6.heap.size ≤ w7.heap.size := hb.size
  have X_7 : Hid (GsD w7 (some ⟨w3.heap.size, 0, none⟩) w3.heap.size w3.heap.size w4.heap.size n V A4 b4) := X_6.out.next hb
  have D_7 : Hid (GsD w7 (some ⟨w5.heap.size, 0, none⟩) w5.heap.size w5.heap.size w6.heap.size n V A6 b6) := D_6.out.next hb
  clear hb X_6 D_6 HB6
  have HE := HB7
  go_wp2
  go_ret
  exact ⟨rfl, HE.out⟩


theorem own : ownKnob Try.prog.godebug = none := by kernel_rfl
theorem laidOut : laidOutB Try.prog = true := by kernel_rfl

set_option maxRecDepth 100000 in
theorem lifted (os : Os) (started : os.Started) (H : Type) (enc : TypeId × Value → H) :
    ReturnsInHanded {} Try.checked os 12 .any (Rows.fnExactAllMeetSpec.pre6 enc Try.prog Try.f12 Rows.fnExactAllMeetRow.domain false) (Rows.fnExactAllMeetSpec.post enc Try.prog Try.f12 false true false false) := by
  refine returnsInHanded_of_change (C := Try.checked) own started (by kernel_rfl) Try.func12
    (ChangeSpec.witness6 (enc := enc) (C := Try.checked) false ⟨#[], #[.int .i64 0, .slice none 0 0], []⟩ 8 (by kernel_rfl) (by kernel_rfl) (by kernel_rfl) (by kernel_rfl)) ?_
  intro W base args ds gs before hval0 hW hcnd _
  have hval : ∀ (j : Nat) t v, Try.f12.params[j]? = some t → args[j]? = some v → Value.okWide Try.prog W .any base t v := hval0
  have hW' := hW
  obtain ⟨p, q, hA0, hV, rfl, hfz, hnd⟩ := hW
  have hA : DataW.TrodAll enc Try.prog W 0 (fun _ => true) true Try.f12.params.toList args.toList ds p := hA0
  rw [Try.params12] at hA hval
  obtain ⟨v0, vs0, d0, ds0, p0, q0, hargs, rfl, rfl, h0, r0⟩ := trodAll_cons hA
  obtain ⟨v1, vs1, d1, ds1, p1, q1, rfl, rfl, rfl, h1, r1⟩ := trodAll_cons r0
  obtain ⟨rfl, rfl, rfl⟩ := trodAll_nil r1
  obtain rfl : args = #[v0, v1] := by cases args; simp_all
  obtain ⟨rfl, rfl⟩ := trodVars_none hV
  have k0 := h0
  have lt0 : ∀ x ∈ p0, x.block < W.heap.size := by obtain ⟨m, hm⟩ := k0; exact DataW.trod_lt m _ _ _ hm
  obtain ⟨a0, rfl, rfl, rfl, w0⟩ := open_int Try.underlying3 (hval 0 3 v0 rfl rfl) h0
  have k1 := h1
  have lt1 : ∀ x ∈ p1, x.block < W.heap.size := by obtain ⟨m, hm⟩ := k1; exact DataW.trod_lt m _ _ _ hm
  obtain ⟨a1, len1, cap1, rfl⟩ := okWide_slice Try.underlying60 (hval 1 60 v1 rfl rfl)
  obtain ⟨n1, V1, A1, s1, b1⟩ := open_groups h1
  clear hA0 hval0
  refine (walk (w := W) a0 w0 a1 len1 cap1 V1 A1 n1 s1 b1).mono fun e W' ⟨he, bel⟩ => ?_
  subst he
  exact ⟨_, rfl, _, _, _, [], _, [], hW', trodAll_mk1 (shut_bool Try.underlying4 _), (trodAll_cons_mk (Below.trod laidOut (by kernel_rfl) (of_decide_eq_true (by kernel_rfl)) k0 bel lt0) (trodAll_cons_mk (Below.trod laidOut (by kernel_rfl) (of_decide_eq_true (by kernel_rfl)) k1 bel lt1) trodAll_mk0)), rfl, bel.frame _, fun h => by cases h⟩

set_option maxHeartbeats 40000000 in
theorem closed : joinedFacts Try.pinned.checked.prog 12 Try.f12 Rows.fnExactAllMeetSpec Rows.fnExactAllMeetRow = true := by
  unfold joinedFacts
  repeat' (first | (with_reducible refine both ?_ ?_) | (with_reducible exact may_enter') | (with_reducible refine lifts_eq ?_) | (with_reducible refine make_eq ?_) | as_aux_lemma => kernel_rfl)
theorem named : Try.pinned.checked.prog.funcNamed Rows.fnExactAllMeetRow.func = some 12 := by kernel_rfl
theorem over : Rows.fnExactAllMeetRow.holds Try.pinned (OpenSpec.ofChange Rows.fnExactAllMeetSpec) :=
  OpenClaim.holds_of_wide 12 Try.f12 rfl rfl rfl rfl rfl rfl rfl ⟨rfl, rfl, rfl, rfl, rfl⟩ rfl rfl rfl rfl rfl named Try.func12 closed
    (of_decide_eq_true (by as_aux_lemma => kernel_rfl)) (by unfold Func.isWrapper; first | (rw [if_pos (by decide +kernel)]; kernel_rfl) | (rw [if_neg (by decide +kernel)]; exact ⟨rfl, rfl⟩))
    (fun os started H enc _ => lifted os started H enc)

end Go.Proofs.Ytalnmollgielcaa.xAllMeet
namespace Go.Proofs.Ytalnmollgielcaa
theorem xAllMeet_holds : Rows.FnExactAllMeetSaid := xAllMeet.over
#print axioms xAllMeet_holds
end Go.Proofs.Ytalnmollgielcaa
