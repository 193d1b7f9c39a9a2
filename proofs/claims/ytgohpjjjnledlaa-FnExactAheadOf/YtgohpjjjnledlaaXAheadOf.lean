/- At every list of events and every two numbers impl.AheadOf answers as the specification does, writes into no argument, and each argument reads behind the call as it read before. No condition. -/
import Derived.Test.YtgohpjjjnledlaaVcS
import Derived.Test.YtgohpjjjnledlaaWords
import Derived.ProofKit
import Derived.OpenShut
import Derived.ShutString
import Derived.ChangeOld
import Derived.Below
import Derived.Lib.SmallJoins
namespace Go.Proofs.Ytgohpjjjnledlaa.xAheadOf
open Go.ChangeShapes Go.WideShapes Go.ChangeAt Go.RowKit
open Go.ChangeMaps (open_string shut_string)
set_option linter.unusedVariables false

set_option maxHeartbeats 4000000 in
theorem walk (a : Option Addr) (n cap : Nat) (K P M : Nat → Int) (w : World) (hm : n ≤ maxLen) (hs : Sl w a n 3 (evF K P M)) (hM : ∀ i, i < n → -9223372036854775808 ≤ M i ∧ M i ≤ 9223372036854775807) (i : Int) (wi : (Lit.int .i64 i).wf = true) (j : Int) (wj : (Lit.int .i64 j).wf = true) :
    Calls Try.prog 11 #[.slice a n cap, .int .i64 i, .int .i64 j] w fun r w' => r = .returned (.bool true) ∧ Below w.heap.size w w' := by
  have HS : Hid (Sl w a n 3 (evF K P M) ∧ (∀ i, i < n → -9223372036854775808 ≤ M i ∧ M i ≤ 9223372036854775807)) := ⟨hs, hM⟩
  clear hs hM
  by_cases hn : n ≤ 1048576
  case neg =>
    have hlt : (1048576 : Int) < (n : Int) := by omega
    go_enter Try.func11, Try.ntmps11
    go_wp2_with (go_at_call 58; refine (szEventS_any _ _ _ _ _ hm (by omega) (by omega)).mono ?_; rintro e w' ⟨rfl, rfl⟩; rw [if_pos hlt])
    go_ret
    exact ⟨rfl, Below.refl _ _⟩
  case pos =>
  have hlt : ¬ (1048576 : Int) < (n : Int) := by omega
  have hge : ¬ (1048576 : Int) - (n : Int) < 0 := by omega
  go_enter Try.func11, Try.ntmps11
  go_wp2_with fail
  refine (szEventS_any _ _ _ _ _ hm (by omega) (by omega)).mono ?_
  rintro e w0 ⟨rfl, hw⟩
  have hw := hw.symm
  subst hw
  rw [if_neg (by omega)]
  go_wp2_with fail
  refine (toEventS_any _ _ _ K P M _ hn (HS.out.1.kept (Below.refl _ _))).mono ?_
  rintro r w1 ⟨rfl, hi, hg, hb⟩
  have HB1 : Hid (Below w.heap.size w w1) := below_next (Below.refl _ _) hb
  have sz1 : w.heap.size ≤ w1.heap.size := hb.size
  have A_1 : Hid (EvR w1 w.heap.size n K P M) := hi
  clear hb hi hg
  go_wp2_with fail
  refine (specAheadOf_any _ _ _ K P M i j _ hn (Nat.le_refl _) A_1.out.sl).mono ?_
  rintro r w2 ⟨rfl, hb⟩
  have HB2 : Hid (Below w.heap.size w w2) := below_next HB1.out hb
  have sz2 : w1.heap.size ≤ w2.heap.size := hb.size
  have A_2 : Hid (EvR w2 w.heap.size n K P M) := A_1.out.next hb
  clear hb A_1 HB1
  clear A_2
  go_wp2_with fail
  refine (toEventS_any _ _ _ K P M _ hn (HS.out.1.kept HB2.out)).mono ?_
  rintro r w3 ⟨rfl, hi, hg, hb⟩
  have HB3 : Hid (Below w.heap.size w w3) := below_next HB2.out hb
  have sz3 : w2.heap.size ≤ w3.heap.size := hb.size
  have X_3 : Hid (EvR w3 w2.heap.size n K P M) := hi
  clear hb hi hg HB2
  go_wp2_with fail
  refine (aheadOf_any _ _ _ K P M i j _ hn HS.out.2 X_3.out.sl).mono ?_
  rintro r w4 ⟨rfl, hb⟩
  have HB4 : Hid (Below w.heap.size w w4) := below_next HB3.out hb
  have sz4 : w3.heap.size ≤ w4.heap.size := hb.size
  have X_4 : Hid (EvR w4 w2.heap.size n K P M) := X_3.out.next hb
  clear hb X_3 HB3
  generalize ahB K P M n i j = b1 at *
  generalize ahOk K P M n i j = b2 at *
  go_wp2_with fail
  refine (toEventS_any _ _ _ K P M _ hn (HS.out.1.kept HB4.out)).mono ?_
  rintro r w5 ⟨rfl, hi, hg, hb⟩
  have HB5 : Hid (Below w.heap.size w w5) := below_next HB4.out hb
  have sz5 : w4.heap.size ≤ w5.heap.size := hb.size
  have X_5 : Hid (EvR w5 w2.heap.size n K P M) := X_4.out.next hb
  have A_5 : Hid (EvR w5 w4.heap.size n K P M) := hi
  clear hb hi hg X_4 HB4
  go_wp2_with fail
  refine (eqEventS_same _ _ _ _ _ K P M _ hn X_5.out.sl A_5.out.sl).mono ?_
  rintro r w6 ⟨rfl, hb⟩
  have HB6 : Hid (Below w.heap.size w w6) := below_next HB5.out hb
  have sz6 : w5.heap.size ≤ w6.heap.size := hb.size
  have X_6 : Hid (EvR w6 w2.heap.size n K P M) := X_5.out.next hb
  have A_6 : Hid (EvR w6 w4.heap.size n K P M) := A_5.out.next hb
  clear hb X_5 A_5 HB5
  have HE := HB6
  go_wp2
  go_ret
  exact ⟨rfl, HE.out⟩


theorem own : ownKnob Try.prog.godebug = none := by kernel_rfl
theorem laidOut : laidOutB Try.prog = true := by kernel_rfl

set_option maxRecDepth 100000 in
theorem lifted (os : Os) (started : os.Started) (H : Type) (enc : TypeId × Value → H) :
    ReturnsInHanded {} Try.checked os 11 .any (Rows.fnExactAheadOfSpec.pre6 enc Try.prog Try.f11 Rows.fnExactAheadOfRow.domain false) (Rows.fnExactAheadOfSpec.post enc Try.prog Try.f11 false true false false) := by
  refine returnsInHanded_of_change (C := Try.checked) own started (by kernel_rfl) Try.func11
    (ChangeSpec.witness6 (enc := enc) (C := Try.checked) false ⟨#[], #[.slice none 0 0, .int .i64 0, .int .i64 0], []⟩ 8 (by kernel_rfl) (by kernel_rfl) (by kernel_rfl) (by kernel_rfl)) ?_
  intro W base args ds gs before hval0 hW hcnd _
  have hval : ∀ (j : Nat) t v, Try.f11.params[j]? = some t → args[j]? = some v → Value.okWide Try.prog W .any base t v := hval0
  have hW' := hW
  obtain ⟨p, q, hA0, hV, rfl, hfz, hnd⟩ := hW
  have hA : DataW.TrodAll enc Try.prog W 0 (fun _ => true) true Try.f11.params.toList args.toList ds p := hA0
  rw [Try.params11] at hA hval
  obtain ⟨v0, vs0, d0, ds0, p0, q0, hargs, rfl, rfl, h0, r0⟩ := trodAll_cons hA
  obtain ⟨v1, vs1, d1, ds1, p1, q1, rfl, rfl, rfl, h1, r1⟩ := trodAll_cons r0
  obtain ⟨v2, vs2, d2, ds2, p2, q2, rfl, rfl, rfl, h2, r2⟩ := trodAll_cons r1
  obtain ⟨rfl, rfl, rfl⟩ := trodAll_nil r2
  obtain rfl : args = #[v0, v1, v2] := by cases args; simp_all
  obtain ⟨rfl, rfl⟩ := trodVars_none hV
  have k0 := h0
  have lt0 : ∀ x ∈ p0, x.block < W.heap.size := by obtain ⟨m, hm⟩ := k0; exact DataW.trod_lt m _ _ _ hm
  obtain ⟨a0, len0, cap0, rfl⟩ := okWide_slice Try.underlying74 (hval 0 74 v0 rfl rfl)
  obtain ⟨n0, K0, P0, M0, s0, b0⟩ := open_events h0
  have k1 := h1
  have lt1 : ∀ x ∈ p1, x.block < W.heap.size := by obtain ⟨m, hm⟩ := k1; exact DataW.trod_lt m _ _ _ hm
  obtain ⟨a1, rfl, rfl, rfl, w1⟩ := open_int Try.underlying3 (hval 1 3 v1 rfl rfl) h1
  have k2 := h2
  have lt2 : ∀ x ∈ p2, x.block < W.heap.size := by obtain ⟨m, hm⟩ := k2; exact DataW.trod_lt m _ _ _ hm
  obtain ⟨a2, rfl, rfl, rfl, w2⟩ := open_int Try.underlying3 (hval 2 3 v2 rfl rfl) h2
  clear hA0 hval0
  refine (walk (w := W) a0 len0 cap0 K0 P0 M0 n0 s0 b0 a1 w1 a2 w2).mono fun e W' ⟨he, bel⟩ => ?_
  subst he
  exact ⟨_, rfl, _, _, _, [], _, [], hW', trodAll_mk1 (shut_bool Try.underlying4 _), (trodAll_cons_mk (Below.trod laidOut (by kernel_rfl) (of_decide_eq_true (by kernel_rfl)) k0 bel lt0) (trodAll_cons_mk (Below.trod laidOut (by kernel_rfl) (of_decide_eq_true (by kernel_rfl)) k1 bel lt1) (trodAll_cons_mk (Below.trod laidOut (by kernel_rfl) (of_decide_eq_true (by kernel_rfl)) k2 bel lt2) trodAll_mk0))), rfl, bel.frame _, fun h => by cases h⟩

set_option maxHeartbeats 40000000 in
theorem closed : joinedFacts Try.pinned.checked.prog 11 Try.f11 Rows.fnExactAheadOfSpec Rows.fnExactAheadOfRow = true := by
  unfold joinedFacts
  repeat' (first | (with_reducible refine both ?_ ?_) | (with_reducible exact may_enter') | (with_reducible refine lifts_eq ?_) | (with_reducible refine make_eq ?_) | as_aux_lemma => kernel_rfl)
theorem named : Try.pinned.checked.prog.funcNamed Rows.fnExactAheadOfRow.func = some 11 := by kernel_rfl
theorem over : Rows.fnExactAheadOfRow.holds Try.pinned (OpenSpec.ofChange Rows.fnExactAheadOfSpec) :=
  OpenClaim.holds_of_wide 11 Try.f11 rfl rfl rfl rfl rfl rfl rfl ⟨rfl, rfl, rfl, rfl, rfl⟩ rfl rfl rfl rfl rfl named Try.func11 closed
    (of_decide_eq_true (by as_aux_lemma => kernel_rfl)) (by unfold Func.isWrapper; first | (rw [if_pos (by decide +kernel)]; kernel_rfl) | (rw [if_neg (by decide +kernel)]; exact ⟨rfl, rfl⟩))
    (fun os started H enc _ => lifted os started H enc)

end Go.Proofs.Ytgohpjjjnledlaa.xAheadOf
namespace Go.Proofs.Ytgohpjjjnledlaa
theorem xAheadOf_holds : Rows.FnExactAheadOfSaid := xAheadOf.over
#print axioms xAheadOf_holds
end Go.Proofs.Ytgohpjjjnledlaa
