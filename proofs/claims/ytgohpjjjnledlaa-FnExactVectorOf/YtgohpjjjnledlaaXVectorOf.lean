/- At every list of events impl.VectorOf answers as the specification does, writes into no argument, its answer owns its memory, and each argument reads behind the call as it read before. No condition. -/
import Derived.Test.YtgohpjjjnledlaaVcQ
import Derived.Test.YtgohpjjjnledlaaEvK
import Derived.Test.YtgohpjjjnledlaaWords
import Derived.Deep.RegionHeld3
import Derived.ProofKit
import Derived.OpenShut
import Derived.ShutString
import Derived.ChangeOld
import Derived.Below
import Derived.Lib.SmallJoins
namespace Go.Proofs.Ytgohpjjjnledlaa.xVectorOf
open Go.ChangeShapes Go.WideShapes Go.ChangeAt Go.RowKit
open Go.ChangeMaps (open_string shut_string)
set_option linter.unusedVariables false

set_option maxHeartbeats 4000000 in
theorem walk (a : Option Addr) (n cap : Nat) (K P M : Nat → Int) (w : World) (hm : n ≤ maxLen) (hs : Sl w a n 3 (evF K P M)) (hM : ∀ i, i < n → -9223372036854775808 ≤ M i ∧ M i ≤ 9223372036854775807) :
    Calls Try.prog 10 #[.slice a n cap] w fun r w' => r = .returned (.bool true) ∧ Below w.heap.size w w' := by
  have HS : Hid (Sl w a n 3 (evF K P M) ∧ (∀ i, i < n → -9223372036854775808 ≤ M i ∧ M i ≤ 9223372036854775807)) := ⟨hs, hM⟩
  clear hs hM
  by_cases hn : n ≤ 1048576
  case neg =>
    have hlt : (1048576 : Int) < (n : Int) := by omega
    go_enter Try.func10, Try.ntmps10
    go_wp2_with (go_at_call 58; refine (szEventS_any _ _ _ _ _ hm (by omega) (by omega)).mono ?_; rintro e w' ⟨rfl, rfl⟩; rw [if_pos hlt])
    go_ret
    exact ⟨rfl, Below.refl _ _⟩
  case pos =>
  have hlt : ¬ (1048576 : Int) < (n : Int) := by omega
  have hge : ¬ (1048576 : Int) - (n : Int) < 0 := by omega
  go_enter Try.func10, Try.ntmps10
  go_wp2_with fail
  refine (szEventS_any _ _ _ _ _ hm (by omega) (by omega)).mono ?_
  rintro e w0 ⟨rfl, hw⟩
  have hw := hw.symm
  subst hw
  rw [if_neg (by omega)]
  go_wp2_with fail
  refine (toEventS_any _ _ _ K P M _ hn (HS.out.1.kept (Below.refl _ _))).mono ?_
  rintro r w1 ⟨rfl, hi, hg, hb⟩
  have HB1 : Hid (Below w.heap.size w w1) := below_next (Below.refl _ _) hb
  have sz1 : w.heap.size ≤ w1.heap.size := hb.size
  have A_1 : Hid (EvR w1 w.heap.size n K P M) := hi
  clear hb hi hg
  go_wp2_with fail
  refine (specVectorOf_any _ _ _ K P M _ hn (Nat.le_refl _) A_1.out.sl).mono ?_
  rintro r w2 ⟨⟨a2, cap2, rfl, hi⟩, hb⟩
  have HB2 : Hid (Below w.heap.size w w2) := below_next HB1.out hb
  have sz2 : w1.heap.size ≤ w2.heap.size := hb.size
  have A_2 : Hid (EvR w2 w.heap.size n K P M) := A_1.out.next hb
  have S_2 : Hid (ClkR w2 w1.heap.size w2.heap.size a2 (lmN K P M n) (fun i p => vc K P M (i + 1) p)) := hi
  clear hb hi A_1 HB1
  clear A_2
  go_wp2_with fail
  refine (toEventS_any _ _ _ K P M _ hn (HS.out.1.kept HB2.out)).mono ?_
  rintro r w3 ⟨rfl, hi, hg, hb⟩
  have HB3 : Hid (Below w.heap.size w w3) := below_next HB2.out hb
  have sz3 : w2.heap.size ≤ w3.heap.size := hb.size
  have S_3 : Hid (ClkR w3 w1.heap.size w2.heap.size a2 (lmN K P M n) (fun i p => vc K P M (i + 1) p)) := S_2.out.next hb
  have X_3 : Hid (EvR w3 w2.heap.size n K P M) := hi
  clear hb hi hg S_2 HB2
  have szx : w2.heap.size < w3.heap.size := X_3.out.2.2
  go_wp2_with fail
  refine (vectorOf_any _ _ _ K P M _ hn HS.out.2 X_3.out.sl).mono ?_
  rintro r w4 ⟨⟨a4, cap4, rfl, hi⟩, hb⟩
  have HB4 : Hid (Below w.heap.size w w4) := below_next HB3.out hb
  have sz4 : w3.heap.size ≤ w4.heap.size := hb.size
  have S_4 : Hid (ClkR w4 w1.heap.size w2.heap.size a2 (lmN K P M n) (fun i p => vc K P M (i + 1) p)) := S_3.out.next hb
  have X_4 : Hid (EvR w4 w2.heap.size n K P M) := X_3.out.next hb
  have G_4 : Hid (ClkR w4 w3.heap.size w4.heap.size a4 (lmN K P M n) (fun i p => vc K P M (i + 1) p)) := hi
  clear hb hi S_3 X_3 HB3
  have hN : lmN K P M n ≤ 1048576 := by unfold lmN; split <;> omega
  have HJ : Hid (lmN K P M n = lmN K P M n ∧ goodE K P M n = goodE K P M n) := ⟨rfl, rfl⟩
  go_wp2_with fail
  refine (eqClockS_same _ _ _ _ _ (fun i p => vc K P M (i + 1) p) _ _ _ _ _ hN G_4.out S_4.out).mono ?_
  rintro r w5 ⟨rfl, hb⟩
  have HB5 : Hid (Below w.heap.size w w5) := below_next HB4.out hb
  have sz5 : w4.heap.size ≤ w5.heap.size := hb.size
  have S_5 : Hid (ClkR w5 w1.heap.size w2.heap.size a2 (lmN K P M n) (fun i p => vc K P M (i + 1) p)) := S_4.out.next hb
  have X_5 : Hid (EvR w5 w2.heap.size n K P M) := X_4.out.next hb
  have G_5 : Hid (ClkR w5 w3.heap.size w4.heap.size a4 (lmN K P M n) (fun i p => vc K P M (i + 1) p)) := G_4.out.next hb
  clear hb S_4 X_4 G_4 HB4
  go_wp2_with fail
  refine (toEventS_any _ _ _ K P M _ hn (HS.out.1.kept HB5.out)).mono ?_
  rintro r w6 ⟨rfl, hi, hg, hb⟩
  have HB6 : Hid (Below w.heap.size w w6) := below_next HB5.out hb
  have sz6 : w5.heap.size ≤ w6.heap.size := hb.size
  have S_6 : Hid (ClkR w6 w1.heap.size w2.heap.size a2 (lmN K P M n) (fun i p => vc K P M (i + 1) p)) := S_5.out.next hb
  have X_6 : Hid (EvR w6 w2.heap.size n K P M) := X_5.out.next hb
  have G_6 : Hid (ClkR w6 w3.heap.size w4.heap.size a4 (lmN K P M n) (fun i p => vc K P M (i + 1) p)) := G_5.out.next hb
  have A_6 : Hid (EvR w6 w5.heap.size n K P M) := hi
  clear hb hi hg S_5 X_5 G_5 HB5
  go_wp2_with fail
  refine (eqEventS_same _ _ _ _ _ K P M _ hn X_6.out.sl A_6.out.sl).mono ?_
  rintro r w7 ⟨rfl, hb⟩
  have HB7 : Hid (Below w.heap.size w w7) := below_next HB6.out hb
  have sz7 : w6.heap.size ≤ w7.heap.size := hb.size
  have S_7 : Hid (ClkR w7 w1.heap.size w2.heap.size a2 (lmN K P M n) (fun i p => vc K P M (i + 1) p)) := S_6.out.next hb
  have X_7 : Hid (EvR w7 w2.heap.size n K P M) := X_6.out.next hb
  have G_7 : Hid (ClkR w7 w3.heap.size w4.heap.size a4 (lmN K P M n) (fun i p => vc K P M (i + 1) p)) := G_6.out.next hb
  have A_7 : Hid (EvR w7 w5.heap.size n K P M) := A_6.out.next hb
  clear hb S_6 X_6 G_6 A_6 HB6
  clear A_7
  go_wp2_with fail
  refine (markEventS_any _ _ _ K P M 1 _ hn (by omega) (by omega) X_7.out).mono ?_
  rintro r w8 ⟨rfl, ht⟩
  have HB8 : Hid (Below w.heap.size w w8) := below_turn HB7.out ht (by omega)
  have sz8 : w7.heap.size ≤ w8.heap.size := ht.2.2.2.1
  have S_8 : Hid (ClkR w8 w1.heap.size w2.heap.size a2 (lmN K P M n) (fun i p => vc K P M (i + 1) p)) := S_7.out.turn ht (by omega)
  have G_8 : Hid (ClkR w8 w3.heap.size w4.heap.size a4 (lmN K P M n) (fun i p => vc K P M (i + 1) p)) := G_7.out.turn ht (by omega)
  clear ht S_7 G_7 X_7 HB7
  go_wp2_with fail
  refine (eqClockS_same _ _ _ _ _ (fun i p => vc K P M (i + 1) p) _ _ _ _ _ hN G_8.out S_8.out).mono ?_
  rintro r w9 ⟨rfl, hb⟩
  have HB9 : Hid (Below w.heap.size w w9) := below_next HB8.out hb
  have sz9 : w8.heap.size ≤ w9.heap.size := hb.size
  have S_9 : Hid (ClkR w9 w1.heap.size w2.heap.size a2 (lmN K P M n) (fun i p => vc K P M (i + 1) p)) := S_8.out.next hb
  have G_9 : Hid (ClkR w9 w3.heap.size w4.heap.size a4 (lmN K P M n) (fun i p => vc K P M (i + 1) p)) := G_8.out.next hb
  clear hb S_8 G_8 HB8
  go_wp2_with fail
  refine (markClockS_any _ _ _ (fun i p => vc K P M (i + 1) p) 1 _ _ _ hN (by omega) (by omega) G_9.out).mono ?_
  rintro r w10 ⟨rfl, hi, ht⟩
  have HB10 : Hid (Below w.heap.size w w10) := below_turn HB9.out ht (by omega)
  have sz10 : w9.heap.size ≤ w10.heap.size := ht.2.2.2.1
  have S_10 : Hid (ClkR w10 w1.heap.size w2.heap.size a2 (lmN K P M n) (fun i p => vc K P M (i + 1) p)) := S_9.out.turn ht (by omega)
  have G_10 : Hid (ClkR w10 w3.heap.size w4.heap.size a4 (lmN K P M n) (fun i p => 1 + 6 * (i : Int) + (p : Int))) := hi
  clear hi ht S_9 G_9 HB9
  go_wp2_with fail
  refine (heldClockS_any _ _ _ 1 _ _ _ hN (by omega) (by omega) G_10.out).mono ?_
  rintro r w' ⟨rfl, hw⟩
  have hw := hw.symm
  subst hw
  go_wp2_with fail
  refine (toEventS_any _ _ _ K P M _ hn (HS.out.1.kept HB10.out)).mono ?_
  rintro r w11 ⟨rfl, hi, hg, hb⟩
  have HB11 : Hid (Below w.heap.size w w11) := below_next HB10.out hb
  have sz11 : w10.heap.size ≤ w11.heap.size := hb.size
  have S_11 : Hid (ClkR w11 w1.heap.size w2.heap.size a2 (lmN K P M n) (fun i p => vc K P M (i + 1) p)) := S_10.out.next hb
  have G_11 : Hid (ClkR w11 w3.heap.size w4.heap.size a4 (lmN K P M n) (fun i p => 1 + 6 * (i : Int) + (p : Int))) := G_10.out.next hb
  have A_11 : Hid (EvR w11 w10.heap.size n K P M) := hi
  clear hb hi hg S_10 G_10 HB10
  go_wp2_with fail
  refine (vectorOf_any _ _ _ K P M _ hn HS.out.2 A_11.out.sl).mono ?_
  rintro r w12 ⟨⟨a9, cap9, rfl, hi⟩, hb⟩
  have HB12 : Hid (Below w.heap.size w w12) := below_next HB11.out hb
  have sz12 : w11.heap.size ≤ w12.heap.size := hb.size
  have S_12 : Hid (ClkR w12 w1.heap.size w2.heap.size a2 (lmN K P M n) (fun i p => vc K P M (i + 1) p)) := S_11.out.next hb
  have G_12 : Hid (ClkR w12 w3.heap.size w4.heap.size a4 (lmN K P M n) (fun i p => 1 + 6 * (i : Int) + (p : Int))) := G_11.out.next hb
  have A_12 : Hid (EvR w12 w10.heap.size n K P M) := A_11.out.next hb
  have H_12 : Hid (ClkR w12 w11.heap.size w12.heap.size a9 (lmN K P M n) (fun i p => vc K P M (i + 1) p)) := hi
  clear hb hi S_11 G_11 A_11 HB11
  clear A_12
  go_wp2_with fail
  refine (eqClockS_same _ _ _ _ _ (fun i p => vc K P M (i + 1) p) _ _ _ _ _ hN H_12.out S_12.out).mono ?_
  rintro r w13 ⟨rfl, hb⟩
  have HB13 : Hid (Below w.heap.size w w13) := below_next HB12.out hb
  have sz13 : w12.heap.size ≤ w13.heap.size := hb.size
  have S_13 : Hid (ClkR w13 w1.heap.size w2.heap.size a2 (lmN K P M n) (fun i p => vc K P M (i + 1) p)) := S_12.out.next hb
  have G_13 : Hid (ClkR w13 w3.heap.size w4.heap.size a4 (lmN K P M n) (fun i p => 1 + 6 * (i : Int) + (p : Int))) := G_12.out.next hb
  have H_13 : Hid (ClkR w13 w11.heap.size w12.heap.size a9 (lmN K P M n) (fun i p => vc K P M (i + 1) p)) := H_12.out.next hb
  clear hb S_12 G_12 H_12 HB12
  go_wp2_with fail
  refine (heldClockS_any _ _ _ 1 _ _ _ hN (by omega) (by omega) G_13.out).mono ?_
  rintro r w' ⟨rfl, hw⟩
  have hw := hw.symm
  subst hw
  have HE := HB13
  go_wp2
  go_ret
  exact ⟨rfl, HE.out⟩


theorem own : ownKnob Try.prog.godebug = none := by kernel_rfl
theorem laidOut : laidOutB Try.prog = true := by kernel_rfl

set_option maxRecDepth 100000 in
theorem lifted (os : Os) (started : os.Started) (H : Type) (enc : TypeId × Value → H) :
    ReturnsInHanded {} Try.checked os 10 .any (Rows.fnExactVectorOfSpec.pre6 enc Try.prog Try.f10 Rows.fnExactVectorOfRow.domain false) (Rows.fnExactVectorOfSpec.post enc Try.prog Try.f10 false true false false) := by
  refine returnsInHanded_of_change (C := Try.checked) own started (by kernel_rfl) Try.func10
    (ChangeSpec.witness6 (enc := enc) (C := Try.checked) false ⟨#[], #[.slice none 0 0], []⟩ 8 (by kernel_rfl) (by kernel_rfl) (by kernel_rfl) (by kernel_rfl)) ?_
  intro W base args ds gs before hval0 hW hcnd _
  have hval : ∀ (j : Nat) t v, Try.f10.params[j]? = some t → args[j]? = some v → Value.okWide Try.prog W .any base t v := hval0
  have hW' := hW
  obtain ⟨p, q, hA0, hV, rfl, hfz, hnd⟩ := hW
  have hA : DataW.TrodAll enc Try.prog W 0 (fun _ => true) true Try.f10.params.toList args.toList ds p := hA0
  rw [Try.params10] at hA hval
  obtain ⟨v0, vs0, d0, ds0, p0, q0, hargs, rfl, rfl, h0, r0⟩ := trodAll_cons hA
  obtain ⟨rfl, rfl, rfl⟩ := trodAll_nil r0
  obtain rfl : args = #[v0] := by cases args; simp_all
  obtain ⟨rfl, rfl⟩ := trodVars_none hV
  have k0 := h0
  have lt0 : ∀ x ∈ p0, x.block < W.heap.size := by obtain ⟨m, hm⟩ := k0; exact DataW.trod_lt m _ _ _ hm
  obtain ⟨a0, len0, cap0, rfl⟩ := okWide_slice Try.underlying74 (hval 0 74 v0 rfl rfl)
  obtain ⟨n0, K0, P0, M0, s0, b0⟩ := open_events h0
  clear hA0 hval0
  refine (walk (w := W) a0 len0 cap0 K0 P0 M0 n0 s0 b0).mono fun e W' ⟨he, bel⟩ => ?_
  subst he
  exact ⟨_, rfl, _, _, _, [], _, [], hW', trodAll_mk1 (shut_bool Try.underlying4 _), (trodAll_cons_mk (Below.trod laidOut (by kernel_rfl) (of_decide_eq_true (by kernel_rfl)) k0 bel lt0) trodAll_mk0), rfl, bel.frame _, fun h => by cases h⟩

set_option maxHeartbeats 40000000 in
theorem closed : joinedFacts Try.pinned.checked.prog 10 Try.f10 Rows.fnExactVectorOfSpec Rows.fnExactVectorOfRow = true := by
  unfold joinedFacts
  repeat' (first | (with_reducible refine both ?_ ?_) | (with_reducible exact may_enter') | (with_reducible refine lifts_eq ?_) | (with_reducible refine make_eq ?_) | as_aux_lemma => kernel_rfl)
theorem named : Try.pinned.checked.prog.funcNamed Rows.fnExactVectorOfRow.func = some 10 := by kernel_rfl
theorem over : Rows.fnExactVectorOfRow.holds Try.pinned (OpenSpec.ofChange Rows.fnExactVectorOfSpec) :=
  OpenClaim.holds_of_wide 10 Try.f10 rfl rfl rfl rfl rfl rfl rfl ⟨rfl, rfl, rfl, rfl, rfl⟩ rfl rfl rfl rfl rfl named Try.func10 closed
    (of_decide_eq_true (by as_aux_lemma => kernel_rfl)) (by unfold Func.isWrapper; first | (rw [if_pos (by decide +kernel)]; kernel_rfl) | (rw [if_neg (by decide +kernel)]; exact ⟨rfl, rfl⟩))
    (fun os started H enc _ => lifted os started H enc)

end Go.Proofs.Ytgohpjjjnledlaa.xVectorOf
namespace Go.Proofs.Ytgohpjjjnledlaa
theorem xVectorOf_holds : Rows.FnExactVectorOfSaid := xVectorOf.over
#print axioms xVectorOf_holds
end Go.Proofs.Ytgohpjjjnledlaa
