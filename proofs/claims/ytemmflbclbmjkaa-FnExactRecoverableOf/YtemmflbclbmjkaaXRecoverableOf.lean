/- At every list of ops impl.RecoverableOf answers as the specification does, writes into no argument, and each argument reads behind the call as it read before. No condition. -/
import Derived.Test.YtemmflbclbmjkaaRecS
import Derived.Test.YtemmflbclbmjkaaWords
import Derived.ProofKit
import Derived.OpenShut
import Derived.ShutString
import Derived.ChangeOld
import Derived.Below
import Derived.Lib.SmallJoins
namespace Go.Proofs.Ytemmflbclbmjkaa.xRecoverableOf
open Go.ChangeShapes Go.WideShapes Go.ChangeAt Go.RowKit
open Go.ChangeMaps (open_string shut_string)
set_option linter.unusedVariables false

set_option maxRecDepth 100000 in
set_option maxHeartbeats 4000000 in
theorem walk (a : Option Addr) (n cap : Nat) (K T : Nat → Int) (S : Nat → ByteArray) (w : World) (hm : n ≤ maxLen) (hs : Sl w a n 3 (opF K T S)) (hS : ∀ i, i < n → (S i).size ≤ maxLen) :
    Calls Try.prog 13 #[.slice a n cap] w fun r w' => r = .returned (.bool true) ∧ Below w.heap.size w w' := by
  have HS : Hid (Sl w a n 3 (opF K T S) ∧ (∀ i, i < n → (S i).size ≤ maxLen)) := ⟨hs, hS⟩
  clear hs hS
  go_enter Try.func13, Try.ntmps13
  go_wp2_with fail
  refine (szOpS_any _ _ _ K T S _ hm HS.out.1 HS.out.2).mono ?_
  rintro r w1 ⟨l, rfl, hl, hb⟩
  have HB1 : Hid (Below w.heap.size w w1) := hb
  have sz1 : w.heap.size ≤ w1.heap.size := hb.size
  clear hb
  by_cases hneg : l < 0
  · go_wp2
    go_ret
    exact ⟨rfl, HB1.out⟩
  have hn : n ≤ 1048576 := hl (by omega)
  clear hl
  go_wp2_with fail
  refine (toOpS_any _ _ _ K T S _ hn (HS.out.1.kept HB1.out)).mono ?_
  rintro r w2 ⟨rfl, hi, hg, hb⟩
  have HB2 : Hid (Below w.heap.size w w2) := below_next HB1.out hb
  have sz2 : w1.heap.size ≤ w2.heap.size := hb.size
  have A_2 : Hid (OpR w2 w1.heap.size n K T S) := hi
  clear hb hi hg HB1
  go_wp2_with fail
  refine (specRecoverable_any _ _ _ K T S _ hn (Nat.le_refl _) HS.out.2 A_2.out.sl).mono ?_
  rintro r w3 ⟨rfl, hb⟩
  have HB3 : Hid (Below w.heap.size w w3) := below_next HB2.out hb
  have sz3 : w2.heap.size ≤ w3.heap.size := hb.size
  have A_3 : Hid (OpR w3 w1.heap.size n K T S) := A_2.out.next hb
  clear hb A_2 HB2
  clear A_3
  go_wp2_with fail
  refine (toOpS_any _ _ _ K T S _ hn (HS.out.1.kept HB3.out)).mono ?_
  rintro r w4 ⟨rfl, hi, hg, hb⟩
  have HB4 : Hid (Below w.heap.size w w4) := below_next HB3.out hb
  have sz4 : w3.heap.size ≤ w4.heap.size := hb.size
  have X_4 : Hid (OpR w4 w3.heap.size n K T S) := hi
  clear hb hi hg HB3
  go_wp2_with fail
  refine (recoverable_any _ _ _ K T S _ hn (Nat.le_refl _) HS.out.2 X_4.out.sl).mono ?_
  rintro r w5 ⟨rfl, hb⟩
  have HB5 : Hid (Below w.heap.size w w5) := below_next HB4.out hb
  have sz5 : w4.heap.size ≤ w5.heap.size := hb.size
  have X_5 : Hid (OpR w5 w3.heap.size n K T S) := X_4.out.next hb
  clear hb X_4 HB4
  generalize goodO (okO K T S) K T n = ok at *
  generalize (recV K T S n).1 = z1 at *
  generalize (recV K T S n).2.1 = z2 at *
  generalize (recV K T S n).2.2 = z3 at *
  go_wp2_with fail
  refine (toOpS_any _ _ _ K T S _ hn (HS.out.1.kept HB5.out)).mono ?_
  rintro r w6 ⟨rfl, hi, hg, hb⟩
  have HB6 : Hid (Below w.heap.size w w6) := below_next HB5.out hb
  have sz6 : w5.heap.size ≤ w6.heap.size := hb.size
  have X_6 : Hid (OpR w6 w3.heap.size n K T S) := X_5.out.next hb
  have A_6 : Hid (OpR w6 w5.heap.size n K T S) := hi
  clear hb hi hg X_5 HB5
  go_wp2_with fail
  refine (eqOpS_same _ _ _ _ _ K T S _ hn X_6.out.sl A_6.out.sl).mono ?_
  rintro r w7 ⟨rfl, hb⟩
  have HB7 : Hid (Below w.heap.size w w7) := below_next HB6.out hb
  have sz7 : w6.heap.size ≤ w7.heap.size := hb.size
  have X_7 : Hid (OpR w7 w3.heap.size n K T S) := X_6.out.next hb
  have A_7 : Hid (OpR w7 w5.heap.size n K T S) := A_6.out.next hb
  clear hb X_6 A_6 HB6
  have HE := HB7
  go_wp2
  go_ret
  exact ⟨rfl, HE.out⟩


theorem own : ownKnob Try.prog.godebug = none := by kernel_rfl
theorem laidOut : laidOutB Try.prog = true := by kernel_rfl

set_option maxRecDepth 100000 in
theorem lifted (os : Os) (started : os.Started) (H : Type) (enc : TypeId × Value → H) :
    ReturnsInHanded {} Try.checked os 13 .any (Rows.fnExactRecoverableOfSpec.pre6 enc Try.prog Try.f13 Rows.fnExactRecoverableOfRow.domain false) (Rows.fnExactRecoverableOfSpec.post enc Try.prog Try.f13 false true false false) := by
  refine returnsInHanded_of_change (C := Try.checked) own started (by kernel_rfl) Try.func13
    (ChangeSpec.witness6 (enc := enc) (C := Try.checked) false ⟨#[], #[.slice none 0 0], []⟩ 8 (by kernel_rfl) (by kernel_rfl) (by kernel_rfl) (by kernel_rfl)) ?_
  intro W base args ds gs before hval0 hW hcnd _
  have hval : ∀ (j : Nat) t v, Try.f13.params[j]? = some t → args[j]? = some v → Value.okWide Try.prog W .any base t v := hval0
  have hW' := hW
  obtain ⟨p, q, hA0, hV, rfl, hfz, hnd⟩ := hW
  have hA : DataW.TrodAll enc Try.prog W 0 (fun _ => true) true Try.f13.params.toList args.toList ds p := hA0
  rw [Try.params13] at hA hval
  obtain ⟨v0, vs0, d0, ds0, p0, q0, hargs, rfl, rfl, h0, r0⟩ := trodAll_cons hA
  obtain ⟨rfl, rfl, rfl⟩ := trodAll_nil r0
  obtain rfl : args = #[v0] := by cases args; simp_all
  obtain ⟨rfl, rfl⟩ := trodVars_none hV
  have k0 := h0
  have lt0 : ∀ x ∈ p0, x.block < W.heap.size := by obtain ⟨m, hm⟩ := k0; exact DataW.trod_lt m _ _ _ hm
  obtain ⟨a0, len0, cap0, rfl⟩ := okWide_slice Try.underlying68 (hval 0 68 v0 rfl rfl)
  obtain ⟨n0, K0, T0, S0, s0, b0⟩ := open_ops h0
  clear hA0 hval0
  refine (walk (w := W) a0 len0 cap0 K0 T0 S0 n0 s0 b0).mono fun e W' ⟨he, bel⟩ => ?_
  subst he
  exact ⟨_, rfl, _, _, _, [], _, [], hW', trodAll_mk1 (shut_bool Try.underlying4 _), (trodAll_cons_mk (Below.trod laidOut (by kernel_rfl) (of_decide_eq_true (by kernel_rfl)) k0 bel lt0) trodAll_mk0), rfl, bel.frame _, fun h => by cases h⟩

set_option maxHeartbeats 40000000 in
theorem closed : joinedFacts Try.pinned.checked.prog 13 Try.f13 Rows.fnExactRecoverableOfSpec Rows.fnExactRecoverableOfRow = true := by
  unfold joinedFacts
  repeat' (first | (with_reducible refine both ?_ ?_) | (with_reducible exact may_enter') | (with_reducible refine lifts_eq ?_) | (with_reducible refine make_eq ?_) | as_aux_lemma => kernel_rfl)
theorem named : Try.pinned.checked.prog.funcNamed Rows.fnExactRecoverableOfRow.func = some 13 := by kernel_rfl
theorem over : Rows.fnExactRecoverableOfRow.holds Try.pinned (OpenSpec.ofChange Rows.fnExactRecoverableOfSpec) :=
  OpenClaim.holds_of_wide 13 Try.f13 rfl rfl rfl rfl rfl rfl rfl ⟨rfl, rfl, rfl, rfl, rfl⟩ rfl rfl rfl rfl rfl named Try.func13 closed
    (of_decide_eq_true (by as_aux_lemma => kernel_rfl)) (by unfold Func.isWrapper; first | (rw [if_pos (by decide +kernel)]; kernel_rfl) | (rw [if_neg (by decide +kernel)]; exact ⟨rfl, rfl⟩))
    (fun os started H enc _ => lifted os started H enc)

end Go.Proofs.Ytemmflbclbmjkaa.xRecoverableOf
namespace Go.Proofs.Ytemmflbclbmjkaa
theorem xRecoverableOf_holds : Rows.FnExactRecoverableOfSaid := xRecoverableOf.over
#print axioms xRecoverableOf_holds
end Go.Proofs.Ytemmflbclbmjkaa
