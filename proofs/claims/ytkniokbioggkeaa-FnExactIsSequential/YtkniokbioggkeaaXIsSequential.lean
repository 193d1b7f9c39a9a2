/- At every list of calls impl.IsSequential answers as the specification does, writes into no argument, and each argument reads behind the call as it read before. No condition. -/
import Derived.Test.YtkniokbioggkeaaLtI
import Derived.Test.YtkniokbioggkeaaWords
import Derived.ProofKit
import Derived.OpenShut
import Derived.ShutString
import Derived.ChangeOld
import Derived.Below
import Derived.Lib.SmallJoins
namespace Go.Proofs.Ytkniokbioggkeaa.xIsSequential
open Go.ChangeShapes Go.WideShapes Go.ChangeAt Go.RowKit
open Go.ChangeMaps (open_string shut_string)
set_option linter.unusedVariables false

set_option maxRecDepth 100000 in
set_option maxHeartbeats 4000000 in
theorem walk (a : Option Addr) (n cap : Nat) (V : Nat → CallV) (w : World) (hm : n ≤ maxLen) (hs : Sl w a n 6 (callF V)) (hz : ∀ i, i < n → (V i).f2.size ≤ maxLen ∧ (V i).f3.size ≤ maxLen) :
    Calls Try.prog 8 #[.slice a n cap] w fun r w' => r = .returned (.bool true) ∧ Below w.heap.size w w' := by
  have HS : Hid (Sl w a n 6 (callF V) ∧ (∀ i, i < n → (V i).f2.size ≤ maxLen ∧ (V i).f3.size ≤ maxLen)) := ⟨hs, hz⟩
  clear hs hz
  go_enter Try.func8, Try.ntmps8
  go_wp2_with fail
  refine (szCallS_any _ _ _ V _ _ hm (by omega) (by omega) HS.out.1 HS.out.2).mono ?_
  rintro r w1 ⟨l, rfl, hl1, hl2, hb⟩
  have HB1 : Hid (Below w.heap.size w w1) := hb
  clear hb
  by_cases hneg : l < 0
  · go_wp2
    go_ret
    exact ⟨rfl, HB1.out⟩
  have hn : n ≤ 1048576 := hl2 (by omega)
  clear hl2
  go_wp2_with fail
  refine (toCallS_any _ _ _ V _ hn (HS.out.1.below HB1.out (Nat.le_refl _))).mono ?_
  rintro r w2 ⟨rfl, hi, hg, hb⟩
  have H2 : Hid (CallR w2 w1.heap.size n V ∧ Below w.heap.size w w2) := ⟨hi, below_nx HB1.out hb⟩
  clear hb hi hg HB1
  go_wp2_with fail
  refine (specIsSequential_any _ _ _ V _ hn (Nat.le_refl _) HS.out.2 H2.out.1.sl).mono ?_
  rintro r w3 ⟨rfl, hb⟩
  have HB3 : Hid (Below w.heap.size w w3) := below_nx H2.out.2 hb
  clear hb H2
  go_wp2_with fail
  refine (toCallS_any _ _ _ V _ hn (HS.out.1.below HB3.out (Nat.le_refl _))).mono ?_
  rintro r w4 ⟨rfl, hi, hg, hb⟩
  have H4 : Hid (CallR w4 w3.heap.size n V ∧ Below w.heap.size w w4) := ⟨hi, below_nx HB3.out hb⟩
  clear hb hi hg HB3
  go_wp2_with fail
  refine (isSequential_any _ _ _ V _ hn (Nat.le_refl _) HS.out.2 H4.out.1.sl).mono ?_
  rintro r w5 ⟨rfl, hb⟩
  have H5 : Hid (CallR w5 w3.heap.size n V ∧ Below w.heap.size w w5) := ⟨H4.out.1.next hb, below_nx H4.out.2 hb⟩
  clear hb H4
  generalize linB true V n = b1 at *
  generalize calsB V n = ok at *
  go_wp2_with fail
  refine (toCallS_any _ _ _ V _ hn (HS.out.1.below H5.out.2 (Nat.le_refl _))).mono ?_
  rintro r w6 ⟨rfl, hi, hg, hb⟩
  have H6 : Hid (CallR w6 w3.heap.size n V ∧ CallR w6 w5.heap.size n V ∧ Below w.heap.size w w6) := ⟨H5.out.1.next hb, hi, below_nx H5.out.2 hb⟩
  clear hb hi hg H5
  go_wp2_with fail
  refine (eqCallS_same _ _ _ _ _ V _ hn H6.out.1.sl H6.out.2.1.sl).mono ?_
  rintro r w7 ⟨rfl, hb⟩
  have HE : Hid (Below w.heap.size w w7) := below_nx H6.out.2.2 hb
  clear hb H6
  go_wp2
  go_ret
  exact ⟨rfl, HE.out⟩


theorem own : ownKnob Try.prog.godebug = none := by kernel_rfl
theorem laidOut : laidOutB Try.prog = true := by kernel_rfl

set_option maxRecDepth 100000 in
theorem lifted (os : Os) (started : os.Started) (H : Type) (enc : TypeId × Value → H) :
    ReturnsInHanded {} Try.checked os 8 .any (Rows.fnExactIsSequentialSpec.pre6 enc Try.prog Try.f8 Rows.fnExactIsSequentialRow.domain false) (Rows.fnExactIsSequentialSpec.post enc Try.prog Try.f8 false true false false) := by
  refine returnsInHanded_of_change (C := Try.checked) own started (by kernel_rfl) Try.func8
    (ChangeSpec.witness6 (enc := enc) (C := Try.checked) false ⟨#[], #[.slice none 0 0], []⟩ 8 (by kernel_rfl) (by kernel_rfl) (by kernel_rfl) (by kernel_rfl)) ?_
  intro W base args ds gs before hval0 hW hcnd _
  have hval : ∀ (j : Nat) t v, Try.f8.params[j]? = some t → args[j]? = some v → Value.okWide Try.prog W .any base t v := hval0
  have hW' := hW
  obtain ⟨p, q, hA0, hV, rfl, hfz, hnd⟩ := hW
  have hA : DataW.TrodAll enc Try.prog W 0 (fun _ => true) true Try.f8.params.toList args.toList ds p := hA0
  rw [Try.params8] at hA hval
  obtain ⟨v0, vs0, d0, ds0, p0, q0, hargs, rfl, rfl, h0, r0⟩ := trodAll_cons hA
  obtain ⟨rfl, rfl, rfl⟩ := trodAll_nil r0
  obtain rfl : args = #[v0] := by cases args; simp_all
  obtain ⟨rfl, rfl⟩ := trodVars_none hV
  have k0 := h0
  have lt0 : ∀ x ∈ p0, x.block < W.heap.size := by obtain ⟨m, hm⟩ := k0; exact DataW.trod_lt m _ _ _ hm
  obtain ⟨a0, len0, cap0, rfl⟩ := okWide_slice Try.underlying40 (hval 0 40 v0 rfl rfl)
  obtain ⟨n0, V0, s0, z0⟩ := open_calls h0
  clear hA0 hval0
  refine (walk (w := W) a0 len0 cap0 V0 n0 s0 z0).mono fun e W' ⟨he, bel⟩ => ?_
  subst he
  exact ⟨_, rfl, _, _, _, [], _, [], hW', trodAll_mk1 (shut_bool Try.underlying4 _), (trodAll_cons_mk (Below.trod laidOut (by kernel_rfl) (of_decide_eq_true (by kernel_rfl)) k0 bel lt0) trodAll_mk0), rfl, bel.frame _, fun h => by cases h⟩

set_option maxHeartbeats 40000000 in
theorem closed : joinedFacts Try.pinned.checked.prog 8 Try.f8 Rows.fnExactIsSequentialSpec Rows.fnExactIsSequentialRow = true := by
  unfold joinedFacts
  repeat' (first | (with_reducible refine both ?_ ?_) | (with_reducible exact may_enter') | (with_reducible refine lifts_eq ?_) | (with_reducible refine make_eq ?_) | as_aux_lemma => kernel_rfl)
theorem named : Try.pinned.checked.prog.funcNamed Rows.fnExactIsSequentialRow.func = some 8 := by kernel_rfl
theorem over : Rows.fnExactIsSequentialRow.holds Try.pinned (OpenSpec.ofChange Rows.fnExactIsSequentialSpec) :=
  OpenClaim.holds_of_wide 8 Try.f8 rfl rfl rfl rfl rfl rfl rfl ⟨rfl, rfl, rfl, rfl, rfl⟩ rfl rfl rfl rfl rfl named Try.func8 closed
    (of_decide_eq_true (by as_aux_lemma => kernel_rfl)) (by unfold Func.isWrapper; first | (rw [if_pos (by decide +kernel)]; kernel_rfl) | (rw [if_neg (by decide +kernel)]; exact ⟨rfl, rfl⟩))
    (fun os started H enc _ => lifted os started H enc)

end Go.Proofs.Ytkniokbioggkeaa.xIsSequential
namespace Go.Proofs.Ytkniokbioggkeaa
theorem xIsSequential_holds : Rows.FnExactIsSequentialSaid := xIsSequential.over
#print axioms xIsSequential_holds
end Go.Proofs.Ytkniokbioggkeaa
