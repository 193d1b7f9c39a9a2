/- What is locked in two phases is like one after the other (Eswaran, Gray, Lorie and Traiger), for drawn ops and locks: the law FnTwoPhase, at every list of bytes. No condition. -/
import Derived.Test.YthbpjmnlgfahmaaDrTw
import Derived.Test.YthbpjmnlgfahmaaTpS
import Derived.Test.YthbpjmnlgfahmaaTwG
import Derived.Test.YthbpjmnlgfahmaaSdI
import Derived.Test.YthbpjmnlgfahmaaOpenBE
import Derived.Test.YthbpjmnlgfahmaaWords
import Derived.ProofKit
import Derived.OpenShut
import Derived.ShutString
import Derived.ChangeOld
import Derived.Below
import Derived.Lib.SmallJoins
namespace Go.Proofs.Ythbpjmnlgfahmaa.fTwoPhase
open Go.ChangeShapes Go.WideShapes Go.ChangeAt Go.RowKit
open Go.ChangeMaps (open_string shut_string)
set_option linter.unusedVariables false

set_option maxRecDepth 100000 in
set_option maxHeartbeats 4000000 in
theorem walk (a : Option Addr) (n cap : Nat) (X : Nat → Int) (w : World) (hm : n ≤ maxLen) (hs : Sl w a n 1 (byF X)) (hX : ∀ i, i < n → 0 ≤ X i ∧ X i ≤ 255) :
    Calls Try.prog 4 #[.slice a n cap] w fun r w' => r = .returned (.bool true) ∧ Below w.heap.size w w' := by
  unfold maxLen at hm
  have HS : Hid (Sl w a n 1 (byF X) ∧ ∀ i, i < n → 0 ≤ X i ∧ X i ≤ 255) := ⟨hs, hX⟩
  clear hs hX
  by_cases hn : (1048576 : Int) < (n : Int)
  · go_enter Try.func4, Try.ntmps4
    go_wp2
    go_ret
    exact ⟨rfl, Below.refl _ _⟩
  go_enter Try.func4, Try.ntmps4
  go_wp2_with fail
  refine (drawTwo_any _ _ _ X _ (by omega) HS.out.1 HS.out.2).mono ?_
  rintro r w1 ⟨a4, k, cap4, K, T, S, a5, cap5, L, hk, hkc, rfl, hs4, hS, hs5, hb⟩
  have HH : Hid (Sl w1 a4 k 3 (opF K T S) ∧ (∀ i, i < k → (S i).size ≤ maxLen) ∧ Sl w1 a5 k 1 (intF L) ∧ Below w.heap.size w w1) := ⟨hs4, fun i hi => by have := hS i hi; unfold maxLen; omega, hs5, hb⟩
  clear hs4 hS hs5 hb HS
  go_wp2_with fail
  refine (isTwoPhase_any _ _ _ K T S _ _ _ L _ (by omega) (by omega) HH.out.2.1 HH.out.1 HH.out.2.2.1).mono ?_
  rintro r w2 ⟨rfl, hb⟩
  have H2 : Hid (Below w1.heap.size w1 w2) := hb
  clear hb
  go_wp2_with fail
  refine (specIsTwoPhase_any _ _ _ K T S _ _ _ L _ (by omega) (by omega) hkc HH.out.2.1 (HH.out.1.kept H2.out) (HH.out.2.2.1.kept H2.out)).mono ?_
  rintro r w3 ⟨rfl, hb⟩
  have H3 : Hid (Below w1.heap.size w1 w3) := below_next H2.out hb
  have HB3 : Hid (Below w.heap.size w w3) := HH.out.2.2.2.trans (H3.out.mono HH.out.2.2.2.size)
  clear hb H2
  obtain ⟨q2, hq2⟩ : ∃ q2, q2 = twOk K T S L k k := ⟨_, rfl⟩
  obtain ⟨q1, hq1⟩ : ∃ q1, q1 = twV K T S L k k := ⟨_, rfl⟩
  have HQ : Hid (q1 = true → sdOk K T S k = true) := fun h => two_order (n' := k) (by rw [← hq1]; exact h)
  rw [← hq1, ← hq2]
  clear hq1 hq2
  cases q1
  · cases q2
    all_goals
      go_wp2
      go_ret
      exact ⟨rfl, HB3.out⟩
  have HOK : Hid (sdOk K T S k = true) := HQ.out rfl
  clear HQ
  cases q2
  all_goals
    go_wp2_with fail
    refine (serialOrder_any _ _ _ K T S _ (by omega) hkc HH.out.2.1 (HH.out.1.kept H3.out)).mono ?_
    rintro r w4 ⟨⟨a6, cap6, rfl, hx⟩, hb⟩
    rw [HOK.out]
    have HB4 : Hid (Below w.heap.size w w4) := below_next HB3.out hb
    clear hx hb
    generalize (sdL K T S k).length = z at *
    go_wp2
    go_ret
    exact ⟨rfl, HB4.out⟩


theorem own : ownKnob Try.prog.godebug = none := by kernel_rfl
theorem laidOut : laidOutB Try.prog = true := by kernel_rfl

set_option maxRecDepth 100000 in
theorem lifted (os : Os) (started : os.Started) (H : Type) (enc : TypeId × Value → H) :
    ReturnsInHanded {} Try.checked os 4 .any (Rows.fnTwoPhaseSpec.pre6 enc Try.prog Try.f4 Rows.fnTwoPhaseRow.domain false) (Rows.fnTwoPhaseSpec.post enc Try.prog Try.f4 false true false false) := by
  refine returnsInHanded_of_change (C := Try.checked) own started (by kernel_rfl) Try.func4
    (ChangeSpec.witness6 (enc := enc) (C := Try.checked) false ⟨#[], #[.slice none 0 0], []⟩ 8 (by kernel_rfl) (by kernel_rfl) (by kernel_rfl) (by kernel_rfl)) ?_
  intro W base args ds gs before hval0 hW hcnd _
  have hval : ∀ (j : Nat) t v, Try.f4.params[j]? = some t → args[j]? = some v → Value.okWide Try.prog W .any base t v := hval0
  have hW' := hW
  obtain ⟨p, q, hA0, hV, rfl, hfz, hnd⟩ := hW
  have hA : DataW.TrodAll enc Try.prog W 0 (fun _ => true) true Try.f4.params.toList args.toList ds p := hA0
  rw [Try.params4] at hA hval
  obtain ⟨v0, vs0, d0, ds0, p0, q0, hargs, rfl, rfl, h0, r0⟩ := trodAll_cons hA
  obtain ⟨rfl, rfl, rfl⟩ := trodAll_nil r0
  obtain rfl : args = #[v0] := by cases args; simp_all
  obtain ⟨rfl, rfl⟩ := trodVars_none hV
  have k0 := h0
  have lt0 : ∀ x ∈ p0, x.block < W.heap.size := by obtain ⟨m, hm⟩ := k0; exact DataW.trod_lt m _ _ _ hm
  obtain ⟨a0, len0, cap0, rfl⟩ := okWide_slice Try.underlying22 (hval 0 22 v0 rfl rfl)
  obtain ⟨n0, X0, s0, b0⟩ := open_bytes h0
  clear hA0 hval0
  refine (walk (w := W) a0 len0 cap0 X0 n0 s0 b0).mono fun e W' ⟨he, bel⟩ => ?_
  subst he
  exact ⟨_, rfl, _, _, _, [], _, [], hW', trodAll_mk1 (shut_bool Try.underlying4 _), (trodAll_cons_mk (Below.trod laidOut (by kernel_rfl) (of_decide_eq_true (by kernel_rfl)) k0 bel lt0) trodAll_mk0), rfl, bel.frame _, fun h => by cases h⟩

set_option maxHeartbeats 40000000 in
theorem closed : joinedFacts Try.pinned.checked.prog 4 Try.f4 Rows.fnTwoPhaseSpec Rows.fnTwoPhaseRow = true := by
  unfold joinedFacts
  repeat' (first | (with_reducible refine both ?_ ?_) | (with_reducible exact may_enter') | (with_reducible refine lifts_eq ?_) | (with_reducible refine make_eq ?_) | as_aux_lemma => kernel_rfl)
theorem named : Try.pinned.checked.prog.funcNamed Rows.fnTwoPhaseRow.func = some 4 := by kernel_rfl
theorem over : Rows.fnTwoPhaseRow.holds Try.pinned (OpenSpec.ofChange Rows.fnTwoPhaseSpec) :=
  OpenClaim.holds_of_wide 4 Try.f4 rfl rfl rfl rfl rfl rfl rfl ⟨rfl, rfl, rfl, rfl, rfl⟩ rfl rfl rfl rfl rfl named Try.func4 closed
    (of_decide_eq_true (by as_aux_lemma => kernel_rfl)) (by unfold Func.isWrapper; first | (rw [if_pos (by decide +kernel)]; kernel_rfl) | (rw [if_neg (by decide +kernel)]; exact ⟨rfl, rfl⟩))
    (fun os started H enc _ => lifted os started H enc)

end Go.Proofs.Ythbpjmnlgfahmaa.fTwoPhase
namespace Go.Proofs.Ythbpjmnlgfahmaa
theorem fTwoPhase_holds : Rows.FnTwoPhaseSaid := fTwoPhase.over
#print axioms fTwoPhase_holds
end Go.Proofs.Ythbpjmnlgfahmaa
