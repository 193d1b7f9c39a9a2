/- Lamport's clock condition: what is ahead of another event has a lesser number, for drawn events: the law FnLamport, at every list of bytes. No condition. -/
import Derived.Test.YtjophhiccbkpjaaDrEv
import Derived.Test.YtjophhiccbkpjaaLamP
import Derived.Test.YtjophhiccbkpjaaOpenBE
import Derived.Test.YtjophhiccbkpjaaWords
import Derived.ProofKit
import Derived.OpenShut
import Derived.ShutString
import Derived.ChangeOld
import Derived.Below
import Derived.Lib.SmallJoins
namespace Go.Proofs.Ytjophhiccbkpjaa.fLamport
open Go.ChangeShapes Go.WideShapes Go.ChangeAt Go.RowKit
open Go.ChangeMaps (open_string shut_string)
set_option linter.unusedVariables false

theorem ah_facts {K P M : Nat → Int} {k i j : Nat} (hi : i < lmN K P M k) (hj : j < lmN K P M k) : ahOk K P M k i j = true ∧ (ahB K P M k i j = true → lmV K P M i < lmV K P M j) := by
  unfold lmN at hi hj
  cases hg : goodE K P M k
  · rw [hg] at hi; simp at hi
  · rw [hg] at hi hj
    simp only [if_true] at hi hj
    have h1 : inR (i : Int) 0 ((k : Int) - 1) = true := inR_iff.2 (by omega)
    have h2 : inR (j : Int) 0 ((k : Int) - 1) = true := inR_iff.2 (by omega)
    have h3 : ahOk K P M k i j = true := by simp [ahOk, hg, h1, h2]
    refine ⟨h3, fun h => ?_⟩
    simp only [ahB, h3, Bool.true_and, Int.toNat_natCast] at h
    exact ahd_lam h
theorem lmN_le (K P M : Nat → Int) (k : Nat) : lmN K P M k ≤ k := by unfold lmN; split <;> omega

set_option maxRecDepth 100000 in
set_option maxHeartbeats 4000000 in
theorem walk (a : Option Addr) (n cap : Nat) (X : Nat → Int) (w : World) (hm : n ≤ maxLen) (hs : Sl w a n 1 (byF X)) (hX : ∀ i, i < n → 0 ≤ X i ∧ X i ≤ 255) :
    Calls Try.prog 3 #[.slice a n cap] w fun r w' => r = .returned (.bool true) ∧ Below w.heap.size w w' := by
  unfold maxLen at hm
  have HS : Hid (Sl w a n 1 (byF X) ∧ ∀ i, i < n → 0 ≤ X i ∧ X i ≤ 255) := ⟨hs, hX⟩
  clear hs hX
  by_cases hn : (1048576 : Int) < (n : Int)
  · go_enter Try.func3, Try.ntmps3
    go_wp2
    go_ret
    exact ⟨rfl, Below.refl _ _⟩
  go_enter Try.func3, Try.ntmps3
  go_wp2_with fail
  refine (drawLamport_any _ _ _ X _ (by omega) HS.out.1 HS.out.2).mono ?_
  rintro r w1 ⟨a4, k, cap4, K, P, M, hk, hkc, rfl, hs4, hM, hb⟩
  have HH : Hid (Sl w1 a4 k 3 (evF K P M) ∧ (∀ i, i < k → -9223372036854775808 ≤ M i ∧ M i ≤ 9223372036854775807) ∧ Below w.heap.size w w1) := ⟨hs4, hM, hb⟩
  clear hs4 hM hb HS
  go_wp2_with fail
  refine (lamport_any _ _ _ K P M _ (by omega) HH.out.2.1 HH.out.1).mono ?_
  rintro r w2 ⟨⟨a2, cap2, rfl, hi⟩, hb⟩
  have H2 : Hid (Below w1.heap.size w1 w2 ∧ Sl w2 a2 (lmN K P M k) 1 (intF (lmV K P M))) := ⟨hb, hi.sl⟩
  clear hb hi
  go_wp2_with fail
  refine (specLamport_any _ _ _ K P M _ (by omega) hkc (HH.out.1.kept H2.out.1)).mono ?_
  rintro r w3 ⟨⟨a3, cap3, rfl, hi⟩, hb⟩
  have H3 : Hid (Below w1.heap.size w1 w3 ∧ Sl w3 a2 (lmN K P M k) 1 (intF (lmV K P M)) ∧ Sl w3 a3 (lmN K P M k) 1 (intF (lmV K P M))) := ⟨below_next H2.out.1 hb, H2.out.2.kept hb, hi.sl⟩
  clear hb hi H2
  have HAF : Hid (∀ i j : Nat, i < lmN K P M k → j < lmN K P M k → ahOk K P M k i j = true ∧ (ahB K P M k i j = true → lmV K P M i < lmV K P M j)) := fun i j hi hj => ah_facts hi hj
  have hN0 := lmN_le K P M k
  obtain ⟨N, hN⟩ : ∃ N, N = lmN K P M k := ⟨_, rfl⟩
  obtain ⟨Y, hY⟩ : ∃ Y, Y = lmV K P M := ⟨_, rfl⟩
  obtain ⟨gq, hgq⟩ : ∃ gq, gq = goodE K P M k := ⟨_, rfl⟩
  rw [← hN, ← hY] at H3 HAF
  rw [← hN] at hN0
  rw [← hN, ← hgq]
  clear hN hY hgq
  have HW : Hid (∀ W : World, Sl W a2 N 1 (intF Y) → Sl W a3 N 1 (intF Y) → Calls Try.prog 17 #[.slice a2 N cap2, .slice a3 N cap3] W fun r w' => r = .returned (.bool true) ∧ Below W.heap.size W w') := fun W h h' => sameInts_same _ _ _ _ _ Y W (by omega) h h'
  have HB3 : Hid (Below w.heap.size w w3) := HH.out.2.2.trans (H3.out.1.mono HH.out.2.2.size)
  cases gq
  all_goals
    go_wp2_with fail
    refine (HW.out _ H3.out.2.1 H3.out.2.2).mono ?_
    rintro r w4 ⟨rfl, hb⟩
    have H4 : Hid (Below w1.heap.size w1 w4 ∧ Sl w4 a2 N 1 (intF Y) ∧ Below w.heap.size w w4) := ⟨below_next H3.out.1 hb, H3.out.2.1.kept hb, below_next HB3.out hb⟩
    clear hb
    by_cases hk20 : (20 : Int) < (k : Int)
    · go_wp2
      go_ret
      exact ⟨rfl, H4.out.2.2⟩
    go_wp2
    go_loopw [43] (fun x wr => ∃ i : Nat, i ≤ N ∧ x = .int .i64 i ∧ Below w4.heap.size w4 wr) (fun x _ => N - (intOf x).toNat)
    (case atStart => exact ⟨0, Nat.zero_le _, rfl, Below.refl _ _⟩)
    (case round =>
      obtain ⟨i, hi, rfl, hBr⟩ := hrel
      obtain ⟨wo, hwo⟩ : ∃ x, x = wr := ⟨wr, rfl⟩
      subst hwo
      have HBo : Hid (Below w4.heap.size w4 wo) := hBr
      clear hBr
      by_cases hin : i < N
      · have hin' : (i : Int) < (N : Int) := by omega
        go_wp2
        go_loopw [48] (fun x wr => ∃ j : Nat, j ≤ N ∧ x = .int .i64 j ∧ Below w4.heap.size w4 wr) (fun x _ => N - (intOf x).toNat)
        case atStart => exact ⟨0, Nat.zero_le _, rfl, HBo.out⟩
        case round =>
          obtain ⟨j, hj, rfl, hBr⟩ := hrel
          have HBj : Hid (Below w4.heap.size w4 wr) := hBr
          clear hBr
          by_cases hjn : j < N
          · have hjn' : (j : Int) < (N : Int) := by omega
            obtain ⟨haf1, haf2⟩ := HAF.out i j hin hjn
            have HB1j : Hid (Below w1.heap.size w1 wr) := H4.out.1.trans (HBj.out.mono H4.out.1.size)
            obtain ⟨ab, hab⟩ : ∃ ab, ab = ahB K P M k i j := ⟨_, rfl⟩
            have HLT : Hid (ab = true → Y i < Y j) := fun h => haf2 (by rw [← hab]; exact h)
            have HI : Hid (∀ W : World, Sl W a4 k 3 (evF K P M) → Calls Try.prog 18 #[.slice a4 k cap4, .int .i64 i, .int .i64 j] W fun r w' => r = .returned (.tuple #[.bool ab, .bool true]) ∧ Below W.heap.size W w') := fun W h => by
              have := aheadOf_any a4 k cap4 K P M i j W (by omega) HH.out.2.1 h
              unfold AhPost at this
              rw [haf1, ← hab] at this; exact this
            have HJ : Hid (∀ W : World, Sl W a4 k 3 (evF K P M) → Calls Try.prog 19 #[.slice a4 k cap4, .int .i64 i, .int .i64 j] W fun r w' => r = .returned (.tuple #[.bool ab, .bool true]) ∧ Below W.heap.size W w') := fun W h => by
              have := specAheadOf_any a4 k cap4 K P M i j W (by omega) hkc h
              unfold AhPost at this
              rw [haf1, ← hab] at this; exact this
            clear haf1 haf2 hab
            go_wp2_with fail
            refine (HI.out _ (HH.out.1.kept HB1j.out)).mono ?_
            rintro r w5 ⟨rfl, hb⟩
            have HB5 : Hid (Below w1.heap.size w1 w5 ∧ Below w4.heap.size w4 w5) := ⟨below_next HB1j.out hb, below_next HBj.out hb⟩
            clear hb HB1j HBj
            go_wp2_with fail
            refine (HJ.out _ (HH.out.1.kept HB5.out.1)).mono ?_
            rintro r w6 ⟨rfl, hb⟩
            have HB6 : Hid (Below w4.heap.size w4 w6) := below_next HB5.out.2 hb
            clear hb HB5 HI HJ
            rcases H4.out.2.1.kept HB6.out with h | ⟨b, off, rfl, hbs, hE⟩
            · omega
            have ci := int_cell hE hin
            have cj := int_cell hE hjn
            clear hE
            cases ab
            · go_upto_region 18 with fail
              go_quiet (fail)
              go_wp2
              go_roundw
              case rel => exact ⟨j + 1, by omega, by go_num, below_drewN HB6.out _⟩
              case measure => simp [intOf]; omega
            · have hlt := HLT.out rfl
              have hlt2 : ¬ Y j ≤ Y i := by omega
              have hlt3 : decide (Y j ≤ Y i) = false := by simp; omega
              clear HLT
              go_upto_region 18 with fail
              go_quiet (fail)
              go_wp2
              go_roundw
              case rel => exact ⟨j + 1, by omega, by go_num, below_drewN HB6.out _⟩
              case measure => simp [intOf]; omega
          · have hjn' : ¬ (j : Int) < (N : Int) := by omega
            go_wp2
            go_roundw
            case rel => exact ⟨i + 1, by omega, by go_num, HBj.out⟩
            case measure => simp [intOf]; omega
      · have hin' : ¬ (i : Int) < (N : Int) := by omega
        have HBE : Hid (Below w.heap.size w wo) := H4.out.2.2.trans (HBo.out.mono H4.out.2.2.size)
        go_wp2
        go_ret
        exact ⟨rfl, HBE.out⟩)


theorem own : ownKnob Try.prog.godebug = none := by kernel_rfl
theorem laidOut : laidOutB Try.prog = true := by kernel_rfl

set_option maxRecDepth 100000 in
theorem lifted (os : Os) (started : os.Started) (H : Type) (enc : TypeId × Value → H) :
    ReturnsInHanded {} Try.checked os 3 .any (Rows.fnLamportSpec.pre6 enc Try.prog Try.f3 Rows.fnLamportRow.domain false) (Rows.fnLamportSpec.post enc Try.prog Try.f3 false true false false) := by
  refine returnsInHanded_of_change (C := Try.checked) own started (by kernel_rfl) Try.func3
    (ChangeSpec.witness6 (enc := enc) (C := Try.checked) false ⟨#[], #[.slice none 0 0], []⟩ 8 (by kernel_rfl) (by kernel_rfl) (by kernel_rfl) (by kernel_rfl)) ?_
  intro W base args ds gs before hval0 hW hcnd _
  have hval : ∀ (j : Nat) t v, Try.f3.params[j]? = some t → args[j]? = some v → Value.okWide Try.prog W .any base t v := hval0
  have hW' := hW
  obtain ⟨p, q, hA0, hV, rfl, hfz, hnd⟩ := hW
  have hA : DataW.TrodAll enc Try.prog W 0 (fun _ => true) true Try.f3.params.toList args.toList ds p := hA0
  rw [Try.params3] at hA hval
  obtain ⟨v0, vs0, d0, ds0, p0, q0, hargs, rfl, rfl, h0, r0⟩ := trodAll_cons hA
  obtain ⟨rfl, rfl, rfl⟩ := trodAll_nil r0
  obtain rfl : args = #[v0] := by cases args; simp_all
  obtain ⟨rfl, rfl⟩ := trodVars_none hV
  have k0 := h0
  have lt0 : ∀ x ∈ p0, x.block < W.heap.size := by obtain ⟨m, hm⟩ := k0; exact DataW.trod_lt m _ _ _ hm
  obtain ⟨a0, len0, cap0, rfl⟩ := okWide_slice Try.underlying22 (hval 0 22 v0 rfl rfl)
  obtain ⟨n0, X0, s0, b0⟩ := open_bytes h0
  clear hA0 hval0
  refine (walk (w := W) a0 len0 cap0 X0 n0 s0 b0).mono fun e W' ⟨he, bel⟩ => ?_
  subst he
  exact ⟨_, rfl, _, _, _, [], _, [], hW', trodAll_mk1 (shut_bool Try.underlying4 _), (trodAll_cons_mk (Below.trod laidOut (by kernel_rfl) (of_decide_eq_true (by kernel_rfl)) k0 bel lt0) trodAll_mk0), rfl, bel.frame _, fun h => by cases h⟩

set_option maxHeartbeats 40000000 in
theorem closed : joinedFacts Try.pinned.checked.prog 3 Try.f3 Rows.fnLamportSpec Rows.fnLamportRow = true := by
  unfold joinedFacts
  repeat' (first | (with_reducible refine both ?_ ?_) | (with_reducible exact may_enter') | (with_reducible refine lifts_eq ?_) | (with_reducible refine make_eq ?_) | as_aux_lemma => kernel_rfl)
theorem named : Try.pinned.checked.prog.funcNamed Rows.fnLamportRow.func = some 3 := by kernel_rfl
theorem over : Rows.fnLamportRow.holds Try.pinned (OpenSpec.ofChange Rows.fnLamportSpec) :=
  OpenClaim.holds_of_wide 3 Try.f3 rfl rfl rfl rfl rfl rfl rfl ⟨rfl, rfl, rfl, rfl, rfl⟩ rfl rfl rfl rfl rfl named Try.func3 closed
    (of_decide_eq_true (by as_aux_lemma => kernel_rfl)) (by unfold Func.isWrapper; first | (rw [if_pos (by decide +kernel)]; kernel_rfl) | (rw [if_neg (by decide +kernel)]; exact ⟨rfl, rfl⟩))
    (fun os started H enc _ => lifted os started H enc)

end Go.Proofs.Ytjophhiccbkpjaa.fLamport
namespace Go.Proofs.Ytjophhiccbkpjaa
theorem fLamport_holds : Rows.FnLamportSaid := fLamport.over
#print axioms fLamport_holds
end Go.Proofs.Ytjophhiccbkpjaa
