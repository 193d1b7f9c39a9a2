/- Two majorities meet, and minimal groups meet just where all do, for drawn groups: the law FnMajority, at every two lists of bytes. No condition. -/
import Derived.Test.YtalnmollgielcaaDmD
import Derived.Test.YtalnmollgielcaaMjG
import Derived.Test.YtalnmollgielcaaMtO
import Derived.Test.YtalnmollgielcaaAmO
import Derived.Test.YtalnmollgielcaaMnT
import Derived.Test.YtalnmollgielcaaOpenBE
import Derived.Test.YtalnmollgielcaaWords
import Derived.ProofKit
import Derived.OpenShut
import Derived.ShutString
import Derived.ChangeOld
import Derived.Below
import Derived.Lib.SmallJoins
namespace Go.Proofs.Ytalnmollgielcaa.fMajority
open Go.ChangeShapes Go.WideShapes Go.ChangeAt Go.RowKit
open Go.ChangeMaps (open_string shut_string)
set_option linter.unusedVariables false

/-- The two groups and their boxes. -/
def St2 (w W : World) (L1 : List Int) (a1 : Option Addr) (c1 : Nat) (L2 : List Int) (a2 : Option Addr) (c2 bA bB : Nat) : Prop := Sl W a1 L1.length 1 (intF (atZ L1)) ∧ Sl W a2 L2.length 1 (intF (atZ L2)) ∧ BoxS W bA (.slice a1 L1.length c1) ∧ BoxS W bB (.slice a2 L2.length c2) ∧ Below w.heap.size w W
theorem St2.next {w W W' : World} {L1 : List Int} {a1 : Option Addr} {c1 : Nat} {L2 : List Int} {a2 : Option Addr} {c2 bA bB : Nat} (h : St2 w W L1 a1 c1 L2 a2 c2 bA bB) (hb : Below W.heap.size W W') : St2 w W' L1 a1 c1 L2 a2 c2 bA bB := ⟨h.1.kept hb, h.2.1.kept hb, h.2.2.1.next hb, h.2.2.2.1.next hb, below_next h.2.2.2.2 hb⟩
theorem ga_next {W W' : World} {a : Option Addr} {k cap : Nat} {V : Nat → GV} {A : Nat → GA} (h : GaAt W a k cap V A) (hb : Below W.heap.size W W') : GaAt W' a k cap V A := ⟨h.1, h.2.1.next hb, h.2.2⟩
theorem ga_n {W : World} {a : Option Addr} {k cap : Nat} {V : Nat → GV} {A : Nat → GA} (h : GaAt W a k cap V A) : ∀ i, i < k → (V i).n ≤ 1048576 := fun i hi => by have := (h.2.2 i hi).1; omega

set_option maxRecDepth 100000 in
set_option maxHeartbeats 8000000 in
theorem walk (a : Option Addr) (n cap : Nat) (X : Nat → Int) (w : World) (hm : n ≤ maxLen) (hs : Sl w a n 1 (byF X)) (hX : ∀ i, i < n → 0 ≤ X i ∧ X i ≤ 255)
    (a' : Option Addr) (n' cap' : Nat) (Y : Nat → Int) (hm' : n' ≤ maxLen) (hs' : Sl w a' n' 1 (byF Y)) (hY : ∀ i, i < n' → 0 ≤ Y i ∧ Y i ≤ 255) :
    Calls Try.prog 4 #[.slice a n cap, .slice a' n' cap'] w fun r w' => r = .returned (.bool true) ∧ Below w.heap.size w w' := by
  unfold maxLen at hm hm'
  have HS : Hid ((Sl w a n 1 (byF X) ∧ ∀ i, i < n → 0 ≤ X i ∧ X i ≤ 255) ∧ Sl w a' n' 1 (byF Y) ∧ ∀ i, i < n' → 0 ≤ Y i ∧ Y i ≤ 255) := ⟨⟨hs, hX⟩, hs', hY⟩
  clear hs hs' hX hY
  by_cases hlt : (1048576 : Int) < wrap64 ((n : Int) + (n' : Int))
  case pos =>
    go_enter Try.func4, Try.ntmps4
    go_wp2
    go_ret
    exact ⟨rfl, Below.refl _ _⟩
  case neg =>
  go_enter Try.func4, Try.ntmps4
  go_wp2_with fail
  refine (drawMeet_any _ _ _ X _ hm HS.out.1.1 HS.out.1.2).mono ?_
  rintro _ w1 ⟨L1, a1, c1, L2, a2, c2, m, ⟨hmm, hL1, hL2⟩, rfl, hi1, hi2, hb⟩
  obtain ⟨w2, hw2⟩ : ∃ x, x = (w1.alloc (.cells #[.slice a1 L1.length c1] 25)).alloc (.cells #[.slice a2 L2.length c2] 25) := ⟨_, rfl⟩
  obtain ⟨bA, hbA⟩ : ∃ x, x = w1.heap.size := ⟨_, rfl⟩
  obtain ⟨bB, hbB⟩ : ∃ x, x = w1.heap.size + 1 := ⟨_, rfl⟩
  have H2 : Hid (St2 w w2 L1 a1 c1 L2 a2 c2 bA bB) := by
    rw [hw2, hbA, hbB]
    have q1 : Below w1.heap.size w1 (w1.alloc (.cells #[.slice a1 L1.length c1] 25)) := Go.Joins.below_alloc1 _ _
    have q2 := below_next q1 (Go.Joins.below_alloc1 (w1.alloc (.cells #[.slice a1 L1.length c1] 25)) (.cells #[.slice a2 L2.length c2] 25))
    refine ⟨hi1.sl.kept q2, hi2.sl.kept q2, (BoxS.new _ _ _).next (Go.Joins.below_alloc1 _ _), ?_, below_next hb q2⟩
    have := BoxS.new (w1.alloc (.cells #[.slice a1 L1.length c1] 25)) (.slice a2 L2.length c2) 25
    simpa using this
  clear hi1 hi2 hb
  go_wp2_with fail
  rw [← hw2, ← hbB, ← hbA]
  clear hw2 hbA hbB
  refine (isMajority_any _ _ _ (atZ L1) m _ (by omega) H2.out.1).mono ?_
  rintro _ w3 ⟨rfl, hb⟩
  have H3 : Hid (St2 w w3 L1 a1 c1 L2 a2 c2 bA bB) := H2.out.next hb
  clear hb H2
  have cB := H3.out.2.2.2.1.1
  have zB := H3.out.2.2.2.1.2
  go_wp2_with fail
  clear cB zB
  refine (isMajority_any _ _ _ (atZ L2) m _ (by omega) H3.out.2.1).mono ?_
  rintro _ w4 ⟨rfl, hb⟩
  have H4 : Hid (St2 w w4 L1 a1 c1 L2 a2 c2 bA bB) := H3.out.next hb
  clear hb H3
  have cA := H4.out.2.2.1.1
  have zA := H4.out.2.2.1.2
  go_wp2_with fail
  clear cA zA
  refine (specIsMajority_any _ _ _ (atZ L1) m _ (by omega) (by omega) (by omega) H4.out.1).mono ?_
  rintro _ w5 ⟨rfl, hb⟩
  have H5 : Hid (St2 w w5 L1 a1 c1 L2 a2 c2 bA bB) := H4.out.next hb
  clear hb H4
  have cB := H5.out.2.2.2.1.1
  have zB := H5.out.2.2.2.1.2
  go_wp2_with fail
  clear cB zB
  refine (specIsMajority_any _ _ _ (atZ L2) m _ (by omega) (by omega) (by omega) H5.out.2.1).mono ?_
  rintro _ w6 ⟨rfl, hb⟩
  have H6 : Hid (St2 w w6 L1 a1 c1 L2 a2 c2 bA bB) := H5.out.next hb
  clear hb H5
  have cA := H6.out.2.2.1.1
  have zA := H6.out.2.2.1.2
  have cB := H6.out.2.2.2.1.1
  have zB := H6.out.2.2.2.1.2
  go_wp2_with fail
  clear cA zA cB zB
  refine (meetOf_any _ _ _ (atZ L1) _ _ _ (atZ L2) m _ (by omega) (by omega) H6.out.1 H6.out.2.1).mono ?_
  rintro _ w7 ⟨⟨a7, c7, rfl, _⟩, hb⟩
  have H7 : Hid (Below w.heap.size w w7) := below_next H6.out.2.2.2.2 hb
  clear hb H6
  have h4 : (grB (atZ L1) L1.length m = false ∧ imB (atZ L1) L1.length m = false) ∨ (grB (atZ L1) L1.length m = true ∧ imB (atZ L1) L1.length m = false) ∨ (grB (atZ L1) L1.length m = true ∧ imB (atZ L1) L1.length m = true ∧ imB (atZ L2) L2.length m = false) ∨
      (grB (atZ L1) L1.length m = true ∧ imB (atZ L1) L1.length m = true ∧ imB (atZ L2) L2.length m = true ∧ 0 < (meL (atZ L1) L1.length (atZ L2) L2.length m).length) := by
    cases e1 : grB (atZ L1) L1.length m
    · exact Or.inl ⟨rfl, by simp [imB, e1]⟩
    · cases e2 : imB (atZ L1) L1.length m
      · exact Or.inr (Or.inl ⟨rfl, rfl⟩)
      · cases e3 : imB (atZ L2) L2.length m
        · exact Or.inr (Or.inr (Or.inl ⟨rfl, rfl, rfl⟩))
        · exact Or.inr (Or.inr (Or.inr ⟨rfl, rfl, rfl, maj_meet e2 e3⟩))
  rw [meB_and]
  generalize grB (atZ L1) L1.length m = g1 at *
  generalize grB (atZ L2) L2.length m = g2 at *
  generalize imB (atZ L1) L1.length m = x at *
  generalize imB (atZ L2) L2.length m = y at *
  generalize (meL (atZ L1) L1.length (atZ L2) L2.length m).length = ml at *
  clear hL1 hL2
  generalize L1.length = l1 at *
  generalize L2.length = l2 at *
  have h5 : ∃ z : Nat, (g1 = false ∧ x = false) ∨ (g1 = true ∧ x = false) ∨ (g1 = true ∧ x = true ∧ y = false) ∨ (g1 = true ∧ x = true ∧ y = true ∧ ml = z + 1) := by
    rcases h4 with h | h | h | ⟨h1, h2, h3, h⟩
    · exact ⟨0, Or.inl h⟩
    · exact ⟨0, Or.inr (Or.inl h)⟩
    · exact ⟨0, Or.inr (Or.inr (Or.inl h))⟩
    · exact ⟨ml - 1, Or.inr (Or.inr (Or.inr ⟨h1, h2, h3, by omega⟩))⟩
  clear h4
  obtain ⟨z, h5⟩ := h5
  have hz0 : ¬ ((z + 1 : Nat) : Int) = 0 := by omega
  rcases h5 with ⟨rfl, rfl⟩ | ⟨rfl, rfl⟩ | ⟨rfl, rfl, rfl⟩ | ⟨rfl, rfl, rfl, rfl⟩
  all_goals
    go_wp2_with fail
    clear hz0
    refine (drawAll_any _ _ _ Y _ hm' (HS.out.2.1.kept (H7.out.alloc H7.out.size _)) HS.out.2.2).mono ?_
    rintro _ w9 ⟨m2, aL, k, cL, V, A, hmm2, rfl, hA, hb⟩
    have H9 : Hid (GaAt w9 aL k cL V A ∧ Below w.heap.size w w9) := ⟨hA, below_next (H7.out.alloc H7.out.size _) hb⟩
    have hk := hA.1
    clear hA hb H7
    go_wp2_with fail
    refine (allMeet_any _ _ _ _ V A _ (by omega) (ga_n H9.out.1) H9.out.1.2.1).mono ?_
    rintro _ w10 ⟨rfl, hb⟩
    have H10 : Hid (GaAt w10 aL k cL V A ∧ Below w.heap.size w w10) := ⟨ga_next H9.out.1 hb, below_next H9.out.2 hb⟩
    clear hb H9
    go_wp2_with fail
    refine (specAllMeet_any _ _ _ _ V A _ (by omega) hk.2.1 hk.2.2 (by omega) (by omega) (ga_n H10.out.1) H10.out.1.2.1).mono ?_
    rintro _ w11 ⟨rfl, hb⟩
    have H11 : Hid (GaAt w11 aL k cL V A ∧ Below w.heap.size w w11) := ⟨ga_next H10.out.1 hb, below_next H10.out.2 hb⟩
    clear hb H10
    go_wp2_with fail
    refine (minimalOf_any _ _ _ _ V A _ (by omega) (ga_n H11.out.1) H11.out.1.2.1).mono ?_
    rintro _ w12 ⟨⟨a5, c5, g5, A5, b5, rfl, hD⟩, hb⟩
    have H12 : Hid (GaAt w12 aL k cL V A ∧ Below w.heap.size w w12 ∧ GsS w12 a5 (miL V k m2).length (anV V (miL V k m2)) A5) := ⟨ga_next H11.out.1 hb, below_next H11.out.2 hb, hD.gs⟩
    clear hb hD H11
    go_wp2_with fail
    refine (specMinimalOf_any _ _ _ _ V A _ (by omega) (by omega) (by omega) (ga_n H12.out.1) (fun i hi => (H12.out.1.2.2 i hi).2) H12.out.1.2.1).mono ?_
    rintro _ w13 ⟨⟨a6, c6, g6, A6, b6, rfl, _⟩, hb⟩
    have H13 : Hid (Below w.heap.size w w13 ∧ GsS w13 a5 (miL V k m2).length (anV V (miL V k m2)) A5 ∧ (∀ i, i < k → (V i).n ≤ 1048576)) := ⟨below_next H12.out.2.1 hb, H12.out.2.2.next hb, ga_n H12.out.1⟩
    clear hb H12
    have hk46 : k ≤ 46 := hk.1
    clear hk
    have hl40 : (miL V k m2).length ≤ 40 := miL_len V k m2
    by_cases hg : gsB V k m2 = true
    · have HK : Hid (gsB (anV V (miL V k m2)) (miL V k m2).length m2 = true ∧ amB (anV V (miL V k m2)) (miL V k m2).length m2 = amB V k m2) := ⟨kept_good hg, kept_meet hg⟩
      have hfew : ((miL V k m2).length : Int) ≤ (k : Int) := by have := kept_few hg; omega
      have hsome : k = 0 ∨ ((k : Int) ≠ 0 ∧ (0 : Int) < ((miL V k m2).length : Int)) := by
        rcases Nat.eq_zero_or_pos k with e | e
        · exact Or.inl e
        · have := kept_some hg e
          exact Or.inr ⟨by omega, by omega⟩
      have HN : Hid (∀ i, i < (miL V k m2).length → (anV V (miL V k m2) i).n ≤ 1048576) := miL_n H13.out.2.2
      rw [hg]
      have HSO : Hid (k = 0 ∨ ((k : Int) ≠ 0 ∧ (0 : Int) < ((miL V k m2).length : Int))) := hsome
      have HFE : Hid (((miL V k m2).length : Int) ≤ (k : Int)) := hfew
      clear hg hsome hfew
      obtain ⟨am, ham⟩ : ∃ x, x = amB V k m2 := ⟨_, rfl⟩
      have HAM : Hid (am = amB V k m2) := ham
      rw [← ham]
      clear ham
      obtain ⟨l, hl⟩ : ∃ x, x = (miL V k m2).length := ⟨_, rfl⟩
      have HL : Hid (l = (miL V k m2).length) := hl
      rw [← hl]
      rw [← hl] at hl40
      clear hl
      go_wp2_with fail
      rw [HL.out] at hl40 ⊢
      refine (allMeet_any _ _ _ _ (anV V (miL V k m2)) A5 _ (by omega) HN.out H13.out.2.1).mono ?_
      rintro _ w14 ⟨rfl, hb⟩
      have H14 : Hid (Below w.heap.size w w14) := below_next H13.out.1 hb
      clear hb H13
      rw [HK.out.1, HK.out.2, ← HAM.out]
      have hfew := HFE.out
      have hsome := HSO.out
      clear HK HAM HN HL HFE HSO
      generalize (miL V k m2).length = l' at *
      rcases hsome with rfl | ⟨hs1, hs2⟩
      · go_wp2
        go_ret
        exact ⟨rfl, H14.out⟩
      · have HS3 : Hid (0 < l') := Hid.intro (by omega)
        go_wp2
        go_ret
        refine ⟨?_, H14.out⟩
        show Ending.returned (.bool ((k : Int) == 0 || decide (0 < l'))) = Ending.returned (.bool true)
        rw [decide_eq_true HS3.out, Bool.or_true]
    · have hg : gsB V k m2 = false := by simpa using hg
      have ha : amB V k m2 = false := by simp [amB, hg]
      have hl0 : (miL V k m2).length = 0 := by rw [min_no hg]; rfl
      rw [hg, ha, hl0]
      clear hg ha hl0 hl40
      go_wp2
      go_ret
      exact ⟨rfl, H13.out.1⟩


theorem own : ownKnob Try.prog.godebug = none := by kernel_rfl
theorem laidOut : laidOutB Try.prog = true := by kernel_rfl

set_option maxRecDepth 100000 in
theorem lifted (os : Os) (started : os.Started) (H : Type) (enc : TypeId × Value → H) :
    ReturnsInHanded {} Try.checked os 4 .any (Rows.fnMajoritySpec.pre6 enc Try.prog Try.f4 Rows.fnMajorityRow.domain false) (Rows.fnMajoritySpec.post enc Try.prog Try.f4 false true false false) := by
  refine returnsInHanded_of_change (C := Try.checked) own started (by kernel_rfl) Try.func4
    (ChangeSpec.witness6 (enc := enc) (C := Try.checked) false ⟨#[], #[.slice none 0 0, .slice none 0 0], []⟩ 8 (by kernel_rfl) (by kernel_rfl) (by kernel_rfl) (by kernel_rfl)) ?_
  intro W base args ds gs before hval0 hW hcnd _
  have hval : ∀ (j : Nat) t v, Try.f4.params[j]? = some t → args[j]? = some v → Value.okWide Try.prog W .any base t v := hval0
  have hW' := hW
  obtain ⟨p, q, hA0, hV, rfl, hfz, hnd⟩ := hW
  have hA : DataW.TrodAll enc Try.prog W 0 (fun _ => true) true Try.f4.params.toList args.toList ds p := hA0
  rw [Try.params4] at hA hval
  obtain ⟨v0, vs0, d0, ds0, p0, q0, hargs, rfl, rfl, h0, r0⟩ := trodAll_cons hA
  obtain ⟨v1, vs1, d1, ds1, p1, q1, rfl, rfl, rfl, h1, r1⟩ := trodAll_cons r0
  obtain ⟨rfl, rfl, rfl⟩ := trodAll_nil r1
  obtain rfl : args = #[v0, v1] := by cases args; simp_all
  obtain ⟨rfl, rfl⟩ := trodVars_none hV
  have k0 := h0
  have lt0 : ∀ x ∈ p0, x.block < W.heap.size := by obtain ⟨m, hm⟩ := k0; exact DataW.trod_lt m _ _ _ hm
  obtain ⟨a0, len0, cap0, rfl⟩ := okWide_slice Try.underlying22 (hval 0 22 v0 rfl rfl)
  obtain ⟨n0, X0, s0, b0⟩ := open_bytes h0
  have k1 := h1
  have lt1 : ∀ x ∈ p1, x.block < W.heap.size := by obtain ⟨m, hm⟩ := k1; exact DataW.trod_lt m _ _ _ hm
  obtain ⟨a1, len1, cap1, rfl⟩ := okWide_slice Try.underlying22 (hval 1 22 v1 rfl rfl)
  obtain ⟨n1, X1, s1, b1⟩ := open_bytes h1
  clear hA0 hval0
  refine (walk (w := W) a0 len0 cap0 X0 n0 s0 b0 a1 len1 cap1 X1 n1 s1 b1).mono fun e W' ⟨he, bel⟩ => ?_
  subst he
  exact ⟨_, rfl, _, _, _, [], _, [], hW', trodAll_mk1 (shut_bool Try.underlying4 _), (trodAll_cons_mk (Below.trod laidOut (by kernel_rfl) (of_decide_eq_true (by kernel_rfl)) k0 bel lt0) (trodAll_cons_mk (Below.trod laidOut (by kernel_rfl) (of_decide_eq_true (by kernel_rfl)) k1 bel lt1) trodAll_mk0)), rfl, bel.frame _, fun h => by cases h⟩

set_option maxHeartbeats 40000000 in
theorem closed : joinedFacts Try.pinned.checked.prog 4 Try.f4 Rows.fnMajoritySpec Rows.fnMajorityRow = true := by
  unfold joinedFacts
  repeat' (first | (with_reducible refine both ?_ ?_) | (with_reducible exact may_enter') | (with_reducible refine lifts_eq ?_) | (with_reducible refine make_eq ?_) | as_aux_lemma => kernel_rfl)
theorem named : Try.pinned.checked.prog.funcNamed Rows.fnMajorityRow.func = some 4 := by kernel_rfl
theorem over : Rows.fnMajorityRow.holds Try.pinned (OpenSpec.ofChange Rows.fnMajoritySpec) :=
  OpenClaim.holds_of_wide 4 Try.f4 rfl rfl rfl rfl rfl rfl rfl ⟨rfl, rfl, rfl, rfl, rfl⟩ rfl rfl rfl rfl rfl named Try.func4 closed
    (of_decide_eq_true (by as_aux_lemma => kernel_rfl)) (by unfold Func.isWrapper; first | (rw [if_pos (by decide +kernel)]; kernel_rfl) | (rw [if_neg (by decide +kernel)]; exact ⟨rfl, rfl⟩))
    (fun os started H enc _ => lifted os started H enc)

end Go.Proofs.Ytalnmollgielcaa.fMajority
namespace Go.Proofs.Ytalnmollgielcaa
theorem fMajority_holds : Rows.FnMajoritySaid := fMajority.over
#print axioms fMajority_holds


end Go.Proofs.Ytalnmollgielcaa
