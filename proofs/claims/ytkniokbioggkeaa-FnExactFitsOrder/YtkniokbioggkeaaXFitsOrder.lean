/- At every list of calls and every list of numbers impl.FitsOrder answers as the specification does, writes into no argument, and each argument reads behind the call as it read before. No condition. -/
import Derived.Test.YtkniokbioggkeaaFoI
import Derived.Test.YtkniokbioggkeaaFoS
import Derived.Test.YtkniokbioggkeaaRowS
import Derived.Test.YtkniokbioggkeaaWords
import Derived.ProofKit
import Derived.OpenShut
import Derived.ShutString
import Derived.ChangeOld
import Derived.Below
import Derived.Lib.SmallJoins
namespace Go.Proofs.Ytkniokbioggkeaa.xFitsOrder
open Go.ChangeShapes Go.WideShapes Go.ChangeAt Go.RowKit
open Go.ChangeMaps (open_string shut_string)
set_option linter.unusedVariables false

set_option maxRecDepth 100000 in
set_option maxHeartbeats 4000000 in
theorem walk (a : Option Addr) (n cap : Nat) (V : Nat → CallV) (w : World) (hm : n ≤ maxLen) (hs : Sl w a n 6 (callF V)) (hS : ∀ i, i < n → (V i).f2.size ≤ maxLen ∧ (V i).f3.size ≤ maxLen) (a' : Option Addr) (n' cap' : Nat) (X : Nat → Int) (hm' : n' ≤ maxLen) (hs' : Sl w a' n' 1 (intF X)) (hX : ∀ i, i < n' → -9223372036854775808 ≤ X i ∧ X i ≤ 9223372036854775807) :
    Calls Try.prog 9 #[.slice a n cap, .slice a' n' cap'] w fun r w' => r = .returned (.bool true) ∧ Below w.heap.size w w' := by
  have HS : Hid (Sl w a n 6 (callF V) ∧ (∀ i, i < n → (V i).f2.size ≤ maxLen ∧ (V i).f3.size ≤ maxLen) ∧ Sl w a' n' 1 (intF X)) := ⟨hs, hS, hs'⟩
  clear hs hS hs' hX
  by_cases hn' : n' ≤ 1048576
  case neg =>
    have hlt : (1048576 : Int) < (n' : Int) := by omega
    unfold maxLen at hm'
    go_enter Try.func9, Try.ntmps9
    go_wp2
    go_ret
    exact ⟨rfl, Below.refl _ _⟩
  case pos =>
  have hlt'' : ¬ (1048576 : Int) < (n' : Int) := by omega
  go_enter Try.func9, Try.ntmps9
  go_wp2_with fail
  refine (szCallS_any _ _ _ V _ _ hm (by omega) (by omega) HS.out.1 HS.out.2.1).mono ?_
  rintro r w1 ⟨l, rfl, _, hl, hb⟩
  have HB1 : Hid (Below w.heap.size w w1) := hb
  have sz1 : w.heap.size ≤ w1.heap.size := hb.size
  clear hb
  by_cases hneg : l < 0
  · go_wp2
    go_ret
    exact ⟨rfl, HB1.out⟩
  have hn : n ≤ 1048576 := hl (by omega)
  clear hl
  go_wp2_with fail
  refine (toCallS_any _ _ _ V _ hn (HS.out.1.kept HB1.out)).mono ?_
  rintro r w2 ⟨rfl, hi, hg, hb⟩
  have HB2 : Hid (Below w.heap.size w w2) := below_next HB1.out hb
  have sz2 : w1.heap.size ≤ w2.heap.size := hb.size
  have A_2 : Hid (CallR w2 w1.heap.size n V) := hi
  clear hb hi hg HB1
  go_wp2_with fail
  refine (toIntS_any _ _ _ X _ hn' (HS.out.2.2.kept HB2.out)).mono ?_
  rintro r w3 ⟨rfl, hi, hg, hb⟩
  have HB3 : Hid (Below w.heap.size w w3) := below_next HB2.out hb
  have sz3 : w2.heap.size ≤ w3.heap.size := hb.size
  have A_3 : Hid (CallR w3 w1.heap.size n V) := A_2.out.next hb
  have D_3 : Hid (RowS w3 w2.heap.size (w2.heap.size + 1) (some ⟨w2.heap.size, 0, none⟩) n' X) := ⟨hi, hg⟩
  clear hb hi A_2 HB2
  go_wp2_with fail
  refine (specFitsOrder_any _ _ _ V _ _ _ X _ hn (Nat.le_refl _) hn' (Nat.le_refl _) HS.out.2.1 A_3.out.sl D_3.out.sl).mono ?_
  rintro r w4 ⟨rfl, hb⟩
  have HB4 : Hid (Below w.heap.size w w4) := below_next HB3.out hb
  have sz4 : w3.heap.size ≤ w4.heap.size := hb.size
  have A_4 : Hid (CallR w4 w1.heap.size n V) := A_3.out.next hb
  have D_4 : Hid (RowS w4 w2.heap.size (w2.heap.size + 1) (some ⟨w2.heap.size, 0, none⟩) n' X) := D_3.out.next hb
  clear hb A_3 D_3 HB3
  clear A_4
  clear D_4
  go_wp2_with fail
  refine (toCallS_any _ _ _ V _ hn (HS.out.1.kept HB4.out)).mono ?_
  rintro r w5 ⟨rfl, hi, hg, hb⟩
  have HB5 : Hid (Below w.heap.size w w5) := below_next HB4.out hb
  have sz5 : w4.heap.size ≤ w5.heap.size := hb.size
  have Y_5 : Hid (CallR w5 w4.heap.size n V) := hi
  clear hb hi hg HB4
  go_wp2_with fail
  refine (toIntS_any _ _ _ X _ hn' (HS.out.2.2.kept HB5.out)).mono ?_
  rintro r w6 ⟨rfl, hi, hg, hb⟩
  have HB6 : Hid (Below w.heap.size w w6) := below_next HB5.out hb
  have sz6 : w5.heap.size ≤ w6.heap.size := hb.size
  have Y_6 : Hid (CallR w6 w4.heap.size n V) := Y_5.out.next hb
  have Z_6 : Hid (RowS w6 w5.heap.size (w5.heap.size + 1) (some ⟨w5.heap.size, 0, none⟩) n' X) := ⟨hi, hg⟩
  clear hb hi Y_5 HB5
  go_wp2_with fail
  refine (fitsOrder_any _ _ _ V _ _ _ X _ hn (Nat.le_refl _) hn' HS.out.2.1 Y_6.out.sl Z_6.out.sl).mono ?_
  rintro r w7 ⟨rfl, hb⟩
  have HB7 : Hid (Below w.heap.size w w7) := below_next HB6.out hb
  have sz7 : w6.heap.size ≤ w7.heap.size := hb.size
  have Y_7 : Hid (CallR w7 w4.heap.size n V) := Y_6.out.next hb
  have Z_7 : Hid (RowS w7 w5.heap.size (w5.heap.size + 1) (some ⟨w5.heap.size, 0, none⟩) n' X) := Z_6.out.next hb
  clear hb Y_6 Z_6 HB6
  generalize foB V n X n' = b1 at *
  generalize foOk V n X n' = b2 at *
  go_wp2_with fail
  refine (toCallS_any _ _ _ V _ hn (HS.out.1.kept HB7.out)).mono ?_
  rintro r w8 ⟨rfl, hi, hg, hb⟩
  have HB8 : Hid (Below w.heap.size w w8) := below_next HB7.out hb
  have sz8 : w7.heap.size ≤ w8.heap.size := hb.size
  have Y_8 : Hid (CallR w8 w4.heap.size n V) := Y_7.out.next hb
  have Z_8 : Hid (RowS w8 w5.heap.size (w5.heap.size + 1) (some ⟨w5.heap.size, 0, none⟩) n' X) := Z_7.out.next hb
  have A_8 : Hid (CallR w8 w7.heap.size n V) := hi
  clear hb hi hg Y_7 Z_7 HB7
  go_wp2_with fail
  refine (eqCallS_same _ _ _ _ _ V _ hn Y_8.out.sl A_8.out.sl).mono ?_
  rintro r w9 ⟨rfl, hb⟩
  have HB9 : Hid (Below w.heap.size w w9) := below_next HB8.out hb
  have sz9 : w8.heap.size ≤ w9.heap.size := hb.size
  have Y_9 : Hid (CallR w9 w4.heap.size n V) := Y_8.out.next hb
  have Z_9 : Hid (RowS w9 w5.heap.size (w5.heap.size + 1) (some ⟨w5.heap.size, 0, none⟩) n' X) := Z_8.out.next hb
  have A_9 : Hid (CallR w9 w7.heap.size n V) := A_8.out.next hb
  clear hb Y_8 Z_8 A_8 HB8
  clear A_9
  go_wp2_with fail
  refine (toIntS_any _ _ _ X _ hn' (HS.out.2.2.kept HB9.out)).mono ?_
  rintro r w10 ⟨rfl, hi, hg, hb⟩
  have HB10 : Hid (Below w.heap.size w w10) := below_next HB9.out hb
  have sz10 : w9.heap.size ≤ w10.heap.size := hb.size
  have Y_10 : Hid (CallR w10 w4.heap.size n V) := Y_9.out.next hb
  have Z_10 : Hid (RowS w10 w5.heap.size (w5.heap.size + 1) (some ⟨w5.heap.size, 0, none⟩) n' X) := Z_9.out.next hb
  have D_10 : Hid (RowS w10 w9.heap.size (w9.heap.size + 1) (some ⟨w9.heap.size, 0, none⟩) n' X) := ⟨hi, hg⟩
  clear hb hi Y_9 Z_9 HB9
  go_wp2_with fail
  refine (eqIntS_same _ _ _ _ _ X _ hn' Z_10.out.sl D_10.out.sl).mono ?_
  rintro r w11 ⟨rfl, hb⟩
  have HB11 : Hid (Below w.heap.size w w11) := below_next HB10.out hb
  have sz11 : w10.heap.size ≤ w11.heap.size := hb.size
  have Y_11 : Hid (CallR w11 w4.heap.size n V) := Y_10.out.next hb
  have Z_11 : Hid (RowS w11 w5.heap.size (w5.heap.size + 1) (some ⟨w5.heap.size, 0, none⟩) n' X) := Z_10.out.next hb
  have D_11 : Hid (RowS w11 w9.heap.size (w9.heap.size + 1) (some ⟨w9.heap.size, 0, none⟩) n' X) := D_10.out.next hb
  clear hb Y_10 Z_10 D_10 HB10
  have HE := HB11
  go_wp2
  go_ret
  exact ⟨rfl, HE.out⟩


theorem own : ownKnob Try.prog.godebug = none := by kernel_rfl
theorem laidOut : laidOutB Try.prog = true := by kernel_rfl

set_option maxRecDepth 100000 in
theorem lifted (os : Os) (started : os.Started) (H : Type) (enc : TypeId × Value → H) :
    ReturnsInHanded {} Try.checked os 9 .any (Rows.fnExactFitsOrderSpec.pre6 enc Try.prog Try.f9 Rows.fnExactFitsOrderRow.domain false) (Rows.fnExactFitsOrderSpec.post enc Try.prog Try.f9 false true false false) := by
  refine returnsInHanded_of_change (C := Try.checked) own started (by kernel_rfl) Try.func9
    (ChangeSpec.witness6 (enc := enc) (C := Try.checked) false ⟨#[], #[.slice none 0 0, .slice none 0 0], []⟩ 8 (by kernel_rfl) (by kernel_rfl) (by kernel_rfl) (by kernel_rfl)) ?_
  intro W base args ds gs before hval0 hW hcnd _
  have hval : ∀ (j : Nat) t v, Try.f9.params[j]? = some t → args[j]? = some v → Value.okWide Try.prog W .any base t v := hval0
  have hW' := hW
  obtain ⟨p, q, hA0, hV, rfl, hfz, hnd⟩ := hW
  have hA : DataW.TrodAll enc Try.prog W 0 (fun _ => true) true Try.f9.params.toList args.toList ds p := hA0
  rw [Try.params9] at hA hval
  obtain ⟨v0, vs0, d0, ds0, p0, q0, hargs, rfl, rfl, h0, r0⟩ := trodAll_cons hA
  obtain ⟨v1, vs1, d1, ds1, p1, q1, rfl, rfl, rfl, h1, r1⟩ := trodAll_cons r0
  obtain ⟨rfl, rfl, rfl⟩ := trodAll_nil r1
  obtain rfl : args = #[v0, v1] := by cases args; simp_all
  obtain ⟨rfl, rfl⟩ := trodVars_none hV
  have k0 := h0
  have lt0 : ∀ x ∈ p0, x.block < W.heap.size := by obtain ⟨m, hm⟩ := k0; exact DataW.trod_lt m _ _ _ hm
  obtain ⟨a0, len0, cap0, rfl⟩ := okWide_slice Try.underlying40 (hval 0 40 v0 rfl rfl)
  obtain ⟨n0, V0, s0, z0⟩ := open_calls h0
  have k1 := h1
  have lt1 : ∀ x ∈ p1, x.block < W.heap.size := by obtain ⟨m, hm⟩ := k1; exact DataW.trod_lt m _ _ _ hm
  obtain ⟨a1, len1, cap1, rfl⟩ := okWide_slice Try.underlying32 (hval 1 32 v1 rfl rfl)
  obtain ⟨n1, X1, s1, b1⟩ := open_ints h1
  clear hA0 hval0
  refine (walk (w := W) a0 len0 cap0 V0 n0 s0 z0 a1 len1 cap1 X1 n1 s1 b1).mono fun e W' ⟨he, bel⟩ => ?_
  subst he
  exact ⟨_, rfl, _, _, _, [], _, [], hW', trodAll_mk1 (shut_bool Try.underlying4 _), (trodAll_cons_mk (Below.trod laidOut (by kernel_rfl) (of_decide_eq_true (by kernel_rfl)) k0 bel lt0) (trodAll_cons_mk (Below.trod laidOut (by kernel_rfl) (of_decide_eq_true (by kernel_rfl)) k1 bel lt1) trodAll_mk0)), rfl, bel.frame _, fun h => by cases h⟩

set_option maxHeartbeats 40000000 in
theorem closed : joinedFacts Try.pinned.checked.prog 9 Try.f9 Rows.fnExactFitsOrderSpec Rows.fnExactFitsOrderRow = true := by
  unfold joinedFacts
  repeat' (first | (with_reducible refine both ?_ ?_) | (with_reducible exact may_enter') | (with_reducible refine lifts_eq ?_) | (with_reducible refine make_eq ?_) | as_aux_lemma => kernel_rfl)
theorem named : Try.pinned.checked.prog.funcNamed Rows.fnExactFitsOrderRow.func = some 9 := by kernel_rfl
theorem over : Rows.fnExactFitsOrderRow.holds Try.pinned (OpenSpec.ofChange Rows.fnExactFitsOrderSpec) :=
  OpenClaim.holds_of_wide 9 Try.f9 rfl rfl rfl rfl rfl rfl rfl ⟨rfl, rfl, rfl, rfl, rfl⟩ rfl rfl rfl rfl rfl named Try.func9 closed
    (of_decide_eq_true (by as_aux_lemma => kernel_rfl)) (by unfold Func.isWrapper; first | (rw [if_pos (by decide +kernel)]; kernel_rfl) | (rw [if_neg (by decide +kernel)]; exact ⟨rfl, rfl⟩))
    (fun os started H enc _ => lifted os started H enc)

end Go.Proofs.Ytkniokbioggkeaa.xFitsOrder
namespace Go.Proofs.Ytkniokbioggkeaa
theorem xFitsOrder_holds : Rows.FnExactFitsOrderSaid := xFitsOrder.over
#print axioms xFitsOrder_holds
end Go.Proofs.Ytkniokbioggkeaa
