/- At every list of locks impl.GoodLocks answers as the specification does, writes into no argument, and each argument reads behind the call as it read before. No condition. -/
import Derived.Test.YtedjllmbpcpfjaaGlS
import Derived.Test.YtedjllmbpcpfjaaOpenLk
import Derived.Test.YtedjllmbpcpfjaaWords
import Derived.ProofKit
import Derived.OpenShut
import Derived.ShutString
import Derived.ChangeOld
import Derived.Below
import Derived.Lib.SmallJoins
namespace Go.Proofs.Ytedjllmbpcpfjaa.xGoodLocks
open Go.ChangeShapes Go.WideShapes Go.ChangeAt Go.RowKit
open Go.ChangeMaps (open_string shut_string)
set_option linter.unusedVariables false

set_option maxRecDepth 100000 in
set_option maxHeartbeats 4000000 in
theorem walk (a : Option Addr) (n cap : Nat) (V : Nat → LkV) (A : Nat → LkA) (w : World) (hm : n ≤ maxLen) (hs : LkS w a n V A) (hS : ∀ i, i < n → LkLen (V i)) :
    Calls Try.prog 5 #[.slice a n cap] w fun r w' => r = .returned (.bool true) ∧ Below w.heap.size w w' := by
  have HS : Hid (LkS w a n V A ∧ (∀ i, i < n → LkLen (V i))) := ⟨hs, hS⟩
  clear hs hS
  go_enter Try.func5, Try.ntmps5
  go_wp2_with fail
  refine (szLockS_any _ _ _ V A _ hm HS.out.1 HS.out.2).mono ?_
  rintro r w1 ⟨l, rfl, hl, hb⟩
  have HB1 : Hid (Below w.heap.size w w1) := hb
  have sz1 : w.heap.size ≤ w1.heap.size := hb.size
  clear hb
  by_cases hneg : l < 0
  · go_wp2
    go_ret
    exact ⟨rfl, HB1.out⟩
  obtain ⟨hn, hz0⟩ := hl (by omega)
  have HZ : Hid (∀ i, i < n → LkOk (V i)) := hz0
  clear hl hz0
  go_wp2_with fail
  refine (toLockS_any _ _ _ V A _ hn HZ.out (HS.out.1.next HB1.out)).mono ?_
  rintro r w2 ⟨Aw1, rfl, hi, hb⟩
  have HB2 : Hid (Below w.heap.size w w2) := below_next HB1.out hb
  have sz2 : w1.heap.size ≤ w2.heap.size := hb.size
  have A_2 : Hid (LkR w2 w1.heap.size w2.heap.size w1.heap.size n V Aw1) := hi
  clear hb hi HB1
  go_wp2_with fail
  refine (specGoodLocks_any _ _ _ V _ _ hn HZ.out A_2.out.lks).mono ?_
  rintro r w3 ⟨rfl, hb⟩
  have HB3 : Hid (Below w.heap.size w w3) := below_next HB2.out hb
  have sz3 : w2.heap.size ≤ w3.heap.size := hb.size
  have A_3 : Hid (LkR w3 w1.heap.size w2.heap.size w1.heap.size n V Aw1) := A_2.out.next hb
  clear hb A_2 HB2
  clear A_3
  go_wp2_with fail
  refine (toLockS_any _ _ _ V A _ hn HZ.out (HS.out.1.next HB3.out)).mono ?_
  rintro r w4 ⟨Aw3, rfl, hi, hb⟩
  have HB4 : Hid (Below w.heap.size w w4) := below_next HB3.out hb
  have sz4 : w3.heap.size ≤ w4.heap.size := hb.size
  have X_4 : Hid (LkR w4 w3.heap.size w4.heap.size w3.heap.size n V Aw3) := hi
  clear hb hi HB3
  go_wp2_with fail
  refine (goodLocks_any _ _ _ V _ _ hn HZ.out X_4.out.lks).mono ?_
  rintro r w5 ⟨rfl, hb⟩
  have HB5 : Hid (Below w.heap.size w w5) := below_next HB4.out hb
  have sz5 : w4.heap.size ≤ w5.heap.size := hb.size
  have X_5 : Hid (LkR w5 w3.heap.size w4.heap.size w3.heap.size n V Aw3) := X_4.out.next hb
  clear hb X_4 HB4
  generalize goodL V n = ok at *
  go_wp2_with fail
  refine (toLockS_any _ _ _ V A _ hn HZ.out (HS.out.1.next HB5.out)).mono ?_
  rintro r w6 ⟨Aw5, rfl, hi, hb⟩
  have HB6 : Hid (Below w.heap.size w w6) := below_next HB5.out hb
  have sz6 : w5.heap.size ≤ w6.heap.size := hb.size
  have X_6 : Hid (LkR w6 w3.heap.size w4.heap.size w3.heap.size n V Aw3) := X_5.out.next hb
  have A_6 : Hid (LkR w6 w5.heap.size w6.heap.size w5.heap.size n V Aw5) := hi
  clear hb hi X_5 HB5
  go_wp2_with fail
  refine (eqLockS_same _ _ _ _ _ V _ _ _ hn HZ.out X_6.out.lks A_6.out.lks).mono ?_
  rintro r w7 ⟨rfl, hb⟩
  have HB7 : Hid (Below w.heap.size w w7) := below_next HB6.out hb
  have sz7 : w6.heap.size ≤ w7.heap.size := hb.size
  have X_7 : Hid (LkR w7 w3.heap.size w4.heap.size w3.heap.size n V Aw3) := X_6.out.next hb
  have A_7 : Hid (LkR w7 w5.heap.size w6.heap.size w5.heap.size n V Aw5) := A_6.out.next hb
  clear hb X_6 A_6 HB6
  have HE := HB7
  go_wp2
  go_ret
  exact ⟨rfl, HE.out⟩


theorem own : ownKnob Try.prog.godebug = none := by kernel_rfl
theorem laidOut : laidOutB Try.prog = true := by kernel_rfl

set_option maxRecDepth 100000 in
theorem lifted (os : Os) (started : os.Started) (H : Type) (enc : TypeId × Value → H) :
    ReturnsInHanded {} Try.checked os 5 .any (Rows.fnExactGoodLocksSpec.pre6 enc Try.prog Try.f5 Rows.fnExactGoodLocksRow.domain false) (Rows.fnExactGoodLocksSpec.post enc Try.prog Try.f5 false true false false) := by
  refine returnsInHanded_of_change (C := Try.checked) own started (by kernel_rfl) Try.func5
    (ChangeSpec.witness6 (enc := enc) (C := Try.checked) false ⟨#[], #[.slice none 0 0], []⟩ 8 (by kernel_rfl) (by kernel_rfl) (by kernel_rfl) (by kernel_rfl)) ?_
  intro W base args ds gs before hval0 hW hcnd _
  have hval : ∀ (j : Nat) t v, Try.f5.params[j]? = some t → args[j]? = some v → Value.okWide Try.prog W .any base t v := hval0
  have hW' := hW
  obtain ⟨p, q, hA0, hV, rfl, hfz, hnd⟩ := hW
  have hA : DataW.TrodAll enc Try.prog W 0 (fun _ => true) true Try.f5.params.toList args.toList ds p := hA0
  rw [Try.params5] at hA hval
  obtain ⟨v0, vs0, d0, ds0, p0, q0, hargs, rfl, rfl, h0, r0⟩ := trodAll_cons hA
  obtain ⟨rfl, rfl, rfl⟩ := trodAll_nil r0
  obtain rfl : args = #[v0] := by cases args; simp_all
  obtain ⟨rfl, rfl⟩ := trodVars_none hV
  have k0 := h0
  have lt0 : ∀ x ∈ p0, x.block < W.heap.size := by obtain ⟨m, hm⟩ := k0; exact DataW.trod_lt m _ _ _ hm
  obtain ⟨a0, len0, cap0, rfl⟩ := okWide_slice Try.underlying52 (hval 0 52 v0 rfl rfl)
  obtain ⟨n0, V0, A0, s0, b0⟩ := open_locks h0
  clear hA0 hval0
  refine (walk (w := W) a0 len0 cap0 V0 A0 n0 s0 b0).mono fun e W' ⟨he, bel⟩ => ?_
  subst he
  exact ⟨_, rfl, _, _, _, [], _, [], hW', trodAll_mk1 (shut_bool Try.underlying4 _), (trodAll_cons_mk (Below.trod laidOut (by kernel_rfl) (of_decide_eq_true (by kernel_rfl)) k0 bel lt0) trodAll_mk0), rfl, bel.frame _, fun h => by cases h⟩

set_option maxHeartbeats 40000000 in
theorem closed : joinedFacts Try.pinned.checked.prog 5 Try.f5 Rows.fnExactGoodLocksSpec Rows.fnExactGoodLocksRow = true := by
  unfold joinedFacts
  repeat' (first | (with_reducible refine both ?_ ?_) | (with_reducible exact may_enter') | (with_reducible refine lifts_eq ?_) | (with_reducible refine make_eq ?_) | as_aux_lemma => kernel_rfl)
theorem named : Try.pinned.checked.prog.funcNamed Rows.fnExactGoodLocksRow.func = some 5 := by kernel_rfl
theorem over : Rows.fnExactGoodLocksRow.holds Try.pinned (OpenSpec.ofChange Rows.fnExactGoodLocksSpec) :=
  OpenClaim.holds_of_wide 5 Try.f5 rfl rfl rfl rfl rfl rfl rfl ⟨rfl, rfl, rfl, rfl, rfl⟩ rfl rfl rfl rfl rfl named Try.func5 closed
    (of_decide_eq_true (by as_aux_lemma => kernel_rfl)) (by unfold Func.isWrapper; first | (rw [if_pos (by decide +kernel)]; kernel_rfl) | (rw [if_neg (by decide +kernel)]; exact ⟨rfl, rfl⟩))
    (fun os started H enc _ => lifted os started H enc)

end Go.Proofs.Ytedjllmbpcpfjaa.xGoodLocks
namespace Go.Proofs.Ytedjllmbpcpfjaa
theorem xGoodLocks_holds : Rows.FnExactGoodLocksSaid := xGoodLocks.over
#print axioms xGoodLocks_holds
end Go.Proofs.Ytedjllmbpcpfjaa
