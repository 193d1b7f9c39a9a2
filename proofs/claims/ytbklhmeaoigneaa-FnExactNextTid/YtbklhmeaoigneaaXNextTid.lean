/- At every list of tids and every epoch impl.NextTid answers as the specification does, writes into no argument, and each argument reads behind the call as it read before. No condition. -/
import Derived.Test.YtbklhmeaoigneaaNextP
import Derived.Test.YtbklhmeaoigneaaOpenTid
import Derived.ProofKit
import Derived.OpenShut
import Derived.ShutString
import Derived.ChangeOld
import Derived.Below
import Derived.Lib.SmallJoins
namespace Go.Proofs.Ytbklhmeaoigneaa.xNextTid
open Go.ChangeShapes Go.WideShapes Go.ChangeAt Go.RowKit
open Go.ChangeMaps (open_string shut_string)
set_option linter.unusedVariables false

set_option maxHeartbeats 1000000 in
theorem walk (a : Option Addr) (n cap : Nat) (E S : Nat → Int) (B : Nat → Bool) (w : World) (hm : n ≤ maxLen) (hs : Sl w a n 3 (tidF E S B)) (ep : Int) (wep : (Lit.int .i64 ep).wf = true) :
    Calls Try.prog 10 #[.slice a n cap, .int .i64 ep] w fun r w' => r = .returned (.bool true) ∧ Below w.heap.size w w' := by
  clear wep
  by_cases hn : n ≤ 1048576
  case neg =>
    have hlt : (1048576 : Int) < (n : Int) := by omega
    clear hs
    go_enter Try.func10, Try.ntmps10
    go_wp2_with (go_at_call 39; refine (szTidS_any _ _ _ _ _ hm (by omega) (by omega)).mono ?_; rintro e w' ⟨rfl, rfl⟩; rw [if_pos hlt])
    go_ret
    exact ⟨rfl, Below.refl _ _⟩
  case pos =>
  have hlt : ¬ (1048576 : Int) < (n : Int) := by omega
  have hge : ¬ (1048576 : Int) - (n : Int) < 0 := by omega
  have HS : Hid (Sl w a n 3 (tidF E S B)) := hs
  clear hs
  go_enter Try.func10, Try.ntmps10
  go_wp2_with fail
  refine (szTidS_any _ _ _ _ _ hm (by omega) (by omega)).mono ?_
  rintro e w0 ⟨rfl, rfl⟩
  rw [if_neg (by omega)]
  go_wp2_with fail
  refine (toTidS_any _ _ _ E S B _ hn HS.out).mono ?_
  rintro e w1 ⟨rfl, hE1, hg1, hb1⟩
  have HE1 : Hid (Elems w1 w0.heap.size 0 n 3 (tidF E S B)) := hE1
  clear hE1
  go_wp2_with fail
  refine (specNext_any _ _ _ E S B _ _ hn (Or.inr ⟨_, _, rfl, hg1, HE1.out⟩)).mono ?_
  rintro e w2 ⟨rfl, hb2⟩
  have hz2 : w0.heap.size < w2.heap.size := Nat.lt_of_lt_of_le hg1 hb2.size
  have B2 : Hid (Below w0.heap.size w0 w2) := hb1.trans (hb2.mono (by omega))
  clear hb1 hb2 HE1 hg1
  go_wp2_with fail
  have B3 : Below w0.heap.size w0 (w2.alloc (.cells #[.int .i64 (nextE E S ep n), .int .i64 (nextT E S ep n), .bool false] 24)) := B2.out.alloc (by omega) _
  refine (toTidS_any _ _ _ E S B _ hn (HS.out.below B3 (Nat.le_refl _))).mono ?_
  rintro e w4 ⟨rfl, hE4, hg4, hb4⟩
  have HE4 : Hid (Elems w4 (w2.alloc (.cells #[.int .i64 (nextE E S ep n), .int .i64 (nextT E S ep n), .bool false] 24)).heap.size 0 n 3 (tidF E S B)) := hE4
  have T4 : Hid (Tid1 w4 w2.heap.size (nextE E S ep n) (nextT E S ep n) false) := (Tid1.new w2 _ _ _ _).below hb4 (by simp)
  have B4 : Hid (Below w0.heap.size w0 w4) := B3.trans (hb4.mono (by simp; omega))
  have hz4 : w2.heap.size + 1 < w4.heap.size := by simpa using hg4
  clear hE4 hg4 hb4 B3 B2
  go_wp2_with fail
  refine (next_any _ _ _ E S B _ _ hn (Or.inr ⟨_, _, rfl, by simpa using hz4, by simpa using HE4.out⟩)).mono ?_
  rintro e w5 ⟨rfl, hb5⟩
  have T5 : Tid1 w5 w2.heap.size (nextE E S ep n) (nextT E S ep n) false := T4.out.below hb5 (by omega)
  have HE5 : Hid (Elems w5 (w2.heap.size + 1) 0 n 3 (tidF E S B)) := by show Elems w5 (w2.heap.size + 1) 0 n 3 (tidF E S B); have := HE4.out.below hb5 (by simpa using hz4); simpa using this
  have B5 : Hid (Below w0.heap.size w0 w5) := B4.out.trans (hb5.mono B4.out.size)
  have hz5 : w2.heap.size + 1 < w5.heap.size := Nat.lt_of_lt_of_le hz4 hb5.size
  obtain ⟨t0, t1, t2, p0, p1, p2, tl⟩ := T5
  clear hb5 HE4 B4 T4
  go_wp2_with fail
  refine (eqTid_same _ _ _ _).mono ?_
  rintro e w6 ⟨rfl, hb6⟩
  have B5a : Below w0.heap.size w0 (w5.alloc (.cells #[.int .i64 (nextE E S ep n), .int .i64 (nextT E S ep n), .bool false] 24)) := B5.out.alloc B5.out.size _
  have B6 : Hid (Below w0.heap.size w0 w6) := B5a.trans (hb6.mono (by simp; omega))
  have HE6 : Hid (Elems w6 (w2.heap.size + 1) 0 n 3 (tidF E S B)) := (HE5.out.below ((Below.refl _ _).alloc (Nat.le_refl _) _) hz5).below hb6 (by simp; omega)
  have hz6 : w2.heap.size + 1 < w6.heap.size := Nat.lt_of_lt_of_le hz5 (by have := hb6.size; simp at this; omega)
  clear hb6 B5a B5 HE5
  go_wp2_with fail
  refine (toTidS_any _ _ _ E S B _ hn (HS.out.below B6.out (Nat.le_refl _))).mono ?_
  rintro e w7 ⟨rfl, hE7, hg7, hb7⟩
  have HE7 : Hid (Elems w7 w6.heap.size 0 n 3 (tidF E S B) ∧ Elems w7 (w2.heap.size + 1) 0 n 3 (tidF E S B)) := ⟨hE7, HE6.out.below hb7 hz6⟩
  have B7 : Hid (Below w0.heap.size w0 w7) := B6.out.trans (hb7.mono B6.out.size)
  have hz7 : w2.heap.size + 1 < w7.heap.size := Nat.lt_trans hz6 hg7
  clear hE7 hb7 HE6 B6
  go_wp2_with fail
  refine (eqTidS_same _ _ _ _ _ E S B _ hn (Or.inr ⟨_, _, rfl, hz7, HE7.out.2⟩) (Or.inr ⟨_, _, rfl, hg7, HE7.out.1⟩)).mono ?_
  rintro e w8 ⟨rfl, hb8⟩
  have B8 : Hid (Below w0.heap.size w0 w8) := B7.out.trans (hb8.mono B7.out.size)
  clear hb8
  go_wp2
  go_ret
  exact ⟨rfl, B8.out⟩


theorem own : ownKnob Try.prog.godebug = none := by kernel_rfl
theorem laidOut : laidOutB Try.prog = true := by kernel_rfl

set_option maxRecDepth 100000 in
theorem lifted (os : Os) (started : os.Started) (H : Type) (enc : TypeId × Value → H) :
    ReturnsInHanded {} Try.checked os 10 .any (Rows.fnExactNextTidSpec.pre6 enc Try.prog Try.f10 Rows.fnExactNextTidRow.domain false) (Rows.fnExactNextTidSpec.post enc Try.prog Try.f10 false true false false) := by
  refine returnsInHanded_of_change (C := Try.checked) own started (by kernel_rfl) Try.func10
    (ChangeSpec.witness6 (enc := enc) (C := Try.checked) false ⟨#[], #[.slice none 0 0, .int .i64 0], []⟩ 8 (by kernel_rfl) (by kernel_rfl) (by kernel_rfl) (by kernel_rfl)) ?_
  intro W base args ds gs before hval0 hW hcnd _
  have hval : ∀ (j : Nat) t v, Try.f10.params[j]? = some t → args[j]? = some v → Value.okWide Try.prog W .any base t v := hval0
  have hW' := hW
  obtain ⟨p, q, hA0, hV, rfl, hfz, hnd⟩ := hW
  have hA : DataW.TrodAll enc Try.prog W 0 (fun _ => true) true Try.f10.params.toList args.toList ds p := hA0
  rw [Try.params10] at hA hval
  obtain ⟨v0, vs0, d0, ds0, p0, q0, hargs, rfl, rfl, h0, r0⟩ := trodAll_cons hA
  obtain ⟨v1, vs1, d1, ds1, p1, q1, rfl, rfl, rfl, h1, r1⟩ := trodAll_cons r0
  obtain ⟨rfl, rfl, rfl⟩ := trodAll_nil r1
  obtain rfl : args = #[v0, v1] := by cases args; simp_all
  obtain ⟨rfl, rfl⟩ := trodVars_none hV
  have k0 := h0
  have lt0 : ∀ x ∈ p0, x.block < W.heap.size := by obtain ⟨m, hm⟩ := k0; exact DataW.trod_lt m _ _ _ hm
  obtain ⟨a0, len0, cap0, rfl⟩ := okWide_slice Try.underlying61 (hval 0 61 v0 rfl rfl)
  obtain ⟨n0, E0, S0, B0, s0⟩ := open_tids h0
  have k1 := h1
  have lt1 : ∀ x ∈ p1, x.block < W.heap.size := by obtain ⟨m, hm⟩ := k1; exact DataW.trod_lt m _ _ _ hm
  obtain ⟨a1, rfl, rfl, rfl, w1⟩ := open_int Try.underlying3 (hval 1 3 v1 rfl rfl) h1
  clear hA0 hval0
  refine (walk (w := W) a0 len0 cap0 E0 S0 B0 n0 s0 a1 w1).mono fun e W' ⟨he, bel⟩ => ?_
  subst he
  exact ⟨_, rfl, _, _, _, [], _, [], hW', trodAll_mk1 (shut_bool Try.underlying4 _), (trodAll_cons_mk (Below.trod laidOut (by kernel_rfl) (of_decide_eq_true (by kernel_rfl)) k0 bel lt0) (trodAll_cons_mk (Below.trod laidOut (by kernel_rfl) (of_decide_eq_true (by kernel_rfl)) k1 bel lt1) trodAll_mk0)), rfl, bel.frame _, fun h => by cases h⟩

theorem over : Rows.fnExactNextTidRow.holds Try.pinned (OpenSpec.ofChange Rows.fnExactNextTidSpec) :=
  OpenClaim.holds_of_wide 10 Try.f10 rfl rfl rfl rfl rfl rfl rfl ⟨rfl, rfl, rfl, rfl, rfl⟩ rfl rfl rfl rfl rfl (by kernel_rfl) Try.func10 (by kernel_rfl)
    (of_decide_eq_true (by kernel_rfl)) (by unfold Func.isWrapper; first | (rw [if_pos (by decide +kernel)]; kernel_rfl) | (rw [if_neg (by decide +kernel)]; exact ⟨rfl, rfl⟩))
    (fun os started H enc _ => lifted os started H enc)

end Go.Proofs.Ytbklhmeaoigneaa.xNextTid
namespace Go.Proofs.Ytbklhmeaoigneaa
theorem xNextTid_holds : Rows.FnExactNextTidSaid := xNextTid.over
#print axioms xNextTid_holds
end Go.Proofs.Ytbklhmeaoigneaa
