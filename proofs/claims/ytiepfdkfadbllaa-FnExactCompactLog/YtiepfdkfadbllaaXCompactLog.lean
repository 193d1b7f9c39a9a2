/- At every list of entries impl.CompactLog answers as the specification does, writes into no argument, its answer owns its memory, and each argument reads behind the call as it read before. No condition. -/
import Derived.Test.YtiepfdkfadbllaaCoS
import Derived.Test.YtiepfdkfadbllaaMkEntry
import Derived.Test.YtiepfdkfadbllaaWords
import Derived.ProofKit
import Derived.OpenShut
import Derived.ShutString
import Derived.ChangeOld
import Derived.Below
import Derived.Lib.SmallJoins
namespace Go.Proofs.Ytiepfdkfadbllaa.xCompactLog
open Go.ChangeShapes Go.WideShapes Go.ChangeAt Go.RowKit
open Go.ChangeMaps (open_string shut_string)
set_option linter.unusedVariables false

set_option maxRecDepth 100000 in
set_option maxHeartbeats 4000000 in
theorem walk (a : Option Addr) (n cap : Nat) (V : Nat → EntryV) (w : World) (hm : n ≤ maxLen) (hs : Sl w a n 6 (entryF V)) (hS : ∀ i, i < n → (V i).f1.size ≤ maxLen ∧ (V i).f2.size ≤ maxLen) :
    Calls Try.prog 7 #[.slice a n cap] w fun r w' => r = .returned (.bool true) ∧ Below w.heap.size w w' := by
  have HS : Hid (Sl w a n 6 (entryF V) ∧ (∀ i, i < n → (V i).f1.size ≤ maxLen ∧ (V i).f2.size ≤ maxLen)) := ⟨hs, hS⟩
  clear hs hS
  go_enter Try.func7, Try.ntmps7
  go_wp2_with fail
  refine (szEntryS_any _ _ _ V _ _ hm (by omega) (by omega) HS.out.1 HS.out.2).mono ?_
  rintro r w1 ⟨l, rfl, _, hl, hb⟩
  have HB1 : Hid (Below w.heap.size w w1) := hb
  have sz1 : w.heap.size ≤ w1.heap.size := hb.size
  clear hb
  by_cases hneg : l < 0
  · go_wp2
    go_ret
    exact ⟨rfl, HB1.out⟩
  have hn : n ≤ 1048576 := hl (by omega)
  clear hl
  go_wp2_with fail
  refine (toEntryS_any _ _ _ V _ hn (HS.out.1.below HB1.out (Nat.le_refl _))).mono ?_
  rintro r w2 ⟨rfl, hi, hg, hb⟩
  have HB2 : Hid (Below w.heap.size w w2) := below_nx HB1.out hb
  have sz2 : w1.heap.size ≤ w2.heap.size := hb.size
  have A_2 : Hid (EntryR w2 w1.heap.size n V) := hi
  clear HB1 hb
  clear hi hg
  go_wp2_with fail
  refine (specCompactLog_any _ _ _ V _ hn (Nat.le_refl _) HS.out.2 A_2.out.sl).mono ?_
  rintro r w3 ⟨a2, cap2, rfl, hi, hb⟩
  have HB3 : Hid (Below w.heap.size w w3) := below_nx HB2.out hb
  have sz3 : w2.heap.size ≤ w3.heap.size := hb.size
  clear A_2
  have S_3 : Hid (SRow w3 w2.heap.size w3.heap.size a2 (coL V n).length 6 (entryF (vE (coL V n)))) := hi
  clear HB2 hb
  clear hi
  go_wp2_with fail
  refine (toEntryS_any _ _ _ V _ hn (HS.out.1.below HB3.out (Nat.le_refl _))).mono ?_
  rintro r w4 ⟨rfl, hi, hg, hb⟩
  have HB4 : Hid (Below w.heap.size w w4) := below_nx HB3.out hb
  have sz4 : w3.heap.size ≤ w4.heap.size := hb.size
  have S_4 : Hid (SRow w4 w2.heap.size w3.heap.size a2 (coL V n).length 6 (entryF (vE (coL V n)))) := S_3.out.next hb
  have X_4 : Hid (EntryR w4 w3.heap.size n V) := hi
  clear S_3 HB3 hb
  clear hi hg
  have szx : w3.heap.size < w4.heap.size := X_4.out.2.2
  go_wp2_with fail
  refine (compactLog_any _ _ _ V _ hn (Nat.le_refl _) HS.out.2 X_4.out.sl).mono ?_
  rintro r w5 ⟨a4, cap4, rfl, hi, hb⟩
  have HB5 : Hid (Below w.heap.size w w5) := below_nx HB4.out hb
  have sz5 : w4.heap.size ≤ w5.heap.size := hb.size
  have S_5 : Hid (SRow w5 w2.heap.size w3.heap.size a2 (coL V n).length 6 (entryF (vE (coL V n)))) := S_4.out.next hb
  have X_5 : Hid (EntryR w5 w3.heap.size n V) := X_4.out.next hb
  have G_5 : Hid (SRow w5 w4.heap.size w5.heap.size a4 (coL V n).length 6 (entryF (vE (coL V n)))) := hi
  clear S_4 X_4 HB4 hb
  clear hi
  have hN0 : (coL V n).length ≤ 1048576 := Nat.le_trans (coL_len V n) (by omega)
  have HIM : Hid (∀ (a9 : Option Addr) (w9 : World), Sl w9 a9 n 6 (entryF V) → Calls Try.prog 18 #[.slice a9 n n] w9 (fun r w' => ComPost (coL V n) (logB V n) w9 r w')) := fun a9 w9 h => compactLog_any _ _ _ V _ hn (Nat.le_refl _) HS.out.2 h
  generalize coL V n = L at *
  generalize logB V n = ok at *
  have hN : L.length ≤ 1048576 := hN0
  clear hN0
  go_wp2_with fail
  refine (eqEntryS_same _ _ _ _ _ (vE L) _ hN G_5.out.sl S_5.out.sl).mono ?_
  rintro r w6 ⟨rfl, hb⟩
  have HB6 : Hid (Below w.heap.size w w6) := below_nx HB5.out hb
  have sz6 : w5.heap.size ≤ w6.heap.size := hb.size
  have S_6 : Hid (SRow w6 w2.heap.size w3.heap.size a2 L.length 6 (entryF (vE L))) := S_5.out.next hb
  have X_6 : Hid (EntryR w6 w3.heap.size n V) := X_5.out.next hb
  have G_6 : Hid (SRow w6 w4.heap.size w5.heap.size a4 L.length 6 (entryF (vE L))) := G_5.out.next hb
  clear S_5 X_5 G_5 HB5 hb
  go_wp2_with fail
  refine (toEntryS_any _ _ _ V _ hn (HS.out.1.below HB6.out (Nat.le_refl _))).mono ?_
  rintro r w7 ⟨rfl, hi, hg, hb⟩
  have HB7 : Hid (Below w.heap.size w w7) := below_nx HB6.out hb
  have sz7 : w6.heap.size ≤ w7.heap.size := hb.size
  have S_7 : Hid (SRow w7 w2.heap.size w3.heap.size a2 L.length 6 (entryF (vE L))) := S_6.out.next hb
  have X_7 : Hid (EntryR w7 w3.heap.size n V) := X_6.out.next hb
  have G_7 : Hid (SRow w7 w4.heap.size w5.heap.size a4 L.length 6 (entryF (vE L))) := G_6.out.next hb
  have A_7 : Hid (EntryR w7 w6.heap.size n V) := hi
  clear S_6 X_6 G_6 HB6 hb
  clear hi hg
  go_wp2_with fail
  refine (eqEntryS_same _ _ _ _ _ V _ hn X_7.out.sl A_7.out.sl).mono ?_
  rintro r w8 ⟨rfl, hb⟩
  have HB8 : Hid (Below w.heap.size w w8) := below_nx HB7.out hb
  have sz8 : w7.heap.size ≤ w8.heap.size := hb.size
  have S_8 : Hid (SRow w8 w2.heap.size w3.heap.size a2 L.length 6 (entryF (vE L))) := S_7.out.next hb
  have X_8 : Hid (EntryR w8 w3.heap.size n V) := X_7.out.next hb
  have G_8 : Hid (SRow w8 w4.heap.size w5.heap.size a4 L.length 6 (entryF (vE L))) := G_7.out.next hb
  clear A_7
  clear S_7 X_7 G_7 HB7 hb
  have X8 := (show Hid _ from X_8.out)
  clear X_8
  go_wp2_with fail
  refine (markEntryS_row _ _ _ (entryF V) 1 w3.heap.size (w3.heap.size + 1) _ hn (by omega) (by omega) ⟨Or.inr ⟨w3.heap.size, rfl, Nat.le_refl _, Nat.lt_succ_self _, X8.out.2.2, X8.out.1, X8.out.2.1⟩, X8.out.2.2⟩).mono ?_
  rintro r w9 ⟨rfl, _, ht⟩
  have HB9 : Hid (Below w.heap.size w w9) := below_trn HB8.out ht.1 (by omega)
  have sz9 : w8.heap.size ≤ w9.heap.size := ht.1.2.2.2.1
  have S_9 : Hid (SRow w9 w2.heap.size w3.heap.size a2 L.length 6 (entryF (vE L))) := S_8.out.trn ht.1 (by omega)
  have G_9 : Hid (SRow w9 w4.heap.size w5.heap.size a4 L.length 6 (entryF (vE L))) := G_8.out.trn ht.1 (by omega)
  clear S_8 G_8 HB8 ht
  clear X8
  go_wp2_with fail
  refine (eqEntryS_same _ _ _ _ _ (vE L) _ hN G_9.out.sl S_9.out.sl).mono ?_
  rintro r w10 ⟨rfl, hb⟩
  have HB10 : Hid (Below w.heap.size w w10) := below_nx HB9.out hb
  have sz10 : w9.heap.size ≤ w10.heap.size := hb.size
  have S_10 : Hid (SRow w10 w2.heap.size w3.heap.size a2 L.length 6 (entryF (vE L))) := S_9.out.next hb
  have G_10 : Hid (SRow w10 w4.heap.size w5.heap.size a4 L.length 6 (entryF (vE L))) := G_9.out.next hb
  clear S_9 G_9 HB9 hb
  have G10 := (show Hid _ from G_10.out)
  clear G_10
  go_wp2_with fail
  refine (markEntryS_row _ _ _ (entryF (vE L)) 1 w4.heap.size w5.heap.size _ hN (by omega) (by omega) G10.out).mono ?_
  rintro r w11 ⟨rfl, hi, ht⟩
  have HB11 : Hid (Below w.heap.size w w11) := below_trn HB10.out ht.1 (by omega)
  have sz11 : w10.heap.size ≤ w11.heap.size := ht.1.2.2.2.1
  have S_11 : Hid (SRow w11 w2.heap.size w3.heap.size a2 L.length 6 (entryF (vE L))) := S_10.out.trn ht.1 (by omega)
  have G_11 : Hid (SRow w11 w4.heap.size w5.heap.size a4 L.length 6 (entryF (mkEntry 1))) := hi
  clear S_10 HB10 ht
  clear G10 hi
  go_wp2_with fail
  refine (heldEntryS_any _ _ _ 1 _ hN (by omega) (by omega) G_11.out.sl).mono ?_
  rintro r w12 ⟨rfl, hb⟩
  have HB12 : Hid (Below w.heap.size w w12) := below_nx HB11.out hb
  have sz12 : w11.heap.size ≤ w12.heap.size := hb.size
  have S_12 : Hid (SRow w12 w2.heap.size w3.heap.size a2 L.length 6 (entryF (vE L))) := S_11.out.next hb
  have G_12 : Hid (SRow w12 w4.heap.size w5.heap.size a4 L.length 6 (entryF (mkEntry 1))) := G_11.out.next hb
  clear S_11 G_11 HB11 hb
  go_wp2_with fail
  refine (toEntryS_any _ _ _ V _ hn (HS.out.1.below HB12.out (Nat.le_refl _))).mono ?_
  rintro r w13 ⟨rfl, hi, hg, hb⟩
  have HB13 : Hid (Below w.heap.size w w13) := below_nx HB12.out hb
  have sz13 : w12.heap.size ≤ w13.heap.size := hb.size
  have S_13 : Hid (SRow w13 w2.heap.size w3.heap.size a2 L.length 6 (entryF (vE L))) := S_12.out.next hb
  have G_13 : Hid (SRow w13 w4.heap.size w5.heap.size a4 L.length 6 (entryF (mkEntry 1))) := G_12.out.next hb
  have A_13 : Hid (EntryR w13 w12.heap.size n V) := hi
  clear S_12 G_12 HB12 hb
  clear hi hg
  go_wp2_with fail
  refine (HIM.out _ _ A_13.out.sl).mono ?_
  rintro r w14 ⟨a9, cap9, rfl, hi, hb⟩
  have HB14 : Hid (Below w.heap.size w w14) := below_nx HB13.out hb
  have sz14 : w13.heap.size ≤ w14.heap.size := hb.size
  have S_14 : Hid (SRow w14 w2.heap.size w3.heap.size a2 L.length 6 (entryF (vE L))) := S_13.out.next hb
  have G_14 : Hid (SRow w14 w4.heap.size w5.heap.size a4 L.length 6 (entryF (mkEntry 1))) := G_13.out.next hb
  clear A_13
  have H_14 : Hid (SRow w14 w13.heap.size w14.heap.size a9 L.length 6 (entryF (vE L))) := hi
  clear S_13 G_13 HB13 hb
  clear hi
  go_wp2_with fail
  refine (eqEntryS_same _ _ _ _ _ (vE L) _ hN H_14.out.sl S_14.out.sl).mono ?_
  rintro r w15 ⟨rfl, hb⟩
  have HB15 : Hid (Below w.heap.size w w15) := below_nx HB14.out hb
  have sz15 : w14.heap.size ≤ w15.heap.size := hb.size
  have S_15 : Hid (SRow w15 w2.heap.size w3.heap.size a2 L.length 6 (entryF (vE L))) := S_14.out.next hb
  have G_15 : Hid (SRow w15 w4.heap.size w5.heap.size a4 L.length 6 (entryF (mkEntry 1))) := G_14.out.next hb
  have H_15 : Hid (SRow w15 w13.heap.size w14.heap.size a9 L.length 6 (entryF (vE L))) := H_14.out.next hb
  clear S_14 G_14 H_14 HB14 hb
  go_wp2_with fail
  refine (heldEntryS_any _ _ _ 1 _ hN (by omega) (by omega) G_15.out.sl).mono ?_
  rintro r w16 ⟨rfl, hb⟩
  have HB16 : Hid (Below w.heap.size w w16) := below_nx HB15.out hb
  have sz16 : w15.heap.size ≤ w16.heap.size := hb.size
  have S_16 : Hid (SRow w16 w2.heap.size w3.heap.size a2 L.length 6 (entryF (vE L))) := S_15.out.next hb
  have G_16 : Hid (SRow w16 w4.heap.size w5.heap.size a4 L.length 6 (entryF (mkEntry 1))) := G_15.out.next hb
  have H_16 : Hid (SRow w16 w13.heap.size w14.heap.size a9 L.length 6 (entryF (vE L))) := H_15.out.next hb
  clear S_15 G_15 H_15 HB15 hb
  have HE := HB16
  go_wp2
  go_ret
  exact ⟨rfl, HE.out⟩


theorem own : ownKnob Try.prog.godebug = none := by kernel_rfl
theorem laidOut : laidOutB Try.prog = true := by kernel_rfl

set_option maxRecDepth 100000 in
theorem lifted (os : Os) (started : os.Started) (H : Type) (enc : TypeId × Value → H) :
    ReturnsInHanded {} Try.checked os 7 .any (Rows.fnExactCompactLogSpec.pre6 enc Try.prog Try.f7 Rows.fnExactCompactLogRow.domain false) (Rows.fnExactCompactLogSpec.post enc Try.prog Try.f7 false true false false) := by
  refine returnsInHanded_of_change (C := Try.checked) own started (by kernel_rfl) Try.func7
    (ChangeSpec.witness6 (enc := enc) (C := Try.checked) false ⟨#[], #[.slice none 0 0], []⟩ 8 (by kernel_rfl) (by kernel_rfl) (by kernel_rfl) (by kernel_rfl)) ?_
  intro W base args ds gs before hval0 hW hcnd _
  have hval : ∀ (j : Nat) t v, Try.f7.params[j]? = some t → args[j]? = some v → Value.okWide Try.prog W .any base t v := hval0
  have hW' := hW
  obtain ⟨p, q, hA0, hV, rfl, hfz, hnd⟩ := hW
  have hA : DataW.TrodAll enc Try.prog W 0 (fun _ => true) true Try.f7.params.toList args.toList ds p := hA0
  rw [Try.params7] at hA hval
  obtain ⟨v0, vs0, d0, ds0, p0, q0, hargs, rfl, rfl, h0, r0⟩ := trodAll_cons hA
  obtain ⟨rfl, rfl, rfl⟩ := trodAll_nil r0
  obtain rfl : args = #[v0] := by cases args; simp_all
  obtain ⟨rfl, rfl⟩ := trodVars_none hV
  have k0 := h0
  have lt0 : ∀ x ∈ p0, x.block < W.heap.size := by obtain ⟨m, hm⟩ := k0; exact DataW.trod_lt m _ _ _ hm
  obtain ⟨a0, len0, cap0, rfl⟩ := okWide_slice Try.underlying44 (hval 0 44 v0 rfl rfl)
  obtain ⟨n0, V0, s0, z0⟩ := open_entrys h0
  clear hA0 hval0
  refine (walk (w := W) a0 len0 cap0 V0 n0 s0 z0).mono fun e W' ⟨he, bel⟩ => ?_
  subst he
  exact ⟨_, rfl, _, _, _, [], _, [], hW', trodAll_mk1 (shut_bool Try.underlying4 _), (trodAll_cons_mk (Below.trod laidOut (by kernel_rfl) (of_decide_eq_true (by kernel_rfl)) k0 bel lt0) trodAll_mk0), rfl, bel.frame _, fun h => by cases h⟩

set_option maxHeartbeats 40000000 in
theorem closed : joinedFacts Try.pinned.checked.prog 7 Try.f7 Rows.fnExactCompactLogSpec Rows.fnExactCompactLogRow = true := by
  unfold joinedFacts
  repeat' (first | (with_reducible refine both ?_ ?_) | (with_reducible exact may_enter') | (with_reducible refine lifts_eq ?_) | (with_reducible refine make_eq ?_) | as_aux_lemma => kernel_rfl)
theorem named : Try.pinned.checked.prog.funcNamed Rows.fnExactCompactLogRow.func = some 7 := by kernel_rfl
theorem over : Rows.fnExactCompactLogRow.holds Try.pinned (OpenSpec.ofChange Rows.fnExactCompactLogSpec) :=
  OpenClaim.holds_of_wide 7 Try.f7 rfl rfl rfl rfl rfl rfl rfl ⟨rfl, rfl, rfl, rfl, rfl⟩ rfl rfl rfl rfl rfl named Try.func7 closed
    (of_decide_eq_true (by as_aux_lemma => kernel_rfl)) (by unfold Func.isWrapper; first | (rw [if_pos (by decide +kernel)]; kernel_rfl) | (rw [if_neg (by decide +kernel)]; exact ⟨rfl, rfl⟩))
    (fun os started H enc _ => lifted os started H enc)

end Go.Proofs.Ytiepfdkfadbllaa.xCompactLog
namespace Go.Proofs.Ytiepfdkfadbllaa
theorem xCompactLog_holds : Rows.FnExactCompactLogSaid := xCompactLog.over
#print axioms xCompactLog_holds
end Go.Proofs.Ytiepfdkfadbllaa
