/- At every list of ops impl.SerialOrder answers as the specification does, writes into no argument, its answer owns its memory, and each argument reads behind the call as it read before. No condition. -/
import Derived.Test.YthbpjmnlgfahmaaSdI
import Derived.Test.YthbpjmnlgfahmaaPr
import Derived.Test.YthbpjmnlgfahmaaWords
import Derived.ProofKit
import Derived.OpenShut
import Derived.ShutString
import Derived.ChangeOld
import Derived.Below
import Derived.Lib.SmallJoins
namespace Go.Proofs.Ythbpjmnlgfahmaa.xSerialOrder
open Go.ChangeShapes Go.WideShapes Go.ChangeAt Go.RowKit
open Go.ChangeMaps (open_string shut_string)
set_option linter.unusedVariables false
theorem ord_row {w : World} {B : Nat} {a : Option Addr} {n : Nat} {X : Nat → Int} (h : SRow w B w.heap.size a n 1 (intF X)) : RowS w B w.heap.size a n X := by
  refine ⟨?_, h.2⟩
  rcases h.1 with h | ⟨g, e, hB, hC, hg, hE, hR⟩
  · exact Or.inl h
  · refine Or.inr ⟨g, e, hB, hC, hg, fun i hi => ⟨?_, (hR i (by omega)).2⟩⟩
    have := hE i hi 0 (by omega)
    simpa [intF] using this

set_option maxRecDepth 100000 in
set_option maxHeartbeats 4000000 in
theorem walk (a : Option Addr) (n cap : Nat) (K T : Nat → Int) (S : Nat → ByteArray) (w : World) (hm : n ≤ maxLen) (hs : Sl w a n 3 (opF K T S)) (hS : ∀ i, i < n → (S i).size ≤ maxLen) :
    Calls Try.prog 11 #[.slice a n cap] w fun r w' => r = .returned (.bool true) ∧ Below w.heap.size w w' := by
  have HS : Hid (Sl w a n 3 (opF K T S) ∧ (∀ i, i < n → (S i).size ≤ maxLen)) := ⟨hs, hS⟩
  clear hs hS
  go_enter Try.func11, Try.ntmps11
  go_wp2_with fail
  refine (szOpS_any _ _ _ K T S _ hm HS.out.1 HS.out.2).mono ?_
  rintro r w1 ⟨l, rfl, hl, hb⟩
  have HB1 : Hid (Below w.heap.size w w1) := hb
  have sz1 : w.heap.size ≤ w1.heap.size := hb.size
  clear hb
  by_cases hneg : l < 0
  · go_wp2
    go_ret
    exact ⟨rfl, HB1.out⟩
  have hn : n ≤ 1048576 := hl (by omega)
  clear hl
  go_wp2_with fail
  refine (toOpS_any _ _ _ K T S _ hn (HS.out.1.kept HB1.out)).mono ?_
  rintro r w2 ⟨rfl, hi, hg, hb⟩
  have HB2 : Hid (Below w.heap.size w w2) := below_next HB1.out hb
  have sz2 : w1.heap.size ≤ w2.heap.size := hb.size
  have A_2 : Hid (OpR w2 w1.heap.size n K T S) := hi
  clear hb hi hg HB1
  go_wp2_with fail
  refine (specSerialOrder_any _ _ _ K T S _ hn (Nat.le_refl _) HS.out.2 A_2.out.sl).mono ?_
  rintro r w3 ⟨⟨a2, cap2, rfl, hi⟩, hb⟩
  have HB3 : Hid (Below w.heap.size w w3) := below_next HB2.out hb
  have sz3 : w2.heap.size ≤ w3.heap.size := hb.size
  have A_3 : Hid (OpR w3 w1.heap.size n K T S) := A_2.out.next hb
  have S_3 : Hid (RowS w3 w2.heap.size w3.heap.size a2 (sdL K T S n).length (xF (sdL K T S n))) := ord_row hi
  clear hb hi A_2 HB2
  clear A_3
  go_wp2_with fail
  refine (toOpS_any _ _ _ K T S _ hn (HS.out.1.kept HB3.out)).mono ?_
  rintro r w4 ⟨rfl, hi, hg, hb⟩
  have HB4 : Hid (Below w.heap.size w w4) := below_next HB3.out hb
  have sz4 : w3.heap.size ≤ w4.heap.size := hb.size
  have S_4 : Hid (RowS w4 w2.heap.size w3.heap.size a2 (sdL K T S n).length (xF (sdL K T S n))) := S_3.out.next hb
  have X_4 : Hid (OpR w4 w3.heap.size n K T S) := hi
  clear hb hi hg S_3 HB3
  have szx : w3.heap.size < w4.heap.size := X_4.out.2.2
  go_wp2_with fail
  refine (serialOrder_any _ _ _ K T S _ hn (Nat.le_refl _) HS.out.2 X_4.out.sl).mono ?_
  rintro r w5 ⟨⟨a4, cap4, rfl, hi⟩, hb⟩
  have HB5 : Hid (Below w.heap.size w w5) := below_next HB4.out hb
  have sz5 : w4.heap.size ≤ w5.heap.size := hb.size
  have S_5 : Hid (RowS w5 w2.heap.size w3.heap.size a2 (sdL K T S n).length (xF (sdL K T S n))) := S_4.out.next hb
  have X_5 : Hid (OpR w5 w3.heap.size n K T S) := X_4.out.next hb
  have G_5 : Hid (RowS w5 w4.heap.size w5.heap.size a4 (sdL K T S n).length (xF (sdL K T S n))) := ord_row hi
  clear hb hi S_4 X_4 HB4
  have hN0 : (sdL K T S n).length ≤ 1048576 := Nat.le_trans (sdL_len K T S n) (by omega)
  have HIM : Hid (∀ (a9 : Option Addr) (w9 : World), Sl w9 a9 n 3 (opF K T S) → Calls Try.prog 25 #[.slice a9 n n] w9 (OrdPost (sdL K T S n) (sdOk K T S n) w9)) := fun a9 w9 h => serialOrder_any _ _ _ K T S _ hn (Nat.le_refl _) HS.out.2 h
  generalize sdL K T S n = L at *
  generalize sdOk K T S n = ok at *
  have hN : L.length ≤ 1048576 := hN0
  clear hN0
  go_wp2_with fail
  refine (eqIntS_same _ _ _ _ _ (xF L) _ hN G_5.out.sl S_5.out.sl).mono ?_
  rintro r w6 ⟨rfl, hb⟩
  have HB6 : Hid (Below w.heap.size w w6) := below_next HB5.out hb
  have sz6 : w5.heap.size ≤ w6.heap.size := hb.size
  have S_6 : Hid (RowS w6 w2.heap.size w3.heap.size a2 L.length (xF L)) := S_5.out.next hb
  have X_6 : Hid (OpR w6 w3.heap.size n K T S) := X_5.out.next hb
  have G_6 : Hid (RowS w6 w4.heap.size w5.heap.size a4 L.length (xF L)) := G_5.out.next hb
  clear hb S_5 X_5 G_5 HB5
  go_wp2_with fail
  refine (toOpS_any _ _ _ K T S _ hn (HS.out.1.kept HB6.out)).mono ?_
  rintro r w7 ⟨rfl, hi, hg, hb⟩
  have HB7 : Hid (Below w.heap.size w w7) := below_next HB6.out hb
  have sz7 : w6.heap.size ≤ w7.heap.size := hb.size
  have S_7 : Hid (RowS w7 w2.heap.size w3.heap.size a2 L.length (xF L)) := S_6.out.next hb
  have X_7 : Hid (OpR w7 w3.heap.size n K T S) := X_6.out.next hb
  have G_7 : Hid (RowS w7 w4.heap.size w5.heap.size a4 L.length (xF L)) := G_6.out.next hb
  have A_7 : Hid (OpR w7 w6.heap.size n K T S) := hi
  clear hb hi hg S_6 X_6 G_6 HB6
  go_wp2_with fail
  refine (eqOpS_same _ _ _ _ _ K T S _ hn X_7.out.sl A_7.out.sl).mono ?_
  rintro r w8 ⟨rfl, hb⟩
  have HB8 : Hid (Below w.heap.size w w8) := below_next HB7.out hb
  have sz8 : w7.heap.size ≤ w8.heap.size := hb.size
  have S_8 : Hid (RowS w8 w2.heap.size w3.heap.size a2 L.length (xF L)) := S_7.out.next hb
  have X_8 : Hid (OpR w8 w3.heap.size n K T S) := X_7.out.next hb
  have G_8 : Hid (RowS w8 w4.heap.size w5.heap.size a4 L.length (xF L)) := G_7.out.next hb
  have A_8 : Hid (OpR w8 w6.heap.size n K T S) := A_7.out.next hb
  clear hb S_7 X_7 G_7 A_7 HB7
  clear A_8
  go_wp2_with fail
  refine (markOpS_any _ _ _ K T S 1 _ hn (by omega) (by omega) X_8.out).mono ?_
  rintro r w9 ⟨rfl, ht⟩
  have HB9 : Hid (Below w.heap.size w w9) := below_turn HB8.out ht (by omega)
  have sz9 : w8.heap.size ≤ w9.heap.size := ht.2.2.2.1
  have S_9 : Hid (RowS w9 w2.heap.size w3.heap.size a2 L.length (xF L)) := S_8.out.turn ht (by omega)
  have G_9 : Hid (RowS w9 w4.heap.size w5.heap.size a4 L.length (xF L)) := G_8.out.turn ht (by omega)
  clear ht S_8 X_8 G_8 HB8
  go_wp2_with fail
  refine (eqIntS_same _ _ _ _ _ (xF L) _ hN G_9.out.sl S_9.out.sl).mono ?_
  rintro r w10 ⟨rfl, hb⟩
  have HB10 : Hid (Below w.heap.size w w10) := below_next HB9.out hb
  have sz10 : w9.heap.size ≤ w10.heap.size := hb.size
  have S_10 : Hid (RowS w10 w2.heap.size w3.heap.size a2 L.length (xF L)) := S_9.out.next hb
  have G_10 : Hid (RowS w10 w4.heap.size w5.heap.size a4 L.length (xF L)) := G_9.out.next hb
  clear hb S_9 G_9 HB9
  go_wp2_with fail
  refine (markIntS_any _ _ _ (xF L) 1 w4.heap.size w5.heap.size _ hN (by omega) (by omega) G_10.out.1).mono ?_
  rintro r w11 ⟨rfl, hi, ht⟩
  have HB11 : Hid (Below w.heap.size w w11) := below_turn HB10.out ht (by omega)
  have sz11 : w10.heap.size ≤ w11.heap.size := ht.2.2.2.1
  have S_11 : Hid (RowS w11 w2.heap.size w3.heap.size a2 L.length (xF L)) := S_10.out.turn ht (by omega)
  have G_11 : Hid (RowS w11 w4.heap.size w5.heap.size a4 L.length (fun i => 1 + (i : Int))) := ⟨hi, Nat.le_trans G_10.out.2 sz11⟩
  clear ht hi S_10 G_10 HB10
  go_wp2_with fail
  refine (heldIntS_any _ _ _ 1 _ hN (by omega) (by omega) G_11.out.sl).mono ?_
  rintro r w' ⟨rfl, hw⟩
  have hw := hw.symm
  subst hw
  go_wp2_with fail
  refine (toOpS_any _ _ _ K T S _ hn (HS.out.1.kept HB11.out)).mono ?_
  rintro r w12 ⟨rfl, hi, hg, hb⟩
  have HB12 : Hid (Below w.heap.size w w12) := below_next HB11.out hb
  have sz12 : w11.heap.size ≤ w12.heap.size := hb.size
  have S_12 : Hid (RowS w12 w2.heap.size w3.heap.size a2 L.length (xF L)) := S_11.out.next hb
  have G_12 : Hid (RowS w12 w4.heap.size w5.heap.size a4 L.length (fun i => 1 + (i : Int))) := G_11.out.next hb
  have A_12 : Hid (OpR w12 w11.heap.size n K T S) := hi
  clear hb hi hg S_11 G_11 HB11
  go_wp2_with fail
  refine (HIM.out _ _ A_12.out.sl).mono ?_
  rintro r w13 ⟨⟨a9, cap9, rfl, hi⟩, hb⟩
  have HB13 : Hid (Below w.heap.size w w13) := below_next HB12.out hb
  have sz13 : w12.heap.size ≤ w13.heap.size := hb.size
  have S_13 : Hid (RowS w13 w2.heap.size w3.heap.size a2 L.length (xF L)) := S_12.out.next hb
  have G_13 : Hid (RowS w13 w4.heap.size w5.heap.size a4 L.length (fun i => 1 + (i : Int))) := G_12.out.next hb
  have A_13 : Hid (OpR w13 w11.heap.size n K T S) := A_12.out.next hb
  have H_13 : Hid (RowS w13 w12.heap.size w13.heap.size a9 L.length (xF L)) := ord_row hi
  clear hb hi S_12 G_12 A_12 HB12
  clear A_13
  go_wp2_with fail
  refine (eqIntS_same _ _ _ _ _ (xF L) _ hN H_13.out.sl S_13.out.sl).mono ?_
  rintro r w14 ⟨rfl, hb⟩
  have HB14 : Hid (Below w.heap.size w w14) := below_next HB13.out hb
  have sz14 : w13.heap.size ≤ w14.heap.size := hb.size
  have S_14 : Hid (RowS w14 w2.heap.size w3.heap.size a2 L.length (xF L)) := S_13.out.next hb
  have G_14 : Hid (RowS w14 w4.heap.size w5.heap.size a4 L.length (fun i => 1 + (i : Int))) := G_13.out.next hb
  have H_14 : Hid (RowS w14 w12.heap.size w13.heap.size a9 L.length (xF L)) := H_13.out.next hb
  clear hb S_13 G_13 H_13 HB13
  go_wp2_with fail
  refine (heldIntS_any _ _ _ 1 _ hN (by omega) (by omega) G_14.out.sl).mono ?_
  rintro r w' ⟨rfl, hw⟩
  have hw := hw.symm
  subst hw
  have HE := HB14
  go_wp2
  go_ret
  exact ⟨rfl, HE.out⟩


theorem own : ownKnob Try.prog.godebug = none := by kernel_rfl
theorem laidOut : laidOutB Try.prog = true := by kernel_rfl

set_option maxRecDepth 100000 in
theorem lifted (os : Os) (started : os.Started) (H : Type) (enc : TypeId × Value → H) :
    ReturnsInHanded {} Try.checked os 11 .any (Rows.fnExactSerialOrderSpec.pre6 enc Try.prog Try.f11 Rows.fnExactSerialOrderRow.domain false) (Rows.fnExactSerialOrderSpec.post enc Try.prog Try.f11 false true false false) := by
  refine returnsInHanded_of_change (C := Try.checked) own started (by kernel_rfl) Try.func11
    (ChangeSpec.witness6 (enc := enc) (C := Try.checked) false ⟨#[], #[.slice none 0 0], []⟩ 8 (by kernel_rfl) (by kernel_rfl) (by kernel_rfl) (by kernel_rfl)) ?_
  intro W base args ds gs before hval0 hW hcnd _
  have hval : ∀ (j : Nat) t v, Try.f11.params[j]? = some t → args[j]? = some v → Value.okWide Try.prog W .any base t v := hval0
  have hW' := hW
  obtain ⟨p, q, hA0, hV, rfl, hfz, hnd⟩ := hW
  have hA : DataW.TrodAll enc Try.prog W 0 (fun _ => true) true Try.f11.params.toList args.toList ds p := hA0
  rw [Try.params11] at hA hval
  obtain ⟨v0, vs0, d0, ds0, p0, q0, hargs, rfl, rfl, h0, r0⟩ := trodAll_cons hA
  obtain ⟨rfl, rfl, rfl⟩ := trodAll_nil r0
  obtain rfl : args = #[v0] := by cases args; simp_all
  obtain ⟨rfl, rfl⟩ := trodVars_none hV
  have k0 := h0
  have lt0 : ∀ x ∈ p0, x.block < W.heap.size := by obtain ⟨m, hm⟩ := k0; exact DataW.trod_lt m _ _ _ hm
  obtain ⟨a0, len0, cap0, rfl⟩ := okWide_slice Try.underlying58 (hval 0 58 v0 rfl rfl)
  obtain ⟨n0, K0, T0, S0, s0, b0⟩ := open_ops h0
  clear hA0 hval0
  refine (walk (w := W) a0 len0 cap0 K0 T0 S0 n0 s0 b0).mono fun e W' ⟨he, bel⟩ => ?_
  subst he
  exact ⟨_, rfl, _, _, _, [], _, [], hW', trodAll_mk1 (shut_bool Try.underlying4 _), (trodAll_cons_mk (Below.trod laidOut (by kernel_rfl) (of_decide_eq_true (by kernel_rfl)) k0 bel lt0) trodAll_mk0), rfl, bel.frame _, fun h => by cases h⟩

set_option maxHeartbeats 40000000 in
theorem closed : joinedFacts Try.pinned.checked.prog 11 Try.f11 Rows.fnExactSerialOrderSpec Rows.fnExactSerialOrderRow = true := by
  unfold joinedFacts
  repeat' (first | (with_reducible refine both ?_ ?_) | (with_reducible exact may_enter') | (with_reducible refine lifts_eq ?_) | (with_reducible refine make_eq ?_) | as_aux_lemma => kernel_rfl)
theorem named : Try.pinned.checked.prog.funcNamed Rows.fnExactSerialOrderRow.func = some 11 := by kernel_rfl
theorem over : Rows.fnExactSerialOrderRow.holds Try.pinned (OpenSpec.ofChange Rows.fnExactSerialOrderSpec) :=
  OpenClaim.holds_of_wide 11 Try.f11 rfl rfl rfl rfl rfl rfl rfl ⟨rfl, rfl, rfl, rfl, rfl⟩ rfl rfl rfl rfl rfl named Try.func11 closed
    (of_decide_eq_true (by as_aux_lemma => kernel_rfl)) (by unfold Func.isWrapper; first | (rw [if_pos (by decide +kernel)]; kernel_rfl) | (rw [if_neg (by decide +kernel)]; exact ⟨rfl, rfl⟩))
    (fun os started H enc _ => lifted os started H enc)

end Go.Proofs.Ythbpjmnlgfahmaa.xSerialOrder
namespace Go.Proofs.Ythbpjmnlgfahmaa
theorem xSerialOrder_holds : Rows.FnExactSerialOrderSaid := xSerialOrder.over
#print axioms xSerialOrder_holds
end Go.Proofs.Ythbpjmnlgfahmaa
