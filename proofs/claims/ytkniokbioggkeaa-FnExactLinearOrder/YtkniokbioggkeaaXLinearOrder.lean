/- At every list of calls impl.LinearOrder answers as the specification does, writes into no argument, its answer owns its memory, and each argument reads behind the call as it read before. No condition. -/
import Derived.Test.YtkniokbioggkeaaLtI
import Derived.Test.YtkniokbioggkeaaRowS
import Derived.Test.YtkniokbioggkeaaMkCallM
import Derived.Test.YtkniokbioggkeaaWords
import Derived.ProofKit
import Derived.OpenShut
import Derived.ShutString
import Derived.ChangeOld
import Derived.Below
import Derived.Lib.SmallJoins
namespace Go.Proofs.Ytkniokbioggkeaa.xLinearOrder
open Go.ChangeShapes Go.WideShapes Go.ChangeAt Go.RowKit
open Go.ChangeMaps (open_string shut_string)
set_option linter.unusedVariables false
theorem srch_len {V : Nat → CallV} {n : Nat} {own : Bool} : ∀ {d : Nat} {ord o : List Nat}, srch V n own d ord = some o → o.length = ord.length + d
  | 0, ord, o, h => by simp [srch] at h; rw [h]; omega
  | d + 1, ord, o, h => by
    rw [srch] at h
    obtain ⟨i, _, hi⟩ := List.exists_of_findSome?_eq_some h
    split at hi
    · have := srch_len hi
      simp at this; omega
    · cases hi
theorem linL_le (V : Nat → CallV) (n : Nat) : (linL V n).length ≤ 1048576 := by
  unfold linL
  split
  · rename_i h
    rw [linB, Bool.and_eq_true] at h
    have h7 := (calsB_iff.1 h.1).1
    obtain ⟨o, ho⟩ := Option.isSome_iff_exists.1 h.2
    have := srch_len ho
    rw [ho]; simp at this ⊢; omega
  · simp
def lF (L : List Nat) (i : Nat) : Int := ((L.getD i 0 : Nat) : Int)
theorem lin_row {w : World} {B : Nat} {a : Option Addr} {c : Nat} {L : List Nat} (h : w.ownsRow B 3 1 (.slice a L.length c) L.length (ordC L)) (hB : B ≤ w.heap.size) : RowS w B w.heap.size a L.length (lF L) := by
  refine ⟨?_, Nat.le_refl _⟩
  rcases Go.Joins.ownsRow_forms h with ⟨e, e'⟩ | ⟨g, cc, e⟩
  · exact Or.inl e'
  · simp only [Value.slice.injEq, true_and] at e
    obtain ⟨rfl, rfl⟩ := e
    have hl := h.lt g rfl
    refine Or.inr ⟨g, rfl, hl.1, hl.2, hl.2, fun i hi => ⟨?_, World.ownsRow.frozenAt h i⟩⟩
    rw [World.ownsRow.cellAt h i (by omega), ordC_at hi]
    simp [lF, hi]

set_option maxRecDepth 100000 in
set_option maxHeartbeats 4000000 in
theorem walk (a : Option Addr) (n cap : Nat) (V : Nat → CallV) (w : World) (hm : n ≤ maxLen) (hs : Sl w a n 6 (callF V)) (hS : ∀ i, i < n → (V i).f2.size ≤ maxLen ∧ (V i).f3.size ≤ maxLen) :
    Calls Try.prog 7 #[.slice a n cap] w fun r w' => r = .returned (.bool true) ∧ Below w.heap.size w w' := by
  have HS : Hid (Sl w a n 6 (callF V) ∧ (∀ i, i < n → (V i).f2.size ≤ maxLen ∧ (V i).f3.size ≤ maxLen)) := ⟨hs, hS⟩
  clear hs hS
  go_enter Try.func7, Try.ntmps7
  go_wp2_with fail
  refine (szCallS_any _ _ _ V _ _ hm (by omega) (by omega) HS.out.1 HS.out.2).mono ?_
  rintro r w1 ⟨l, rfl, _, hl, hb⟩
  have HB1 : Hid (Below w.heap.size w w1) := hb
  have sz1 : w.heap.size ≤ w1.heap.size := hb.size
  clear hb
  by_cases hneg : l < 0
  · go_wp2
    go_ret
    exact ⟨rfl, HB1.out⟩
  have hn : n ≤ 1048576 := hl (by omega)
  clear hl
  go_wp2_with fail
  refine (toCallS_any _ _ _ V _ hn (HS.out.1.kept HB1.out)).mono ?_
  rintro r w2 ⟨rfl, hi, hg, hb⟩
  have HB2 : Hid (Below w.heap.size w w2) := below_next HB1.out hb
  have sz2 : w1.heap.size ≤ w2.heap.size := hb.size
  have A_2 : Hid (CallR w2 w1.heap.size n V) := hi
  clear hb hi hg HB1
  go_wp2_with fail
  refine (specLinearOrder_any _ _ _ V _ hn (Nat.le_refl _) HS.out.2 A_2.out.sl).mono ?_
  rintro r w3 ⟨a2, cap2, rfl, hi, hb⟩
  have HB3 : Hid (Below w.heap.size w w3) := below_next HB2.out hb
  have sz3 : w2.heap.size ≤ w3.heap.size := hb.size
  have A_3 : Hid (CallR w3 w1.heap.size n V) := A_2.out.next hb
  have S_3 : Hid (RowS w3 w2.heap.size w3.heap.size a2 (linL V n).length (lF (linL V n))) := lin_row hi hb.size
  clear hb hi A_2 HB2
  clear A_3
  go_wp2_with fail
  refine (toCallS_any _ _ _ V _ hn (HS.out.1.kept HB3.out)).mono ?_
  rintro r w4 ⟨rfl, hi, hg, hb⟩
  have HB4 : Hid (Below w.heap.size w w4) := below_next HB3.out hb
  have sz4 : w3.heap.size ≤ w4.heap.size := hb.size
  have S_4 : Hid (RowS w4 w2.heap.size w3.heap.size a2 (linL V n).length (lF (linL V n))) := S_3.out.next hb
  have X_4 : Hid (CallR w4 w3.heap.size n V) := hi
  clear hb hi hg S_3 HB3
  have szx : w3.heap.size < w4.heap.size := X_4.out.2.2
  go_wp2_with fail
  refine (linearOrder_any _ _ _ V _ hn (Nat.le_refl _) HS.out.2 X_4.out.sl).mono ?_
  rintro r w5 ⟨a4, cap4, rfl, hi, hb⟩
  have HB5 : Hid (Below w.heap.size w w5) := below_next HB4.out hb
  have sz5 : w4.heap.size ≤ w5.heap.size := hb.size
  have S_5 : Hid (RowS w5 w2.heap.size w3.heap.size a2 (linL V n).length (lF (linL V n))) := S_4.out.next hb
  have X_5 : Hid (CallR w5 w3.heap.size n V) := X_4.out.next hb
  have G_5 : Hid (RowS w5 w4.heap.size w5.heap.size a4 (linL V n).length (lF (linL V n))) := lin_row hi hb.size
  clear hb hi S_4 X_4 HB4
  have hN0 : (linL V n).length ≤ 1048576 := linL_le V n
  have HIM : Hid (∀ (a9 : Option Addr) (w9 : World), Sl w9 a9 n 6 (callF V) → Calls Try.prog 15 #[.slice a9 n n] w9 (fun r w' => ∃ a' c', r = .returned (.tuple #[.slice a' (linL V n).length c', .bool (linB false V n)]) ∧ w'.ownsRow w9.heap.size 3 1 (.slice a' (linL V n).length c') (linL V n).length (ordC (linL V n)) ∧ Below w9.heap.size w9 w')) := fun a9 w9 h => linearOrder_any _ _ _ V _ hn (Nat.le_refl _) HS.out.2 h
  generalize linL V n = L at *
  generalize linB false V n = ok at *
  have hN : L.length ≤ 1048576 := hN0
  clear hN0
  go_wp2_with fail
  refine (eqIntS_same _ _ _ _ _ (lF L) _ hN G_5.out.sl S_5.out.sl).mono ?_
  rintro r w6 ⟨rfl, hb⟩
  have HB6 : Hid (Below w.heap.size w w6) := below_next HB5.out hb
  have sz6 : w5.heap.size ≤ w6.heap.size := hb.size
  have S_6 : Hid (RowS w6 w2.heap.size w3.heap.size a2 L.length (lF L)) := S_5.out.next hb
  have X_6 : Hid (CallR w6 w3.heap.size n V) := X_5.out.next hb
  have G_6 : Hid (RowS w6 w4.heap.size w5.heap.size a4 L.length (lF L)) := G_5.out.next hb
  clear hb S_5 X_5 G_5 HB5
  go_wp2_with fail
  refine (toCallS_any _ _ _ V _ hn (HS.out.1.kept HB6.out)).mono ?_
  rintro r w7 ⟨rfl, hi, hg, hb⟩
  have HB7 : Hid (Below w.heap.size w w7) := below_next HB6.out hb
  have sz7 : w6.heap.size ≤ w7.heap.size := hb.size
  have S_7 : Hid (RowS w7 w2.heap.size w3.heap.size a2 L.length (lF L)) := S_6.out.next hb
  have X_7 : Hid (CallR w7 w3.heap.size n V) := X_6.out.next hb
  have G_7 : Hid (RowS w7 w4.heap.size w5.heap.size a4 L.length (lF L)) := G_6.out.next hb
  have A_7 : Hid (CallR w7 w6.heap.size n V) := hi
  clear hb hi hg S_6 X_6 G_6 HB6
  go_wp2_with fail
  refine (eqCallS_same _ _ _ _ _ V _ hn X_7.out.sl A_7.out.sl).mono ?_
  rintro r w8 ⟨rfl, hb⟩
  have HB8 : Hid (Below w.heap.size w w8) := below_next HB7.out hb
  have sz8 : w7.heap.size ≤ w8.heap.size := hb.size
  have S_8 : Hid (RowS w8 w2.heap.size w3.heap.size a2 L.length (lF L)) := S_7.out.next hb
  have X_8 : Hid (CallR w8 w3.heap.size n V) := X_7.out.next hb
  have G_8 : Hid (RowS w8 w4.heap.size w5.heap.size a4 L.length (lF L)) := G_7.out.next hb
  have A_8 : Hid (CallR w8 w6.heap.size n V) := A_7.out.next hb
  clear hb S_7 X_7 G_7 A_7 HB7
  clear A_8
  go_wp2_with fail
  refine (markCallS_row _ _ _ (callF V) 1 w3.heap.size (w3.heap.size + 1) _ hn (by omega) (by omega) ⟨Or.inr ⟨w3.heap.size, rfl, Nat.le_refl _, Nat.lt_succ_self _, X_8.out.2.2, X_8.out.1, X_8.out.2.1⟩, X_8.out.2.2⟩).mono ?_
  rintro r w9 ⟨rfl, _, ht0⟩
  have ht : Turned w3.heap.size (w3.heap.size + 1) w8 w9 := ht0.1
  clear ht0
  have HB9 : Hid (Below w.heap.size w w9) := below_turn HB8.out ht (by omega)
  have sz9 : w8.heap.size ≤ w9.heap.size := ht.2.2.2.1
  have S_9 : Hid (RowS w9 w2.heap.size w3.heap.size a2 L.length (lF L)) := S_8.out.turn ht (by omega)
  have G_9 : Hid (RowS w9 w4.heap.size w5.heap.size a4 L.length (lF L)) := G_8.out.turn ht (by omega)
  clear ht S_8 X_8 G_8 HB8
  go_wp2_with fail
  refine (eqIntS_same _ _ _ _ _ (lF L) _ hN G_9.out.sl S_9.out.sl).mono ?_
  rintro r w10 ⟨rfl, hb⟩
  have HB10 : Hid (Below w.heap.size w w10) := below_next HB9.out hb
  have sz10 : w9.heap.size ≤ w10.heap.size := hb.size
  have S_10 : Hid (RowS w10 w2.heap.size w3.heap.size a2 L.length (lF L)) := S_9.out.next hb
  have G_10 : Hid (RowS w10 w4.heap.size w5.heap.size a4 L.length (lF L)) := G_9.out.next hb
  clear hb S_9 G_9 HB9
  go_wp2_with fail
  refine (markIntS_any _ _ _ (lF L) 1 w4.heap.size w5.heap.size _ hN (by omega) (by omega) G_10.out.1).mono ?_
  rintro r w11 ⟨rfl, hi, ht⟩
  have HB11 : Hid (Below w.heap.size w w11) := below_turn HB10.out ht (by omega)
  have sz11 : w10.heap.size ≤ w11.heap.size := ht.2.2.2.1
  have S_11 : Hid (RowS w11 w2.heap.size w3.heap.size a2 L.length (lF L)) := S_10.out.turn ht (by omega)
  have G_11 : Hid (RowS w11 w4.heap.size w5.heap.size a4 L.length (fun i => 1 + (i : Int))) := ⟨hi, Nat.le_trans G_10.out.2 sz11⟩
  clear ht hi S_10 G_10 HB10
  go_wp2_with fail
  refine (heldIntS_any _ _ _ 1 _ hN (by omega) (by omega) G_11.out.sl).mono ?_
  rintro r w' ⟨rfl, hw⟩
  have hw := hw.symm
  subst hw
  go_wp2_with fail
  refine (toCallS_any _ _ _ V _ hn (HS.out.1.kept HB11.out)).mono ?_
  rintro r w12 ⟨rfl, hi, hg, hb⟩
  have HB12 : Hid (Below w.heap.size w w12) := below_next HB11.out hb
  have sz12 : w11.heap.size ≤ w12.heap.size := hb.size
  have S_12 : Hid (RowS w12 w2.heap.size w3.heap.size a2 L.length (lF L)) := S_11.out.next hb
  have G_12 : Hid (RowS w12 w4.heap.size w5.heap.size a4 L.length (fun i => 1 + (i : Int))) := G_11.out.next hb
  have A_12 : Hid (CallR w12 w11.heap.size n V) := hi
  clear hb hi hg S_11 G_11 HB11
  go_wp2_with fail
  refine (HIM.out _ _ A_12.out.sl).mono ?_
  rintro r w13 ⟨a9, cap9, rfl, hi, hb⟩
  have HB13 : Hid (Below w.heap.size w w13) := below_next HB12.out hb
  have sz13 : w12.heap.size ≤ w13.heap.size := hb.size
  have S_13 : Hid (RowS w13 w2.heap.size w3.heap.size a2 L.length (lF L)) := S_12.out.next hb
  have G_13 : Hid (RowS w13 w4.heap.size w5.heap.size a4 L.length (fun i => 1 + (i : Int))) := G_12.out.next hb
  have A_13 : Hid (CallR w13 w11.heap.size n V) := A_12.out.next hb
  have H_13 : Hid (RowS w13 w12.heap.size w13.heap.size a9 L.length (lF L)) := lin_row hi hb.size
  clear hb hi S_12 G_12 A_12 HB12
  clear A_13
  go_wp2_with fail
  refine (eqIntS_same _ _ _ _ _ (lF L) _ hN H_13.out.sl S_13.out.sl).mono ?_
  rintro r w14 ⟨rfl, hb⟩
  have HB14 : Hid (Below w.heap.size w w14) := below_next HB13.out hb
  have sz14 : w13.heap.size ≤ w14.heap.size := hb.size
  have S_14 : Hid (RowS w14 w2.heap.size w3.heap.size a2 L.length (lF L)) := S_13.out.next hb
  have G_14 : Hid (RowS w14 w4.heap.size w5.heap.size a4 L.length (fun i => 1 + (i : Int))) := G_13.out.next hb
  have H_14 : Hid (RowS w14 w12.heap.size w13.heap.size a9 L.length (lF L)) := H_13.out.next hb
  clear hb S_13 G_13 H_13 HB13
  go_wp2_with fail
  refine (heldIntS_any _ _ _ 1 _ hN (by omega) (by omega) G_14.out.sl).mono ?_
  rintro r w' ⟨rfl, hw⟩
  have hw := hw.symm
  subst hw
  have HE := HB14
  go_wp2
  go_ret
  exact ⟨rfl, HE.out⟩


theorem own : ownKnob Try.prog.godebug = none := by kernel_rfl
theorem laidOut : laidOutB Try.prog = true := by kernel_rfl

set_option maxRecDepth 100000 in
theorem lifted (os : Os) (started : os.Started) (H : Type) (enc : TypeId × Value → H) :
    ReturnsInHanded {} Try.checked os 7 .any (Rows.fnExactLinearOrderSpec.pre6 enc Try.prog Try.f7 Rows.fnExactLinearOrderRow.domain false) (Rows.fnExactLinearOrderSpec.post enc Try.prog Try.f7 false true false false) := by
  refine returnsInHanded_of_change (C := Try.checked) own started (by kernel_rfl) Try.func7
    (ChangeSpec.witness6 (enc := enc) (C := Try.checked) false ⟨#[], #[.slice none 0 0], []⟩ 8 (by kernel_rfl) (by kernel_rfl) (by kernel_rfl) (by kernel_rfl)) ?_
  intro W base args ds gs before hval0 hW hcnd _
  have hval : ∀ (j : Nat) t v, Try.f7.params[j]? = some t → args[j]? = some v → Value.okWide Try.prog W .any base t v := hval0
  have hW' := hW
  obtain ⟨p, q, hA0, hV, rfl, hfz, hnd⟩ := hW
  have hA : DataW.TrodAll enc Try.prog W 0 (fun _ => true) true Try.f7.params.toList args.toList ds p := hA0
  rw [Try.params7] at hA hval
  obtain ⟨v0, vs0, d0, ds0, p0, q0, hargs, rfl, rfl, h0, r0⟩ := trodAll_cons hA
  obtain ⟨rfl, rfl, rfl⟩ := trodAll_nil r0
  obtain rfl : args = #[v0] := by cases args; simp_all
  obtain ⟨rfl, rfl⟩ := trodVars_none hV
  have k0 := h0
  have lt0 : ∀ x ∈ p0, x.block < W.heap.size := by obtain ⟨m, hm⟩ := k0; exact DataW.trod_lt m _ _ _ hm
  obtain ⟨a0, len0, cap0, rfl⟩ := okWide_slice Try.underlying40 (hval 0 40 v0 rfl rfl)
  obtain ⟨n0, V0, s0, z0⟩ := open_calls h0
  clear hA0 hval0
  refine (walk (w := W) a0 len0 cap0 V0 n0 s0 z0).mono fun e W' ⟨he, bel⟩ => ?_
  subst he
  exact ⟨_, rfl, _, _, _, [], _, [], hW', trodAll_mk1 (shut_bool Try.underlying4 _), (trodAll_cons_mk (Below.trod laidOut (by kernel_rfl) (of_decide_eq_true (by kernel_rfl)) k0 bel lt0) trodAll_mk0), rfl, bel.frame _, fun h => by cases h⟩

set_option maxHeartbeats 40000000 in
theorem closed : joinedFacts Try.pinned.checked.prog 7 Try.f7 Rows.fnExactLinearOrderSpec Rows.fnExactLinearOrderRow = true := by
  unfold joinedFacts
  repeat' (first | (with_reducible refine both ?_ ?_) | (with_reducible exact may_enter') | (with_reducible refine lifts_eq ?_) | (with_reducible refine make_eq ?_) | as_aux_lemma => kernel_rfl)
theorem named : Try.pinned.checked.prog.funcNamed Rows.fnExactLinearOrderRow.func = some 7 := by kernel_rfl
theorem over : Rows.fnExactLinearOrderRow.holds Try.pinned (OpenSpec.ofChange Rows.fnExactLinearOrderSpec) :=
  OpenClaim.holds_of_wide 7 Try.f7 rfl rfl rfl rfl rfl rfl rfl ⟨rfl, rfl, rfl, rfl, rfl⟩ rfl rfl rfl rfl rfl named Try.func7 closed
    (of_decide_eq_true (by as_aux_lemma => kernel_rfl)) (by unfold Func.isWrapper; first | (rw [if_pos (by decide +kernel)]; kernel_rfl) | (rw [if_neg (by decide +kernel)]; exact ⟨rfl, rfl⟩))
    (fun os started H enc _ => lifted os started H enc)

end Go.Proofs.Ytkniokbioggkeaa.xLinearOrder
namespace Go.Proofs.Ytkniokbioggkeaa
theorem xLinearOrder_holds : Rows.FnExactLinearOrderSaid := xLinearOrder.over
#print axioms xLinearOrder_holds
end Go.Proofs.Ytkniokbioggkeaa
