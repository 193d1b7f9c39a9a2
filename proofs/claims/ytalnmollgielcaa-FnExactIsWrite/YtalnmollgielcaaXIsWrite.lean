/- At every list of numbers, every number and every group impl.IsWrite answers as the specification does, writes into no argument, and each argument reads behind the call as it read before. No condition. -/
import Derived.Test.YtalnmollgielcaaWtS
import Derived.Test.YtalnmollgielcaaGrL
import Derived.Test.YtalnmollgielcaaOpenG
import Derived.Test.YtalnmollgielcaaRg2
import Derived.Test.YtalnmollgielcaaWords
import Derived.ProofKit
import Derived.OpenShut
import Derived.ShutString
import Derived.ChangeOld
import Derived.Below
import Derived.Lib.SmallJoins
namespace Go.Proofs.Ytalnmollgielcaa.xIsWrite
open Go.ChangeShapes Go.WideShapes Go.ChangeAt Go.RowKit
open Go.ChangeMaps (open_string shut_string)
set_option linter.unusedVariables false

set_option maxRecDepth 100000 in
set_option maxHeartbeats 4000000 in
theorem walk (a : Option Addr) (p cap : Nat) (V : Nat → Int) (w : World) (hm : p ≤ maxLen) (hs : Sl w a p 1 (intF V)) (hV : ∀ i, i < p → -9223372036854775808 ≤ V i ∧ V i ≤ 9223372036854775807) (t : Int) (wt : (Lit.int .i64 t).wf = true) (a' : Option Addr) (n cap' : Nat) (X : Nat → Int) (hm' : n ≤ maxLen) (hs' : Sl w a' n 1 (intF X)) :
    Calls Try.prog 10 #[.slice a p cap, .int .i64 t, .agg #[.slice a' n cap']] w fun r w' => r = .returned (.bool true) ∧ Below w.heap.size w w' := by
  have HS : Hid (Sl w a p 1 (intF V) ∧ Sl w a' n 1 (intF X)) := ⟨hs, hs'⟩
  clear hs hs' hV
  by_cases hp : p ≤ 1048576
  case neg =>
    have hlt : (1048576 : Int) < (p : Int) := by omega
    unfold maxLen at hm
    go_enter Try.func10, Try.ntmps10
    go_wp2
    go_ret
    exact ⟨rfl, Go.Joins.below_alloc1 _ _⟩
  case pos =>
  have hltp : ¬ (1048576 : Int) < (p : Int) := by omega
  have hpB : p ≤ 1073741824 := by omega
  go_enter Try.func10, Try.ntmps10
  go_wp2_with fail
  refine (szGroup_any _ _ _ _ _ hm' (by omega) (by omega)).mono ?_
  rintro r w1 ⟨rfl, hb⟩
  have HB1 : Hid (Below w.heap.size w w1) := below_next (Go.Joins.below_alloc1 _ _) hb
  have A_1 : Hid (BoxS w1 w.heap.size (.slice a' n cap')) := (BoxS.new w (.slice a' n cap') 49).next hb
  clear hb
  by_cases hn : n ≤ 1048576
  case neg =>
    have hlt : (1048576 : Int) < (n : Int) := by omega
    rw [if_pos hlt]
    go_wp2
    go_ret
    exact ⟨rfl, HB1.out⟩
  case pos =>
  have hlt : ¬ (1048576 : Int) - (n : Int) < 0 := by omega
  have hnB : n ≤ 1073741824 := by omega
  rw [if_neg (by omega)]
  go_upto_region 7 with fail
  have hb : Below w1.heap.size w1 w1.drew := below_drew _
  have HB2 : Hid (Below w.heap.size w w1.drew) := below_next HB1.out hb
  have sz2 : w1.heap.size ≤ w1.drew.heap.size := hb.size
  have A_2 : Hid (BoxS w1.drew w.heap.size (.slice a' n cap')) := A_1.out.next hb
  clear hb A_1 HB1
  refine wp_region_noPanic ?_
  refine wp_region_held_drew (S := fun W => BoxS W w.heap.size (.slice a' n cap')) (by kernel_rfl) A_2.out (fun hHeld => ?_)
  refine take_v (v := ?_) 0 ⟨some 23, Op.move (Operand.tmp 0), _, _, _, none⟩ rfl (fun _ _ _ h => h) ?_ hHeld ?_
  rotate_left
  · (intro W _; go_simp <;> (try with_reducible rfl))
  refine take_v (v := ?_) 2 ⟨some 25, Op.move (Operand.tmp 1), _, _, _, none⟩ rfl (fun _ _ _ h => h) ?_ hHeld ?_
  rotate_left
  · (intro W _; go_simp <;> (try with_reducible rfl))
  refine take_v (v := ?_) 3 ⟨some 26, Op.load 49 (Operand.tmp 5), _, _, _, none⟩ rfl (fun _ _ _ h => h) ?_ hHeld ?_
  rotate_left
  · (intro W hSW; (have s0 := hSW.1; have s0z := hSW.2); go_simp <;> (try with_reducible rfl))
  refine ready_call 1 ⟨some 24, Op.call { callee := Callee.value (Operand.func 42), args := #[Operand.tmp 23], argTypes := #[23] }, _, _, _, none⟩ (by kernel_rfl) rfl (by kernel_rfl) (fun KC hK => ?_)
  go_wp2_with fail
  refine (toIntS_any _ _ _ V _ hp (HS.out.1.kept HB2.out)).mono ?_
  rintro r w3 ⟨rfl, hi, hg, hb⟩
  have HB3 : Hid (Below w.heap.size w w3) := below_next HB2.out hb
  have sz3 : w1.drew.heap.size ≤ w3.heap.size := hb.size
  have A_3 : Hid (BoxS w3 w.heap.size (.slice a' n cap')) := A_2.out.next hb
  have E_3 : Hid (RowS w3 w1.drew.heap.size (w1.drew.heap.size + 1) (some ⟨w1.drew.heap.size, 0, none⟩) p V) := ⟨hi, hg⟩
  clear hb hi A_2 HB2
  refine hK.out _ _ A_3.out (fun hHeld => ?_)
  clear hK KC
  refine ready_call 4 ⟨some 27, Op.call { callee := Callee.value (Operand.func 38), args := #[Operand.tmp 26], argTypes := #[49] }, _, _, _, none⟩ (by kernel_rfl) rfl (by kernel_rfl) (fun KC hK => ?_)
  go_wp2_with fail
  refine (toGroup_any _ _ _ X _ hn (HS.out.2.kept HB3.out)).mono ?_
  rintro r w4 ⟨⟨g4, rfl, hi⟩, hb⟩
  have HB4 : Hid (Below w.heap.size w w4) := below_next HB3.out hb
  have sz4 : w3.heap.size ≤ w4.heap.size := hb.size
  have A_4 : Hid (BoxS w4 w.heap.size (.slice a' n cap')) := A_3.out.next hb
  have E_4 : Hid (RowS w4 w1.drew.heap.size (w1.drew.heap.size + 1) (some ⟨w1.drew.heap.size, 0, none⟩) p V) := E_3.out.next hb
  have D_4 : Hid (RowS w4 w3.heap.size w4.heap.size (some ⟨g4, 0, none⟩) n X) := RowS.of hi
  clear hb hi A_3 E_3 HB3
  refine hK.out _ _ A_4.out (fun hHeld => ?_)
  clear hK KC
  refine ready_call 5 ⟨some 28, Op.call { callee := Callee.value (Operand.func 20), args := #[Operand.tmp 24, Operand.tmp 25, Operand.tmp 27], argTypes := #[23, 3, 25] }, _, _, _, none⟩ (by kernel_rfl) rfl (by kernel_rfl) (fun KC hK => ?_)
  go_wp2_with fail
  refine (specIsWrite_any _ _ _ V t _ _ _ X _ hpB hnB E_4.out.sl D_4.out.sl).mono ?_
  rintro r w5 ⟨rfl, hb⟩
  have HB5 : Hid (Below w.heap.size w w5) := below_next HB4.out hb
  have sz5 : w4.heap.size ≤ w5.heap.size := hb.size
  have A_5 : Hid (BoxS w5 w.heap.size (.slice a' n cap')) := A_4.out.next hb
  have E_5 : Hid (RowS w5 w1.drew.heap.size (w1.drew.heap.size + 1) (some ⟨w1.drew.heap.size, 0, none⟩) p V) := E_4.out.next hb
  have D_5 : Hid (RowS w5 w3.heap.size w4.heap.size (some ⟨g4, 0, none⟩) n X) := D_4.out.next hb
  clear hb A_4 E_4 D_4 HB4
  refine hK.out _ _ A_5.out (fun hHeld => ?_)
  clear hK KC
  refine take_v (v := ?_) 6 ⟨some 22, Op.move (Operand.tmp 28), _, _, _, none⟩ rfl (fun _ _ _ h => h) ?_ hHeld ?_
  rotate_left
  · (intro W _; go_simp <;> (try with_reducible rfl))
  refine take_v (v := ?_) 7 ⟨some 29, Op.extract (Operand.tmp 22) 0, _, _, _, none⟩ rfl (fun _ _ _ h => h) ?_ hHeld ?_
  rotate_left
  · (intro W _; go_simp <;> (try with_reducible rfl))
  refine take_v (v := ?_) 8 ⟨some 30, Op.extract (Operand.tmp 22) 1, _, _, _, none⟩ rfl (fun _ _ _ h => h) ?_ hHeld ?_
  rotate_left
  · (intro W _; go_simp <;> (try with_reducible rfl))
  refine take_v (v := ?_) 9 ⟨some 8, Op.assign (Operand.tmp 29), _, _, _, none⟩ rfl (fun _ _ _ h => h) ?_ hHeld ?_
  rotate_left
  · (intro W _; go_simp <;> (try with_reducible rfl))
  refine take_v (v := ?_) 10 ⟨some 9, Op.assign (Operand.tmp 30), _, _, _, none⟩ rfl (fun _ _ _ h => h) ?_ hHeld ?_
  rotate_left
  · (intro W _; go_simp <;> (try with_reducible rfl))
  refine wpAnyH_done (by kernel_rfl) ?_ _
  refine NoPanic.normal ?_
  clear D_5
  clear E_5
  go_wp2_with fail
  refine (toIntS_any _ _ _ V _ hp (HS.out.1.kept HB5.out)).mono ?_
  rintro r w6 ⟨rfl, hi, hg, hb⟩
  have HB6 : Hid (Below w.heap.size w w6) := below_next HB5.out hb
  have sz6 : w5.heap.size ≤ w6.heap.size := hb.size
  have A_6 : Hid (BoxS w6 w.heap.size (.slice a' n cap')) := A_5.out.next hb
  have Q_6 : Hid (RowS w6 w5.heap.size (w5.heap.size + 1) (some ⟨w5.heap.size, 0, none⟩) p V) := ⟨hi, hg⟩
  clear hb hi A_5 HB5
  have cA := A_6.out.1
  have zA := A_6.out.2
  go_wp2_with fail
  refine (toGroup_any _ _ _ X _ hn (HS.out.2.kept HB6.out)).mono ?_
  rintro r w7 ⟨⟨g7, rfl, hi⟩, hb⟩
  have HB7 : Hid (Below w.heap.size w w7) := below_next HB6.out hb
  have sz7 : w6.heap.size ≤ w7.heap.size := hb.size
  have A_7 : Hid (BoxS w7 w.heap.size (.slice a' n cap')) := A_6.out.next hb
  have Q_7 : Hid (RowS w7 w5.heap.size (w5.heap.size + 1) (some ⟨w5.heap.size, 0, none⟩) p V) := Q_6.out.next hb
  have P_7 : Hid (RowS w7 w6.heap.size w7.heap.size (some ⟨g7, 0, none⟩) n X) := RowS.of hi
  clear hb hi cA zA A_6 Q_6 HB6
  go_wp2_with fail
  obtain ⟨w8, hw8⟩ : ∃ x, x = w7.alloc (.cells #[.slice (some ⟨g7, 0, none⟩) n n] 25) := ⟨_, rfl⟩
  have hb : Below w7.heap.size w7 w8 := hw8 ▸ Go.Joins.below_alloc1 _ _
  have HB8 : Hid (Below w.heap.size w w8) := below_next HB7.out hb
  have sz8 : w7.heap.size < w8.heap.size := by rw [hw8]; simp
  have A_8 : Hid (BoxS w8 w.heap.size (.slice a' n cap')) := A_7.out.next hb
  have Q_8 : Hid (RowS w8 w5.heap.size (w5.heap.size + 1) (some ⟨w5.heap.size, 0, none⟩) p V) := Q_7.out.next hb
  have P_8 : Hid (RowS w8 w6.heap.size w7.heap.size (some ⟨g7, 0, none⟩) n X) := P_7.out.next hb
  have U_8 : Hid (BoxS w8 w7.heap.size (.slice (some ⟨g7, 0, none⟩) n n)) := hw8 ▸ BoxS.new _ _ _
  rw [← hw8]
  clear hb hw8 A_7 Q_7 P_7 HB7
  refine (isWrite_any _ _ _ V t _ _ _ X _ hpB hnB Q_8.out.sl P_8.out.sl).mono ?_
  rintro r w9 ⟨rfl, hb⟩
  have HB9 : Hid (Below w.heap.size w w9) := below_next HB8.out hb
  have sz9 : w8.heap.size ≤ w9.heap.size := hb.size
  have A_9 : Hid (BoxS w9 w.heap.size (.slice a' n cap')) := A_8.out.next hb
  have Q_9 : Hid (RowS w9 w5.heap.size (w5.heap.size + 1) (some ⟨w5.heap.size, 0, none⟩) p V) := Q_8.out.next hb
  have P_9 : Hid (RowS w9 w6.heap.size w7.heap.size (some ⟨g7, 0, none⟩) n X) := P_8.out.next hb
  have U_9 : Hid (BoxS w9 w7.heap.size (.slice (some ⟨g7, 0, none⟩) n n)) := U_8.out.next hb
  clear hb A_8 Q_8 P_8 U_8 HB8
  generalize enB V p t X n = y at *
  generalize enOk V p t X n = z at *
  go_wp2_with fail
  refine (toIntS_any _ _ _ V _ hp (HS.out.1.kept HB9.out)).mono ?_
  rintro r w10 ⟨rfl, hi, hg, hb⟩
  have HB10 : Hid (Below w.heap.size w w10) := below_next HB9.out hb
  have sz10 : w9.heap.size ≤ w10.heap.size := hb.size
  have A_10 : Hid (BoxS w10 w.heap.size (.slice a' n cap')) := A_9.out.next hb
  have Q_10 : Hid (RowS w10 w5.heap.size (w5.heap.size + 1) (some ⟨w5.heap.size, 0, none⟩) p V) := Q_9.out.next hb
  have P_10 : Hid (RowS w10 w6.heap.size w7.heap.size (some ⟨g7, 0, none⟩) n X) := P_9.out.next hb
  have U_10 : Hid (BoxS w10 w7.heap.size (.slice (some ⟨g7, 0, none⟩) n n)) := U_9.out.next hb
  have E_10 : Hid (RowS w10 w9.heap.size (w9.heap.size + 1) (some ⟨w9.heap.size, 0, none⟩) p V) := ⟨hi, hg⟩
  clear hb hi A_9 Q_9 P_9 U_9 HB9
  go_wp2_with fail
  refine (eqIntS_same _ _ _ _ _ V _ hp Q_10.out.sl E_10.out.sl).mono ?_
  rintro r w11 ⟨rfl, hb⟩
  have HB11 : Hid (Below w.heap.size w w11) := below_next HB10.out hb
  have sz11 : w10.heap.size ≤ w11.heap.size := hb.size
  have A_11 : Hid (BoxS w11 w.heap.size (.slice a' n cap')) := A_10.out.next hb
  have Q_11 : Hid (RowS w11 w5.heap.size (w5.heap.size + 1) (some ⟨w5.heap.size, 0, none⟩) p V) := Q_10.out.next hb
  have P_11 : Hid (RowS w11 w6.heap.size w7.heap.size (some ⟨g7, 0, none⟩) n X) := P_10.out.next hb
  have U_11 : Hid (BoxS w11 w7.heap.size (.slice (some ⟨g7, 0, none⟩) n n)) := U_10.out.next hb
  have E_11 : Hid (RowS w11 w9.heap.size (w9.heap.size + 1) (some ⟨w9.heap.size, 0, none⟩) p V) := E_10.out.next hb
  clear hb A_10 Q_10 P_10 U_10 E_10 HB10
  clear E_11
  go_upto_region 15 with fail
  have hb : Below w11.heap.size w11 w11.drew := below_drew _
  have HB12 : Hid (Below w.heap.size w w11.drew) := below_next HB11.out hb
  have sz12 : w11.heap.size ≤ w11.drew.heap.size := hb.size
  have A_12 : Hid (BoxS w11.drew w.heap.size (.slice a' n cap')) := A_11.out.next hb
  have Q_12 : Hid (RowS w11.drew w5.heap.size (w5.heap.size + 1) (some ⟨w5.heap.size, 0, none⟩) p V) := Q_11.out.next hb
  have P_12 : Hid (RowS w11.drew w6.heap.size w7.heap.size (some ⟨g7, 0, none⟩) n X) := P_11.out.next hb
  have U_12 : Hid (BoxS w11.drew w7.heap.size (.slice (some ⟨g7, 0, none⟩) n n)) := U_11.out.next hb
  clear hb A_11 Q_11 P_11 U_11 HB11
  refine wp_region_noPanic ?_
  refine wp_region_held_drew (S := fun W => BoxS W w.heap.size (.slice a' n cap') ∧ BoxS W w7.heap.size (.slice (some ⟨g7, 0, none⟩) n n)) (by kernel_rfl) ⟨A_12.out, U_12.out⟩ (fun hHeld => ?_)
  refine take_v (v := ?_) 0 ⟨some 55, Op.load 25 (Operand.tmp 11), _, _, _, none⟩ rfl (fun _ _ _ h => h) ?_ hHeld ?_
  rotate_left
  · (intro W hSW; (have s0 := hSW.1.1; have s0z := hSW.1.2; have s1 := hSW.2.1; have s1z := hSW.2.2); go_simp <;> (try with_reducible rfl))
  refine take_v (v := ?_) 1 ⟨some 56, Op.load 49 (Operand.tmp 5), _, _, _, none⟩ rfl (fun _ _ _ h => h) ?_ hHeld ?_
  rotate_left
  · (intro W hSW; (have s0 := hSW.1.1; have s0z := hSW.1.2; have s1 := hSW.2.1; have s1z := hSW.2.2); go_simp <;> (try with_reducible rfl))
  refine ready_call 2 ⟨some 57, Op.call { callee := Callee.value (Operand.func 38), args := #[Operand.tmp 56], argTypes := #[49] }, _, _, _, none⟩ (by kernel_rfl) rfl (by kernel_rfl) (fun KC hK => ?_)
  go_wp2_with fail
  refine (toGroup_any _ _ _ X _ hn (HS.out.2.kept HB12.out)).mono ?_
  rintro r w13 ⟨⟨g13, rfl, hi⟩, hb⟩
  have HB13 : Hid (Below w.heap.size w w13) := below_next HB12.out hb
  have sz13 : w11.drew.heap.size ≤ w13.heap.size := hb.size
  have A_13 : Hid (BoxS w13 w.heap.size (.slice a' n cap')) := A_12.out.next hb
  have Q_13 : Hid (RowS w13 w5.heap.size (w5.heap.size + 1) (some ⟨w5.heap.size, 0, none⟩) p V) := Q_12.out.next hb
  have P_13 : Hid (RowS w13 w6.heap.size w7.heap.size (some ⟨g7, 0, none⟩) n X) := P_12.out.next hb
  have U_13 : Hid (BoxS w13 w7.heap.size (.slice (some ⟨g7, 0, none⟩) n n)) := U_12.out.next hb
  have D_13 : Hid (RowS w13 w11.drew.heap.size w13.heap.size (some ⟨g13, 0, none⟩) n X) := RowS.of hi
  clear hb hi A_12 Q_12 P_12 U_12 HB12
  refine hK.out _ _ ⟨A_13.out, U_13.out⟩ (fun hHeld => ?_)
  clear hK KC
  refine ready_call 3 ⟨some 58, Op.call { callee := Callee.value (Operand.func 40), args := #[Operand.tmp 55, Operand.tmp 57], argTypes := #[25, 25] }, _, _, _, none⟩ (by kernel_rfl) rfl (by kernel_rfl) (fun KC hK => ?_)
  go_wp2_with fail
  refine (eqGroup_same _ _ _ _ _ X _ hn P_13.out.sl D_13.out.sl).mono ?_
  rintro r w14 ⟨rfl, hb⟩
  have HB14 : Hid (Below w.heap.size w w14) := below_next HB13.out hb
  have sz14 : w13.heap.size ≤ w14.heap.size := hb.size
  have A_14 : Hid (BoxS w14 w.heap.size (.slice a' n cap')) := A_13.out.next hb
  have Q_14 : Hid (RowS w14 w5.heap.size (w5.heap.size + 1) (some ⟨w5.heap.size, 0, none⟩) p V) := Q_13.out.next hb
  have P_14 : Hid (RowS w14 w6.heap.size w7.heap.size (some ⟨g7, 0, none⟩) n X) := P_13.out.next hb
  have U_14 : Hid (BoxS w14 w7.heap.size (.slice (some ⟨g7, 0, none⟩) n n)) := U_13.out.next hb
  have D_14 : Hid (RowS w14 w11.drew.heap.size w13.heap.size (some ⟨g13, 0, none⟩) n X) := D_13.out.next hb
  clear hb A_13 Q_13 P_13 U_13 D_13 HB13
  refine hK.out _ _ ⟨A_14.out, U_14.out⟩ (fun hHeld => ?_)
  clear hK KC
  refine take_v (v := ?_) 4 ⟨some 59, Op.unOp UnOp.not 4 (Operand.tmp 58), _, _, _, none⟩ rfl (fun _ _ _ h => h) ?_ hHeld ?_
  rotate_left
  · (intro W _; go_simp <;> (try with_reducible rfl))
  refine wpAnyH_done (by kernel_rfl) ?_ _
  refine NoPanic.normal ?_
  have HE := HB14
  go_wp2
  go_ret
  exact ⟨rfl, HE.out⟩


theorem own : ownKnob Try.prog.godebug = none := by kernel_rfl
theorem laidOut : laidOutB Try.prog = true := by kernel_rfl

set_option maxRecDepth 100000 in
theorem lifted (os : Os) (started : os.Started) (H : Type) (enc : TypeId × Value → H) :
    ReturnsInHanded {} Try.checked os 10 .any (Rows.fnExactIsWriteSpec.pre6 enc Try.prog Try.f10 Rows.fnExactIsWriteRow.domain false) (Rows.fnExactIsWriteSpec.post enc Try.prog Try.f10 false true false false) := by
  refine returnsInHanded_of_change (C := Try.checked) own started (by kernel_rfl) Try.func10
    (ChangeSpec.witness6 (enc := enc) (C := Try.checked) false ⟨#[], #[.slice none 0 0, .int .i64 0, .agg #[.slice none 0 0]], []⟩ 8 (by kernel_rfl) (by kernel_rfl) (by kernel_rfl) (by kernel_rfl)) ?_
  intro W base args ds gs before hval0 hW hcnd _
  have hval : ∀ (j : Nat) t v, Try.f10.params[j]? = some t → args[j]? = some v → Value.okWide Try.prog W .any base t v := hval0
  have hW' := hW
  obtain ⟨p, q, hA0, hV, rfl, hfz, hnd⟩ := hW
  have hA : DataW.TrodAll enc Try.prog W 0 (fun _ => true) true Try.f10.params.toList args.toList ds p := hA0
  rw [Try.params10] at hA hval
  obtain ⟨v0, vs0, d0, ds0, p0, q0, hargs, rfl, rfl, h0, r0⟩ := trodAll_cons hA
  obtain ⟨v1, vs1, d1, ds1, p1, q1, rfl, rfl, rfl, h1, r1⟩ := trodAll_cons r0
  obtain ⟨v2, vs2, d2, ds2, p2, q2, rfl, rfl, rfl, h2, r2⟩ := trodAll_cons r1
  obtain ⟨rfl, rfl, rfl⟩ := trodAll_nil r2
  obtain rfl : args = #[v0, v1, v2] := by cases args; simp_all
  obtain ⟨rfl, rfl⟩ := trodVars_none hV
  have k0 := h0
  have lt0 : ∀ x ∈ p0, x.block < W.heap.size := by obtain ⟨m, hm⟩ := k0; exact DataW.trod_lt m _ _ _ hm
  obtain ⟨a0, len0, cap0, rfl⟩ := okWide_slice Try.underlying23 (hval 0 23 v0 rfl rfl)
  obtain ⟨n0, X0, s0, b0⟩ := open_ints h0
  have k1 := h1
  have lt1 : ∀ x ∈ p1, x.block < W.heap.size := by obtain ⟨m, hm⟩ := k1; exact DataW.trod_lt m _ _ _ hm
  obtain ⟨a1, rfl, rfl, rfl, w1⟩ := open_int Try.underlying3 (hval 1 3 v1 rfl rfl) h1
  have k2 := h2
  have lt2 : ∀ x ∈ p2, x.block < W.heap.size := by obtain ⟨m, hm⟩ := k2; exact DataW.trod_lt m _ _ _ hm
  obtain ⟨a2, len2, cap2, rfl, n2, X2, s2⟩ := open_group (hval 2 49 v2 rfl rfl) h2
  clear hA0 hval0
  refine (walk (w := W) a0 len0 cap0 X0 n0 s0 b0 a1 w1 a2 len2 cap2 X2 n2 s2).mono fun e W' ⟨he, bel⟩ => ?_
  subst he
  exact ⟨_, rfl, _, _, _, [], _, [], hW', trodAll_mk1 (shut_bool Try.underlying4 _), (trodAll_cons_mk (Below.trod laidOut (by kernel_rfl) (of_decide_eq_true (by kernel_rfl)) k0 bel lt0) (trodAll_cons_mk (Below.trod laidOut (by kernel_rfl) (of_decide_eq_true (by kernel_rfl)) k1 bel lt1) (trodAll_cons_mk (Below.trod laidOut (by kernel_rfl) (of_decide_eq_true (by kernel_rfl)) k2 bel lt2) trodAll_mk0))), rfl, bel.frame _, fun h => by cases h⟩

set_option maxHeartbeats 40000000 in
theorem closed : joinedFacts Try.pinned.checked.prog 10 Try.f10 Rows.fnExactIsWriteSpec Rows.fnExactIsWriteRow = true := by
  unfold joinedFacts
  repeat' (first | (with_reducible refine both ?_ ?_) | (with_reducible exact may_enter') | (with_reducible refine lifts_eq ?_) | (with_reducible refine make_eq ?_) | as_aux_lemma => kernel_rfl)
theorem named : Try.pinned.checked.prog.funcNamed Rows.fnExactIsWriteRow.func = some 10 := by kernel_rfl
theorem over : Rows.fnExactIsWriteRow.holds Try.pinned (OpenSpec.ofChange Rows.fnExactIsWriteSpec) :=
  OpenClaim.holds_of_wide 10 Try.f10 rfl rfl rfl rfl rfl rfl rfl ⟨rfl, rfl, rfl, rfl, rfl⟩ rfl rfl rfl rfl rfl named Try.func10 closed
    (of_decide_eq_true (by as_aux_lemma => kernel_rfl)) (by unfold Func.isWrapper; first | (rw [if_pos (by decide +kernel)]; kernel_rfl) | (rw [if_neg (by decide +kernel)]; exact ⟨rfl, rfl⟩))
    (fun os started H enc _ => lifted os started H enc)

end Go.Proofs.Ytalnmollgielcaa.xIsWrite
namespace Go.Proofs.Ytalnmollgielcaa
theorem xIsWrite_holds : Rows.FnExactIsWriteSaid := xIsWrite.over
#print axioms xIsWrite_holds
end Go.Proofs.Ytalnmollgielcaa
