/- At every argument impl.ValuesIn answers as the specification does, field by field, writes into no argument, its answer owns its memory, and each argument reads behind the call as it read before. No condition. -/
import Derived.Test.YtnglgndocmkbfaaViJ
import Derived.Test.YtnglgndocmkbfaaNtZ
import Derived.Test.YtnglgndocmkbfaaNtT
import Derived.Test.YtnglgndocmkbfaaNtE
import Derived.Test.YtnglgndocmkbfaaNtO
import Derived.Test.YtnglgndocmkbfaaNtM
import Derived.Test.YtnglgndocmkbfaaNtH
import Derived.Test.YtnglgndocmkbfaaWords
import Derived.ProofKit
import Derived.OpenShut
import Derived.ShutString
import Derived.ChangeOld
import Derived.Below
import Derived.Lib.SmallJoins
namespace Go.Proofs.Ytnglgndocmkbfaa.xValuesIn
open Go.ChangeShapes Go.WideShapes Go.ChangeAt Go.RowKit
open Go.ChangeMaps (open_string shut_string)
set_option linter.unusedVariables false

set_option maxRecDepth 100000 in
set_option maxHeartbeats 4000000 in
theorem walk (w : World) (cs0 : List Value) (X0 : Sh.T shBag) (li0 : Lies w shBag cs0 X0) (fi0 : Fits shBag X0) :
    Calls Try.prog 15 #[.agg cs0.toArray] w fun r w' => r = .returned (.bool true) ∧ Below w.heap.size w w' := by
  obtain ⟨ba, bg, ⟨⟩⟩ := X0
  obtain ⟨a0_1, k0_1, a0_2, k0_2, rfl, l0_1, l0_2⟩ := lies_Bag li0
  have HL0 : Hid (Lies w shBag [.slice a0_1 ba.length k0_1, .slice a0_2 bg.length k0_2] (ba, bg, ())) := li0
  have HF0 : Hid (Fits shBag (ba, bg, ())) := fi0
  clear li0 fi0 l0_1 l0_2
  obtain ⟨LL, z, hLA⟩ : ∃ l z, vsA ba bg = l ∧ tf (goodB ba bg) = z := ⟨_, _, rfl, rfl⟩
  have HLA : Hid (vsA ba bg = LL ∧ tf (goodB ba bg) = z) := hLA
  have HZL : Hid (szD (.list .str) LL ≤ 1073741824) := Hid.intro (by rw [← hLA.1]; exact sz_vsA ba bg)
  obtain ⟨cn, hcn⟩ : ∃ c : Nat, c = cntD (.list .str) LL := ⟨_, rfl⟩
  have HCN : Hid (cn = cntD (.list .str) LL) := hcn
  have hcnb : cn ≤ 100000000000 := by rw [hcn]; exact cnt_strs HZL.out
  have hng : ¬ (1 + (cn : Int)) < 0 := by omega
  clear hLA hcn
  go_enter Try.func15, Try.ntmps15
  go_wp2_with fail
  obtain ⟨w1, hw1⟩ : ∃ x, x = w.alloc (.cells #[.slice a0_1 ba.length k0_1, .slice a0_2 bg.length k0_2] 77) := ⟨_, rfl⟩
  have hb : Below w.heap.size w w1 := hw1 ▸ Go.Joins.below_alloc1 _ _
  have HB1 : Hid (Below w.heap.size w w1) := below_next (Below.refl _ _) hb
  have sz1 : w.heap.size < w1.heap.size := by rw [hw1]; simp
  have A0_1 : Hid (Bx w1 w.heap.size [.slice a0_1 ba.length k0_1, .slice a0_2 bg.length k0_2]) := hw1 ▸ Bx.new w [.slice a0_1 ba.length k0_1, .slice a0_2 bg.length k0_2] _
  rw [← hw1]
  clear hb hw1 
  refine (szBag_n [.slice a0_1 ba.length k0_1, .slice a0_2 bg.length k0_2] ba bg _ _ (by omega) (by omega) HF0.out (HL0.out.next HB1.out)).mono ?_
  rintro r w2 ⟨⟨y0, rfl, hy0⟩, hb⟩
  have HB2 : Hid (Below w.heap.size w w2) := below_next HB1.out hb
  have sz2 : w1.heap.size ≤ w2.heap.size := hb.size
  have A0_2 : Hid (Bx w2 w.heap.size [.slice a0_1 ba.length k0_1, .slice a0_2 bg.length k0_2]) := A0_1.out.next hb
  clear hb A0_1 HB1
  by_cases ng0 : y0 < 0
  · clear hy0
    go_wp2
    go_ret
    exact ⟨rfl, HB2.out⟩
  have HS0 : Hid (szD shBag (ba, bg, ()) ≤ 1073741824) := Hid.intro (by rcases hy0 with e | e <;> omega)
  have hb0 : 0 ≤ y0 ∧ y0 ≤ 1048576 := by rcases hy0 with e | e <;> omega
  clear hy0
  obtain ⟨cx, hcx⟩ : ∃ c : Nat, c = cntT shBag (ba, bg, ()) := ⟨_, rfl⟩
  have HCX : Hid (cx = cntT shBag (ba, bg, ())) := hcx
  have hcxb : cx ≤ 100000000000 := by rw [hcx]; exact cnt_bag HS0.out
  have hnx : ¬ (1 + (cx : Int)) < 0 := by omega
  clear hcx
  have cA00 := A0_2.out.cell 0 rfl
  have cA01 := A0_2.out.cell 1 rfl
  have zA0 := A0_2.out.2
  go_wp2_with fail
  refine (toBag_n [.slice a0_1 ba.length k0_1, .slice a0_2 bg.length k0_2] ba bg _ HS0.out (HL0.out.next HB2.out)).mono ?_
  rintro r w3 ⟨cs9, rfl, ho, hb⟩
  obtain ⟨p3_1, q3_1, _, p3_2, q3_2, _, hev, _⟩ := own_Bag ho
  subst hev
  have HB3 : Hid (Below w.heap.size w w3) := below_next HB2.out hb
  have sz3 : w2.heap.size ≤ w3.heap.size := hb.size
  have A0_3 : Hid (Bx w3 w.heap.size [.slice a0_1 ba.length k0_1, .slice a0_2 bg.length k0_2]) := A0_2.out.next hb
  have D_3 : Hid (Own w3 shBag [.slice p3_1 ba.length q3_1, .slice p3_2 bg.length q3_2] (ba, bg, ()) (Btw w2.heap.size w3.heap.size)) := ho
  clear hb ho cA00 cA01 zA0 A0_2 HB2
  go_wp2_with fail
  refine (specValuesIn_l [.slice p3_1 ba.length q3_1, .slice p3_2 bg.length q3_2] ba bg _ LL z HLA.out HS0.out D_3.out.lies).mono ?_
  rintro r w4 ⟨p4, q4, rfl, ho, hb⟩
  have HB4 : Hid (Below w.heap.size w w4) := below_next HB3.out hb
  have sz4 : w3.heap.size ≤ w4.heap.size := hb.size
  have A0_4 : Hid (Bx w4 w.heap.size [.slice a0_1 ba.length k0_1, .slice a0_2 bg.length k0_2]) := A0_3.out.next hb
  have D_4 : Hid (Own w4 shBag [.slice p3_1 ba.length q3_1, .slice p3_2 bg.length q3_2] (ba, bg, ()) (Btw w2.heap.size w3.heap.size)) := D_3.out.next hb
  have SL_4 : Hid (Own w4 (.list .str) [.slice p4 LL.length q4] LL (Btw w3.heap.size w4.heap.size)) := ho
  clear hb ho A0_3 D_3 HB3
  clear D_4
  have cA00 := A0_4.out.cell 0 rfl
  have cA01 := A0_4.out.cell 1 rfl
  have zA0 := A0_4.out.2
  go_wp2_with fail
  refine (toBag_n [.slice a0_1 ba.length k0_1, .slice a0_2 bg.length k0_2] ba bg _ HS0.out (HL0.out.next HB4.out)).mono ?_
  rintro r w5 ⟨cs9, rfl, ho, hb⟩
  obtain ⟨p5_1, q5_1, _, p5_2, q5_2, _, hev, _⟩ := own_Bag ho
  subst hev
  have HB5 : Hid (Below w.heap.size w w5) := below_next HB4.out hb
  have sz5 : w4.heap.size ≤ w5.heap.size := hb.size
  have A0_5 : Hid (Bx w5 w.heap.size [.slice a0_1 ba.length k0_1, .slice a0_2 bg.length k0_2]) := A0_4.out.next hb
  have SL_5 : Hid (Own w5 (.list .str) [.slice p4 LL.length q4] LL (Btw w3.heap.size w4.heap.size)) := SL_4.out.next hb
  have P_5 : Hid (Own w5 shBag [.slice p5_1 ba.length q5_1, .slice p5_2 bg.length q5_2] (ba, bg, ()) (Btw w4.heap.size w5.heap.size)) := ho
  clear hb ho cA00 cA01 zA0 A0_4 SL_4 HB4
  go_wp2_with fail
  obtain ⟨w6, hw6⟩ : ∃ x, x = w5.alloc (.cells #[.slice p5_1 ba.length q5_1, .slice p5_2 bg.length q5_2] 46) := ⟨_, rfl⟩
  have hb : Below w5.heap.size w5 w6 := hw6 ▸ Go.Joins.below_alloc1 _ _
  have HB6 : Hid (Below w.heap.size w w6) := below_next HB5.out hb
  have sz6 : w5.heap.size < w6.heap.size := by rw [hw6]; simp
  have A0_6 : Hid (Bx w6 w.heap.size [.slice a0_1 ba.length k0_1, .slice a0_2 bg.length k0_2]) := A0_5.out.next hb
  have SL_6 : Hid (Own w6 (.list .str) [.slice p4 LL.length q4] LL (Btw w3.heap.size w4.heap.size)) := SL_5.out.next hb
  have P_6 : Hid (Own w6 shBag [.slice p5_1 ba.length q5_1, .slice p5_2 bg.length q5_2] (ba, bg, ()) (Btw w4.heap.size w5.heap.size)) := P_5.out.next hb
  have U0_6 : Hid (Bx w6 w5.heap.size [.slice p5_1 ba.length q5_1, .slice p5_2 bg.length q5_2]) := hw6 ▸ Bx.new w5 [.slice p5_1 ba.length q5_1, .slice p5_2 bg.length q5_2] _
  rw [← hw6]
  clear hb hw6 A0_5 SL_5 P_5 HB5
  refine (valuesIn_l [.slice p5_1 ba.length q5_1, .slice p5_2 bg.length q5_2] ba bg _ LL z HLA.out HS0.out P_6.out.lies).mono ?_
  rintro r w7 ⟨p7, q7, rfl, ho, hb⟩
  have HB7 : Hid (Below w.heap.size w w7) := below_next HB6.out hb
  have sz7 : w6.heap.size ≤ w7.heap.size := hb.size
  have A0_7 : Hid (Bx w7 w.heap.size [.slice a0_1 ba.length k0_1, .slice a0_2 bg.length k0_2]) := A0_6.out.next hb
  have SL_7 : Hid (Own w7 (.list .str) [.slice p4 LL.length q4] LL (Btw w3.heap.size w4.heap.size)) := SL_6.out.next hb
  have P_7 : Hid (Own w7 shBag [.slice p5_1 ba.length q5_1, .slice p5_2 bg.length q5_2] (ba, bg, ()) (Btw w4.heap.size w5.heap.size)) := P_6.out.next hb
  have U0_7 : Hid (Bx w7 w5.heap.size [.slice p5_1 ba.length q5_1, .slice p5_2 bg.length q5_2]) := U0_6.out.next hb
  have GL_7 : Hid (Own w7 (.list .str) [.slice p7 LL.length q7] LL (Btw w6.heap.size w7.heap.size)) := ho
  clear hb ho A0_6 SL_6 P_6 U0_6 HB6
  go_wp2_with fail
  refine (eqStringS_n p7 p4 q7 q4 LL _ HZL.out GL_7.out.lies SL_7.out.lies).mono ?_
  rintro r w8 ⟨rfl, hb⟩
  have HB8 : Hid (Below w.heap.size w w8) := below_next HB7.out hb
  have sz8 : w7.heap.size ≤ w8.heap.size := hb.size
  have A0_8 : Hid (Bx w8 w.heap.size [.slice a0_1 ba.length k0_1, .slice a0_2 bg.length k0_2]) := A0_7.out.next hb
  have SL_8 : Hid (Own w8 (.list .str) [.slice p4 LL.length q4] LL (Btw w3.heap.size w4.heap.size)) := SL_7.out.next hb
  have P_8 : Hid (Own w8 shBag [.slice p5_1 ba.length q5_1, .slice p5_2 bg.length q5_2] (ba, bg, ()) (Btw w4.heap.size w5.heap.size)) := P_7.out.next hb
  have U0_8 : Hid (Bx w8 w5.heap.size [.slice p5_1 ba.length q5_1, .slice p5_2 bg.length q5_2]) := U0_7.out.next hb
  have GL_8 : Hid (Own w8 (.list .str) [.slice p7 LL.length q7] LL (Btw w6.heap.size w7.heap.size)) := GL_7.out.next hb
  clear hb A0_7 SL_7 P_7 U0_7 GL_7 HB7
  go_upto_region 10 with fail
  have hb : Below w8.heap.size w8 w8.drew := below_drew _
  have HB9 : Hid (Below w.heap.size w w8.drew) := below_next HB8.out hb
  have sz9 : w8.heap.size ≤ w8.drew.heap.size := hb.size
  have A0_9 : Hid (Bx w8.drew w.heap.size [.slice a0_1 ba.length k0_1, .slice a0_2 bg.length k0_2]) := A0_8.out.next hb
  have SL_9 : Hid (Own w8.drew (.list .str) [.slice p4 LL.length q4] LL (Btw w3.heap.size w4.heap.size)) := SL_8.out.next hb
  have P_9 : Hid (Own w8.drew shBag [.slice p5_1 ba.length q5_1, .slice p5_2 bg.length q5_2] (ba, bg, ()) (Btw w4.heap.size w5.heap.size)) := P_8.out.next hb
  have U0_9 : Hid (Bx w8.drew w5.heap.size [.slice p5_1 ba.length q5_1, .slice p5_2 bg.length q5_2]) := U0_8.out.next hb
  have GL_9 : Hid (Own w8.drew (.list .str) [.slice p7 LL.length q7] LL (Btw w6.heap.size w7.heap.size)) := GL_8.out.next hb
  clear hb A0_8 SL_8 P_8 U0_8 GL_8 HB8
  refine wp_region_noPanic ?_
  refine wp_region_held_drew (S := fun W => Bx W w.heap.size [.slice a0_1 ba.length k0_1, .slice a0_2 bg.length k0_2] ∧ Bx W w5.heap.size [.slice p5_1 ba.length q5_1, .slice p5_2 bg.length q5_2]) (by kernel_rfl) ⟨A0_9.out, U0_9.out⟩ (fun hHeld => ?_)
  refine take_v (v := ?_) 0 ⟨some 41, Op.load 46 (Operand.tmp 6), _, _, _, none⟩ rfl (fun _ _ _ h => h) ?_ hHeld ?_
  rotate_left
  · (intro W hSW; (have s0_0 := hSW.1.cell 0 rfl; have s0_1 := hSW.1.cell 1 rfl; have s0z := hSW.1.2; have s1_0 := hSW.2.cell 0 rfl; have s1_1 := hSW.2.cell 1 rfl; have s1z := hSW.2.2); go_simp <;> (try with_reducible rfl))
  refine take_v (v := ?_) 1 ⟨some 42, Op.load 77 (Operand.tmp 1), _, _, _, none⟩ rfl (fun _ _ _ h => h) ?_ hHeld ?_
  rotate_left
  · (intro W hSW; (have s0_0 := hSW.1.cell 0 rfl; have s0_1 := hSW.1.cell 1 rfl; have s0z := hSW.1.2; have s1_0 := hSW.2.cell 0 rfl; have s1_1 := hSW.2.cell 1 rfl; have s1z := hSW.2.2); go_simp <;> (try with_reducible rfl))
  refine ready_call 2 ⟨some 43, Op.call { callee := Callee.value (Operand.func 52), args := #[Operand.tmp 42], argTypes := #[77] }, _, _, _, none⟩ (by kernel_rfl) rfl (by kernel_rfl) (fun KC hK => ?_)
  go_wp2_with fail
  refine (toBag_n [.slice a0_1 ba.length k0_1, .slice a0_2 bg.length k0_2] ba bg _ HS0.out (HL0.out.next HB9.out)).mono ?_
  rintro r w10 ⟨cs9, rfl, ho, hb⟩
  obtain ⟨p10_1, q10_1, _, p10_2, q10_2, _, hev, _⟩ := own_Bag ho
  subst hev
  have HB10 : Hid (Below w.heap.size w w10) := below_next HB9.out hb
  have sz10 : w8.drew.heap.size ≤ w10.heap.size := hb.size
  have A0_10 : Hid (Bx w10 w.heap.size [.slice a0_1 ba.length k0_1, .slice a0_2 bg.length k0_2]) := A0_9.out.next hb
  have SL_10 : Hid (Own w10 (.list .str) [.slice p4 LL.length q4] LL (Btw w3.heap.size w4.heap.size)) := SL_9.out.next hb
  have P_10 : Hid (Own w10 shBag [.slice p5_1 ba.length q5_1, .slice p5_2 bg.length q5_2] (ba, bg, ()) (Btw w4.heap.size w5.heap.size)) := P_9.out.next hb
  have U0_10 : Hid (Bx w10 w5.heap.size [.slice p5_1 ba.length q5_1, .slice p5_2 bg.length q5_2]) := U0_9.out.next hb
  have GL_10 : Hid (Own w10 (.list .str) [.slice p7 LL.length q7] LL (Btw w6.heap.size w7.heap.size)) := GL_9.out.next hb
  have D_10 : Hid (Own w10 shBag [.slice p10_1 ba.length q10_1, .slice p10_2 bg.length q10_2] (ba, bg, ()) (Btw w8.drew.heap.size w10.heap.size)) := ho
  clear hb ho A0_9 SL_9 P_9 U0_9 GL_9 HB9
  refine hK.out _ _ ⟨A0_10.out, U0_10.out⟩ (fun hHeld => ?_)
  clear hK KC
  refine ready_call 3 ⟨some 44, Op.call { callee := Callee.value (Operand.func 54), args := #[Operand.tmp 41, Operand.tmp 43], argTypes := #[46, 46] }, _, _, _, none⟩ (by kernel_rfl) rfl (by kernel_rfl) (fun KC hK => ?_)
  go_wp2_with fail
  refine (eqBag_n [.slice p5_1 ba.length q5_1, .slice p5_2 bg.length q5_2] [.slice p10_1 ba.length q10_1, .slice p10_2 bg.length q10_2] ba bg _ HS0.out P_10.out.lies D_10.out.lies).mono ?_
  rintro r w11 ⟨rfl, hb⟩
  have HB11 : Hid (Below w.heap.size w w11) := below_next HB10.out hb
  have sz11 : w10.heap.size ≤ w11.heap.size := hb.size
  have A0_11 : Hid (Bx w11 w.heap.size [.slice a0_1 ba.length k0_1, .slice a0_2 bg.length k0_2]) := A0_10.out.next hb
  have SL_11 : Hid (Own w11 (.list .str) [.slice p4 LL.length q4] LL (Btw w3.heap.size w4.heap.size)) := SL_10.out.next hb
  have P_11 : Hid (Own w11 shBag [.slice p5_1 ba.length q5_1, .slice p5_2 bg.length q5_2] (ba, bg, ()) (Btw w4.heap.size w5.heap.size)) := P_10.out.next hb
  have U0_11 : Hid (Bx w11 w5.heap.size [.slice p5_1 ba.length q5_1, .slice p5_2 bg.length q5_2]) := U0_10.out.next hb
  have GL_11 : Hid (Own w11 (.list .str) [.slice p7 LL.length q7] LL (Btw w6.heap.size w7.heap.size)) := GL_10.out.next hb
  have D_11 : Hid (Own w11 shBag [.slice p10_1 ba.length q10_1, .slice p10_2 bg.length q10_2] (ba, bg, ()) (Btw w8.drew.heap.size w10.heap.size)) := D_10.out.next hb
  clear hb A0_10 SL_10 P_10 U0_10 GL_10 D_10 HB10
  refine hK.out _ _ ⟨A0_11.out, U0_11.out⟩ (fun hHeld => ?_)
  clear hK KC
  refine take_v (v := ?_) 4 ⟨some 45, Op.unOp UnOp.not 4 (Operand.tmp 44), _, _, _, none⟩ rfl (fun _ _ _ h => h) ?_ hHeld ?_
  rotate_left
  · (intro W _; go_simp <;> (try with_reducible rfl))
  refine wpAnyH_done (by kernel_rfl) ?_ _
  refine NoPanic.normal ?_
  clear D_11
  have cU00 := U0_11.out.cell 0 rfl
  have cU01 := U0_11.out.cell 1 rfl
  have zU0 := U0_11.out.2
  go_wp2_with fail
  refine ((show Calls _ _ _ _ (MkP shBag [.slice p5_1 ba.length q5_1, .slice p5_2 bg.length q5_2] (mkT shBag (ba, bg, ()) 1) (1 + (cx : Int)) (Btw w4.heap.size w5.heap.size) _) from HCX.out ▸ markBag_n [.slice p5_1 ba.length q5_1, .slice p5_2 bg.length q5_2] ba bg 1 (Btw w4.heap.size w5.heap.size) _ (by decide) (by have h1 := HCX.out; rw [← h1]; omega) HS0.out (fun k hk => by have := hk.2; omega) P_11.out)).mono ?_
  rintro r w12 ⟨rfl, ho, ht⟩
  have HB12 : Hid (Below w.heap.size w w12) := Hid.intro (HB11.out.trans (ht.below (fun k hk => by simp only [Btw] at hk; omega) HB11.out.size))
  have sz12 : w11.heap.size ≤ w12.heap.size := ht.size
  have A0_12 : Hid (Bx w12 w.heap.size [.slice a0_1 ba.length k0_1, .slice a0_2 bg.length k0_2]) := A0_11.out.turnS ht (by simp only [Btw]; omega)
  have SL_12 : Hid (Own w12 (.list .str) [.slice p4 LL.length q4] LL (Btw w3.heap.size w4.heap.size)) := SL_11.out.turn ht (fun k e f => by simp only [Btw] at e f; omega)
  have P_12 : Hid (Own w12 shBag [.slice p5_1 ba.length q5_1, .slice p5_2 bg.length q5_2] (mkT shBag (ba, bg, ()) 1) (Btw w4.heap.size w5.heap.size)) := ho
  have U0_12 : Hid (Bx w12 w5.heap.size [.slice p5_1 ba.length q5_1, .slice p5_2 bg.length q5_2]) := U0_11.out.turnS ht (by simp only [Btw]; omega)
  have GL_12 : Hid (Own w12 (.list .str) [.slice p7 LL.length q7] LL (Btw w6.heap.size w7.heap.size)) := GL_11.out.turn ht (fun k e f => by simp only [Btw] at e f; omega)
  clear ht ho cU00 cU01 zU0 A0_11 SL_11 P_11 U0_11 GL_11 HB11
  clear P_12
  clear U0_12
  go_wp2_with fail
  refine (eqStringS_n p7 p4 q7 q4 LL _ HZL.out GL_12.out.lies SL_12.out.lies).mono ?_
  rintro r w13 ⟨rfl, hb⟩
  have HB13 : Hid (Below w.heap.size w w13) := below_next HB12.out hb
  have sz13 : w12.heap.size ≤ w13.heap.size := hb.size
  have A0_13 : Hid (Bx w13 w.heap.size [.slice a0_1 ba.length k0_1, .slice a0_2 bg.length k0_2]) := A0_12.out.next hb
  have SL_13 : Hid (Own w13 (.list .str) [.slice p4 LL.length q4] LL (Btw w3.heap.size w4.heap.size)) := SL_12.out.next hb
  have GL_13 : Hid (Own w13 (.list .str) [.slice p7 LL.length q7] LL (Btw w6.heap.size w7.heap.size)) := GL_12.out.next hb
  clear hb A0_12 SL_12 GL_12 HB12
  go_wp2_with fail
  refine ((show Calls _ _ _ _ (MkP (.list .str) [.slice p7 LL.length q7] (mkD (.list .str) LL 1) (1 + (cn : Int)) (Btw w6.heap.size w7.heap.size) _) from HCN.out ▸ markStringS_n p7 q7 LL 1 (Btw w6.heap.size w7.heap.size) _ (by decide) (by have h1 := HCN.out; rw [← h1]; omega) HZL.out GL_13.out)).mono ?_
  rintro r w14 ⟨rfl, ho, ht⟩
  have HB14 : Hid (Below w.heap.size w w14) := Hid.intro (HB13.out.trans (ht.below (fun k hk => by simp only [Btw] at hk; omega) HB13.out.size))
  have sz14 : w13.heap.size ≤ w14.heap.size := ht.size
  have A0_14 : Hid (Bx w14 w.heap.size [.slice a0_1 ba.length k0_1, .slice a0_2 bg.length k0_2]) := A0_13.out.turnS ht (by simp only [Btw]; omega)
  have SL_14 : Hid (Own w14 (.list .str) [.slice p4 LL.length q4] LL (Btw w3.heap.size w4.heap.size)) := SL_13.out.turn ht (fun k e f => by simp only [Btw] at e f; omega)
  have GL_14 : Hid (Own w14 (.list .str) [.slice p7 LL.length q7] (mkD (.list .str) LL 1) (Btw w6.heap.size w7.heap.size)) := ho
  clear ht ho A0_13 SL_13 GL_13 HB13
  go_wp2_with fail
  refine ((show Calls _ _ _ _ (fun r w' => r = .returned (.int .i64 (1 + (cn : Int))) ∧ Below _ _ w') from HCN.out ▸ heldStringS_n p7 q7 LL 1 _ (by decide) (by have h1 := HCN.out; rw [← h1]; omega) HZL.out GL_14.out.lies)).mono ?_
  rintro r w15 ⟨rfl, hb⟩
  have HB15 : Hid (Below w.heap.size w w15) := below_next HB14.out hb
  have sz15 : w14.heap.size ≤ w15.heap.size := hb.size
  have A0_15 : Hid (Bx w15 w.heap.size [.slice a0_1 ba.length k0_1, .slice a0_2 bg.length k0_2]) := A0_14.out.next hb
  have SL_15 : Hid (Own w15 (.list .str) [.slice p4 LL.length q4] LL (Btw w3.heap.size w4.heap.size)) := SL_14.out.next hb
  have GL_15 : Hid (Own w15 (.list .str) [.slice p7 LL.length q7] (mkD (.list .str) LL 1) (Btw w6.heap.size w7.heap.size)) := GL_14.out.next hb
  clear hb A0_14 SL_14 GL_14 HB14
  have cA00 := A0_15.out.cell 0 rfl
  have cA01 := A0_15.out.cell 1 rfl
  have zA0 := A0_15.out.2
  go_wp2_with fail
  refine (toBag_n [.slice a0_1 ba.length k0_1, .slice a0_2 bg.length k0_2] ba bg _ HS0.out (HL0.out.next HB15.out)).mono ?_
  rintro r w16 ⟨cs9, rfl, ho, hb⟩
  obtain ⟨p16_1, q16_1, _, p16_2, q16_2, _, hev, _⟩ := own_Bag ho
  subst hev
  have HB16 : Hid (Below w.heap.size w w16) := below_next HB15.out hb
  have sz16 : w15.heap.size ≤ w16.heap.size := hb.size
  have A0_16 : Hid (Bx w16 w.heap.size [.slice a0_1 ba.length k0_1, .slice a0_2 bg.length k0_2]) := A0_15.out.next hb
  have SL_16 : Hid (Own w16 (.list .str) [.slice p4 LL.length q4] LL (Btw w3.heap.size w4.heap.size)) := SL_15.out.next hb
  have GL_16 : Hid (Own w16 (.list .str) [.slice p7 LL.length q7] (mkD (.list .str) LL 1) (Btw w6.heap.size w7.heap.size)) := GL_15.out.next hb
  have D_16 : Hid (Own w16 shBag [.slice p16_1 ba.length q16_1, .slice p16_2 bg.length q16_2] (ba, bg, ()) (Btw w15.heap.size w16.heap.size)) := ho
  clear hb ho cA00 cA01 zA0 A0_15 SL_15 GL_15 HB15
  go_wp2_with fail
  refine (valuesIn_l [.slice p16_1 ba.length q16_1, .slice p16_2 bg.length q16_2] ba bg _ LL z HLA.out HS0.out D_16.out.lies).mono ?_
  rintro r w17 ⟨p17, q17, rfl, ho, hb⟩
  have HB17 : Hid (Below w.heap.size w w17) := below_next HB16.out hb
  have sz17 : w16.heap.size ≤ w17.heap.size := hb.size
  have A0_17 : Hid (Bx w17 w.heap.size [.slice a0_1 ba.length k0_1, .slice a0_2 bg.length k0_2]) := A0_16.out.next hb
  have SL_17 : Hid (Own w17 (.list .str) [.slice p4 LL.length q4] LL (Btw w3.heap.size w4.heap.size)) := SL_16.out.next hb
  have GL_17 : Hid (Own w17 (.list .str) [.slice p7 LL.length q7] (mkD (.list .str) LL 1) (Btw w6.heap.size w7.heap.size)) := GL_16.out.next hb
  have D_17 : Hid (Own w17 shBag [.slice p16_1 ba.length q16_1, .slice p16_2 bg.length q16_2] (ba, bg, ()) (Btw w15.heap.size w16.heap.size)) := D_16.out.next hb
  have HL_17 : Hid (Own w17 (.list .str) [.slice p17 LL.length q17] LL (Btw w16.heap.size w17.heap.size)) := ho
  clear hb ho A0_16 SL_16 GL_16 D_16 HB16
  clear D_17
  go_wp2_with fail
  refine (eqStringS_n p17 p4 q17 q4 LL _ HZL.out HL_17.out.lies SL_17.out.lies).mono ?_
  rintro r w18 ⟨rfl, hb⟩
  have HB18 : Hid (Below w.heap.size w w18) := below_next HB17.out hb
  have sz18 : w17.heap.size ≤ w18.heap.size := hb.size
  have A0_18 : Hid (Bx w18 w.heap.size [.slice a0_1 ba.length k0_1, .slice a0_2 bg.length k0_2]) := A0_17.out.next hb
  have SL_18 : Hid (Own w18 (.list .str) [.slice p4 LL.length q4] LL (Btw w3.heap.size w4.heap.size)) := SL_17.out.next hb
  have GL_18 : Hid (Own w18 (.list .str) [.slice p7 LL.length q7] (mkD (.list .str) LL 1) (Btw w6.heap.size w7.heap.size)) := GL_17.out.next hb
  have HL_18 : Hid (Own w18 (.list .str) [.slice p17 LL.length q17] LL (Btw w16.heap.size w17.heap.size)) := HL_17.out.next hb
  clear hb A0_17 SL_17 GL_17 HL_17 HB17
  go_wp2_with fail
  refine ((show Calls _ _ _ _ (fun r w' => r = .returned (.int .i64 (1 + (cn : Int))) ∧ Below _ _ w') from HCN.out ▸ heldStringS_n p7 q7 LL 1 _ (by decide) (by have h1 := HCN.out; rw [← h1]; omega) HZL.out GL_18.out.lies)).mono ?_
  rintro r w19 ⟨rfl, hb⟩
  have HB19 : Hid (Below w.heap.size w w19) := below_next HB18.out hb
  have sz19 : w18.heap.size ≤ w19.heap.size := hb.size
  have A0_19 : Hid (Bx w19 w.heap.size [.slice a0_1 ba.length k0_1, .slice a0_2 bg.length k0_2]) := A0_18.out.next hb
  have SL_19 : Hid (Own w19 (.list .str) [.slice p4 LL.length q4] LL (Btw w3.heap.size w4.heap.size)) := SL_18.out.next hb
  have GL_19 : Hid (Own w19 (.list .str) [.slice p7 LL.length q7] (mkD (.list .str) LL 1) (Btw w6.heap.size w7.heap.size)) := GL_18.out.next hb
  have HL_19 : Hid (Own w19 (.list .str) [.slice p17 LL.length q17] LL (Btw w16.heap.size w17.heap.size)) := HL_18.out.next hb
  clear hb A0_18 SL_18 GL_18 HL_18 HB18
  have HE := HB19
  go_wp2
  go_ret
  exact ⟨rfl, HE.out⟩


theorem own : ownKnob Try.prog.godebug = none := by kernel_rfl
theorem laidOut : laidOutB Try.prog = true := by kernel_rfl

set_option maxRecDepth 100000 in
theorem lifted (os : Os) (started : os.Started) (H : Type) (enc : TypeId × Value → H) :
    ReturnsInHanded {} Try.checked os 15 .any (Rows.fnExactValuesInSpec.pre6 enc Try.prog Try.f15 Rows.fnExactValuesInRow.domain false) (Rows.fnExactValuesInSpec.post enc Try.prog Try.f15 false true false false) := by
  refine returnsInHanded_of_change (C := Try.checked) own started (by kernel_rfl) Try.func15
    (ChangeSpec.witness6 (enc := enc) (C := Try.checked) false ⟨#[], #[.agg #[.slice none 0 0, .slice none 0 0]], []⟩ 8 (by kernel_rfl) (by kernel_rfl) (by kernel_rfl) (by kernel_rfl)) ?_
  intro W base args ds gs before hval0 hW hcnd _
  have hval : ∀ (j : Nat) t v, Try.f15.params[j]? = some t → args[j]? = some v → Value.okWide Try.prog W .any base t v := hval0
  have hW' := hW
  obtain ⟨p, q, hA0, hV, rfl, hfz, hnd⟩ := hW
  have hA : DataW.TrodAll enc Try.prog W 0 (fun _ => true) true Try.f15.params.toList args.toList ds p := hA0
  rw [Try.params15] at hA hval
  obtain ⟨v0, vs0, d0, ds0, p0, q0, hargs, rfl, rfl, h0, r0⟩ := trodAll_cons hA
  obtain ⟨rfl, rfl, rfl⟩ := trodAll_nil r0
  obtain rfl : args = #[v0] := by cases args; simp_all
  obtain ⟨rfl, rfl⟩ := trodVars_none hV
  have k0 := h0
  have lt0 : ∀ x ∈ p0, x.block < W.heap.size := by obtain ⟨m, hm⟩ := k0; exact DataW.trod_lt m _ _ _ hm
  obtain ⟨cs0, X0, rfl, li0, fi0⟩ := open_Bag_n (hval 0 77 v0 rfl rfl) h0
  clear hA0 hval0
  refine (walk (w := W) cs0 X0 li0 fi0).mono fun e W' ⟨he, bel⟩ => ?_
  subst he
  exact ⟨_, rfl, _, _, _, [], _, [], hW', trodAll_mk1 (shut_bool Try.underlying4 _), (trodAll_cons_mk (Below.trod laidOut (by kernel_rfl) (of_decide_eq_true (by kernel_rfl)) k0 bel lt0) trodAll_mk0), rfl, bel.frame _, fun h => by cases h⟩

set_option maxHeartbeats 40000000 in
theorem closed : joinedFacts Try.pinned.checked.prog 15 Try.f15 Rows.fnExactValuesInSpec Rows.fnExactValuesInRow = true := by
  unfold joinedFacts
  repeat' (first | (with_reducible refine both ?_ ?_) | (with_reducible exact may_enter') | (with_reducible refine lifts_eq ?_) | (with_reducible refine make_eq ?_) | as_aux_lemma => kernel_rfl)
theorem named : Try.pinned.checked.prog.funcNamed Rows.fnExactValuesInRow.func = some 15 := by kernel_rfl
theorem over : Rows.fnExactValuesInRow.holds Try.pinned (OpenSpec.ofChange Rows.fnExactValuesInSpec) :=
  OpenClaim.holds_of_wide 15 Try.f15 rfl rfl rfl rfl rfl rfl rfl ⟨rfl, rfl, rfl, rfl, rfl⟩ rfl rfl rfl rfl rfl named Try.func15 closed
    (of_decide_eq_true (by as_aux_lemma => kernel_rfl)) (by unfold Func.isWrapper; first | (rw [if_pos (by decide +kernel)]; kernel_rfl) | (rw [if_neg (by decide +kernel)]; exact ⟨rfl, rfl⟩))
    (fun os started H enc _ => lifted os started H enc)

end Go.Proofs.Ytnglgndocmkbfaa.xValuesIn
namespace Go.Proofs.Ytnglgndocmkbfaa
theorem xValuesIn_holds : Rows.FnExactValuesInSaid := xValuesIn.over
#print axioms xValuesIn_holds
end Go.Proofs.Ytnglgndocmkbfaa
