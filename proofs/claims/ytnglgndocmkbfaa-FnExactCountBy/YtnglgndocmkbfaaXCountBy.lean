/- At every argument impl.CountBy answers as the specification does, field by field, writes into no argument, its answer owns its memory, and each argument reads behind the call as it read before. No condition. -/
import Derived.Test.YtnglgndocmkbfaaCtL
import Derived.Test.YtnglgndocmkbfaaShD
import Derived.Test.YtnglgndocmkbfaaNtZ
import Derived.Test.YtnglgndocmkbfaaNtT
import Derived.Test.YtnglgndocmkbfaaNtE
import Derived.Test.YtnglgndocmkbfaaNtO
import Derived.Test.YtnglgndocmkbfaaNtM
import Derived.Test.YtnglgndocmkbfaaNtH
import Derived.Test.YtnglgndocmkbfaaWords
import Derived.ProofKit
import Derived.OpenShut
import Derived.ShutString
import Derived.ChangeOld
import Derived.Below
import Derived.Lib.SmallJoins
namespace Go.Proofs.Ytnglgndocmkbfaa.xCountBy
open Go.ChangeShapes Go.WideShapes Go.ChangeAt Go.RowKit
open Go.ChangeMaps (open_string shut_string)
set_option linter.unusedVariables false

set_option maxRecDepth 100000 in
set_option maxHeartbeats 4000000 in
theorem walk (w : World) (cs0 : List Value) (X0 : Sh.T shCounter) (li0 : Lies w shCounter cs0 X0) (fi0 : Fits shCounter X0) (sa : Int) (wf1 : (Lit.int .i64 sa).wf = true) (sb : Int) (wf2 : (Lit.int .i64 sb).wf = true) :
    Calls Try.prog 8 #[.agg cs0.toArray, .int .i64 sa, .int .i64 sb] w fun r w' => r = .returned (.bool true) ∧ Below w.heap.size w w' := by
  obtain ⟨u, d, ⟨⟩⟩ := X0
  obtain ⟨a0_1, k0_1, a0_2, k0_2, rfl, l0_1, l0_2⟩ := lies_Counter li0
  have HL0 : Hid (Lies w shCounter [.slice a0_1 u.length k0_1, .slice a0_2 d.length k0_2] (u, d, ())) := li0
  have HF0 : Hid (Fits shCounter (u, d, ())) := fi0
  clear li0 fi0 l0_1 l0_2
  have H1 : Hid (-9223372036854775808 ≤ sa ∧ sa ≤ 9223372036854775807) := wf_bounds wf1
  clear wf1
  have H2 : Hid (-9223372036854775808 ≤ sb ∧ sb ≤ 9223372036854775807) := wf_bounds wf2
  clear wf2
  obtain ⟨U, V, z, hA⟩ : ∃ U V z, cbA u d sa sb = (U, V, z) := ⟨_, _, _, rfl⟩
  have HA : Hid (cbA u d sa sb = (U, V, z)) := hA
  clear hA
  go_enter Try.func8, Try.ntmps8
  go_wp2_with fail
  obtain ⟨w1, hw1⟩ : ∃ x, x = w.alloc (.cells #[.slice a0_1 u.length k0_1, .slice a0_2 d.length k0_2] 63) := ⟨_, rfl⟩
  have hb : Below w.heap.size w w1 := hw1 ▸ Go.Joins.below_alloc1 _ _
  have HB1 : Hid (Below w.heap.size w w1) := below_next (Below.refl _ _) hb
  have sz1 : w.heap.size < w1.heap.size := by rw [hw1]; simp
  have A0_1 : Hid (Bx w1 w.heap.size [.slice a0_1 u.length k0_1, .slice a0_2 d.length k0_2]) := hw1 ▸ Bx.new w [.slice a0_1 u.length k0_1, .slice a0_2 d.length k0_2] _
  have HZ1 : Hid (w1.heap.size = w.heap.size + 1) := Hid.intro (by rw [hw1]; simp)
  rw [← hw1]
  clear hb hw1 
  refine (szCounter_n [.slice a0_1 u.length k0_1, .slice a0_2 d.length k0_2] u d _ _ (by omega) (by omega) HF0.out (HL0.out.next HB1.out)).mono ?_
  rintro r w2 ⟨⟨y0, rfl, hy0⟩, hb⟩
  have HB2 : Hid (Below w.heap.size w w2) := below_next HB1.out hb
  have sz2 : w1.heap.size ≤ w2.heap.size := hb.size
  have A0_2 : Hid (Bx w2 w.heap.size [.slice a0_1 u.length k0_1, .slice a0_2 d.length k0_2]) := A0_1.out.next hb
  clear hb A0_1 HB1
  by_cases ng0 : y0 < 0
  · clear hy0
    go_wp2
    go_ret
    exact ⟨rfl, HB2.out⟩
  have HS0 : Hid (szD shCounter (u, d, ()) ≤ 1073741824) := Hid.intro (by rcases hy0 with e | e <;> omega)
  have hb0 : 0 ≤ y0 ∧ y0 ≤ 1048576 := by rcases hy0 with e | e <;> omega
  clear hy0
  have HT : Hid (szD shCounter (U, V, ()) ≤ 1073741824) := Hid.intro (sz_cbA HA.out)
  obtain ⟨cn, hcn⟩ : ∃ c : Nat, c = cntT shCounter (U, V, ()) := ⟨_, rfl⟩
  have HCN : Hid (cn = cntT shCounter (U, V, ())) := hcn
  have hcb : cn ≤ 100000000000 := by rw [hcn]; exact cnt_ctr HT.out
  clear hcn
  have hng : ¬ (1 + (cn : Int)) < 0 := by omega
  obtain ⟨cx, hcx⟩ : ∃ c : Nat, c = cntT shCounter (u, d, ()) := ⟨_, rfl⟩
  have HCX : Hid (cx = cntT shCounter (u, d, ())) := hcx
  have hcxb : cx ≤ 100000000000 := by rw [hcx]; exact cnt_ctr HS0.out
  have hnx : ¬ (1 + (cx : Int)) < 0 := by omega
  clear hcx
  have cA00 := A0_2.out.cell 0 rfl
  have cA01 := A0_2.out.cell 1 rfl
  have zA0 := A0_2.out.2
  go_wp2_with fail
  refine (toCounter_n [.slice a0_1 u.length k0_1, .slice a0_2 d.length k0_2] u d _ HS0.out (HL0.out.next HB2.out)).mono ?_
  rintro r w3 ⟨cs9, rfl, ho, hb⟩
  obtain ⟨p3_1, q3_1, _, p3_2, q3_2, _, hev, _⟩ := own_Counter ho
  subst hev
  have HB3 : Hid (Below w.heap.size w w3) := below_next HB2.out hb
  have sz3 : w2.heap.size ≤ w3.heap.size := hb.size
  have A0_3 : Hid (Bx w3 w.heap.size [.slice a0_1 u.length k0_1, .slice a0_2 d.length k0_2]) := A0_2.out.next hb
  have D_3 : Hid (Own w3 shCounter [.slice p3_1 u.length q3_1, .slice p3_2 d.length q3_2] (u, d, ()) (Btw w2.heap.size w3.heap.size)) := ho
  clear hb ho cA00 cA01 zA0 A0_2 HB2
  go_wp2_with fail
  refine (specCountBy_l [.slice p3_1 u.length q3_1, .slice p3_2 d.length q3_2] u d sa sb _ U V z HA.out HS0.out D_3.out.lies).mono ?_
  rintro r w4 ⟨cs9, rfl, ho, hb⟩
  obtain ⟨p4_1, q4_1, _, p4_2, q4_2, _, hev, _⟩ := own_Counter ho
  subst hev
  have HB4 : Hid (Below w.heap.size w w4) := below_next HB3.out hb
  have sz4 : w3.heap.size ≤ w4.heap.size := hb.size
  have A0_4 : Hid (Bx w4 w.heap.size [.slice a0_1 u.length k0_1, .slice a0_2 d.length k0_2]) := A0_3.out.next hb
  have D_4 : Hid (Own w4 shCounter [.slice p3_1 u.length q3_1, .slice p3_2 d.length q3_2] (u, d, ()) (Btw w2.heap.size w3.heap.size)) := D_3.out.next hb
  have SP_4 : Hid (Own w4 shCounter [.slice p4_1 U.length q4_1, .slice p4_2 V.length q4_2] (U, V, ()) (Btw w3.heap.size w4.heap.size)) := ho
  clear hb ho A0_3 D_3 HB3
  clear D_4
  have cA00 := A0_4.out.cell 0 rfl
  have cA01 := A0_4.out.cell 1 rfl
  have zA0 := A0_4.out.2
  go_wp2_with fail
  obtain ⟨w5, hw5⟩ : ∃ x, x = w4.alloc (.cells #[.slice p4_1 U.length q4_1, .slice p4_2 V.length q4_2] 25) := ⟨_, rfl⟩
  have hb : Below w4.heap.size w4 w5 := hw5 ▸ Go.Joins.below_alloc1 _ _
  have HB5 : Hid (Below w.heap.size w w5) := below_next HB4.out hb
  have sz5 : w4.heap.size < w5.heap.size := by rw [hw5]; simp
  have A0_5 : Hid (Bx w5 w.heap.size [.slice a0_1 u.length k0_1, .slice a0_2 d.length k0_2]) := A0_4.out.next hb
  have SP_5 : Hid (Own w5 shCounter [.slice p4_1 U.length q4_1, .slice p4_2 V.length q4_2] (U, V, ()) (Btw w3.heap.size w4.heap.size)) := SP_4.out.next hb
  have W_5 : Hid (Bx w5 w4.heap.size [.slice p4_1 U.length q4_1, .slice p4_2 V.length q4_2]) := hw5 ▸ Bx.new w4 [.slice p4_1 U.length q4_1, .slice p4_2 V.length q4_2] _
  rw [← hw5]
  clear hb hw5 cA00 cA01 zA0 A0_4 SP_4 HB4
  refine (toCounter_n [.slice a0_1 u.length k0_1, .slice a0_2 d.length k0_2] u d _ HS0.out (HL0.out.next HB5.out)).mono ?_
  rintro r w6 ⟨cs9, rfl, ho, hb⟩
  obtain ⟨p6_1, q6_1, _, p6_2, q6_2, _, hev, _⟩ := own_Counter ho
  subst hev
  have HB6 : Hid (Below w.heap.size w w6) := below_next HB5.out hb
  have sz6 : w5.heap.size ≤ w6.heap.size := hb.size
  have A0_6 : Hid (Bx w6 w.heap.size [.slice a0_1 u.length k0_1, .slice a0_2 d.length k0_2]) := A0_5.out.next hb
  have SP_6 : Hid (Own w6 shCounter [.slice p4_1 U.length q4_1, .slice p4_2 V.length q4_2] (U, V, ()) (Btw w3.heap.size w4.heap.size)) := SP_5.out.next hb
  have W_6 : Hid (Bx w6 w4.heap.size [.slice p4_1 U.length q4_1, .slice p4_2 V.length q4_2]) := W_5.out.next hb
  have P_6 : Hid (Own w6 shCounter [.slice p6_1 u.length q6_1, .slice p6_2 d.length q6_2] (u, d, ()) (Btw w5.heap.size w6.heap.size)) := ho
  clear hb ho A0_5 SP_5 W_5 HB5
  go_wp2_with fail
  obtain ⟨w7, hw7⟩ : ∃ x, x = w6.alloc (.cells #[.slice p6_1 u.length q6_1, .slice p6_2 d.length q6_2] 25) := ⟨_, rfl⟩
  have hb : Below w6.heap.size w6 w7 := hw7 ▸ Go.Joins.below_alloc1 _ _
  have HB7 : Hid (Below w.heap.size w w7) := below_next HB6.out hb
  have sz7 : w6.heap.size < w7.heap.size := by rw [hw7]; simp
  have A0_7 : Hid (Bx w7 w.heap.size [.slice a0_1 u.length k0_1, .slice a0_2 d.length k0_2]) := A0_6.out.next hb
  have SP_7 : Hid (Own w7 shCounter [.slice p4_1 U.length q4_1, .slice p4_2 V.length q4_2] (U, V, ()) (Btw w3.heap.size w4.heap.size)) := SP_6.out.next hb
  have W_7 : Hid (Bx w7 w4.heap.size [.slice p4_1 U.length q4_1, .slice p4_2 V.length q4_2]) := W_6.out.next hb
  have P_7 : Hid (Own w7 shCounter [.slice p6_1 u.length q6_1, .slice p6_2 d.length q6_2] (u, d, ()) (Btw w5.heap.size w6.heap.size)) := P_6.out.next hb
  have U0_7 : Hid (Bx w7 w6.heap.size [.slice p6_1 u.length q6_1, .slice p6_2 d.length q6_2]) := hw7 ▸ Bx.new w6 [.slice p6_1 u.length q6_1, .slice p6_2 d.length q6_2] _
  rw [← hw7]
  clear hb hw7 A0_6 SP_6 W_6 P_6 HB6
  refine (countBy_l [.slice p6_1 u.length q6_1, .slice p6_2 d.length q6_2] u d sa sb _ U V z HA.out HS0.out P_7.out.lies).mono ?_
  rintro r w8 ⟨cs9, rfl, ho, hb⟩
  obtain ⟨p8_1, q8_1, _, p8_2, q8_2, _, hev, _⟩ := own_Counter ho
  subst hev
  have HB8 : Hid (Below w.heap.size w w8) := below_next HB7.out hb
  have sz8 : w7.heap.size ≤ w8.heap.size := hb.size
  have A0_8 : Hid (Bx w8 w.heap.size [.slice a0_1 u.length k0_1, .slice a0_2 d.length k0_2]) := A0_7.out.next hb
  have SP_8 : Hid (Own w8 shCounter [.slice p4_1 U.length q4_1, .slice p4_2 V.length q4_2] (U, V, ()) (Btw w3.heap.size w4.heap.size)) := SP_7.out.next hb
  have W_8 : Hid (Bx w8 w4.heap.size [.slice p4_1 U.length q4_1, .slice p4_2 V.length q4_2]) := W_7.out.next hb
  have P_8 : Hid (Own w8 shCounter [.slice p6_1 u.length q6_1, .slice p6_2 d.length q6_2] (u, d, ()) (Btw w5.heap.size w6.heap.size)) := P_7.out.next hb
  have U0_8 : Hid (Bx w8 w6.heap.size [.slice p6_1 u.length q6_1, .slice p6_2 d.length q6_2]) := U0_7.out.next hb
  have GP_8 : Hid (Own w8 shCounter [.slice p8_1 U.length q8_1, .slice p8_2 V.length q8_2] (U, V, ()) (Btw w7.heap.size w8.heap.size)) := ho
  clear hb ho A0_7 SP_7 W_7 P_7 U0_7 HB7
  have cW0 := W_8.out.cell 0 rfl
  have cW1 := W_8.out.cell 1 rfl
  have zW := W_8.out.2
  go_wp2_with fail
  obtain ⟨w9, hw9⟩ : ∃ x, x = w8.alloc (.cells #[.slice p8_1 U.length q8_1, .slice p8_2 V.length q8_2] 25) := ⟨_, rfl⟩
  have hb : Below w8.heap.size w8 w9 := hw9 ▸ Go.Joins.below_alloc1 _ _
  have HB9 : Hid (Below w.heap.size w w9) := below_next HB8.out hb
  have sz9 : w8.heap.size < w9.heap.size := by rw [hw9]; simp
  have A0_9 : Hid (Bx w9 w.heap.size [.slice a0_1 u.length k0_1, .slice a0_2 d.length k0_2]) := A0_8.out.next hb
  have SP_9 : Hid (Own w9 shCounter [.slice p4_1 U.length q4_1, .slice p4_2 V.length q4_2] (U, V, ()) (Btw w3.heap.size w4.heap.size)) := SP_8.out.next hb
  have W_9 : Hid (Bx w9 w4.heap.size [.slice p4_1 U.length q4_1, .slice p4_2 V.length q4_2]) := W_8.out.next hb
  have P_9 : Hid (Own w9 shCounter [.slice p6_1 u.length q6_1, .slice p6_2 d.length q6_2] (u, d, ()) (Btw w5.heap.size w6.heap.size)) := P_8.out.next hb
  have U0_9 : Hid (Bx w9 w6.heap.size [.slice p6_1 u.length q6_1, .slice p6_2 d.length q6_2]) := U0_8.out.next hb
  have GP_9 : Hid (Own w9 shCounter [.slice p8_1 U.length q8_1, .slice p8_2 V.length q8_2] (U, V, ()) (Btw w7.heap.size w8.heap.size)) := GP_8.out.next hb
  have G_9 : Hid (Bx w9 w8.heap.size [.slice p8_1 U.length q8_1, .slice p8_2 V.length q8_2]) := hw9 ▸ Bx.new w8 [.slice p8_1 U.length q8_1, .slice p8_2 V.length q8_2] _
  rw [← hw9]
  clear hb hw9 cW0 cW1 zW A0_8 SP_8 W_8 P_8 U0_8 GP_8 HB8
  refine (eqCounter_n [.slice p8_1 U.length q8_1, .slice p8_2 V.length q8_2] [.slice p4_1 U.length q4_1, .slice p4_2 V.length q4_2] U V _ HT.out GP_9.out.lies SP_9.out.lies).mono ?_
  rintro r w10 ⟨rfl, hb⟩
  have HB10 : Hid (Below w.heap.size w w10) := below_next HB9.out hb
  have sz10 : w9.heap.size ≤ w10.heap.size := hb.size
  have A0_10 : Hid (Bx w10 w.heap.size [.slice a0_1 u.length k0_1, .slice a0_2 d.length k0_2]) := A0_9.out.next hb
  have SP_10 : Hid (Own w10 shCounter [.slice p4_1 U.length q4_1, .slice p4_2 V.length q4_2] (U, V, ()) (Btw w3.heap.size w4.heap.size)) := SP_9.out.next hb
  have W_10 : Hid (Bx w10 w4.heap.size [.slice p4_1 U.length q4_1, .slice p4_2 V.length q4_2]) := W_9.out.next hb
  have P_10 : Hid (Own w10 shCounter [.slice p6_1 u.length q6_1, .slice p6_2 d.length q6_2] (u, d, ()) (Btw w5.heap.size w6.heap.size)) := P_9.out.next hb
  have U0_10 : Hid (Bx w10 w6.heap.size [.slice p6_1 u.length q6_1, .slice p6_2 d.length q6_2]) := U0_9.out.next hb
  have GP_10 : Hid (Own w10 shCounter [.slice p8_1 U.length q8_1, .slice p8_2 V.length q8_2] (U, V, ()) (Btw w7.heap.size w8.heap.size)) := GP_9.out.next hb
  have G_10 : Hid (Bx w10 w8.heap.size [.slice p8_1 U.length q8_1, .slice p8_2 V.length q8_2]) := G_9.out.next hb
  clear hb A0_9 SP_9 W_9 P_9 U0_9 GP_9 G_9 HB9
  go_upto_region 10 with fail
  have hb : Below w10.heap.size w10 w10.drew := below_drew _
  have HB11 : Hid (Below w.heap.size w w10.drew) := below_next HB10.out hb
  have sz11 : w10.heap.size ≤ w10.drew.heap.size := hb.size
  have A0_11 : Hid (Bx w10.drew w.heap.size [.slice a0_1 u.length k0_1, .slice a0_2 d.length k0_2]) := A0_10.out.next hb
  have SP_11 : Hid (Own w10.drew shCounter [.slice p4_1 U.length q4_1, .slice p4_2 V.length q4_2] (U, V, ()) (Btw w3.heap.size w4.heap.size)) := SP_10.out.next hb
  have W_11 : Hid (Bx w10.drew w4.heap.size [.slice p4_1 U.length q4_1, .slice p4_2 V.length q4_2]) := W_10.out.next hb
  have P_11 : Hid (Own w10.drew shCounter [.slice p6_1 u.length q6_1, .slice p6_2 d.length q6_2] (u, d, ()) (Btw w5.heap.size w6.heap.size)) := P_10.out.next hb
  have U0_11 : Hid (Bx w10.drew w6.heap.size [.slice p6_1 u.length q6_1, .slice p6_2 d.length q6_2]) := U0_10.out.next hb
  have GP_11 : Hid (Own w10.drew shCounter [.slice p8_1 U.length q8_1, .slice p8_2 V.length q8_2] (U, V, ()) (Btw w7.heap.size w8.heap.size)) := GP_10.out.next hb
  have G_11 : Hid (Bx w10.drew w8.heap.size [.slice p8_1 U.length q8_1, .slice p8_2 V.length q8_2]) := G_10.out.next hb
  clear hb A0_10 SP_10 W_10 P_10 U0_10 GP_10 G_10 HB10
  refine wp_region_noPanic ?_
  refine wp_region_held_drew (S := fun W => Bx W w.heap.size [.slice a0_1 u.length k0_1, .slice a0_2 d.length k0_2] ∧ Bx W w6.heap.size [.slice p6_1 u.length q6_1, .slice p6_2 d.length q6_2]) (by kernel_rfl) ⟨A0_11.out, U0_11.out⟩ (fun hHeld => ?_)
  refine take_v (v := ?_) 0 ⟨some 49, Op.load 25 (Operand.tmp 10), _, _, _, none⟩ rfl (fun _ _ _ h => h) ?_ hHeld ?_
  rotate_left
  · (intro W hSW; (have s0_0 := hSW.1.cell 0 rfl; have s0_1 := hSW.1.cell 1 rfl; have s0z := hSW.1.2; have s1_0 := hSW.2.cell 0 rfl; have s1_1 := hSW.2.cell 1 rfl; have s1z := hSW.2.2); go_simp <;> (try with_reducible rfl))
  refine take_v (v := ?_) 1 ⟨some 50, Op.load 63 (Operand.tmp 3), _, _, _, none⟩ rfl (fun _ _ _ h => h) ?_ hHeld ?_
  rotate_left
  · (intro W hSW; (have s0_0 := hSW.1.cell 0 rfl; have s0_1 := hSW.1.cell 1 rfl; have s0z := hSW.1.2; have s1_0 := hSW.2.cell 0 rfl; have s1_1 := hSW.2.cell 1 rfl; have s1z := hSW.2.2); go_simp <;> (try with_reducible rfl))
  refine ready_call 2 ⟨some 51, Op.call { callee := Callee.value (Operand.func 41), args := #[Operand.tmp 50], argTypes := #[63] }, _, _, _, none⟩ (by kernel_rfl) rfl (by kernel_rfl) (fun KC hK => ?_)
  go_wp2_with fail
  refine (toCounter_n [.slice a0_1 u.length k0_1, .slice a0_2 d.length k0_2] u d _ HS0.out (HL0.out.next HB11.out)).mono ?_
  rintro r w12 ⟨cs9, rfl, ho, hb⟩
  obtain ⟨p12_1, q12_1, _, p12_2, q12_2, _, hev, _⟩ := own_Counter ho
  subst hev
  have HB12 : Hid (Below w.heap.size w w12) := below_next HB11.out hb
  have sz12 : w10.drew.heap.size ≤ w12.heap.size := hb.size
  have A0_12 : Hid (Bx w12 w.heap.size [.slice a0_1 u.length k0_1, .slice a0_2 d.length k0_2]) := A0_11.out.next hb
  have SP_12 : Hid (Own w12 shCounter [.slice p4_1 U.length q4_1, .slice p4_2 V.length q4_2] (U, V, ()) (Btw w3.heap.size w4.heap.size)) := SP_11.out.next hb
  have W_12 : Hid (Bx w12 w4.heap.size [.slice p4_1 U.length q4_1, .slice p4_2 V.length q4_2]) := W_11.out.next hb
  have P_12 : Hid (Own w12 shCounter [.slice p6_1 u.length q6_1, .slice p6_2 d.length q6_2] (u, d, ()) (Btw w5.heap.size w6.heap.size)) := P_11.out.next hb
  have U0_12 : Hid (Bx w12 w6.heap.size [.slice p6_1 u.length q6_1, .slice p6_2 d.length q6_2]) := U0_11.out.next hb
  have GP_12 : Hid (Own w12 shCounter [.slice p8_1 U.length q8_1, .slice p8_2 V.length q8_2] (U, V, ()) (Btw w7.heap.size w8.heap.size)) := GP_11.out.next hb
  have G_12 : Hid (Bx w12 w8.heap.size [.slice p8_1 U.length q8_1, .slice p8_2 V.length q8_2]) := G_11.out.next hb
  have D_12 : Hid (Own w12 shCounter [.slice p12_1 u.length q12_1, .slice p12_2 d.length q12_2] (u, d, ()) (Btw w10.drew.heap.size w12.heap.size)) := ho
  clear hb ho A0_11 SP_11 W_11 P_11 U0_11 GP_11 G_11 HB11
  refine hK.out _ _ ⟨A0_12.out, U0_12.out⟩ (fun hHeld => ?_)
  clear hK KC
  refine ready_call 3 ⟨some 52, Op.call { callee := Callee.value (Operand.func 43), args := #[Operand.tmp 49, Operand.tmp 51], argTypes := #[25, 25] }, _, _, _, none⟩ (by kernel_rfl) rfl (by kernel_rfl) (fun KC hK => ?_)
  go_wp2_with fail
  refine (eqCounter_n [.slice p6_1 u.length q6_1, .slice p6_2 d.length q6_2] [.slice p12_1 u.length q12_1, .slice p12_2 d.length q12_2] u d _ HS0.out P_12.out.lies D_12.out.lies).mono ?_
  rintro r w13 ⟨rfl, hb⟩
  have HB13 : Hid (Below w.heap.size w w13) := below_next HB12.out hb
  have sz13 : w12.heap.size ≤ w13.heap.size := hb.size
  have A0_13 : Hid (Bx w13 w.heap.size [.slice a0_1 u.length k0_1, .slice a0_2 d.length k0_2]) := A0_12.out.next hb
  have SP_13 : Hid (Own w13 shCounter [.slice p4_1 U.length q4_1, .slice p4_2 V.length q4_2] (U, V, ()) (Btw w3.heap.size w4.heap.size)) := SP_12.out.next hb
  have W_13 : Hid (Bx w13 w4.heap.size [.slice p4_1 U.length q4_1, .slice p4_2 V.length q4_2]) := W_12.out.next hb
  have P_13 : Hid (Own w13 shCounter [.slice p6_1 u.length q6_1, .slice p6_2 d.length q6_2] (u, d, ()) (Btw w5.heap.size w6.heap.size)) := P_12.out.next hb
  have U0_13 : Hid (Bx w13 w6.heap.size [.slice p6_1 u.length q6_1, .slice p6_2 d.length q6_2]) := U0_12.out.next hb
  have GP_13 : Hid (Own w13 shCounter [.slice p8_1 U.length q8_1, .slice p8_2 V.length q8_2] (U, V, ()) (Btw w7.heap.size w8.heap.size)) := GP_12.out.next hb
  have G_13 : Hid (Bx w13 w8.heap.size [.slice p8_1 U.length q8_1, .slice p8_2 V.length q8_2]) := G_12.out.next hb
  have D_13 : Hid (Own w13 shCounter [.slice p12_1 u.length q12_1, .slice p12_2 d.length q12_2] (u, d, ()) (Btw w10.drew.heap.size w12.heap.size)) := D_12.out.next hb
  clear hb A0_12 SP_12 W_12 P_12 U0_12 GP_12 G_12 D_12 HB12
  refine hK.out _ _ ⟨A0_13.out, U0_13.out⟩ (fun hHeld => ?_)
  clear hK KC
  refine take_v (v := ?_) 4 ⟨some 53, Op.unOp UnOp.not 4 (Operand.tmp 52), _, _, _, none⟩ rfl (fun _ _ _ h => h) ?_ hHeld ?_
  rotate_left
  · (intro W _; go_simp <;> (try with_reducible rfl))
  refine wpAnyH_done (by kernel_rfl) ?_ _
  refine NoPanic.normal ?_
  clear D_13
  have cU00 := U0_13.out.cell 0 rfl
  have cU01 := U0_13.out.cell 1 rfl
  have zU0 := U0_13.out.2
  go_wp2_with fail
  refine ((show Calls _ _ _ _ (MkP shCounter [.slice p6_1 u.length q6_1, .slice p6_2 d.length q6_2] (mkT shCounter (u, d, ()) 1) (1 + (cx : Int)) (Btw w5.heap.size w6.heap.size) _) from HCX.out ▸ markCounter_n [.slice p6_1 u.length q6_1, .slice p6_2 d.length q6_2] u d 1 (Btw w5.heap.size w6.heap.size) _ (by decide) (by have h1 := HCX.out; rw [← h1]; omega) HS0.out (fun k hk => by have := hk.2; omega) P_13.out)).mono ?_
  rintro r w14 ⟨rfl, ho, ht⟩
  have HB14 : Hid (Below w.heap.size w w14) := Hid.intro (HB13.out.trans (ht.below (fun k hk => by simp only [Btw] at hk; omega) HB13.out.size))
  have sz14 : w13.heap.size ≤ w14.heap.size := ht.size
  have A0_14 : Hid (Bx w14 w.heap.size [.slice a0_1 u.length k0_1, .slice a0_2 d.length k0_2]) := A0_13.out.turnS ht (by simp only [Btw]; omega)
  have SP_14 : Hid (Own w14 shCounter [.slice p4_1 U.length q4_1, .slice p4_2 V.length q4_2] (U, V, ()) (Btw w3.heap.size w4.heap.size)) := SP_13.out.turn ht (fun k e f => by simp only [Btw] at e f; omega)
  have W_14 : Hid (Bx w14 w4.heap.size [.slice p4_1 U.length q4_1, .slice p4_2 V.length q4_2]) := W_13.out.turnS ht (by simp only [Btw]; omega)
  have P_14 : Hid (Own w14 shCounter [.slice p6_1 u.length q6_1, .slice p6_2 d.length q6_2] (mkT shCounter (u, d, ()) 1) (Btw w5.heap.size w6.heap.size)) := ho
  have U0_14 : Hid (Bx w14 w6.heap.size [.slice p6_1 u.length q6_1, .slice p6_2 d.length q6_2]) := U0_13.out.turnS ht (by simp only [Btw]; omega)
  have GP_14 : Hid (Own w14 shCounter [.slice p8_1 U.length q8_1, .slice p8_2 V.length q8_2] (U, V, ()) (Btw w7.heap.size w8.heap.size)) := GP_13.out.turn ht (fun k e f => by simp only [Btw] at e f; omega)
  have G_14 : Hid (Bx w14 w8.heap.size [.slice p8_1 U.length q8_1, .slice p8_2 V.length q8_2]) := G_13.out.turnS ht (by simp only [Btw]; omega)
  clear ht ho cU00 cU01 zU0 A0_13 SP_13 W_13 P_13 U0_13 GP_13 G_13 HB13
  clear P_14
  clear U0_14
  have cW0 := W_14.out.cell 0 rfl
  have cW1 := W_14.out.cell 1 rfl
  have zW := W_14.out.2
  have cG0 := G_14.out.cell 0 rfl
  have cG1 := G_14.out.cell 1 rfl
  have zG := G_14.out.2
  go_wp2_with fail
  refine (eqCounter_n [.slice p8_1 U.length q8_1, .slice p8_2 V.length q8_2] [.slice p4_1 U.length q4_1, .slice p4_2 V.length q4_2] U V _ HT.out GP_14.out.lies SP_14.out.lies).mono ?_
  rintro r w15 ⟨rfl, hb⟩
  have HB15 : Hid (Below w.heap.size w w15) := below_next HB14.out hb
  have sz15 : w14.heap.size ≤ w15.heap.size := hb.size
  have A0_15 : Hid (Bx w15 w.heap.size [.slice a0_1 u.length k0_1, .slice a0_2 d.length k0_2]) := A0_14.out.next hb
  have SP_15 : Hid (Own w15 shCounter [.slice p4_1 U.length q4_1, .slice p4_2 V.length q4_2] (U, V, ()) (Btw w3.heap.size w4.heap.size)) := SP_14.out.next hb
  have W_15 : Hid (Bx w15 w4.heap.size [.slice p4_1 U.length q4_1, .slice p4_2 V.length q4_2]) := W_14.out.next hb
  have GP_15 : Hid (Own w15 shCounter [.slice p8_1 U.length q8_1, .slice p8_2 V.length q8_2] (U, V, ()) (Btw w7.heap.size w8.heap.size)) := GP_14.out.next hb
  have G_15 : Hid (Bx w15 w8.heap.size [.slice p8_1 U.length q8_1, .slice p8_2 V.length q8_2]) := G_14.out.next hb
  clear hb cW0 cW1 zW cG0 cG1 zG A0_14 SP_14 W_14 GP_14 G_14 HB14
  have cG0 := G_15.out.cell 0 rfl
  have cG1 := G_15.out.cell 1 rfl
  have zG := G_15.out.2
  go_wp2_with fail
  refine ((show Calls _ _ _ _ (MkP shCounter [.slice p8_1 U.length q8_1, .slice p8_2 V.length q8_2] (mkT shCounter (U, V, ()) 1) (1 + (cn : Int)) (Btw w7.heap.size w8.heap.size) _) from HCN.out ▸ markCounter_n [.slice p8_1 U.length q8_1, .slice p8_2 V.length q8_2] U V 1 (Btw w7.heap.size w8.heap.size) _ (by decide) (by have h1 := HCN.out; rw [← h1]; omega) HT.out (fun k hk => by have := hk.2; omega) GP_15.out)).mono ?_
  rintro r w16 ⟨rfl, ho, ht⟩
  have HB16 : Hid (Below w.heap.size w w16) := Hid.intro (HB15.out.trans (ht.below (fun k hk => by simp only [Btw] at hk; omega) HB15.out.size))
  have sz16 : w15.heap.size ≤ w16.heap.size := ht.size
  have A0_16 : Hid (Bx w16 w.heap.size [.slice a0_1 u.length k0_1, .slice a0_2 d.length k0_2]) := A0_15.out.turnS ht (by simp only [Btw]; omega)
  have SP_16 : Hid (Own w16 shCounter [.slice p4_1 U.length q4_1, .slice p4_2 V.length q4_2] (U, V, ()) (Btw w3.heap.size w4.heap.size)) := SP_15.out.turn ht (fun k e f => by simp only [Btw] at e f; omega)
  have W_16 : Hid (Bx w16 w4.heap.size [.slice p4_1 U.length q4_1, .slice p4_2 V.length q4_2]) := W_15.out.turnS ht (by simp only [Btw]; omega)
  have GP_16 : Hid (Own w16 shCounter [.slice p8_1 U.length q8_1, .slice p8_2 V.length q8_2] (mkT shCounter (U, V, ()) 1) (Btw w7.heap.size w8.heap.size)) := ho
  have G_16 : Hid (Bx w16 w8.heap.size [.slice p8_1 U.length q8_1, .slice p8_2 V.length q8_2]) := G_15.out.turnS ht (by simp only [Btw]; omega)
  clear ht ho cG0 cG1 zG A0_15 SP_15 W_15 GP_15 G_15 HB15
  have cG0 := G_16.out.cell 0 rfl
  have cG1 := G_16.out.cell 1 rfl
  have zG := G_16.out.2
  go_wp2_with fail
  refine ((show Calls _ _ _ _ (fun r w' => r = .returned (.int .i64 (1 + (cn : Int))) ∧ Below _ _ w') from HCN.out ▸ heldCounter_n [.slice p8_1 U.length q8_1, .slice p8_2 V.length q8_2] U V 1 _ (by decide) (by have h1 := HCN.out; rw [← h1]; omega) HT.out GP_16.out.lies)).mono ?_
  rintro r w17 ⟨rfl, hb⟩
  have HB17 : Hid (Below w.heap.size w w17) := below_next HB16.out hb
  have sz17 : w16.heap.size ≤ w17.heap.size := hb.size
  have A0_17 : Hid (Bx w17 w.heap.size [.slice a0_1 u.length k0_1, .slice a0_2 d.length k0_2]) := A0_16.out.next hb
  have SP_17 : Hid (Own w17 shCounter [.slice p4_1 U.length q4_1, .slice p4_2 V.length q4_2] (U, V, ()) (Btw w3.heap.size w4.heap.size)) := SP_16.out.next hb
  have W_17 : Hid (Bx w17 w4.heap.size [.slice p4_1 U.length q4_1, .slice p4_2 V.length q4_2]) := W_16.out.next hb
  have GP_17 : Hid (Own w17 shCounter [.slice p8_1 U.length q8_1, .slice p8_2 V.length q8_2] (mkT shCounter (U, V, ()) 1) (Btw w7.heap.size w8.heap.size)) := GP_16.out.next hb
  have G_17 : Hid (Bx w17 w8.heap.size [.slice p8_1 U.length q8_1, .slice p8_2 V.length q8_2]) := G_16.out.next hb
  clear hb cG0 cG1 zG A0_16 SP_16 W_16 GP_16 G_16 HB16
  have cA00 := A0_17.out.cell 0 rfl
  have cA01 := A0_17.out.cell 1 rfl
  have zA0 := A0_17.out.2
  go_wp2_with fail
  refine (toCounter_n [.slice a0_1 u.length k0_1, .slice a0_2 d.length k0_2] u d _ HS0.out (HL0.out.next HB17.out)).mono ?_
  rintro r w18 ⟨cs9, rfl, ho, hb⟩
  obtain ⟨p18_1, q18_1, _, p18_2, q18_2, _, hev, _⟩ := own_Counter ho
  subst hev
  have HB18 : Hid (Below w.heap.size w w18) := below_next HB17.out hb
  have sz18 : w17.heap.size ≤ w18.heap.size := hb.size
  have A0_18 : Hid (Bx w18 w.heap.size [.slice a0_1 u.length k0_1, .slice a0_2 d.length k0_2]) := A0_17.out.next hb
  have SP_18 : Hid (Own w18 shCounter [.slice p4_1 U.length q4_1, .slice p4_2 V.length q4_2] (U, V, ()) (Btw w3.heap.size w4.heap.size)) := SP_17.out.next hb
  have W_18 : Hid (Bx w18 w4.heap.size [.slice p4_1 U.length q4_1, .slice p4_2 V.length q4_2]) := W_17.out.next hb
  have GP_18 : Hid (Own w18 shCounter [.slice p8_1 U.length q8_1, .slice p8_2 V.length q8_2] (mkT shCounter (U, V, ()) 1) (Btw w7.heap.size w8.heap.size)) := GP_17.out.next hb
  have G_18 : Hid (Bx w18 w8.heap.size [.slice p8_1 U.length q8_1, .slice p8_2 V.length q8_2]) := G_17.out.next hb
  have D_18 : Hid (Own w18 shCounter [.slice p18_1 u.length q18_1, .slice p18_2 d.length q18_2] (u, d, ()) (Btw w17.heap.size w18.heap.size)) := ho
  clear hb ho cA00 cA01 zA0 A0_17 SP_17 W_17 GP_17 G_17 HB17
  go_wp2_with fail
  refine (countBy_l [.slice p18_1 u.length q18_1, .slice p18_2 d.length q18_2] u d sa sb _ U V z HA.out HS0.out D_18.out.lies).mono ?_
  rintro r w19 ⟨cs9, rfl, ho, hb⟩
  obtain ⟨p19_1, q19_1, _, p19_2, q19_2, _, hev, _⟩ := own_Counter ho
  subst hev
  have HB19 : Hid (Below w.heap.size w w19) := below_next HB18.out hb
  have sz19 : w18.heap.size ≤ w19.heap.size := hb.size
  have A0_19 : Hid (Bx w19 w.heap.size [.slice a0_1 u.length k0_1, .slice a0_2 d.length k0_2]) := A0_18.out.next hb
  have SP_19 : Hid (Own w19 shCounter [.slice p4_1 U.length q4_1, .slice p4_2 V.length q4_2] (U, V, ()) (Btw w3.heap.size w4.heap.size)) := SP_18.out.next hb
  have W_19 : Hid (Bx w19 w4.heap.size [.slice p4_1 U.length q4_1, .slice p4_2 V.length q4_2]) := W_18.out.next hb
  have GP_19 : Hid (Own w19 shCounter [.slice p8_1 U.length q8_1, .slice p8_2 V.length q8_2] (mkT shCounter (U, V, ()) 1) (Btw w7.heap.size w8.heap.size)) := GP_18.out.next hb
  have G_19 : Hid (Bx w19 w8.heap.size [.slice p8_1 U.length q8_1, .slice p8_2 V.length q8_2]) := G_18.out.next hb
  have D_19 : Hid (Own w19 shCounter [.slice p18_1 u.length q18_1, .slice p18_2 d.length q18_2] (u, d, ()) (Btw w17.heap.size w18.heap.size)) := D_18.out.next hb
  have HP_19 : Hid (Own w19 shCounter [.slice p19_1 U.length q19_1, .slice p19_2 V.length q19_2] (U, V, ()) (Btw w18.heap.size w19.heap.size)) := ho
  clear hb ho A0_18 SP_18 W_18 GP_18 G_18 D_18 HB18
  clear D_19
  have cW0 := W_19.out.cell 0 rfl
  have cW1 := W_19.out.cell 1 rfl
  have zW := W_19.out.2
  go_wp2_with fail
  obtain ⟨w20, hw20⟩ : ∃ x, x = w19.alloc (.cells #[.slice p19_1 U.length q19_1, .slice p19_2 V.length q19_2] 25) := ⟨_, rfl⟩
  have hb : Below w19.heap.size w19 w20 := hw20 ▸ Go.Joins.below_alloc1 _ _
  have HB20 : Hid (Below w.heap.size w w20) := below_next HB19.out hb
  have sz20 : w19.heap.size < w20.heap.size := by rw [hw20]; simp
  have A0_20 : Hid (Bx w20 w.heap.size [.slice a0_1 u.length k0_1, .slice a0_2 d.length k0_2]) := A0_19.out.next hb
  have SP_20 : Hid (Own w20 shCounter [.slice p4_1 U.length q4_1, .slice p4_2 V.length q4_2] (U, V, ()) (Btw w3.heap.size w4.heap.size)) := SP_19.out.next hb
  have W_20 : Hid (Bx w20 w4.heap.size [.slice p4_1 U.length q4_1, .slice p4_2 V.length q4_2]) := W_19.out.next hb
  have GP_20 : Hid (Own w20 shCounter [.slice p8_1 U.length q8_1, .slice p8_2 V.length q8_2] (mkT shCounter (U, V, ()) 1) (Btw w7.heap.size w8.heap.size)) := GP_19.out.next hb
  have G_20 : Hid (Bx w20 w8.heap.size [.slice p8_1 U.length q8_1, .slice p8_2 V.length q8_2]) := G_19.out.next hb
  have HP_20 : Hid (Own w20 shCounter [.slice p19_1 U.length q19_1, .slice p19_2 V.length q19_2] (U, V, ()) (Btw w18.heap.size w19.heap.size)) := HP_19.out.next hb
  have H_20 : Hid (Bx w20 w19.heap.size [.slice p19_1 U.length q19_1, .slice p19_2 V.length q19_2]) := hw20 ▸ Bx.new w19 [.slice p19_1 U.length q19_1, .slice p19_2 V.length q19_2] _
  rw [← hw20]
  clear hb hw20 cW0 cW1 zW A0_19 SP_19 W_19 GP_19 G_19 HP_19 HB19
  refine (eqCounter_n [.slice p19_1 U.length q19_1, .slice p19_2 V.length q19_2] [.slice p4_1 U.length q4_1, .slice p4_2 V.length q4_2] U V _ HT.out HP_20.out.lies SP_20.out.lies).mono ?_
  rintro r w21 ⟨rfl, hb⟩
  have HB21 : Hid (Below w.heap.size w w21) := below_next HB20.out hb
  have sz21 : w20.heap.size ≤ w21.heap.size := hb.size
  have A0_21 : Hid (Bx w21 w.heap.size [.slice a0_1 u.length k0_1, .slice a0_2 d.length k0_2]) := A0_20.out.next hb
  have SP_21 : Hid (Own w21 shCounter [.slice p4_1 U.length q4_1, .slice p4_2 V.length q4_2] (U, V, ()) (Btw w3.heap.size w4.heap.size)) := SP_20.out.next hb
  have W_21 : Hid (Bx w21 w4.heap.size [.slice p4_1 U.length q4_1, .slice p4_2 V.length q4_2]) := W_20.out.next hb
  have GP_21 : Hid (Own w21 shCounter [.slice p8_1 U.length q8_1, .slice p8_2 V.length q8_2] (mkT shCounter (U, V, ()) 1) (Btw w7.heap.size w8.heap.size)) := GP_20.out.next hb
  have G_21 : Hid (Bx w21 w8.heap.size [.slice p8_1 U.length q8_1, .slice p8_2 V.length q8_2]) := G_20.out.next hb
  have HP_21 : Hid (Own w21 shCounter [.slice p19_1 U.length q19_1, .slice p19_2 V.length q19_2] (U, V, ()) (Btw w18.heap.size w19.heap.size)) := HP_20.out.next hb
  have H_21 : Hid (Bx w21 w19.heap.size [.slice p19_1 U.length q19_1, .slice p19_2 V.length q19_2]) := H_20.out.next hb
  clear hb A0_20 SP_20 W_20 GP_20 G_20 HP_20 H_20 HB20
  have cG0 := G_21.out.cell 0 rfl
  have cG1 := G_21.out.cell 1 rfl
  have zG := G_21.out.2
  go_wp2_with fail
  refine ((show Calls _ _ _ _ (fun r w' => r = .returned (.int .i64 (1 + (cn : Int))) ∧ Below _ _ w') from HCN.out ▸ heldCounter_n [.slice p8_1 U.length q8_1, .slice p8_2 V.length q8_2] U V 1 _ (by decide) (by have h1 := HCN.out; rw [← h1]; omega) HT.out GP_21.out.lies)).mono ?_
  rintro r w22 ⟨rfl, hb⟩
  have HB22 : Hid (Below w.heap.size w w22) := below_next HB21.out hb
  have sz22 : w21.heap.size ≤ w22.heap.size := hb.size
  have A0_22 : Hid (Bx w22 w.heap.size [.slice a0_1 u.length k0_1, .slice a0_2 d.length k0_2]) := A0_21.out.next hb
  have SP_22 : Hid (Own w22 shCounter [.slice p4_1 U.length q4_1, .slice p4_2 V.length q4_2] (U, V, ()) (Btw w3.heap.size w4.heap.size)) := SP_21.out.next hb
  have W_22 : Hid (Bx w22 w4.heap.size [.slice p4_1 U.length q4_1, .slice p4_2 V.length q4_2]) := W_21.out.next hb
  have GP_22 : Hid (Own w22 shCounter [.slice p8_1 U.length q8_1, .slice p8_2 V.length q8_2] (mkT shCounter (U, V, ()) 1) (Btw w7.heap.size w8.heap.size)) := GP_21.out.next hb
  have G_22 : Hid (Bx w22 w8.heap.size [.slice p8_1 U.length q8_1, .slice p8_2 V.length q8_2]) := G_21.out.next hb
  have HP_22 : Hid (Own w22 shCounter [.slice p19_1 U.length q19_1, .slice p19_2 V.length q19_2] (U, V, ()) (Btw w18.heap.size w19.heap.size)) := HP_21.out.next hb
  have H_22 : Hid (Bx w22 w19.heap.size [.slice p19_1 U.length q19_1, .slice p19_2 V.length q19_2]) := H_21.out.next hb
  clear hb cG0 cG1 zG A0_21 SP_21 W_21 GP_21 G_21 HP_21 H_21 HB21
  have HE := HB22
  go_wp2
  go_ret
  exact ⟨rfl, HE.out⟩


theorem own : ownKnob Try.prog.godebug = none := by kernel_rfl
theorem laidOut : laidOutB Try.prog = true := by kernel_rfl

set_option maxRecDepth 100000 in
theorem lifted (os : Os) (started : os.Started) (H : Type) (enc : TypeId × Value → H) :
    ReturnsInHanded {} Try.checked os 8 .any (Rows.fnExactCountBySpec.pre6 enc Try.prog Try.f8 Rows.fnExactCountByRow.domain false) (Rows.fnExactCountBySpec.post enc Try.prog Try.f8 false true false false) := by
  refine returnsInHanded_of_change (C := Try.checked) own started (by kernel_rfl) Try.func8
    (ChangeSpec.witness6 (enc := enc) (C := Try.checked) false ⟨#[], #[.agg #[.slice none 0 0, .slice none 0 0], .int .i64 0, .int .i64 0], []⟩ 8 (by kernel_rfl) (by kernel_rfl) (by kernel_rfl) (by kernel_rfl)) ?_
  intro W base args ds gs before hval0 hW hcnd _
  have hval : ∀ (j : Nat) t v, Try.f8.params[j]? = some t → args[j]? = some v → Value.okWide Try.prog W .any base t v := hval0
  have hW' := hW
  obtain ⟨p, q, hA0, hV, rfl, hfz, hnd⟩ := hW
  have hA : DataW.TrodAll enc Try.prog W 0 (fun _ => true) true Try.f8.params.toList args.toList ds p := hA0
  rw [Try.params8] at hA hval
  obtain ⟨v0, vs0, d0, ds0, p0, q0, hargs, rfl, rfl, h0, r0⟩ := trodAll_cons hA
  obtain ⟨v1, vs1, d1, ds1, p1, q1, rfl, rfl, rfl, h1, r1⟩ := trodAll_cons r0
  obtain ⟨v2, vs2, d2, ds2, p2, q2, rfl, rfl, rfl, h2, r2⟩ := trodAll_cons r1
  obtain ⟨rfl, rfl, rfl⟩ := trodAll_nil r2
  obtain rfl : args = #[v0, v1, v2] := by cases args; simp_all
  obtain ⟨rfl, rfl⟩ := trodVars_none hV
  have k0 := h0
  have lt0 : ∀ x ∈ p0, x.block < W.heap.size := by obtain ⟨m, hm⟩ := k0; exact DataW.trod_lt m _ _ _ hm
  obtain ⟨cs0, X0, rfl, li0, fi0⟩ := open_Counter_n (hval 0 63 v0 rfl rfl) h0
  have k1 := h1
  have lt1 : ∀ x ∈ p1, x.block < W.heap.size := by obtain ⟨m, hm⟩ := k1; exact DataW.trod_lt m _ _ _ hm
  obtain ⟨a1, rfl, rfl, rfl, w1⟩ := open_int Try.underlying3 (hval 1 3 v1 rfl rfl) h1
  have k2 := h2
  have lt2 : ∀ x ∈ p2, x.block < W.heap.size := by obtain ⟨m, hm⟩ := k2; exact DataW.trod_lt m _ _ _ hm
  obtain ⟨a2, rfl, rfl, rfl, w2⟩ := open_int Try.underlying3 (hval 2 3 v2 rfl rfl) h2
  clear hA0 hval0
  refine (walk (w := W) cs0 X0 li0 fi0 a1 w1 a2 w2).mono fun e W' ⟨he, bel⟩ => ?_
  subst he
  exact ⟨_, rfl, _, _, _, [], _, [], hW', trodAll_mk1 (shut_bool Try.underlying4 _), (trodAll_cons_mk (Below.trod laidOut (by kernel_rfl) (of_decide_eq_true (by kernel_rfl)) k0 bel lt0) (trodAll_cons_mk (Below.trod laidOut (by kernel_rfl) (of_decide_eq_true (by kernel_rfl)) k1 bel lt1) (trodAll_cons_mk (Below.trod laidOut (by kernel_rfl) (of_decide_eq_true (by kernel_rfl)) k2 bel lt2) trodAll_mk0))), rfl, bel.frame _, fun h => by cases h⟩

set_option maxHeartbeats 40000000 in
theorem closed : joinedFacts Try.pinned.checked.prog 8 Try.f8 Rows.fnExactCountBySpec Rows.fnExactCountByRow = true := by
  unfold joinedFacts
  repeat' (first | (with_reducible refine both ?_ ?_) | (with_reducible exact may_enter') | (with_reducible refine lifts_eq ?_) | (with_reducible refine make_eq ?_) | as_aux_lemma => kernel_rfl)
theorem named : Try.pinned.checked.prog.funcNamed Rows.fnExactCountByRow.func = some 8 := by kernel_rfl
theorem over : Rows.fnExactCountByRow.holds Try.pinned (OpenSpec.ofChange Rows.fnExactCountBySpec) :=
  OpenClaim.holds_of_wide 8 Try.f8 rfl rfl rfl rfl rfl rfl rfl ⟨rfl, rfl, rfl, rfl, rfl⟩ rfl rfl rfl rfl rfl named Try.func8 closed
    (of_decide_eq_true (by as_aux_lemma => kernel_rfl)) (by unfold Func.isWrapper; first | (rw [if_pos (by decide +kernel)]; kernel_rfl) | (rw [if_neg (by decide +kernel)]; exact ⟨rfl, rfl⟩))
    (fun os started H enc _ => lifted os started H enc)

end Go.Proofs.Ytnglgndocmkbfaa.xCountBy
namespace Go.Proofs.Ytnglgndocmkbfaa
theorem xCountBy_holds : Rows.FnExactCountBySaid := xCountBy.over
#print axioms xCountBy_holds
end Go.Proofs.Ytnglgndocmkbfaa
