/- At every argument impl.NewestOf answers as the specification does, field by field, writes into no argument, its answer owns its memory, and each argument reads behind the call as it read before. No condition. -/
import Derived.Test.YtjebnhbadbhaaaaRgM
import Derived.Test.YtjebnhbadbhaaaaNtZ
import Derived.Test.YtjebnhbadbhaaaaNtT
import Derived.Test.YtjebnhbadbhaaaaNtE
import Derived.Test.YtjebnhbadbhaaaaNtO
import Derived.Test.YtjebnhbadbhaaaaWords
import Derived.ProofKit
import Derived.OpenShut
import Derived.ShutString
import Derived.ChangeOld
import Derived.Below
import Derived.Lib.SmallJoins
namespace Go.Proofs.Ytjebnhbadbhaaaa.xNewestOf
open Go.ChangeShapes Go.WideShapes Go.ChangeAt Go.RowKit
open Go.ChangeMaps (open_string shut_string)
set_option linter.unusedVariables false

set_option maxRecDepth 100000 in
set_option maxHeartbeats 4000000 in
theorem walk (w : World) (cs0 : List Value) (X0 : Sh.T shRegister) (li0 : Lies w shRegister cs0 X0) (fi0 : Fits shRegister X0) :
    Calls Try.prog 10 #[.agg cs0.toArray] w fun r w' => r = .returned (.bool true) ∧ Below w.heap.size w w' := by
  obtain ⟨ck, cp, os, ⟨⟩⟩ := X0
  obtain ⟨a0_1, k0_1, a0_2, k0_2, rfl, l0_1, l0_2⟩ := lies_Register li0
  have HL0 : Hid (Lies w shRegister [.int .i64 ck, .slice a0_1 cp.length k0_1, .slice a0_2 os.length k0_2] (ck, cp, os, ())) := li0
  have HF0 : Hid (Fits shRegister (ck, cp, os, ())) := fi0
  clear li0 fi0 l0_1 l0_2
  obtain ⟨m, j, t, hA⟩ : ∃ m j t, nwA ck cp os = (m, j, t, ()) := ⟨_, _, _, rfl⟩
  have HA : Hid (nwA ck cp os = (m, j, t, ())) := hA
  clear hA
  go_enter Try.func10, Try.ntmps10
  go_wp2_with fail
  obtain ⟨w1, hw1⟩ : ∃ x, x = w.alloc (.cells #[.int .i64 ck, .slice a0_1 cp.length k0_1, .slice a0_2 os.length k0_2] 62) := ⟨_, rfl⟩
  have hb : Below w.heap.size w w1 := hw1 ▸ Go.Joins.below_alloc1 _ _
  have HB1 : Hid (Below w.heap.size w w1) := below_next (Below.refl _ _) hb
  have sz1 : w.heap.size < w1.heap.size := by rw [hw1]; simp
  have A0_1 : Hid (Bx w1 w.heap.size [.int .i64 ck, .slice a0_1 cp.length k0_1, .slice a0_2 os.length k0_2]) := hw1 ▸ Bx.new w [.int .i64 ck, .slice a0_1 cp.length k0_1, .slice a0_2 os.length k0_2] _
  rw [← hw1]
  clear hb hw1 
  refine (szRegister_n [.int .i64 ck, .slice a0_1 cp.length k0_1, .slice a0_2 os.length k0_2] ck cp os _ _ (by omega) (by omega) HF0.out (HL0.out.next HB1.out)).mono ?_
  rintro r w2 ⟨⟨y0, rfl, hy0⟩, hb⟩
  have HB2 : Hid (Below w.heap.size w w2) := below_next HB1.out hb
  have sz2 : w1.heap.size ≤ w2.heap.size := hb.size
  have A0_2 : Hid (Bx w2 w.heap.size [.int .i64 ck, .slice a0_1 cp.length k0_1, .slice a0_2 os.length k0_2]) := A0_1.out.next hb
  clear hb A0_1 HB1
  by_cases ng0 : y0 < 0
  · clear hy0
    go_wp2
    go_ret
    exact ⟨rfl, HB2.out⟩
  have HS0 : Hid (szD shRegister (ck, cp, os, ()) ≤ 1073741824) := Hid.intro (by rcases hy0 with e | e <;> omega)
  have hb0 : 0 ≤ y0 ∧ y0 ≤ 1048576 := by rcases hy0 with e | e <;> omega
  clear hy0
  have HT : Hid (szD shCopy (m, j, t, ()) ≤ 1073741824) := Hid.intro (by have h1 := nwA_size (ck := ck) (cp := cp) (os := os) HS0.out; rw [HA.out] at h1; have h2 : szD shCopy (m, j, t, ()) = 0 + (0 + (t.size + 0)) := rfl; have h3 : t.size ≤ 1073741824 := h1; omega)
  have cA00 := A0_2.out.cell 0 rfl
  have cA01 := A0_2.out.cell 1 rfl
  have cA02 := A0_2.out.cell 2 rfl
  have zA0 := A0_2.out.2
  go_wp2_with fail
  refine (toRegister_n [.int .i64 ck, .slice a0_1 cp.length k0_1, .slice a0_2 os.length k0_2] ck cp os _ HS0.out (HL0.out.next HB2.out)).mono ?_
  rintro r w3 ⟨cs9, rfl, ho, hb⟩
  obtain ⟨p3_1, q3_1, _, p3_2, q3_2, _, hev, _⟩ := own_Register ho
  subst hev
  have HB3 : Hid (Below w.heap.size w w3) := below_next HB2.out hb
  have sz3 : w2.heap.size ≤ w3.heap.size := hb.size
  have A0_3 : Hid (Bx w3 w.heap.size [.int .i64 ck, .slice a0_1 cp.length k0_1, .slice a0_2 os.length k0_2]) := A0_2.out.next hb
  have D_3 : Hid (Own w3 shRegister [.int .i64 ck, .slice p3_1 cp.length q3_1, .slice p3_2 os.length q3_2] (ck, cp, os, ()) (Btw w2.heap.size w3.heap.size)) := ho
  clear hb ho cA00 cA01 cA02 zA0 A0_2 HB2
  go_wp2_with fail
  refine (specNewestOf_l [.int .i64 ck, .slice p3_1 cp.length q3_1, .slice p3_2 os.length q3_2] ck cp os _ m j t HA.out HS0.out D_3.out.lies).mono ?_
  rintro r w4 ⟨rfl, hb⟩
  have HB4 : Hid (Below w.heap.size w w4) := below_next HB3.out hb
  have sz4 : w3.heap.size ≤ w4.heap.size := hb.size
  have A0_4 : Hid (Bx w4 w.heap.size [.int .i64 ck, .slice a0_1 cp.length k0_1, .slice a0_2 os.length k0_2]) := A0_3.out.next hb
  have D_4 : Hid (Own w4 shRegister [.int .i64 ck, .slice p3_1 cp.length q3_1, .slice p3_2 os.length q3_2] (ck, cp, os, ()) (Btw w2.heap.size w3.heap.size)) := D_3.out.next hb
  clear hb A0_3 D_3 HB3
  clear D_4
  have cA00 := A0_4.out.cell 0 rfl
  have cA01 := A0_4.out.cell 1 rfl
  have cA02 := A0_4.out.cell 2 rfl
  have zA0 := A0_4.out.2
  go_wp2_with fail
  obtain ⟨w5, hw5⟩ : ∃ x, x = w4.alloc (.cells #[.int .i64 m, .int .i64 j, .string t] 48) := ⟨_, rfl⟩
  have hb : Below w4.heap.size w4 w5 := hw5 ▸ Go.Joins.below_alloc1 _ _
  have HB5 : Hid (Below w.heap.size w w5) := below_next HB4.out hb
  have sz5 : w4.heap.size < w5.heap.size := by rw [hw5]; simp
  have A0_5 : Hid (Bx w5 w.heap.size [.int .i64 ck, .slice a0_1 cp.length k0_1, .slice a0_2 os.length k0_2]) := A0_4.out.next hb
  have W_5 : Hid (Bx w5 w4.heap.size [.int .i64 m, .int .i64 j, .string t]) := hw5 ▸ Bx.new w4 [.int .i64 m, .int .i64 j, .string t] _
  rw [← hw5]
  clear hb hw5 cA00 cA01 cA02 zA0 A0_4 HB4
  refine (toRegister_n [.int .i64 ck, .slice a0_1 cp.length k0_1, .slice a0_2 os.length k0_2] ck cp os _ HS0.out (HL0.out.next HB5.out)).mono ?_
  rintro r w6 ⟨cs9, rfl, ho, hb⟩
  obtain ⟨p6_1, q6_1, _, p6_2, q6_2, _, hev, _⟩ := own_Register ho
  subst hev
  have HB6 : Hid (Below w.heap.size w w6) := below_next HB5.out hb
  have sz6 : w5.heap.size ≤ w6.heap.size := hb.size
  have A0_6 : Hid (Bx w6 w.heap.size [.int .i64 ck, .slice a0_1 cp.length k0_1, .slice a0_2 os.length k0_2]) := A0_5.out.next hb
  have W_6 : Hid (Bx w6 w4.heap.size [.int .i64 m, .int .i64 j, .string t]) := W_5.out.next hb
  have P_6 : Hid (Own w6 shRegister [.int .i64 ck, .slice p6_1 cp.length q6_1, .slice p6_2 os.length q6_2] (ck, cp, os, ()) (Btw w5.heap.size w6.heap.size)) := ho
  clear hb ho A0_5 W_5 HB5
  go_wp2_with fail
  obtain ⟨w7, hw7⟩ : ∃ x, x = w6.alloc (.cells #[.int .i64 ck, .slice p6_1 cp.length q6_1, .slice p6_2 os.length q6_2] 29) := ⟨_, rfl⟩
  have hb : Below w6.heap.size w6 w7 := hw7 ▸ Go.Joins.below_alloc1 _ _
  have HB7 : Hid (Below w.heap.size w w7) := below_next HB6.out hb
  have sz7 : w6.heap.size < w7.heap.size := by rw [hw7]; simp
  have A0_7 : Hid (Bx w7 w.heap.size [.int .i64 ck, .slice a0_1 cp.length k0_1, .slice a0_2 os.length k0_2]) := A0_6.out.next hb
  have W_7 : Hid (Bx w7 w4.heap.size [.int .i64 m, .int .i64 j, .string t]) := W_6.out.next hb
  have P_7 : Hid (Own w7 shRegister [.int .i64 ck, .slice p6_1 cp.length q6_1, .slice p6_2 os.length q6_2] (ck, cp, os, ()) (Btw w5.heap.size w6.heap.size)) := P_6.out.next hb
  have U0_7 : Hid (Bx w7 w6.heap.size [.int .i64 ck, .slice p6_1 cp.length q6_1, .slice p6_2 os.length q6_2]) := hw7 ▸ Bx.new w6 [.int .i64 ck, .slice p6_1 cp.length q6_1, .slice p6_2 os.length q6_2] _
  rw [← hw7]
  clear hb hw7 A0_6 W_6 P_6 HB6
  refine (newestOf_l [.int .i64 ck, .slice p6_1 cp.length q6_1, .slice p6_2 os.length q6_2] ck cp os _ m j t HA.out HS0.out P_7.out.lies).mono ?_
  rintro r w8 ⟨rfl, hb⟩
  have HB8 : Hid (Below w.heap.size w w8) := below_next HB7.out hb
  have sz8 : w7.heap.size ≤ w8.heap.size := hb.size
  have A0_8 : Hid (Bx w8 w.heap.size [.int .i64 ck, .slice a0_1 cp.length k0_1, .slice a0_2 os.length k0_2]) := A0_7.out.next hb
  have W_8 : Hid (Bx w8 w4.heap.size [.int .i64 m, .int .i64 j, .string t]) := W_7.out.next hb
  have P_8 : Hid (Own w8 shRegister [.int .i64 ck, .slice p6_1 cp.length q6_1, .slice p6_2 os.length q6_2] (ck, cp, os, ()) (Btw w5.heap.size w6.heap.size)) := P_7.out.next hb
  have U0_8 : Hid (Bx w8 w6.heap.size [.int .i64 ck, .slice p6_1 cp.length q6_1, .slice p6_2 os.length q6_2]) := U0_7.out.next hb
  clear hb A0_7 W_7 P_7 U0_7 HB7
  have cW0 := W_8.out.cell 0 rfl
  have cW1 := W_8.out.cell 1 rfl
  have cW2 := W_8.out.cell 2 rfl
  have zW := W_8.out.2
  go_wp2_with fail
  obtain ⟨w9, hw9⟩ : ∃ x, x = w8.alloc (.cells #[.int .i64 m, .int .i64 j, .string t] 48) := ⟨_, rfl⟩
  have hb : Below w8.heap.size w8 w9 := hw9 ▸ Go.Joins.below_alloc1 _ _
  have HB9 : Hid (Below w.heap.size w w9) := below_next HB8.out hb
  have sz9 : w8.heap.size < w9.heap.size := by rw [hw9]; simp
  have A0_9 : Hid (Bx w9 w.heap.size [.int .i64 ck, .slice a0_1 cp.length k0_1, .slice a0_2 os.length k0_2]) := A0_8.out.next hb
  have W_9 : Hid (Bx w9 w4.heap.size [.int .i64 m, .int .i64 j, .string t]) := W_8.out.next hb
  have P_9 : Hid (Own w9 shRegister [.int .i64 ck, .slice p6_1 cp.length q6_1, .slice p6_2 os.length q6_2] (ck, cp, os, ()) (Btw w5.heap.size w6.heap.size)) := P_8.out.next hb
  have U0_9 : Hid (Bx w9 w6.heap.size [.int .i64 ck, .slice p6_1 cp.length q6_1, .slice p6_2 os.length q6_2]) := U0_8.out.next hb
  have G_9 : Hid (Bx w9 w8.heap.size [.int .i64 m, .int .i64 j, .string t]) := hw9 ▸ Bx.new w8 [.int .i64 m, .int .i64 j, .string t] _
  rw [← hw9]
  clear hb hw9 cW0 cW1 cW2 zW A0_8 W_8 P_8 U0_8 HB8
  refine (eqCopy_n [.int .i64 m, .int .i64 j, .string t] [.int .i64 m, .int .i64 j, .string t] m j t _ HT.out mk_Copy mk_Copy).mono ?_
  rintro r w10 ⟨rfl, hb⟩
  have HB10 : Hid (Below w.heap.size w w10) := below_next HB9.out hb
  have sz10 : w9.heap.size ≤ w10.heap.size := hb.size
  have A0_10 : Hid (Bx w10 w.heap.size [.int .i64 ck, .slice a0_1 cp.length k0_1, .slice a0_2 os.length k0_2]) := A0_9.out.next hb
  have W_10 : Hid (Bx w10 w4.heap.size [.int .i64 m, .int .i64 j, .string t]) := W_9.out.next hb
  have P_10 : Hid (Own w10 shRegister [.int .i64 ck, .slice p6_1 cp.length q6_1, .slice p6_2 os.length q6_2] (ck, cp, os, ()) (Btw w5.heap.size w6.heap.size)) := P_9.out.next hb
  have U0_10 : Hid (Bx w10 w6.heap.size [.int .i64 ck, .slice p6_1 cp.length q6_1, .slice p6_2 os.length q6_2]) := U0_9.out.next hb
  have G_10 : Hid (Bx w10 w8.heap.size [.int .i64 m, .int .i64 j, .string t]) := G_9.out.next hb
  clear hb A0_9 W_9 P_9 U0_9 G_9 HB9
  clear G_10
  clear W_10
  generalize tf (goodR ck cp os) = z at *
  go_upto_region 10 with fail
  have hb : Below w10.heap.size w10 w10.drew := below_drew _
  have HB11 : Hid (Below w.heap.size w w10.drew) := below_next HB10.out hb
  have sz11 : w10.heap.size ≤ w10.drew.heap.size := hb.size
  have A0_11 : Hid (Bx w10.drew w.heap.size [.int .i64 ck, .slice a0_1 cp.length k0_1, .slice a0_2 os.length k0_2]) := A0_10.out.next hb
  have P_11 : Hid (Own w10.drew shRegister [.int .i64 ck, .slice p6_1 cp.length q6_1, .slice p6_2 os.length q6_2] (ck, cp, os, ()) (Btw w5.heap.size w6.heap.size)) := P_10.out.next hb
  have U0_11 : Hid (Bx w10.drew w6.heap.size [.int .i64 ck, .slice p6_1 cp.length q6_1, .slice p6_2 os.length q6_2]) := U0_10.out.next hb
  clear hb A0_10 P_10 U0_10 HB10
  refine wp_region_noPanic ?_
  refine wp_region_held_drew (S := fun W => Bx W w.heap.size [.int .i64 ck, .slice a0_1 cp.length k0_1, .slice a0_2 os.length k0_2] ∧ Bx W w6.heap.size [.int .i64 ck, .slice p6_1 cp.length q6_1, .slice p6_2 os.length q6_2]) (by kernel_rfl) ⟨A0_11.out, U0_11.out⟩ (fun hHeld => ?_)
  refine take_v (v := ?_) 0 ⟨some 36, Op.load 29 (Operand.tmp 6), _, _, _, none⟩ rfl (fun _ _ _ h => h) ?_ hHeld ?_
  rotate_left
  · (intro W hSW; (have s0_0 := hSW.1.cell 0 rfl; have s0_1 := hSW.1.cell 1 rfl; have s0_2 := hSW.1.cell 2 rfl; have s0z := hSW.1.2; have s1_0 := hSW.2.cell 0 rfl; have s1_1 := hSW.2.cell 1 rfl; have s1_2 := hSW.2.cell 2 rfl; have s1z := hSW.2.2); go_simp <;> (try with_reducible rfl))
  refine take_v (v := ?_) 1 ⟨some 37, Op.load 62 (Operand.tmp 1), _, _, _, none⟩ rfl (fun _ _ _ h => h) ?_ hHeld ?_
  rotate_left
  · (intro W hSW; (have s0_0 := hSW.1.cell 0 rfl; have s0_1 := hSW.1.cell 1 rfl; have s0_2 := hSW.1.cell 2 rfl; have s0z := hSW.1.2; have s1_0 := hSW.2.cell 0 rfl; have s1_1 := hSW.2.cell 1 rfl; have s1_2 := hSW.2.cell 2 rfl; have s1z := hSW.2.2); go_simp <;> (try with_reducible rfl))
  refine ready_call 2 ⟨some 38, Op.call { callee := Callee.value (Operand.func 29), args := #[Operand.tmp 37], argTypes := #[62] }, _, _, _, none⟩ (by kernel_rfl) rfl (by kernel_rfl) (fun KC hK => ?_)
  go_wp2_with fail
  refine (toRegister_n [.int .i64 ck, .slice a0_1 cp.length k0_1, .slice a0_2 os.length k0_2] ck cp os _ HS0.out (HL0.out.next HB11.out)).mono ?_
  rintro r w12 ⟨cs9, rfl, ho, hb⟩
  obtain ⟨p12_1, q12_1, _, p12_2, q12_2, _, hev, _⟩ := own_Register ho
  subst hev
  have HB12 : Hid (Below w.heap.size w w12) := below_next HB11.out hb
  have sz12 : w10.drew.heap.size ≤ w12.heap.size := hb.size
  have A0_12 : Hid (Bx w12 w.heap.size [.int .i64 ck, .slice a0_1 cp.length k0_1, .slice a0_2 os.length k0_2]) := A0_11.out.next hb
  have P_12 : Hid (Own w12 shRegister [.int .i64 ck, .slice p6_1 cp.length q6_1, .slice p6_2 os.length q6_2] (ck, cp, os, ()) (Btw w5.heap.size w6.heap.size)) := P_11.out.next hb
  have U0_12 : Hid (Bx w12 w6.heap.size [.int .i64 ck, .slice p6_1 cp.length q6_1, .slice p6_2 os.length q6_2]) := U0_11.out.next hb
  have D_12 : Hid (Own w12 shRegister [.int .i64 ck, .slice p12_1 cp.length q12_1, .slice p12_2 os.length q12_2] (ck, cp, os, ()) (Btw w10.drew.heap.size w12.heap.size)) := ho
  clear hb ho A0_11 P_11 U0_11 HB11
  refine hK.out _ _ ⟨A0_12.out, U0_12.out⟩ (fun hHeld => ?_)
  clear hK KC
  refine ready_call 3 ⟨some 39, Op.call { callee := Callee.value (Operand.func 25), args := #[Operand.tmp 36, Operand.tmp 38], argTypes := #[29, 29] }, _, _, _, none⟩ (by kernel_rfl) rfl (by kernel_rfl) (fun KC hK => ?_)
  go_wp2_with fail
  refine (eqRegister_n [.int .i64 ck, .slice p6_1 cp.length q6_1, .slice p6_2 os.length q6_2] [.int .i64 ck, .slice p12_1 cp.length q12_1, .slice p12_2 os.length q12_2] ck cp os _ HS0.out P_12.out.lies D_12.out.lies).mono ?_
  rintro r w13 ⟨rfl, hb⟩
  have HB13 : Hid (Below w.heap.size w w13) := below_next HB12.out hb
  have sz13 : w12.heap.size ≤ w13.heap.size := hb.size
  have A0_13 : Hid (Bx w13 w.heap.size [.int .i64 ck, .slice a0_1 cp.length k0_1, .slice a0_2 os.length k0_2]) := A0_12.out.next hb
  have P_13 : Hid (Own w13 shRegister [.int .i64 ck, .slice p6_1 cp.length q6_1, .slice p6_2 os.length q6_2] (ck, cp, os, ()) (Btw w5.heap.size w6.heap.size)) := P_12.out.next hb
  have U0_13 : Hid (Bx w13 w6.heap.size [.int .i64 ck, .slice p6_1 cp.length q6_1, .slice p6_2 os.length q6_2]) := U0_12.out.next hb
  have D_13 : Hid (Own w13 shRegister [.int .i64 ck, .slice p12_1 cp.length q12_1, .slice p12_2 os.length q12_2] (ck, cp, os, ()) (Btw w10.drew.heap.size w12.heap.size)) := D_12.out.next hb
  clear hb A0_12 P_12 U0_12 D_12 HB12
  refine hK.out _ _ ⟨A0_13.out, U0_13.out⟩ (fun hHeld => ?_)
  clear hK KC
  refine take_v (v := ?_) 4 ⟨some 40, Op.unOp UnOp.not 4 (Operand.tmp 39), _, _, _, none⟩ rfl (fun _ _ _ h => h) ?_ hHeld ?_
  rotate_left
  · (intro W _; go_simp <;> (try with_reducible rfl))
  refine wpAnyH_done (by kernel_rfl) ?_ _
  refine NoPanic.normal ?_
  clear D_13
  have HE := HB13
  go_wp2
  go_ret
  exact ⟨rfl, HE.out⟩


theorem own : ownKnob Try.prog.godebug = none := by kernel_rfl
theorem laidOut : laidOutB Try.prog = true := by kernel_rfl

set_option maxRecDepth 100000 in
theorem lifted (os : Os) (started : os.Started) (H : Type) (enc : TypeId × Value → H) :
    ReturnsInHanded {} Try.checked os 10 .any (Rows.fnExactNewestOfSpec.pre6 enc Try.prog Try.f10 Rows.fnExactNewestOfRow.domain false) (Rows.fnExactNewestOfSpec.post enc Try.prog Try.f10 false true false false) := by
  refine returnsInHanded_of_change (C := Try.checked) own started (by kernel_rfl) Try.func10
    (ChangeSpec.witness6 (enc := enc) (C := Try.checked) false ⟨#[], #[.agg #[.int .i64 0, .slice none 0 0, .slice none 0 0]], []⟩ 8 (by kernel_rfl) (by kernel_rfl) (by kernel_rfl) (by kernel_rfl)) ?_
  intro W base args ds gs before hval0 hW hcnd _
  have hval : ∀ (j : Nat) t v, Try.f10.params[j]? = some t → args[j]? = some v → Value.okWide Try.prog W .any base t v := hval0
  have hW' := hW
  obtain ⟨p, q, hA0, hV, rfl, hfz, hnd⟩ := hW
  have hA : DataW.TrodAll enc Try.prog W 0 (fun _ => true) true Try.f10.params.toList args.toList ds p := hA0
  rw [Try.params10] at hA hval
  obtain ⟨v0, vs0, d0, ds0, p0, q0, hargs, rfl, rfl, h0, r0⟩ := trodAll_cons hA
  obtain ⟨rfl, rfl, rfl⟩ := trodAll_nil r0
  obtain rfl : args = #[v0] := by cases args; simp_all
  obtain ⟨rfl, rfl⟩ := trodVars_none hV
  have k0 := h0
  have lt0 : ∀ x ∈ p0, x.block < W.heap.size := by obtain ⟨m, hm⟩ := k0; exact DataW.trod_lt m _ _ _ hm
  obtain ⟨cs0, X0, rfl, li0, fi0⟩ := open_Register_n (hval 0 62 v0 rfl rfl) h0
  clear hA0 hval0
  refine (walk (w := W) cs0 X0 li0 fi0).mono fun e W' ⟨he, bel⟩ => ?_
  subst he
  exact ⟨_, rfl, _, _, _, [], _, [], hW', trodAll_mk1 (shut_bool Try.underlying4 _), (trodAll_cons_mk (Below.trod laidOut (by kernel_rfl) (of_decide_eq_true (by kernel_rfl)) k0 bel lt0) trodAll_mk0), rfl, bel.frame _, fun h => by cases h⟩

set_option maxHeartbeats 40000000 in
theorem closed : joinedFacts Try.pinned.checked.prog 10 Try.f10 Rows.fnExactNewestOfSpec Rows.fnExactNewestOfRow = true := by
  unfold joinedFacts
  repeat' (first | (with_reducible refine both ?_ ?_) | (with_reducible exact may_enter') | (with_reducible refine lifts_eq ?_) | (with_reducible refine make_eq ?_) | as_aux_lemma => kernel_rfl)
theorem named : Try.pinned.checked.prog.funcNamed Rows.fnExactNewestOfRow.func = some 10 := by kernel_rfl
theorem over : Rows.fnExactNewestOfRow.holds Try.pinned (OpenSpec.ofChange Rows.fnExactNewestOfSpec) :=
  OpenClaim.holds_of_wide 10 Try.f10 rfl rfl rfl rfl rfl rfl rfl ⟨rfl, rfl, rfl, rfl, rfl⟩ rfl rfl rfl rfl rfl named Try.func10 closed
    (of_decide_eq_true (by as_aux_lemma => kernel_rfl)) (by unfold Func.isWrapper; first | (rw [if_pos (by decide +kernel)]; kernel_rfl) | (rw [if_neg (by decide +kernel)]; exact ⟨rfl, rfl⟩))
    (fun os started H enc _ => lifted os started H enc)

end Go.Proofs.Ytjebnhbadbhaaaa.xNewestOf
namespace Go.Proofs.Ytjebnhbadbhaaaa
theorem xNewestOf_holds : Rows.FnExactNewestOfSaid := xNewestOf.over
#print axioms xNewestOf_holds
end Go.Proofs.Ytjebnhbadbhaaaa
