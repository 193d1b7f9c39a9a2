/- At every argument impl.StepRegister answers as the specification does, field by field, writes into no argument, its answer owns its memory, and each argument reads behind the call as it read before. No condition. -/
import Derived.Test.YtaofolbnommpgaaRsF
import Derived.Test.YtaofolbnommpgaaShD
import Derived.Test.YtaofolbnommpgaaNtZ
import Derived.Test.YtaofolbnommpgaaNtT
import Derived.Test.YtaofolbnommpgaaNtE
import Derived.Test.YtaofolbnommpgaaNtO
import Derived.Test.YtaofolbnommpgaaNtM
import Derived.Test.YtaofolbnommpgaaNtH
import Derived.Test.YtaofolbnommpgaaWords
import Derived.ProofKit
import Derived.OpenShut
import Derived.ShutString
import Derived.ChangeOld
import Derived.Below
import Derived.Lib.SmallJoins
namespace Go.Proofs.Ytaofolbnommpgaa.xStepRegister
open Go.ChangeShapes Go.WideShapes Go.ChangeAt Go.RowKit
open Go.ChangeMaps (open_string shut_string)
set_option linter.unusedVariables false

set_option maxRecDepth 100000 in
set_option maxHeartbeats 4000000 in
theorem walk (w : World) (cs0 : List Value) (X0 : Sh.T shRegister) (li0 : Lies w shRegister cs0 X0) (fi0 : Fits shRegister X0) (cs1 : List Value) (X1 : Sh.T shRegStep) (li1 : Lies w shRegStep cs1 X1) (fi1 : Fits shRegStep X1) :
    Calls Try.prog 7 #[.agg cs0.toArray, .agg cs1.toArray] w fun r w' => r = .returned (.bool true) ∧ Below w.heap.size w w' := by
  obtain ⟨ck, cp, os, ⟨⟩⟩ := X0
  obtain ⟨a0_1, k0_1, a0_2, k0_2, rfl, l0_1, l0_2⟩ := lies_Register li0
  have HL0 : Hid (Lies w shRegister [.int .i64 ck, .slice a0_1 cp.length k0_1, .slice a0_2 os.length k0_2] (ck, cp, os, ())) := li0
  have HF0 : Hid (Fits shRegister (ck, cp, os, ())) := fi0
  clear li0 fi0 l0_1 l0_2
  obtain ⟨bg, cl, wt, vl, oi, ni, ⟨⟩⟩ := X1
  obtain rfl := lies_RegStep li1
  have HL1 : Hid (Lies w shRegStep [.bool bg, .int .i64 cl, .bool wt, .string vl, .int .i64 oi, .int .i64 ni] (bg, cl, wt, vl, oi, ni, ())) := li1
  have HF1 : Hid (Fits shRegStep (bg, cl, wt, vl, oi, ni, ())) := fi1
  clear li1 fi1
  obtain ⟨CK, CP, OS, z, hA⟩ : ∃ CK CP OS z, partsR (rsS ck cp os bg cl wt vl oi ni) CK CP OS z := ⟨_, _, _, _, rfl, rfl, rfl, rfl⟩
  have HA : Hid (partsR (rsS ck cp os bg cl wt vl oi ni) CK CP OS z) := hA
  clear hA
  go_enter Try.func7, Try.ntmps7
  go_wp2_with fail
  obtain ⟨w1, hw1⟩ : ∃ x, x = w.alloc (.cells #[.int .i64 ck, .slice a0_1 cp.length k0_1, .slice a0_2 os.length k0_2] 62) := ⟨_, rfl⟩
  have hb : Below w.heap.size w w1 := hw1 ▸ Go.Joins.below_alloc1 _ _
  have HB1 : Hid (Below w.heap.size w w1) := below_next (Below.refl _ _) hb
  have sz1 : w.heap.size < w1.heap.size := by rw [hw1]; simp
  have A0_1 : Hid (Bx w1 w.heap.size [.int .i64 ck, .slice a0_1 cp.length k0_1, .slice a0_2 os.length k0_2]) := hw1 ▸ Bx.new w [.int .i64 ck, .slice a0_1 cp.length k0_1, .slice a0_2 os.length k0_2] _
  have HZ1 : Hid (w1.heap.size = w.heap.size + 1) := Hid.intro (by rw [hw1]; simp)
  rw [← hw1]
  clear hb hw1 
  obtain ⟨w2, hw2⟩ : ∃ x, x = w1.alloc (.cells #[.bool bg, .int .i64 cl, .bool wt, .string vl, .int .i64 oi, .int .i64 ni] 66) := ⟨_, rfl⟩
  have hb : Below w1.heap.size w1 w2 := hw2 ▸ Go.Joins.below_alloc1 _ _
  have HB2 : Hid (Below w.heap.size w w2) := below_next HB1.out hb
  have sz2 : w1.heap.size < w2.heap.size := by rw [hw2]; simp
  have A0_2 : Hid (Bx w2 w.heap.size [.int .i64 ck, .slice a0_1 cp.length k0_1, .slice a0_2 os.length k0_2]) := A0_1.out.next hb
  have A1_2 : Hid (Bx w2 (w.heap.size + 1) [.bool bg, .int .i64 cl, .bool wt, .string vl, .int .i64 oi, .int .i64 ni]) := hw2 ▸ Bx.newAt HZ1.out
  rw [← hw2]
  clear hb hw2 A0_1 HB1
  refine (szRegister_n [.int .i64 ck, .slice a0_1 cp.length k0_1, .slice a0_2 os.length k0_2] ck cp os _ _ (by omega) (by omega) HF0.out (HL0.out.next HB2.out)).mono ?_
  rintro r w3 ⟨⟨y0, rfl, hy0⟩, hb⟩
  have HB3 : Hid (Below w.heap.size w w3) := below_next HB2.out hb
  have sz3 : w2.heap.size ≤ w3.heap.size := hb.size
  have A0_3 : Hid (Bx w3 w.heap.size [.int .i64 ck, .slice a0_1 cp.length k0_1, .slice a0_2 os.length k0_2]) := A0_2.out.next hb
  have A1_3 : Hid (Bx w3 (w.heap.size + 1) [.bool bg, .int .i64 cl, .bool wt, .string vl, .int .i64 oi, .int .i64 ni]) := A1_2.out.next hb
  clear hb A0_2 A1_2 HB2
  by_cases ng0 : y0 < 0
  · clear hy0
    go_wp2
    go_ret
    exact ⟨rfl, HB3.out⟩
  have HS0 : Hid (szD shRegister (ck, cp, os, ()) ≤ 1073741824) := Hid.intro (by rcases hy0 with e | e <;> omega)
  have hb0 : 0 ≤ y0 ∧ y0 ≤ 1048576 := by rcases hy0 with e | e <;> omega
  clear hy0
  have cA10 := A1_3.out.cell 0 rfl
  have cA11 := A1_3.out.cell 1 rfl
  have cA12 := A1_3.out.cell 2 rfl
  have cA13 := A1_3.out.cell 3 rfl
  have cA14 := A1_3.out.cell 4 rfl
  have cA15 := A1_3.out.cell 5 rfl
  have zA1 := A1_3.out.2
  go_wp2_with fail
  refine (szRegStep_n [.bool bg, .int .i64 cl, .bool wt, .string vl, .int .i64 oi, .int .i64 ni] bg cl wt vl oi ni _ _ (by omega) (by omega) HF1.out (HL1.out.next HB3.out)).mono ?_
  rintro r w4 ⟨⟨y1, rfl, hy1⟩, hb⟩
  have HB4 : Hid (Below w.heap.size w w4) := below_next HB3.out hb
  have sz4 : w3.heap.size ≤ w4.heap.size := hb.size
  have A0_4 : Hid (Bx w4 w.heap.size [.int .i64 ck, .slice a0_1 cp.length k0_1, .slice a0_2 os.length k0_2]) := A0_3.out.next hb
  have A1_4 : Hid (Bx w4 (w.heap.size + 1) [.bool bg, .int .i64 cl, .bool wt, .string vl, .int .i64 oi, .int .i64 ni]) := A1_3.out.next hb
  clear hb A0_3 A1_3 HB3 cA10 cA11 cA12 cA13 cA14 cA15 zA1
  by_cases ng1 : y1 < 0
  · clear hy1
    go_wp2
    go_ret
    exact ⟨rfl, HB4.out⟩
  have HS1 : Hid (szD shRegStep (bg, cl, wt, vl, oi, ni, ()) ≤ 1073741824) := Hid.intro (by rcases hy1 with e | e <;> omega)
  have hb1 : 0 ≤ y1 ∧ y1 ≤ 1048576 := by rcases hy1 with e | e <;> omega
  clear hy1
  have HT : Hid (szD shRegister (CK, CP, OS, ()) ≤ 1073741824) := Hid.intro (parts_sz HA.out (sz_rsS ck cp os bg cl wt vl oi ni))
  obtain ⟨cn, hcn⟩ : ∃ c : Nat, c = cntT shRegister (CK, CP, OS, ()) := ⟨_, rfl⟩
  have HCN : Hid (cn = cntT shRegister (CK, CP, OS, ())) := hcn
  have hcb : cn ≤ 100000000000 := by rw [hcn]; exact cnt_reg HT.out
  clear hcn
  have hng : ¬ (1 + (cn : Int)) < 0 := by omega
  obtain ⟨cx, hcx⟩ : ∃ c : Nat, c = cntT shRegister (ck, cp, os, ()) := ⟨_, rfl⟩
  have HCX : Hid (cx = cntT shRegister (ck, cp, os, ())) := hcx
  have hcxb : cx ≤ 100000000000 := by rw [hcx]; exact cnt_reg HS0.out
  have hnx : ¬ (1 + (cx : Int)) < 0 := by omega
  clear hcx
  go_upto_region 8 with fail
  go_cut [6, 7] (fun s6 s7 wx => ∃ (b : Nat) (a3_1 : Option Addr) (k3_1 : Nat) (a3_2 : Option Addr) (k3_2 : Nat) (lo hi : Nat), s6 = .pointer (some ⟨b, 0, none⟩) ∧ s7 = .bool z ∧ Bx wx b [.int .i64 CK, .slice a3_1 CP.length k3_1, .slice a3_2 OS.length k3_2] ∧ Own wx shRegister [.int .i64 CK, .slice a3_1 CP.length k3_1, .slice a3_2 OS.length k3_2] (CK, CP, OS, ()) (Btw lo hi) ∧ w4.heap.size ≤ lo ∧ lo ≤ hi ∧ hi ≤ wx.heap.size ∧ w4.heap.size ≤ b ∧ b < wx.heap.size ∧ (b < lo ∨ hi ≤ b) ∧ Below w4.heap.size w4 wx)
  case first =>
    have hb : Below w4.heap.size w4 w4.drew := below_drew _
    have HD : Hid (Bx w4.drew w.heap.size [.int .i64 ck, .slice a0_1 cp.length k0_1, .slice a0_2 os.length k0_2] ∧ Bx w4.drew (w.heap.size + 1) [.bool bg, .int .i64 cl, .bool wt, .string vl, .int .i64 oi, .int .i64 ni] ∧ Below w4.heap.size w4 w4.drew) := ⟨A0_4.out.next hb, A1_4.out.next hb, hb⟩
    clear hb
    refine wp_region_noPanic ?_
    refine wp_region_held_drew (S := fun W => Bx W w.heap.size [.int .i64 ck, .slice a0_1 cp.length k0_1, .slice a0_2 os.length k0_2] ∧ Bx W (w.heap.size + 1) [.bool bg, .int .i64 cl, .bool wt, .string vl, .int .i64 oi, .int .i64 ni]) (by kernel_rfl) ⟨HD.out.1, HD.out.2.1⟩ (fun hHeld => ?_)
    obtain ⟨X0, hX0⟩ : ∃ x, x = w4.drew := ⟨_, rfl⟩
    rw [← hX0] at HD hHeld ⊢
    clear hX0
    refine take_v (v := ?_) 0 ⟨some 27, Op.load 62 (Operand.tmp 2), _, _, _, none⟩ rfl (fun _ _ _ h => h) ?_ hHeld ?_
    rotate_left
    · (intro W hSW; (have s0_0 := hSW.1.cell 0 rfl; have s0_1 := hSW.1.cell 1 rfl; have s0_2 := hSW.1.cell 2 rfl; have s0z := hSW.1.2; have s1_0 := hSW.2.cell 0 rfl; have s1_1 := hSW.2.cell 1 rfl; have s1_2 := hSW.2.cell 2 rfl; have s1_3 := hSW.2.cell 3 rfl; have s1_4 := hSW.2.cell 4 rfl; have s1_5 := hSW.2.cell 5 rfl; have s1z := hSW.2.2); go_simp <;> (try with_reducible rfl))
    refine take_v (v := ?_) 2 ⟨some 29, Op.load 66 (Operand.tmp 3), _, _, _, none⟩ rfl (fun _ _ _ h => h) ?_ hHeld ?_
    rotate_left
    · (intro W hSW; (have s0_0 := hSW.1.cell 0 rfl; have s0_1 := hSW.1.cell 1 rfl; have s0_2 := hSW.1.cell 2 rfl; have s0z := hSW.1.2; have s1_0 := hSW.2.cell 0 rfl; have s1_1 := hSW.2.cell 1 rfl; have s1_2 := hSW.2.cell 2 rfl; have s1_3 := hSW.2.cell 3 rfl; have s1_4 := hSW.2.cell 4 rfl; have s1_5 := hSW.2.cell 5 rfl; have s1z := hSW.2.2); go_simp <;> (try with_reducible rfl))
    refine ready_two 1 8 ⟨some 28, Op.call { callee := Callee.value (Operand.func 29), args := #[Operand.tmp 27], argTypes := #[62] }, _, _, _, none⟩ ⟨some 6, Op.alloc 29, _, _, _, none⟩ (by kernel_rfl) rfl rfl (by kernel_rfl) (by kernel_rfl) (fun KC hK => ?_) (fun KC hK => ?_)
    ·
      go_wp2_with fail
      refine (toRegister_n [.int .i64 ck, .slice a0_1 cp.length k0_1, .slice a0_2 os.length k0_2] ck cp os _ HS0.out (HL0.out.next (below_next HB4.out HD.out.2.2))).mono ?_
      rintro r W1 ⟨cs9, rfl, ho, hb⟩
      obtain ⟨p1_1, q1_1, _, p1_2, q1_2, _, hev, _⟩ := own_Register ho
      subst hev
      (first | (have HO1 := Hid.intro (HO1.out.next hb)) | skip); (first | (have HO2 := Hid.intro (HO2.out.next hb)) | skip)
      have HO1 := Hid.intro ho.lies
      have HD := (show Hid (Bx W1 w.heap.size [.int .i64 ck, .slice a0_1 cp.length k0_1, .slice a0_2 os.length k0_2] ∧ Bx W1 (w.heap.size + 1) [.bool bg, .int .i64 cl, .bool wt, .string vl, .int .i64 oi, .int .i64 ni] ∧ Below w4.heap.size w4 W1) from ⟨HD.out.1.next hb, HD.out.2.1.next hb, below_next HD.out.2.2 hb⟩)
      (first | (have H8 := (show Hid (Bx W1 b8 [.int .i64 0, .slice none 0 0, .slice none 0 0] ∧ w4.heap.size ≤ b8) from ⟨H8.out.1.next hb, H8.out.2⟩)) | skip)
      clear ho hb
      refine hK.out _ _ ⟨HD.out.1, HD.out.2.1⟩ (fun hHeld => ?_)
      clear hK KC
      refine ready_two 3 8 ⟨some 30, Op.call { callee := Callee.value (Operand.func 31), args := #[Operand.tmp 29], argTypes := #[66] }, _, _, _, none⟩ ⟨some 6, Op.alloc 29, _, _, _, none⟩ (by kernel_rfl) rfl rfl (by kernel_rfl) (by kernel_rfl) (fun KC hK => ?_) (fun KC hK => ?_)
      ·
        go_wp2_with fail
        refine (toRegStep_n [.bool bg, .int .i64 cl, .bool wt, .string vl, .int .i64 oi, .int .i64 ni] bg cl wt vl oi ni _ HS1.out (HL1.out.next (below_next HB4.out HD.out.2.2))).mono ?_
        rintro r W2 ⟨cs9, rfl, ho, hb⟩
        obtain hev := own_RegStep ho
        subst hev
        (first | (have HO1 := Hid.intro (HO1.out.next hb)) | skip); (first | (have HO2 := Hid.intro (HO2.out.next hb)) | skip)
        have HO2 := Hid.intro ho.lies
        have HD := (show Hid (Bx W2 w.heap.size [.int .i64 ck, .slice a0_1 cp.length k0_1, .slice a0_2 os.length k0_2] ∧ Bx W2 (w.heap.size + 1) [.bool bg, .int .i64 cl, .bool wt, .string vl, .int .i64 oi, .int .i64 ni] ∧ Below w4.heap.size w4 W2) from ⟨HD.out.1.next hb, HD.out.2.1.next hb, below_next HD.out.2.2 hb⟩)
        (first | (have H8 := (show Hid (Bx W2 b8 [.int .i64 0, .slice none 0 0, .slice none 0 0] ∧ w4.heap.size ≤ b8) from ⟨H8.out.1.next hb, H8.out.2⟩)) | skip)
        clear ho hb
        refine hK.out _ _ ⟨HD.out.1, HD.out.2.1⟩ (fun hHeld => ?_)
        clear hK KC
        refine ready_two 4 8 ⟨some 31, Op.call { callee := Callee.value (Operand.func 21), args := #[Operand.tmp 28, Operand.tmp 30], argTypes := #[29, 42] }, _, _, _, none⟩ ⟨some 6, Op.alloc 29, _, _, _, none⟩ (by kernel_rfl) rfl rfl (by kernel_rfl) (by kernel_rfl) (fun KC hK => ?_) (fun KC hK => ?_)
        ·
          go_wp2_with fail
          refine (specStepRegister_l [.int .i64 ck, .slice p1_1 cp.length q1_1, .slice p1_2 os.length q1_2] ck cp os bg cl wt vl oi ni _ CK CP OS z HA.out HS0.out HS1.out HO1.out).mono ?_
          intro r W9 hT
          obtain ⟨cs9, lo, hi, rfl, ho, hlo, hlh, hhi, hb⟩ := ansG_out hT
          obtain ⟨a3_1, k3_1, _, a3_2, k3_2, _, hev, _⟩ := own_Register ho
          subst hev
          have hol : w4.heap.size ≤ lo := Nat.le_trans HD.out.2.2.size hlo
          (first | (have HO9 := (show Hid (Own W9 shRegister [.int .i64 CK, .slice a3_1 CP.length k3_1, .slice a3_2 OS.length k3_2] (CK, CP, OS, ()) (Btw lo hi) ∧ w4.heap.size ≤ lo ∧ lo ≤ hi ∧ hi ≤ W9.heap.size ∧ (b8 < lo ∨ hi ≤ b8)) from ⟨ho, hol, hlh, hhi, Or.inl (Nat.lt_of_lt_of_le H8.out.1.2 hlo)⟩)) | (have HO9 := (show Hid (Own W9 shRegister [.int .i64 CK, .slice a3_1 CP.length k3_1, .slice a3_2 OS.length k3_2] (CK, CP, OS, ()) (Btw lo hi) ∧ w4.heap.size ≤ lo ∧ lo ≤ hi ∧ hi ≤ W9.heap.size) from ⟨ho, hol, hlh, hhi⟩)))
          have HD := (show Hid (Bx W9 w.heap.size [.int .i64 ck, .slice a0_1 cp.length k0_1, .slice a0_2 os.length k0_2] ∧ Bx W9 (w.heap.size + 1) [.bool bg, .int .i64 cl, .bool wt, .string vl, .int .i64 oi, .int .i64 ni] ∧ Below w4.heap.size w4 W9) from ⟨HD.out.1.next hb, HD.out.2.1.next hb, below_next HD.out.2.2 hb⟩)
          (first | (have H8 := (show Hid (Bx W9 b8 [.int .i64 0, .slice none 0 0, .slice none 0 0] ∧ w4.heap.size ≤ b8) from ⟨H8.out.1.next hb, H8.out.2⟩)) | skip)
          clear ho hlo hlh hhi hol hb hT
          refine hK.out _ _ ⟨HD.out.1, HD.out.2.1⟩ (fun hHeld => ?_)
          clear hK KC
          refine take_v (v := ?_) 5 ⟨some 26, Op.move (Operand.tmp 31), _, _, _, none⟩ rfl (fun _ _ _ h => h) ?_ hHeld ?_
          rotate_left
          · (intro W _; go_simp <;> (try with_reducible rfl))
          refine take_v (v := ?_) 6 ⟨some 32, Op.extract (Operand.tmp 26) 0, _, _, _, none⟩ rfl (fun _ _ _ h => h) ?_ hHeld ?_
          rotate_left
          · (intro W _; go_simp <;> (try with_reducible rfl))
          refine take_v (v := ?_) 7 ⟨some 33, Op.extract (Operand.tmp 26) 1, _, _, _, none⟩ rfl (fun _ _ _ h => h) ?_ hHeld ?_
          rotate_left
          · (intro W _; go_simp <;> (try with_reducible rfl))
          refine ready_call 8 ⟨some 6, Op.alloc 29, _, _, _, none⟩ (by kernel_rfl) rfl (by kernel_rfl) (fun KC hK => ?_)
          go_wp2_with fail
          (first | (obtain ⟨W8, hW8⟩ : ∃ x, x = W9.alloc (.cells #[.int .i64 0, .slice none 0 0, .slice none 0 0] 29) := ⟨_, rfl⟩; have hb : Below W9.heap.size W9 W8 := hW8 ▸ Go.Joins.below_alloc1 _ _; obtain ⟨b8, hb8⟩ : ∃ b, b = W9.heap.size := ⟨_, rfl⟩; have H8 : Hid (Bx W8 b8 [.int .i64 0, .slice none 0 0, .slice none 0 0] ∧ w4.heap.size ≤ b8) := ⟨hb8 ▸ hW8 ▸ Bx.new W9 [.int .i64 0, .slice none 0 0, .slice none 0 0] _, by rw [hb8]; exact HD.out.2.2.size⟩; have HO9 := (show Hid (Own W8 shRegister [.int .i64 CK, .slice a3_1 CP.length k3_1, .slice a3_2 OS.length k3_2] (CK, CP, OS, ()) (Btw lo hi) ∧ w4.heap.size ≤ lo ∧ lo ≤ hi ∧ hi ≤ W8.heap.size ∧ (b8 < lo ∨ hi ≤ b8)) from ⟨HO9.out.1.next hb, HO9.out.2.1, HO9.out.2.2.1, Nat.le_trans HO9.out.2.2.2 hb.size, Or.inr (by rw [hb8]; exact HO9.out.2.2.2)⟩); have HD := (show Hid (Bx W8 w.heap.size [.int .i64 ck, .slice a0_1 cp.length k0_1, .slice a0_2 os.length k0_2] ∧ Bx W8 (w.heap.size + 1) [.bool bg, .int .i64 cl, .bool wt, .string vl, .int .i64 oi, .int .i64 ni] ∧ Below w4.heap.size w4 W8) from ⟨HD.out.1.next hb, HD.out.2.1.next hb, below_next HD.out.2.2 hb⟩); rw [← hW8, ← hb8]; clear hW8 hb8 hb) | (obtain ⟨W8, hW8⟩ : ∃ x, x = W2.alloc (.cells #[.int .i64 0, .slice none 0 0, .slice none 0 0] 29) := ⟨_, rfl⟩; have hb : Below W2.heap.size W2 W8 := hW8 ▸ Go.Joins.below_alloc1 _ _; obtain ⟨b8, hb8⟩ : ∃ b, b = W2.heap.size := ⟨_, rfl⟩; have H8 : Hid (Bx W8 b8 [.int .i64 0, .slice none 0 0, .slice none 0 0] ∧ w4.heap.size ≤ b8) := ⟨hb8 ▸ hW8 ▸ Bx.new W2 [.int .i64 0, .slice none 0 0, .slice none 0 0] _, by rw [hb8]; exact HD.out.2.2.size⟩; (first | (have HO1 := Hid.intro (HO1.out.next hb)) | skip); (first | (have HO2 := Hid.intro (HO2.out.next hb)) | skip); have HD := (show Hid (Bx W8 w.heap.size [.int .i64 ck, .slice a0_1 cp.length k0_1, .slice a0_2 os.length k0_2] ∧ Bx W8 (w.heap.size + 1) [.bool bg, .int .i64 cl, .bool wt, .string vl, .int .i64 oi, .int .i64 ni] ∧ Below w4.heap.size w4 W8) from ⟨HD.out.1.next hb, HD.out.2.1.next hb, below_next HD.out.2.2 hb⟩); rw [← hW8, ← hb8]; clear hW8 hb8 hb) | (obtain ⟨W8, hW8⟩ : ∃ x, x = W1.alloc (.cells #[.int .i64 0, .slice none 0 0, .slice none 0 0] 29) := ⟨_, rfl⟩; have hb : Below W1.heap.size W1 W8 := hW8 ▸ Go.Joins.below_alloc1 _ _; obtain ⟨b8, hb8⟩ : ∃ b, b = W1.heap.size := ⟨_, rfl⟩; have H8 : Hid (Bx W8 b8 [.int .i64 0, .slice none 0 0, .slice none 0 0] ∧ w4.heap.size ≤ b8) := ⟨hb8 ▸ hW8 ▸ Bx.new W1 [.int .i64 0, .slice none 0 0, .slice none 0 0] _, by rw [hb8]; exact HD.out.2.2.size⟩; (first | (have HO1 := Hid.intro (HO1.out.next hb)) | skip); (first | (have HO2 := Hid.intro (HO2.out.next hb)) | skip); have HD := (show Hid (Bx W8 w.heap.size [.int .i64 ck, .slice a0_1 cp.length k0_1, .slice a0_2 os.length k0_2] ∧ Bx W8 (w.heap.size + 1) [.bool bg, .int .i64 cl, .bool wt, .string vl, .int .i64 oi, .int .i64 ni] ∧ Below w4.heap.size w4 W8) from ⟨HD.out.1.next hb, HD.out.2.1.next hb, below_next HD.out.2.2 hb⟩); rw [← hW8, ← hb8]; clear hW8 hb8 hb) | (obtain ⟨W8, hW8⟩ : ∃ x, x = X0.alloc (.cells #[.int .i64 0, .slice none 0 0, .slice none 0 0] 29) := ⟨_, rfl⟩; have hb : Below X0.heap.size X0 W8 := hW8 ▸ Go.Joins.below_alloc1 _ _; obtain ⟨b8, hb8⟩ : ∃ b, b = X0.heap.size := ⟨_, rfl⟩; have H8 : Hid (Bx W8 b8 [.int .i64 0, .slice none 0 0, .slice none 0 0] ∧ w4.heap.size ≤ b8) := ⟨hb8 ▸ hW8 ▸ Bx.new X0 [.int .i64 0, .slice none 0 0, .slice none 0 0] _, by rw [hb8]; exact HD.out.2.2.size⟩; (first | (have HO1 := Hid.intro (HO1.out.next hb)) | skip); (first | (have HO2 := Hid.intro (HO2.out.next hb)) | skip); have HD := (show Hid (Bx W8 w.heap.size [.int .i64 ck, .slice a0_1 cp.length k0_1, .slice a0_2 os.length k0_2] ∧ Bx W8 (w.heap.size + 1) [.bool bg, .int .i64 cl, .bool wt, .string vl, .int .i64 oi, .int .i64 ni] ∧ Below w4.heap.size w4 W8) from ⟨HD.out.1.next hb, HD.out.2.1.next hb, below_next HD.out.2.2 hb⟩); rw [← hW8, ← hb8]; clear hW8 hb8 hb))
          refine hK.out _ _ ⟨HD.out.1, HD.out.2.1⟩ (fun hHeld => ?_)
          clear hK KC
          refine ready_call 9 ⟨none, Op.store 29 (Operand.tmp 6) (Operand.tmp 32), _, _, _, none⟩ (by kernel_rfl) rfl (by kernel_rfl) (fun KC hK => ?_)
          have dz := H8.out.1.2
          have d0 := H8.out.1.cell 0 rfl
          have d1 := H8.out.1.cell 1 rfl
          have d2 := H8.out.1.cell 2 rfl
          have f0 := H8.out.1.frz 0 (by simp)
          have f1 := H8.out.1.frz 1 (by simp)
          have f2 := H8.out.1.frz 2 (by simp)
          have h8 := H8.out.2
          go_wp2_with fail
          have HF := Hid.intro (box_own3 (o := w4) H8.out.1 H8.out.2 HO9.out.1 HO9.out.2.2.2.2 HD.out.2.2 (.int .i64 CK) (.slice a3_1 CP.length k3_1) (.slice a3_2 OS.length k3_2))
          clear dz d0 f0 d1 f1 d2 f2
          refine hK.out _ _ ⟨(((HD.out.1.other (by omega)).other (by omega)).other (by omega)), (((HD.out.2.1.other (by omega)).other (by omega)).other (by omega))⟩ (fun hHeld => ?_)
          clear hK KC
          refine take_v (v := ?_) 10 ⟨some 7, Op.assign (Operand.tmp 33), _, _, _, none⟩ rfl (fun _ _ _ h => h) ?_ hHeld ?_
          rotate_left
          · (intro W _; go_simp <;> (try with_reducible rfl))
          refine wpAnyH_done (by kernel_rfl) ?_ _
          refine NoPanic.normal ?_
          clear hHeld
          go_wp2_with fail
          go_meet
          exact ⟨b8, a3_1, k3_1, a3_2, k3_2, lo, hi, rfl, rfl, HF.out.1, HF.out.2.1, HO9.out.2.1, HO9.out.2.2.1, by rw [HF.out.2.2.2]; exact HO9.out.2.2.2.1, H8.out.2, by rw [HF.out.2.2.2]; exact H8.out.1.2, HO9.out.2.2.2.2, HF.out.2.2.1⟩
        ·
          go_wp2_with fail
          (first | (obtain ⟨W8, hW8⟩ : ∃ x, x = W9.alloc (.cells #[.int .i64 0, .slice none 0 0, .slice none 0 0] 29) := ⟨_, rfl⟩; have hb : Below W9.heap.size W9 W8 := hW8 ▸ Go.Joins.below_alloc1 _ _; obtain ⟨b8, hb8⟩ : ∃ b, b = W9.heap.size := ⟨_, rfl⟩; have H8 : Hid (Bx W8 b8 [.int .i64 0, .slice none 0 0, .slice none 0 0] ∧ w4.heap.size ≤ b8) := ⟨hb8 ▸ hW8 ▸ Bx.new W9 [.int .i64 0, .slice none 0 0, .slice none 0 0] _, by rw [hb8]; exact HD.out.2.2.size⟩; have HO9 := (show Hid (Own W8 shRegister [.int .i64 CK, .slice a3_1 CP.length k3_1, .slice a3_2 OS.length k3_2] (CK, CP, OS, ()) (Btw lo hi) ∧ w4.heap.size ≤ lo ∧ lo ≤ hi ∧ hi ≤ W8.heap.size ∧ (b8 < lo ∨ hi ≤ b8)) from ⟨HO9.out.1.next hb, HO9.out.2.1, HO9.out.2.2.1, Nat.le_trans HO9.out.2.2.2 hb.size, Or.inr (by rw [hb8]; exact HO9.out.2.2.2)⟩); have HD := (show Hid (Bx W8 w.heap.size [.int .i64 ck, .slice a0_1 cp.length k0_1, .slice a0_2 os.length k0_2] ∧ Bx W8 (w.heap.size + 1) [.bool bg, .int .i64 cl, .bool wt, .string vl, .int .i64 oi, .int .i64 ni] ∧ Below w4.heap.size w4 W8) from ⟨HD.out.1.next hb, HD.out.2.1.next hb, below_next HD.out.2.2 hb⟩); rw [← hW8, ← hb8]; clear hW8 hb8 hb) | (obtain ⟨W8, hW8⟩ : ∃ x, x = W2.alloc (.cells #[.int .i64 0, .slice none 0 0, .slice none 0 0] 29) := ⟨_, rfl⟩; have hb : Below W2.heap.size W2 W8 := hW8 ▸ Go.Joins.below_alloc1 _ _; obtain ⟨b8, hb8⟩ : ∃ b, b = W2.heap.size := ⟨_, rfl⟩; have H8 : Hid (Bx W8 b8 [.int .i64 0, .slice none 0 0, .slice none 0 0] ∧ w4.heap.size ≤ b8) := ⟨hb8 ▸ hW8 ▸ Bx.new W2 [.int .i64 0, .slice none 0 0, .slice none 0 0] _, by rw [hb8]; exact HD.out.2.2.size⟩; (first | (have HO1 := Hid.intro (HO1.out.next hb)) | skip); (first | (have HO2 := Hid.intro (HO2.out.next hb)) | skip); have HD := (show Hid (Bx W8 w.heap.size [.int .i64 ck, .slice a0_1 cp.length k0_1, .slice a0_2 os.length k0_2] ∧ Bx W8 (w.heap.size + 1) [.bool bg, .int .i64 cl, .bool wt, .string vl, .int .i64 oi, .int .i64 ni] ∧ Below w4.heap.size w4 W8) from ⟨HD.out.1.next hb, HD.out.2.1.next hb, below_next HD.out.2.2 hb⟩); rw [← hW8, ← hb8]; clear hW8 hb8 hb) | (obtain ⟨W8, hW8⟩ : ∃ x, x = W1.alloc (.cells #[.int .i64 0, .slice none 0 0, .slice none 0 0] 29) := ⟨_, rfl⟩; have hb : Below W1.heap.size W1 W8 := hW8 ▸ Go.Joins.below_alloc1 _ _; obtain ⟨b8, hb8⟩ : ∃ b, b = W1.heap.size := ⟨_, rfl⟩; have H8 : Hid (Bx W8 b8 [.int .i64 0, .slice none 0 0, .slice none 0 0] ∧ w4.heap.size ≤ b8) := ⟨hb8 ▸ hW8 ▸ Bx.new W1 [.int .i64 0, .slice none 0 0, .slice none 0 0] _, by rw [hb8]; exact HD.out.2.2.size⟩; (first | (have HO1 := Hid.intro (HO1.out.next hb)) | skip); (first | (have HO2 := Hid.intro (HO2.out.next hb)) | skip); have HD := (show Hid (Bx W8 w.heap.size [.int .i64 ck, .slice a0_1 cp.length k0_1, .slice a0_2 os.length k0_2] ∧ Bx W8 (w.heap.size + 1) [.bool bg, .int .i64 cl, .bool wt, .string vl, .int .i64 oi, .int .i64 ni] ∧ Below w4.heap.size w4 W8) from ⟨HD.out.1.next hb, HD.out.2.1.next hb, below_next HD.out.2.2 hb⟩); rw [← hW8, ← hb8]; clear hW8 hb8 hb) | (obtain ⟨W8, hW8⟩ : ∃ x, x = X0.alloc (.cells #[.int .i64 0, .slice none 0 0, .slice none 0 0] 29) := ⟨_, rfl⟩; have hb : Below X0.heap.size X0 W8 := hW8 ▸ Go.Joins.below_alloc1 _ _; obtain ⟨b8, hb8⟩ : ∃ b, b = X0.heap.size := ⟨_, rfl⟩; have H8 : Hid (Bx W8 b8 [.int .i64 0, .slice none 0 0, .slice none 0 0] ∧ w4.heap.size ≤ b8) := ⟨hb8 ▸ hW8 ▸ Bx.new X0 [.int .i64 0, .slice none 0 0, .slice none 0 0] _, by rw [hb8]; exact HD.out.2.2.size⟩; (first | (have HO1 := Hid.intro (HO1.out.next hb)) | skip); (first | (have HO2 := Hid.intro (HO2.out.next hb)) | skip); have HD := (show Hid (Bx W8 w.heap.size [.int .i64 ck, .slice a0_1 cp.length k0_1, .slice a0_2 os.length k0_2] ∧ Bx W8 (w.heap.size + 1) [.bool bg, .int .i64 cl, .bool wt, .string vl, .int .i64 oi, .int .i64 ni] ∧ Below w4.heap.size w4 W8) from ⟨HD.out.1.next hb, HD.out.2.1.next hb, below_next HD.out.2.2 hb⟩); rw [← hW8, ← hb8]; clear hW8 hb8 hb))
          refine hK.out _ _ ⟨HD.out.1, HD.out.2.1⟩ (fun hHeld => ?_)
          clear hK KC
          refine ready_call 4 ⟨some 31, Op.call { callee := Callee.value (Operand.func 21), args := #[Operand.tmp 28, Operand.tmp 30], argTypes := #[29, 42] }, _, _, _, none⟩ (by kernel_rfl) rfl (by kernel_rfl) (fun KC hK => ?_)
          go_wp2_with fail
          refine (specStepRegister_l [.int .i64 ck, .slice p1_1 cp.length q1_1, .slice p1_2 os.length q1_2] ck cp os bg cl wt vl oi ni _ CK CP OS z HA.out HS0.out HS1.out HO1.out).mono ?_
          intro r W9 hT
          obtain ⟨cs9, lo, hi, rfl, ho, hlo, hlh, hhi, hb⟩ := ansG_out hT
          obtain ⟨a3_1, k3_1, _, a3_2, k3_2, _, hev, _⟩ := own_Register ho
          subst hev
          have hol : w4.heap.size ≤ lo := Nat.le_trans HD.out.2.2.size hlo
          (first | (have HO9 := (show Hid (Own W9 shRegister [.int .i64 CK, .slice a3_1 CP.length k3_1, .slice a3_2 OS.length k3_2] (CK, CP, OS, ()) (Btw lo hi) ∧ w4.heap.size ≤ lo ∧ lo ≤ hi ∧ hi ≤ W9.heap.size ∧ (b8 < lo ∨ hi ≤ b8)) from ⟨ho, hol, hlh, hhi, Or.inl (Nat.lt_of_lt_of_le H8.out.1.2 hlo)⟩)) | (have HO9 := (show Hid (Own W9 shRegister [.int .i64 CK, .slice a3_1 CP.length k3_1, .slice a3_2 OS.length k3_2] (CK, CP, OS, ()) (Btw lo hi) ∧ w4.heap.size ≤ lo ∧ lo ≤ hi ∧ hi ≤ W9.heap.size) from ⟨ho, hol, hlh, hhi⟩)))
          have HD := (show Hid (Bx W9 w.heap.size [.int .i64 ck, .slice a0_1 cp.length k0_1, .slice a0_2 os.length k0_2] ∧ Bx W9 (w.heap.size + 1) [.bool bg, .int .i64 cl, .bool wt, .string vl, .int .i64 oi, .int .i64 ni] ∧ Below w4.heap.size w4 W9) from ⟨HD.out.1.next hb, HD.out.2.1.next hb, below_next HD.out.2.2 hb⟩)
          (first | (have H8 := (show Hid (Bx W9 b8 [.int .i64 0, .slice none 0 0, .slice none 0 0] ∧ w4.heap.size ≤ b8) from ⟨H8.out.1.next hb, H8.out.2⟩)) | skip)
          clear ho hlo hlh hhi hol hb hT
          refine hK.out _ _ ⟨HD.out.1, HD.out.2.1⟩ (fun hHeld => ?_)
          clear hK KC
          refine take_v (v := ?_) 5 ⟨some 26, Op.move (Operand.tmp 31), _, _, _, none⟩ rfl (fun _ _ _ h => h) ?_ hHeld ?_
          rotate_left
          · (intro W _; go_simp <;> (try with_reducible rfl))
          refine take_v (v := ?_) 6 ⟨some 32, Op.extract (Operand.tmp 26) 0, _, _, _, none⟩ rfl (fun _ _ _ h => h) ?_ hHeld ?_
          rotate_left
          · (intro W _; go_simp <;> (try with_reducible rfl))
          refine take_v (v := ?_) 7 ⟨some 33, Op.extract (Operand.tmp 26) 1, _, _, _, none⟩ rfl (fun _ _ _ h => h) ?_ hHeld ?_
          rotate_left
          · (intro W _; go_simp <;> (try with_reducible rfl))
          refine ready_call 9 ⟨none, Op.store 29 (Operand.tmp 6) (Operand.tmp 32), _, _, _, none⟩ (by kernel_rfl) rfl (by kernel_rfl) (fun KC hK => ?_)
          have dz := H8.out.1.2
          have d0 := H8.out.1.cell 0 rfl
          have d1 := H8.out.1.cell 1 rfl
          have d2 := H8.out.1.cell 2 rfl
          have f0 := H8.out.1.frz 0 (by simp)
          have f1 := H8.out.1.frz 1 (by simp)
          have f2 := H8.out.1.frz 2 (by simp)
          have h8 := H8.out.2
          go_wp2_with fail
          have HF := Hid.intro (box_own3 (o := w4) H8.out.1 H8.out.2 HO9.out.1 HO9.out.2.2.2.2 HD.out.2.2 (.int .i64 CK) (.slice a3_1 CP.length k3_1) (.slice a3_2 OS.length k3_2))
          clear dz d0 f0 d1 f1 d2 f2
          refine hK.out _ _ ⟨(((HD.out.1.other (by omega)).other (by omega)).other (by omega)), (((HD.out.2.1.other (by omega)).other (by omega)).other (by omega))⟩ (fun hHeld => ?_)
          clear hK KC
          refine take_v (v := ?_) 10 ⟨some 7, Op.assign (Operand.tmp 33), _, _, _, none⟩ rfl (fun _ _ _ h => h) ?_ hHeld ?_
          rotate_left
          · (intro W _; go_simp <;> (try with_reducible rfl))
          refine wpAnyH_done (by kernel_rfl) ?_ _
          refine NoPanic.normal ?_
          clear hHeld
          go_wp2_with fail
          go_meet
          exact ⟨b8, a3_1, k3_1, a3_2, k3_2, lo, hi, rfl, rfl, HF.out.1, HF.out.2.1, HO9.out.2.1, HO9.out.2.2.1, by rw [HF.out.2.2.2]; exact HO9.out.2.2.2.1, H8.out.2, by rw [HF.out.2.2.2]; exact H8.out.1.2, HO9.out.2.2.2.2, HF.out.2.2.1⟩
      ·
        go_wp2_with fail
        (first | (obtain ⟨W8, hW8⟩ : ∃ x, x = W9.alloc (.cells #[.int .i64 0, .slice none 0 0, .slice none 0 0] 29) := ⟨_, rfl⟩; have hb : Below W9.heap.size W9 W8 := hW8 ▸ Go.Joins.below_alloc1 _ _; obtain ⟨b8, hb8⟩ : ∃ b, b = W9.heap.size := ⟨_, rfl⟩; have H8 : Hid (Bx W8 b8 [.int .i64 0, .slice none 0 0, .slice none 0 0] ∧ w4.heap.size ≤ b8) := ⟨hb8 ▸ hW8 ▸ Bx.new W9 [.int .i64 0, .slice none 0 0, .slice none 0 0] _, by rw [hb8]; exact HD.out.2.2.size⟩; have HO9 := (show Hid (Own W8 shRegister [.int .i64 CK, .slice a3_1 CP.length k3_1, .slice a3_2 OS.length k3_2] (CK, CP, OS, ()) (Btw lo hi) ∧ w4.heap.size ≤ lo ∧ lo ≤ hi ∧ hi ≤ W8.heap.size ∧ (b8 < lo ∨ hi ≤ b8)) from ⟨HO9.out.1.next hb, HO9.out.2.1, HO9.out.2.2.1, Nat.le_trans HO9.out.2.2.2 hb.size, Or.inr (by rw [hb8]; exact HO9.out.2.2.2)⟩); have HD := (show Hid (Bx W8 w.heap.size [.int .i64 ck, .slice a0_1 cp.length k0_1, .slice a0_2 os.length k0_2] ∧ Bx W8 (w.heap.size + 1) [.bool bg, .int .i64 cl, .bool wt, .string vl, .int .i64 oi, .int .i64 ni] ∧ Below w4.heap.size w4 W8) from ⟨HD.out.1.next hb, HD.out.2.1.next hb, below_next HD.out.2.2 hb⟩); rw [← hW8, ← hb8]; clear hW8 hb8 hb) | (obtain ⟨W8, hW8⟩ : ∃ x, x = W2.alloc (.cells #[.int .i64 0, .slice none 0 0, .slice none 0 0] 29) := ⟨_, rfl⟩; have hb : Below W2.heap.size W2 W8 := hW8 ▸ Go.Joins.below_alloc1 _ _; obtain ⟨b8, hb8⟩ : ∃ b, b = W2.heap.size := ⟨_, rfl⟩; have H8 : Hid (Bx W8 b8 [.int .i64 0, .slice none 0 0, .slice none 0 0] ∧ w4.heap.size ≤ b8) := ⟨hb8 ▸ hW8 ▸ Bx.new W2 [.int .i64 0, .slice none 0 0, .slice none 0 0] _, by rw [hb8]; exact HD.out.2.2.size⟩; (first | (have HO1 := Hid.intro (HO1.out.next hb)) | skip); (first | (have HO2 := Hid.intro (HO2.out.next hb)) | skip); have HD := (show Hid (Bx W8 w.heap.size [.int .i64 ck, .slice a0_1 cp.length k0_1, .slice a0_2 os.length k0_2] ∧ Bx W8 (w.heap.size + 1) [.bool bg, .int .i64 cl, .bool wt, .string vl, .int .i64 oi, .int .i64 ni] ∧ Below w4.heap.size w4 W8) from ⟨HD.out.1.next hb, HD.out.2.1.next hb, below_next HD.out.2.2 hb⟩); rw [← hW8, ← hb8]; clear hW8 hb8 hb) | (obtain ⟨W8, hW8⟩ : ∃ x, x = W1.alloc (.cells #[.int .i64 0, .slice none 0 0, .slice none 0 0] 29) := ⟨_, rfl⟩; have hb : Below W1.heap.size W1 W8 := hW8 ▸ Go.Joins.below_alloc1 _ _; obtain ⟨b8, hb8⟩ : ∃ b, b = W1.heap.size := ⟨_, rfl⟩; have H8 : Hid (Bx W8 b8 [.int .i64 0, .slice none 0 0, .slice none 0 0] ∧ w4.heap.size ≤ b8) := ⟨hb8 ▸ hW8 ▸ Bx.new W1 [.int .i64 0, .slice none 0 0, .slice none 0 0] _, by rw [hb8]; exact HD.out.2.2.size⟩; (first | (have HO1 := Hid.intro (HO1.out.next hb)) | skip); (first | (have HO2 := Hid.intro (HO2.out.next hb)) | skip); have HD := (show Hid (Bx W8 w.heap.size [.int .i64 ck, .slice a0_1 cp.length k0_1, .slice a0_2 os.length k0_2] ∧ Bx W8 (w.heap.size + 1) [.bool bg, .int .i64 cl, .bool wt, .string vl, .int .i64 oi, .int .i64 ni] ∧ Below w4.heap.size w4 W8) from ⟨HD.out.1.next hb, HD.out.2.1.next hb, below_next HD.out.2.2 hb⟩); rw [← hW8, ← hb8]; clear hW8 hb8 hb) | (obtain ⟨W8, hW8⟩ : ∃ x, x = X0.alloc (.cells #[.int .i64 0, .slice none 0 0, .slice none 0 0] 29) := ⟨_, rfl⟩; have hb : Below X0.heap.size X0 W8 := hW8 ▸ Go.Joins.below_alloc1 _ _; obtain ⟨b8, hb8⟩ : ∃ b, b = X0.heap.size := ⟨_, rfl⟩; have H8 : Hid (Bx W8 b8 [.int .i64 0, .slice none 0 0, .slice none 0 0] ∧ w4.heap.size ≤ b8) := ⟨hb8 ▸ hW8 ▸ Bx.new X0 [.int .i64 0, .slice none 0 0, .slice none 0 0] _, by rw [hb8]; exact HD.out.2.2.size⟩; (first | (have HO1 := Hid.intro (HO1.out.next hb)) | skip); (first | (have HO2 := Hid.intro (HO2.out.next hb)) | skip); have HD := (show Hid (Bx W8 w.heap.size [.int .i64 ck, .slice a0_1 cp.length k0_1, .slice a0_2 os.length k0_2] ∧ Bx W8 (w.heap.size + 1) [.bool bg, .int .i64 cl, .bool wt, .string vl, .int .i64 oi, .int .i64 ni] ∧ Below w4.heap.size w4 W8) from ⟨HD.out.1.next hb, HD.out.2.1.next hb, below_next HD.out.2.2 hb⟩); rw [← hW8, ← hb8]; clear hW8 hb8 hb))
        refine hK.out _ _ ⟨HD.out.1, HD.out.2.1⟩ (fun hHeld => ?_)
        clear hK KC
        refine ready_call 3 ⟨some 30, Op.call { callee := Callee.value (Operand.func 31), args := #[Operand.tmp 29], argTypes := #[66] }, _, _, _, none⟩ (by kernel_rfl) rfl (by kernel_rfl) (fun KC hK => ?_)
        go_wp2_with fail
        refine (toRegStep_n [.bool bg, .int .i64 cl, .bool wt, .string vl, .int .i64 oi, .int .i64 ni] bg cl wt vl oi ni _ HS1.out (HL1.out.next (below_next HB4.out HD.out.2.2))).mono ?_
        rintro r W2 ⟨cs9, rfl, ho, hb⟩
        obtain hev := own_RegStep ho
        subst hev
        (first | (have HO1 := Hid.intro (HO1.out.next hb)) | skip); (first | (have HO2 := Hid.intro (HO2.out.next hb)) | skip)
        have HO2 := Hid.intro ho.lies
        have HD := (show Hid (Bx W2 w.heap.size [.int .i64 ck, .slice a0_1 cp.length k0_1, .slice a0_2 os.length k0_2] ∧ Bx W2 (w.heap.size + 1) [.bool bg, .int .i64 cl, .bool wt, .string vl, .int .i64 oi, .int .i64 ni] ∧ Below w4.heap.size w4 W2) from ⟨HD.out.1.next hb, HD.out.2.1.next hb, below_next HD.out.2.2 hb⟩)
        (first | (have H8 := (show Hid (Bx W2 b8 [.int .i64 0, .slice none 0 0, .slice none 0 0] ∧ w4.heap.size ≤ b8) from ⟨H8.out.1.next hb, H8.out.2⟩)) | skip)
        clear ho hb
        refine hK.out _ _ ⟨HD.out.1, HD.out.2.1⟩ (fun hHeld => ?_)
        clear hK KC
        refine ready_call 4 ⟨some 31, Op.call { callee := Callee.value (Operand.func 21), args := #[Operand.tmp 28, Operand.tmp 30], argTypes := #[29, 42] }, _, _, _, none⟩ (by kernel_rfl) rfl (by kernel_rfl) (fun KC hK => ?_)
        go_wp2_with fail
        refine (specStepRegister_l [.int .i64 ck, .slice p1_1 cp.length q1_1, .slice p1_2 os.length q1_2] ck cp os bg cl wt vl oi ni _ CK CP OS z HA.out HS0.out HS1.out HO1.out).mono ?_
        intro r W9 hT
        obtain ⟨cs9, lo, hi, rfl, ho, hlo, hlh, hhi, hb⟩ := ansG_out hT
        obtain ⟨a3_1, k3_1, _, a3_2, k3_2, _, hev, _⟩ := own_Register ho
        subst hev
        have hol : w4.heap.size ≤ lo := Nat.le_trans HD.out.2.2.size hlo
        (first | (have HO9 := (show Hid (Own W9 shRegister [.int .i64 CK, .slice a3_1 CP.length k3_1, .slice a3_2 OS.length k3_2] (CK, CP, OS, ()) (Btw lo hi) ∧ w4.heap.size ≤ lo ∧ lo ≤ hi ∧ hi ≤ W9.heap.size ∧ (b8 < lo ∨ hi ≤ b8)) from ⟨ho, hol, hlh, hhi, Or.inl (Nat.lt_of_lt_of_le H8.out.1.2 hlo)⟩)) | (have HO9 := (show Hid (Own W9 shRegister [.int .i64 CK, .slice a3_1 CP.length k3_1, .slice a3_2 OS.length k3_2] (CK, CP, OS, ()) (Btw lo hi) ∧ w4.heap.size ≤ lo ∧ lo ≤ hi ∧ hi ≤ W9.heap.size) from ⟨ho, hol, hlh, hhi⟩)))
        have HD := (show Hid (Bx W9 w.heap.size [.int .i64 ck, .slice a0_1 cp.length k0_1, .slice a0_2 os.length k0_2] ∧ Bx W9 (w.heap.size + 1) [.bool bg, .int .i64 cl, .bool wt, .string vl, .int .i64 oi, .int .i64 ni] ∧ Below w4.heap.size w4 W9) from ⟨HD.out.1.next hb, HD.out.2.1.next hb, below_next HD.out.2.2 hb⟩)
        (first | (have H8 := (show Hid (Bx W9 b8 [.int .i64 0, .slice none 0 0, .slice none 0 0] ∧ w4.heap.size ≤ b8) from ⟨H8.out.1.next hb, H8.out.2⟩)) | skip)
        clear ho hlo hlh hhi hol hb hT
        refine hK.out _ _ ⟨HD.out.1, HD.out.2.1⟩ (fun hHeld => ?_)
        clear hK KC
        refine take_v (v := ?_) 5 ⟨some 26, Op.move (Operand.tmp 31), _, _, _, none⟩ rfl (fun _ _ _ h => h) ?_ hHeld ?_
        rotate_left
        · (intro W _; go_simp <;> (try with_reducible rfl))
        refine take_v (v := ?_) 6 ⟨some 32, Op.extract (Operand.tmp 26) 0, _, _, _, none⟩ rfl (fun _ _ _ h => h) ?_ hHeld ?_
        rotate_left
        · (intro W _; go_simp <;> (try with_reducible rfl))
        refine take_v (v := ?_) 7 ⟨some 33, Op.extract (Operand.tmp 26) 1, _, _, _, none⟩ rfl (fun _ _ _ h => h) ?_ hHeld ?_
        rotate_left
        · (intro W _; go_simp <;> (try with_reducible rfl))
        refine ready_call 9 ⟨none, Op.store 29 (Operand.tmp 6) (Operand.tmp 32), _, _, _, none⟩ (by kernel_rfl) rfl (by kernel_rfl) (fun KC hK => ?_)
        have dz := H8.out.1.2
        have d0 := H8.out.1.cell 0 rfl
        have d1 := H8.out.1.cell 1 rfl
        have d2 := H8.out.1.cell 2 rfl
        have f0 := H8.out.1.frz 0 (by simp)
        have f1 := H8.out.1.frz 1 (by simp)
        have f2 := H8.out.1.frz 2 (by simp)
        have h8 := H8.out.2
        go_wp2_with fail
        have HF := Hid.intro (box_own3 (o := w4) H8.out.1 H8.out.2 HO9.out.1 HO9.out.2.2.2.2 HD.out.2.2 (.int .i64 CK) (.slice a3_1 CP.length k3_1) (.slice a3_2 OS.length k3_2))
        clear dz d0 f0 d1 f1 d2 f2
        refine hK.out _ _ ⟨(((HD.out.1.other (by omega)).other (by omega)).other (by omega)), (((HD.out.2.1.other (by omega)).other (by omega)).other (by omega))⟩ (fun hHeld => ?_)
        clear hK KC
        refine take_v (v := ?_) 10 ⟨some 7, Op.assign (Operand.tmp 33), _, _, _, none⟩ rfl (fun _ _ _ h => h) ?_ hHeld ?_
        rotate_left
        · (intro W _; go_simp <;> (try with_reducible rfl))
        refine wpAnyH_done (by kernel_rfl) ?_ _
        refine NoPanic.normal ?_
        clear hHeld
        go_wp2_with fail
        go_meet
        exact ⟨b8, a3_1, k3_1, a3_2, k3_2, lo, hi, rfl, rfl, HF.out.1, HF.out.2.1, HO9.out.2.1, HO9.out.2.2.1, by rw [HF.out.2.2.2]; exact HO9.out.2.2.2.1, H8.out.2, by rw [HF.out.2.2.2]; exact H8.out.1.2, HO9.out.2.2.2.2, HF.out.2.2.1⟩
    ·
      go_wp2_with fail
      (first | (obtain ⟨W8, hW8⟩ : ∃ x, x = W9.alloc (.cells #[.int .i64 0, .slice none 0 0, .slice none 0 0] 29) := ⟨_, rfl⟩; have hb : Below W9.heap.size W9 W8 := hW8 ▸ Go.Joins.below_alloc1 _ _; obtain ⟨b8, hb8⟩ : ∃ b, b = W9.heap.size := ⟨_, rfl⟩; have H8 : Hid (Bx W8 b8 [.int .i64 0, .slice none 0 0, .slice none 0 0] ∧ w4.heap.size ≤ b8) := ⟨hb8 ▸ hW8 ▸ Bx.new W9 [.int .i64 0, .slice none 0 0, .slice none 0 0] _, by rw [hb8]; exact HD.out.2.2.size⟩; have HO9 := (show Hid (Own W8 shRegister [.int .i64 CK, .slice a3_1 CP.length k3_1, .slice a3_2 OS.length k3_2] (CK, CP, OS, ()) (Btw lo hi) ∧ w4.heap.size ≤ lo ∧ lo ≤ hi ∧ hi ≤ W8.heap.size ∧ (b8 < lo ∨ hi ≤ b8)) from ⟨HO9.out.1.next hb, HO9.out.2.1, HO9.out.2.2.1, Nat.le_trans HO9.out.2.2.2 hb.size, Or.inr (by rw [hb8]; exact HO9.out.2.2.2)⟩); have HD := (show Hid (Bx W8 w.heap.size [.int .i64 ck, .slice a0_1 cp.length k0_1, .slice a0_2 os.length k0_2] ∧ Bx W8 (w.heap.size + 1) [.bool bg, .int .i64 cl, .bool wt, .string vl, .int .i64 oi, .int .i64 ni] ∧ Below w4.heap.size w4 W8) from ⟨HD.out.1.next hb, HD.out.2.1.next hb, below_next HD.out.2.2 hb⟩); rw [← hW8, ← hb8]; clear hW8 hb8 hb) | (obtain ⟨W8, hW8⟩ : ∃ x, x = W2.alloc (.cells #[.int .i64 0, .slice none 0 0, .slice none 0 0] 29) := ⟨_, rfl⟩; have hb : Below W2.heap.size W2 W8 := hW8 ▸ Go.Joins.below_alloc1 _ _; obtain ⟨b8, hb8⟩ : ∃ b, b = W2.heap.size := ⟨_, rfl⟩; have H8 : Hid (Bx W8 b8 [.int .i64 0, .slice none 0 0, .slice none 0 0] ∧ w4.heap.size ≤ b8) := ⟨hb8 ▸ hW8 ▸ Bx.new W2 [.int .i64 0, .slice none 0 0, .slice none 0 0] _, by rw [hb8]; exact HD.out.2.2.size⟩; (first | (have HO1 := Hid.intro (HO1.out.next hb)) | skip); (first | (have HO2 := Hid.intro (HO2.out.next hb)) | skip); have HD := (show Hid (Bx W8 w.heap.size [.int .i64 ck, .slice a0_1 cp.length k0_1, .slice a0_2 os.length k0_2] ∧ Bx W8 (w.heap.size + 1) [.bool bg, .int .i64 cl, .bool wt, .string vl, .int .i64 oi, .int .i64 ni] ∧ Below w4.heap.size w4 W8) from ⟨HD.out.1.next hb, HD.out.2.1.next hb, below_next HD.out.2.2 hb⟩); rw [← hW8, ← hb8]; clear hW8 hb8 hb) | (obtain ⟨W8, hW8⟩ : ∃ x, x = W1.alloc (.cells #[.int .i64 0, .slice none 0 0, .slice none 0 0] 29) := ⟨_, rfl⟩; have hb : Below W1.heap.size W1 W8 := hW8 ▸ Go.Joins.below_alloc1 _ _; obtain ⟨b8, hb8⟩ : ∃ b, b = W1.heap.size := ⟨_, rfl⟩; have H8 : Hid (Bx W8 b8 [.int .i64 0, .slice none 0 0, .slice none 0 0] ∧ w4.heap.size ≤ b8) := ⟨hb8 ▸ hW8 ▸ Bx.new W1 [.int .i64 0, .slice none 0 0, .slice none 0 0] _, by rw [hb8]; exact HD.out.2.2.size⟩; (first | (have HO1 := Hid.intro (HO1.out.next hb)) | skip); (first | (have HO2 := Hid.intro (HO2.out.next hb)) | skip); have HD := (show Hid (Bx W8 w.heap.size [.int .i64 ck, .slice a0_1 cp.length k0_1, .slice a0_2 os.length k0_2] ∧ Bx W8 (w.heap.size + 1) [.bool bg, .int .i64 cl, .bool wt, .string vl, .int .i64 oi, .int .i64 ni] ∧ Below w4.heap.size w4 W8) from ⟨HD.out.1.next hb, HD.out.2.1.next hb, below_next HD.out.2.2 hb⟩); rw [← hW8, ← hb8]; clear hW8 hb8 hb) | (obtain ⟨W8, hW8⟩ : ∃ x, x = X0.alloc (.cells #[.int .i64 0, .slice none 0 0, .slice none 0 0] 29) := ⟨_, rfl⟩; have hb : Below X0.heap.size X0 W8 := hW8 ▸ Go.Joins.below_alloc1 _ _; obtain ⟨b8, hb8⟩ : ∃ b, b = X0.heap.size := ⟨_, rfl⟩; have H8 : Hid (Bx W8 b8 [.int .i64 0, .slice none 0 0, .slice none 0 0] ∧ w4.heap.size ≤ b8) := ⟨hb8 ▸ hW8 ▸ Bx.new X0 [.int .i64 0, .slice none 0 0, .slice none 0 0] _, by rw [hb8]; exact HD.out.2.2.size⟩; (first | (have HO1 := Hid.intro (HO1.out.next hb)) | skip); (first | (have HO2 := Hid.intro (HO2.out.next hb)) | skip); have HD := (show Hid (Bx W8 w.heap.size [.int .i64 ck, .slice a0_1 cp.length k0_1, .slice a0_2 os.length k0_2] ∧ Bx W8 (w.heap.size + 1) [.bool bg, .int .i64 cl, .bool wt, .string vl, .int .i64 oi, .int .i64 ni] ∧ Below w4.heap.size w4 W8) from ⟨HD.out.1.next hb, HD.out.2.1.next hb, below_next HD.out.2.2 hb⟩); rw [← hW8, ← hb8]; clear hW8 hb8 hb))
      refine hK.out _ _ ⟨HD.out.1, HD.out.2.1⟩ (fun hHeld => ?_)
      clear hK KC
      refine ready_call 1 ⟨some 28, Op.call { callee := Callee.value (Operand.func 29), args := #[Operand.tmp 27], argTypes := #[62] }, _, _, _, none⟩ (by kernel_rfl) rfl (by kernel_rfl) (fun KC hK => ?_)
      go_wp2_with fail
      refine (toRegister_n [.int .i64 ck, .slice a0_1 cp.length k0_1, .slice a0_2 os.length k0_2] ck cp os _ HS0.out (HL0.out.next (below_next HB4.out HD.out.2.2))).mono ?_
      rintro r W1 ⟨cs9, rfl, ho, hb⟩
      obtain ⟨p1_1, q1_1, _, p1_2, q1_2, _, hev, _⟩ := own_Register ho
      subst hev
      (first | (have HO1 := Hid.intro (HO1.out.next hb)) | skip); (first | (have HO2 := Hid.intro (HO2.out.next hb)) | skip)
      have HO1 := Hid.intro ho.lies
      have HD := (show Hid (Bx W1 w.heap.size [.int .i64 ck, .slice a0_1 cp.length k0_1, .slice a0_2 os.length k0_2] ∧ Bx W1 (w.heap.size + 1) [.bool bg, .int .i64 cl, .bool wt, .string vl, .int .i64 oi, .int .i64 ni] ∧ Below w4.heap.size w4 W1) from ⟨HD.out.1.next hb, HD.out.2.1.next hb, below_next HD.out.2.2 hb⟩)
      (first | (have H8 := (show Hid (Bx W1 b8 [.int .i64 0, .slice none 0 0, .slice none 0 0] ∧ w4.heap.size ≤ b8) from ⟨H8.out.1.next hb, H8.out.2⟩)) | skip)
      clear ho hb
      refine hK.out _ _ ⟨HD.out.1, HD.out.2.1⟩ (fun hHeld => ?_)
      clear hK KC
      refine ready_call 3 ⟨some 30, Op.call { callee := Callee.value (Operand.func 31), args := #[Operand.tmp 29], argTypes := #[66] }, _, _, _, none⟩ (by kernel_rfl) rfl (by kernel_rfl) (fun KC hK => ?_)
      go_wp2_with fail
      refine (toRegStep_n [.bool bg, .int .i64 cl, .bool wt, .string vl, .int .i64 oi, .int .i64 ni] bg cl wt vl oi ni _ HS1.out (HL1.out.next (below_next HB4.out HD.out.2.2))).mono ?_
      rintro r W2 ⟨cs9, rfl, ho, hb⟩
      obtain hev := own_RegStep ho
      subst hev
      (first | (have HO1 := Hid.intro (HO1.out.next hb)) | skip); (first | (have HO2 := Hid.intro (HO2.out.next hb)) | skip)
      have HO2 := Hid.intro ho.lies
      have HD := (show Hid (Bx W2 w.heap.size [.int .i64 ck, .slice a0_1 cp.length k0_1, .slice a0_2 os.length k0_2] ∧ Bx W2 (w.heap.size + 1) [.bool bg, .int .i64 cl, .bool wt, .string vl, .int .i64 oi, .int .i64 ni] ∧ Below w4.heap.size w4 W2) from ⟨HD.out.1.next hb, HD.out.2.1.next hb, below_next HD.out.2.2 hb⟩)
      (first | (have H8 := (show Hid (Bx W2 b8 [.int .i64 0, .slice none 0 0, .slice none 0 0] ∧ w4.heap.size ≤ b8) from ⟨H8.out.1.next hb, H8.out.2⟩)) | skip)
      clear ho hb
      refine hK.out _ _ ⟨HD.out.1, HD.out.2.1⟩ (fun hHeld => ?_)
      clear hK KC
      refine ready_call 4 ⟨some 31, Op.call { callee := Callee.value (Operand.func 21), args := #[Operand.tmp 28, Operand.tmp 30], argTypes := #[29, 42] }, _, _, _, none⟩ (by kernel_rfl) rfl (by kernel_rfl) (fun KC hK => ?_)
      go_wp2_with fail
      refine (specStepRegister_l [.int .i64 ck, .slice p1_1 cp.length q1_1, .slice p1_2 os.length q1_2] ck cp os bg cl wt vl oi ni _ CK CP OS z HA.out HS0.out HS1.out HO1.out).mono ?_
      intro r W9 hT
      obtain ⟨cs9, lo, hi, rfl, ho, hlo, hlh, hhi, hb⟩ := ansG_out hT
      obtain ⟨a3_1, k3_1, _, a3_2, k3_2, _, hev, _⟩ := own_Register ho
      subst hev
      have hol : w4.heap.size ≤ lo := Nat.le_trans HD.out.2.2.size hlo
      (first | (have HO9 := (show Hid (Own W9 shRegister [.int .i64 CK, .slice a3_1 CP.length k3_1, .slice a3_2 OS.length k3_2] (CK, CP, OS, ()) (Btw lo hi) ∧ w4.heap.size ≤ lo ∧ lo ≤ hi ∧ hi ≤ W9.heap.size ∧ (b8 < lo ∨ hi ≤ b8)) from ⟨ho, hol, hlh, hhi, Or.inl (Nat.lt_of_lt_of_le H8.out.1.2 hlo)⟩)) | (have HO9 := (show Hid (Own W9 shRegister [.int .i64 CK, .slice a3_1 CP.length k3_1, .slice a3_2 OS.length k3_2] (CK, CP, OS, ()) (Btw lo hi) ∧ w4.heap.size ≤ lo ∧ lo ≤ hi ∧ hi ≤ W9.heap.size) from ⟨ho, hol, hlh, hhi⟩)))
      have HD := (show Hid (Bx W9 w.heap.size [.int .i64 ck, .slice a0_1 cp.length k0_1, .slice a0_2 os.length k0_2] ∧ Bx W9 (w.heap.size + 1) [.bool bg, .int .i64 cl, .bool wt, .string vl, .int .i64 oi, .int .i64 ni] ∧ Below w4.heap.size w4 W9) from ⟨HD.out.1.next hb, HD.out.2.1.next hb, below_next HD.out.2.2 hb⟩)
      (first | (have H8 := (show Hid (Bx W9 b8 [.int .i64 0, .slice none 0 0, .slice none 0 0] ∧ w4.heap.size ≤ b8) from ⟨H8.out.1.next hb, H8.out.2⟩)) | skip)
      clear ho hlo hlh hhi hol hb hT
      refine hK.out _ _ ⟨HD.out.1, HD.out.2.1⟩ (fun hHeld => ?_)
      clear hK KC
      refine take_v (v := ?_) 5 ⟨some 26, Op.move (Operand.tmp 31), _, _, _, none⟩ rfl (fun _ _ _ h => h) ?_ hHeld ?_
      rotate_left
      · (intro W _; go_simp <;> (try with_reducible rfl))
      refine take_v (v := ?_) 6 ⟨some 32, Op.extract (Operand.tmp 26) 0, _, _, _, none⟩ rfl (fun _ _ _ h => h) ?_ hHeld ?_
      rotate_left
      · (intro W _; go_simp <;> (try with_reducible rfl))
      refine take_v (v := ?_) 7 ⟨some 33, Op.extract (Operand.tmp 26) 1, _, _, _, none⟩ rfl (fun _ _ _ h => h) ?_ hHeld ?_
      rotate_left
      · (intro W _; go_simp <;> (try with_reducible rfl))
      refine ready_call 9 ⟨none, Op.store 29 (Operand.tmp 6) (Operand.tmp 32), _, _, _, none⟩ (by kernel_rfl) rfl (by kernel_rfl) (fun KC hK => ?_)
      have dz := H8.out.1.2
      have d0 := H8.out.1.cell 0 rfl
      have d1 := H8.out.1.cell 1 rfl
      have d2 := H8.out.1.cell 2 rfl
      have f0 := H8.out.1.frz 0 (by simp)
      have f1 := H8.out.1.frz 1 (by simp)
      have f2 := H8.out.1.frz 2 (by simp)
      have h8 := H8.out.2
      go_wp2_with fail
      have HF := Hid.intro (box_own3 (o := w4) H8.out.1 H8.out.2 HO9.out.1 HO9.out.2.2.2.2 HD.out.2.2 (.int .i64 CK) (.slice a3_1 CP.length k3_1) (.slice a3_2 OS.length k3_2))
      clear dz d0 f0 d1 f1 d2 f2
      refine hK.out _ _ ⟨(((HD.out.1.other (by omega)).other (by omega)).other (by omega)), (((HD.out.2.1.other (by omega)).other (by omega)).other (by omega))⟩ (fun hHeld => ?_)
      clear hK KC
      refine take_v (v := ?_) 10 ⟨some 7, Op.assign (Operand.tmp 33), _, _, _, none⟩ rfl (fun _ _ _ h => h) ?_ hHeld ?_
      rotate_left
      · (intro W _; go_simp <;> (try with_reducible rfl))
      refine wpAnyH_done (by kernel_rfl) ?_ _
      refine NoPanic.normal ?_
      clear hHeld
      go_wp2_with fail
      go_meet
      exact ⟨b8, a3_1, k3_1, a3_2, k3_2, lo, hi, rfl, rfl, HF.out.1, HF.out.2.1, HO9.out.2.1, HO9.out.2.2.1, by rw [HF.out.2.2.2]; exact HO9.out.2.2.2.1, H8.out.2, by rw [HF.out.2.2.2]; exact H8.out.1.2, HO9.out.2.2.2.2, HF.out.2.2.1⟩
  obtain ⟨b5, p5_1, q5_1, p5_2, q5_2, lo5, hi5, rfl, rfl, hbx, ho, hlo5, hlh5, hhi5, hbo5, hbb5, hbd5, hb⟩ := hcut
  obtain ⟨w5, hwd⟩ : ∃ x, x = wc := ⟨_, rfl⟩
  subst hwd
  have HB5 : Hid (Below w.heap.size w w5) := below_next HB4.out hb
  have sz5 : w4.heap.size ≤ w5.heap.size := hb.size
  have A0_5 : Hid (Bx w5 w.heap.size [.int .i64 ck, .slice a0_1 cp.length k0_1, .slice a0_2 os.length k0_2]) := A0_4.out.next hb
  have A1_5 : Hid (Bx w5 (w.heap.size + 1) [.bool bg, .int .i64 cl, .bool wt, .string vl, .int .i64 oi, .int .i64 ni]) := A1_4.out.next hb
  have W_5 : Hid (Bx w5 b5 [.int .i64 CK, .slice p5_1 CP.length q5_1, .slice p5_2 OS.length q5_2]) := hbx
  have SP_5 : Hid (Own w5 shRegister [.int .i64 CK, .slice p5_1 CP.length q5_1, .slice p5_2 OS.length q5_2] (CK, CP, OS, ()) (Btw lo5 hi5)) := ho
  clear hb hbx ho A0_4 A1_4 HB4
  have cA00 := A0_5.out.cell 0 rfl
  have cA01 := A0_5.out.cell 1 rfl
  have cA02 := A0_5.out.cell 2 rfl
  have zA0 := A0_5.out.2
  go_wp2_with fail
  refine (toRegister_n [.int .i64 ck, .slice a0_1 cp.length k0_1, .slice a0_2 os.length k0_2] ck cp os _ HS0.out (HL0.out.next HB5.out)).mono ?_
  rintro r w6 ⟨cs9, rfl, ho, hb⟩
  obtain ⟨p6_1, q6_1, _, p6_2, q6_2, _, hev, _⟩ := own_Register ho
  subst hev
  have HB6 : Hid (Below w.heap.size w w6) := below_next HB5.out hb
  have sz6 : w5.heap.size ≤ w6.heap.size := hb.size
  have A0_6 : Hid (Bx w6 w.heap.size [.int .i64 ck, .slice a0_1 cp.length k0_1, .slice a0_2 os.length k0_2]) := A0_5.out.next hb
  have A1_6 : Hid (Bx w6 (w.heap.size + 1) [.bool bg, .int .i64 cl, .bool wt, .string vl, .int .i64 oi, .int .i64 ni]) := A1_5.out.next hb
  have W_6 : Hid (Bx w6 b5 [.int .i64 CK, .slice p5_1 CP.length q5_1, .slice p5_2 OS.length q5_2]) := W_5.out.next hb
  have SP_6 : Hid (Own w6 shRegister [.int .i64 CK, .slice p5_1 CP.length q5_1, .slice p5_2 OS.length q5_2] (CK, CP, OS, ()) (Btw lo5 hi5)) := SP_5.out.next hb
  have P_6 : Hid (Own w6 shRegister [.int .i64 ck, .slice p6_1 cp.length q6_1, .slice p6_2 os.length q6_2] (ck, cp, os, ()) (Btw w5.heap.size w6.heap.size)) := ho
  clear hb ho cA00 cA01 cA02 zA0 A0_5 A1_5 W_5 SP_5 HB5
  go_wp2_with fail
  obtain ⟨w7, hw7⟩ : ∃ x, x = w6.alloc (.cells #[.int .i64 ck, .slice p6_1 cp.length q6_1, .slice p6_2 os.length q6_2] 29) := ⟨_, rfl⟩
  have hb : Below w6.heap.size w6 w7 := hw7 ▸ Go.Joins.below_alloc1 _ _
  have HB7 : Hid (Below w.heap.size w w7) := below_next HB6.out hb
  have sz7 : w6.heap.size < w7.heap.size := by rw [hw7]; simp
  have A0_7 : Hid (Bx w7 w.heap.size [.int .i64 ck, .slice a0_1 cp.length k0_1, .slice a0_2 os.length k0_2]) := A0_6.out.next hb
  have A1_7 : Hid (Bx w7 (w.heap.size + 1) [.bool bg, .int .i64 cl, .bool wt, .string vl, .int .i64 oi, .int .i64 ni]) := A1_6.out.next hb
  have W_7 : Hid (Bx w7 b5 [.int .i64 CK, .slice p5_1 CP.length q5_1, .slice p5_2 OS.length q5_2]) := W_6.out.next hb
  have SP_7 : Hid (Own w7 shRegister [.int .i64 CK, .slice p5_1 CP.length q5_1, .slice p5_2 OS.length q5_2] (CK, CP, OS, ()) (Btw lo5 hi5)) := SP_6.out.next hb
  have P_7 : Hid (Own w7 shRegister [.int .i64 ck, .slice p6_1 cp.length q6_1, .slice p6_2 os.length q6_2] (ck, cp, os, ()) (Btw w5.heap.size w6.heap.size)) := P_6.out.next hb
  have U0_7 : Hid (Bx w7 w6.heap.size [.int .i64 ck, .slice p6_1 cp.length q6_1, .slice p6_2 os.length q6_2]) := hw7 ▸ Bx.new w6 [.int .i64 ck, .slice p6_1 cp.length q6_1, .slice p6_2 os.length q6_2] _
  rw [← hw7]
  clear hb hw7 A0_6 A1_6 W_6 SP_6 P_6 HB6
  go_upto_region 10 with fail
  go_cut [9, 10] (fun s9 s10 wx => ∃ (b : Nat) (a3_1 : Option Addr) (k3_1 : Nat) (a3_2 : Option Addr) (k3_2 : Nat) (lo hi : Nat), s9 = .pointer (some ⟨b, 0, none⟩) ∧ s10 = .bool z ∧ Bx wx b [.int .i64 CK, .slice a3_1 CP.length k3_1, .slice a3_2 OS.length k3_2] ∧ Own wx shRegister [.int .i64 CK, .slice a3_1 CP.length k3_1, .slice a3_2 OS.length k3_2] (CK, CP, OS, ()) (Btw lo hi) ∧ w7.heap.size ≤ lo ∧ lo ≤ hi ∧ hi ≤ wx.heap.size ∧ w7.heap.size ≤ b ∧ b < wx.heap.size ∧ (b < lo ∨ hi ≤ b) ∧ Below w7.heap.size w7 wx)
  case first =>
    have hb : Below w7.heap.size w7 w7.drew := below_drew _
    have HD : Hid (Bx w7.drew w6.heap.size [.int .i64 ck, .slice p6_1 cp.length q6_1, .slice p6_2 os.length q6_2] ∧ Bx w7.drew (w.heap.size + 1) [.bool bg, .int .i64 cl, .bool wt, .string vl, .int .i64 oi, .int .i64 ni] ∧ Below w7.heap.size w7 w7.drew) := ⟨U0_7.out.next hb, A1_7.out.next hb, hb⟩
    have HO0 := Hid.intro (P_7.out.lies.next hb)
    clear hb
    refine wp_region_noPanic ?_
    refine wp_region_held_drew (S := fun W => Bx W w6.heap.size [.int .i64 ck, .slice p6_1 cp.length q6_1, .slice p6_2 os.length q6_2] ∧ Bx W (w.heap.size + 1) [.bool bg, .int .i64 cl, .bool wt, .string vl, .int .i64 oi, .int .i64 ni]) (by kernel_rfl) ⟨HD.out.1, HD.out.2.1⟩ (fun hHeld => ?_)
    obtain ⟨X0, hX0⟩ : ∃ x, x = w7.drew := ⟨_, rfl⟩
    rw [← hX0] at HD HO0 hHeld ⊢
    clear hX0
    refine take_v (v := ?_) 0 ⟨some 37, Op.load 29 (Operand.tmp 8), _, _, _, none⟩ rfl (fun _ _ _ h => h) ?_ hHeld ?_
    rotate_left
    · (intro W hSW; (have s0_0 := hSW.1.cell 0 rfl; have s0_1 := hSW.1.cell 1 rfl; have s0_2 := hSW.1.cell 2 rfl; have s0z := hSW.1.2; have s1_0 := hSW.2.cell 0 rfl; have s1_1 := hSW.2.cell 1 rfl; have s1_2 := hSW.2.cell 2 rfl; have s1_3 := hSW.2.cell 3 rfl; have s1_4 := hSW.2.cell 4 rfl; have s1_5 := hSW.2.cell 5 rfl; have s1z := hSW.2.2); go_simp <;> (try with_reducible rfl))
    refine take_v (v := ?_) 1 ⟨some 38, Op.load 66 (Operand.tmp 3), _, _, _, none⟩ rfl (fun _ _ _ h => h) ?_ hHeld ?_
    rotate_left
    · (intro W hSW; (have s0_0 := hSW.1.cell 0 rfl; have s0_1 := hSW.1.cell 1 rfl; have s0_2 := hSW.1.cell 2 rfl; have s0z := hSW.1.2; have s1_0 := hSW.2.cell 0 rfl; have s1_1 := hSW.2.cell 1 rfl; have s1_2 := hSW.2.cell 2 rfl; have s1_3 := hSW.2.cell 3 rfl; have s1_4 := hSW.2.cell 4 rfl; have s1_5 := hSW.2.cell 5 rfl; have s1z := hSW.2.2); go_simp <;> (try with_reducible rfl))
    refine ready_two 2 7 ⟨some 39, Op.call { callee := Callee.value (Operand.func 31), args := #[Operand.tmp 38], argTypes := #[66] }, _, _, _, none⟩ ⟨some 9, Op.alloc 29, _, _, _, none⟩ (by kernel_rfl) rfl rfl (by kernel_rfl) (by kernel_rfl) (fun KC hK => ?_) (fun KC hK => ?_)
    ·
      go_wp2_with fail
      refine (toRegStep_n [.bool bg, .int .i64 cl, .bool wt, .string vl, .int .i64 oi, .int .i64 ni] bg cl wt vl oi ni _ HS1.out (HL1.out.next (below_next HB7.out HD.out.2.2))).mono ?_
      rintro r W1 ⟨cs9, rfl, ho, hb⟩
      obtain hev := own_RegStep ho
      subst hev
      (first | (have HO0 := Hid.intro (HO0.out.next hb)) | skip); (first | (have HO1 := Hid.intro (HO1.out.next hb)) | skip)
      have HO1 := Hid.intro ho.lies
      have HD := (show Hid (Bx W1 w6.heap.size [.int .i64 ck, .slice p6_1 cp.length q6_1, .slice p6_2 os.length q6_2] ∧ Bx W1 (w.heap.size + 1) [.bool bg, .int .i64 cl, .bool wt, .string vl, .int .i64 oi, .int .i64 ni] ∧ Below w7.heap.size w7 W1) from ⟨HD.out.1.next hb, HD.out.2.1.next hb, below_next HD.out.2.2 hb⟩)
      (first | (have H8 := (show Hid (Bx W1 b8 [.int .i64 0, .slice none 0 0, .slice none 0 0] ∧ w7.heap.size ≤ b8) from ⟨H8.out.1.next hb, H8.out.2⟩)) | skip)
      clear ho hb
      refine hK.out _ _ ⟨HD.out.1, HD.out.2.1⟩ (fun hHeld => ?_)
      clear hK KC
      refine ready_two 3 7 ⟨some 40, Op.call { callee := Callee.value (Operand.func 20), args := #[Operand.tmp 37, Operand.tmp 39], argTypes := #[29, 42] }, _, _, _, none⟩ ⟨some 9, Op.alloc 29, _, _, _, none⟩ (by kernel_rfl) rfl rfl (by kernel_rfl) (by kernel_rfl) (fun KC hK => ?_) (fun KC hK => ?_)
      ·
        go_wp2_with fail
        refine (stepRegister_l [.int .i64 ck, .slice p6_1 cp.length q6_1, .slice p6_2 os.length q6_2] ck cp os bg cl wt vl oi ni _ CK CP OS z HA.out HS0.out HS1.out HO0.out).mono ?_
        intro r W9 hT
        obtain ⟨cs9, lo, hi, rfl, ho, hlo, hlh, hhi, hb⟩ := ansG_out hT
        obtain ⟨a3_1, k3_1, _, a3_2, k3_2, _, hev, _⟩ := own_Register ho
        subst hev
        have hol : w7.heap.size ≤ lo := Nat.le_trans HD.out.2.2.size hlo
        (first | (have HO9 := (show Hid (Own W9 shRegister [.int .i64 CK, .slice a3_1 CP.length k3_1, .slice a3_2 OS.length k3_2] (CK, CP, OS, ()) (Btw lo hi) ∧ w7.heap.size ≤ lo ∧ lo ≤ hi ∧ hi ≤ W9.heap.size ∧ (b8 < lo ∨ hi ≤ b8)) from ⟨ho, hol, hlh, hhi, Or.inl (Nat.lt_of_lt_of_le H8.out.1.2 hlo)⟩)) | (have HO9 := (show Hid (Own W9 shRegister [.int .i64 CK, .slice a3_1 CP.length k3_1, .slice a3_2 OS.length k3_2] (CK, CP, OS, ()) (Btw lo hi) ∧ w7.heap.size ≤ lo ∧ lo ≤ hi ∧ hi ≤ W9.heap.size) from ⟨ho, hol, hlh, hhi⟩)))
        have HD := (show Hid (Bx W9 w6.heap.size [.int .i64 ck, .slice p6_1 cp.length q6_1, .slice p6_2 os.length q6_2] ∧ Bx W9 (w.heap.size + 1) [.bool bg, .int .i64 cl, .bool wt, .string vl, .int .i64 oi, .int .i64 ni] ∧ Below w7.heap.size w7 W9) from ⟨HD.out.1.next hb, HD.out.2.1.next hb, below_next HD.out.2.2 hb⟩)
        (first | (have H8 := (show Hid (Bx W9 b8 [.int .i64 0, .slice none 0 0, .slice none 0 0] ∧ w7.heap.size ≤ b8) from ⟨H8.out.1.next hb, H8.out.2⟩)) | skip)
        clear ho hlo hlh hhi hol hb hT
        refine hK.out _ _ ⟨HD.out.1, HD.out.2.1⟩ (fun hHeld => ?_)
        clear hK KC
        refine take_v (v := ?_) 4 ⟨some 36, Op.move (Operand.tmp 40), _, _, _, none⟩ rfl (fun _ _ _ h => h) ?_ hHeld ?_
        rotate_left
        · (intro W _; go_simp <;> (try with_reducible rfl))
        refine take_v (v := ?_) 5 ⟨some 41, Op.extract (Operand.tmp 36) 0, _, _, _, none⟩ rfl (fun _ _ _ h => h) ?_ hHeld ?_
        rotate_left
        · (intro W _; go_simp <;> (try with_reducible rfl))
        refine take_v (v := ?_) 6 ⟨some 42, Op.extract (Operand.tmp 36) 1, _, _, _, none⟩ rfl (fun _ _ _ h => h) ?_ hHeld ?_
        rotate_left
        · (intro W _; go_simp <;> (try with_reducible rfl))
        refine ready_call 7 ⟨some 9, Op.alloc 29, _, _, _, none⟩ (by kernel_rfl) rfl (by kernel_rfl) (fun KC hK => ?_)
        go_wp2_with fail
        (first | (obtain ⟨W8, hW8⟩ : ∃ x, x = W9.alloc (.cells #[.int .i64 0, .slice none 0 0, .slice none 0 0] 29) := ⟨_, rfl⟩; have hb : Below W9.heap.size W9 W8 := hW8 ▸ Go.Joins.below_alloc1 _ _; obtain ⟨b8, hb8⟩ : ∃ b, b = W9.heap.size := ⟨_, rfl⟩; have H8 : Hid (Bx W8 b8 [.int .i64 0, .slice none 0 0, .slice none 0 0] ∧ w7.heap.size ≤ b8) := ⟨hb8 ▸ hW8 ▸ Bx.new W9 [.int .i64 0, .slice none 0 0, .slice none 0 0] _, by rw [hb8]; exact HD.out.2.2.size⟩; have HO9 := (show Hid (Own W8 shRegister [.int .i64 CK, .slice a3_1 CP.length k3_1, .slice a3_2 OS.length k3_2] (CK, CP, OS, ()) (Btw lo hi) ∧ w7.heap.size ≤ lo ∧ lo ≤ hi ∧ hi ≤ W8.heap.size ∧ (b8 < lo ∨ hi ≤ b8)) from ⟨HO9.out.1.next hb, HO9.out.2.1, HO9.out.2.2.1, Nat.le_trans HO9.out.2.2.2 hb.size, Or.inr (by rw [hb8]; exact HO9.out.2.2.2)⟩); have HD := (show Hid (Bx W8 w6.heap.size [.int .i64 ck, .slice p6_1 cp.length q6_1, .slice p6_2 os.length q6_2] ∧ Bx W8 (w.heap.size + 1) [.bool bg, .int .i64 cl, .bool wt, .string vl, .int .i64 oi, .int .i64 ni] ∧ Below w7.heap.size w7 W8) from ⟨HD.out.1.next hb, HD.out.2.1.next hb, below_next HD.out.2.2 hb⟩); rw [← hW8, ← hb8]; clear hW8 hb8 hb) | (obtain ⟨W8, hW8⟩ : ∃ x, x = W1.alloc (.cells #[.int .i64 0, .slice none 0 0, .slice none 0 0] 29) := ⟨_, rfl⟩; have hb : Below W1.heap.size W1 W8 := hW8 ▸ Go.Joins.below_alloc1 _ _; obtain ⟨b8, hb8⟩ : ∃ b, b = W1.heap.size := ⟨_, rfl⟩; have H8 : Hid (Bx W8 b8 [.int .i64 0, .slice none 0 0, .slice none 0 0] ∧ w7.heap.size ≤ b8) := ⟨hb8 ▸ hW8 ▸ Bx.new W1 [.int .i64 0, .slice none 0 0, .slice none 0 0] _, by rw [hb8]; exact HD.out.2.2.size⟩; (first | (have HO0 := Hid.intro (HO0.out.next hb)) | skip); (first | (have HO1 := Hid.intro (HO1.out.next hb)) | skip); have HD := (show Hid (Bx W8 w6.heap.size [.int .i64 ck, .slice p6_1 cp.length q6_1, .slice p6_2 os.length q6_2] ∧ Bx W8 (w.heap.size + 1) [.bool bg, .int .i64 cl, .bool wt, .string vl, .int .i64 oi, .int .i64 ni] ∧ Below w7.heap.size w7 W8) from ⟨HD.out.1.next hb, HD.out.2.1.next hb, below_next HD.out.2.2 hb⟩); rw [← hW8, ← hb8]; clear hW8 hb8 hb) | (obtain ⟨W8, hW8⟩ : ∃ x, x = X0.alloc (.cells #[.int .i64 0, .slice none 0 0, .slice none 0 0] 29) := ⟨_, rfl⟩; have hb : Below X0.heap.size X0 W8 := hW8 ▸ Go.Joins.below_alloc1 _ _; obtain ⟨b8, hb8⟩ : ∃ b, b = X0.heap.size := ⟨_, rfl⟩; have H8 : Hid (Bx W8 b8 [.int .i64 0, .slice none 0 0, .slice none 0 0] ∧ w7.heap.size ≤ b8) := ⟨hb8 ▸ hW8 ▸ Bx.new X0 [.int .i64 0, .slice none 0 0, .slice none 0 0] _, by rw [hb8]; exact HD.out.2.2.size⟩; (first | (have HO0 := Hid.intro (HO0.out.next hb)) | skip); (first | (have HO1 := Hid.intro (HO1.out.next hb)) | skip); have HD := (show Hid (Bx W8 w6.heap.size [.int .i64 ck, .slice p6_1 cp.length q6_1, .slice p6_2 os.length q6_2] ∧ Bx W8 (w.heap.size + 1) [.bool bg, .int .i64 cl, .bool wt, .string vl, .int .i64 oi, .int .i64 ni] ∧ Below w7.heap.size w7 W8) from ⟨HD.out.1.next hb, HD.out.2.1.next hb, below_next HD.out.2.2 hb⟩); rw [← hW8, ← hb8]; clear hW8 hb8 hb))
        refine hK.out _ _ ⟨HD.out.1, HD.out.2.1⟩ (fun hHeld => ?_)
        clear hK KC
        refine ready_call 8 ⟨none, Op.store 29 (Operand.tmp 9) (Operand.tmp 41), _, _, _, none⟩ (by kernel_rfl) rfl (by kernel_rfl) (fun KC hK => ?_)
        have dz := H8.out.1.2
        have d0 := H8.out.1.cell 0 rfl
        have d1 := H8.out.1.cell 1 rfl
        have d2 := H8.out.1.cell 2 rfl
        have f0 := H8.out.1.frz 0 (by simp)
        have f1 := H8.out.1.frz 1 (by simp)
        have f2 := H8.out.1.frz 2 (by simp)
        have h8 := H8.out.2
        go_wp2_with fail
        have HF := Hid.intro (box_own3 (o := w7) H8.out.1 H8.out.2 HO9.out.1 HO9.out.2.2.2.2 HD.out.2.2 (.int .i64 CK) (.slice a3_1 CP.length k3_1) (.slice a3_2 OS.length k3_2))
        clear dz d0 f0 d1 f1 d2 f2
        refine hK.out _ _ ⟨(((HD.out.1.other (by omega)).other (by omega)).other (by omega)), (((HD.out.2.1.other (by omega)).other (by omega)).other (by omega))⟩ (fun hHeld => ?_)
        clear hK KC
        refine take_v (v := ?_) 9 ⟨some 10, Op.assign (Operand.tmp 42), _, _, _, none⟩ rfl (fun _ _ _ h => h) ?_ hHeld ?_
        rotate_left
        · (intro W _; go_simp <;> (try with_reducible rfl))
        refine wpAnyH_done (by kernel_rfl) ?_ _
        refine NoPanic.normal ?_
        clear hHeld
        go_wp2_with fail
        go_meet
        exact ⟨b8, a3_1, k3_1, a3_2, k3_2, lo, hi, rfl, rfl, HF.out.1, HF.out.2.1, HO9.out.2.1, HO9.out.2.2.1, by rw [HF.out.2.2.2]; exact HO9.out.2.2.2.1, H8.out.2, by rw [HF.out.2.2.2]; exact H8.out.1.2, HO9.out.2.2.2.2, HF.out.2.2.1⟩
      ·
        go_wp2_with fail
        (first | (obtain ⟨W8, hW8⟩ : ∃ x, x = W9.alloc (.cells #[.int .i64 0, .slice none 0 0, .slice none 0 0] 29) := ⟨_, rfl⟩; have hb : Below W9.heap.size W9 W8 := hW8 ▸ Go.Joins.below_alloc1 _ _; obtain ⟨b8, hb8⟩ : ∃ b, b = W9.heap.size := ⟨_, rfl⟩; have H8 : Hid (Bx W8 b8 [.int .i64 0, .slice none 0 0, .slice none 0 0] ∧ w7.heap.size ≤ b8) := ⟨hb8 ▸ hW8 ▸ Bx.new W9 [.int .i64 0, .slice none 0 0, .slice none 0 0] _, by rw [hb8]; exact HD.out.2.2.size⟩; have HO9 := (show Hid (Own W8 shRegister [.int .i64 CK, .slice a3_1 CP.length k3_1, .slice a3_2 OS.length k3_2] (CK, CP, OS, ()) (Btw lo hi) ∧ w7.heap.size ≤ lo ∧ lo ≤ hi ∧ hi ≤ W8.heap.size ∧ (b8 < lo ∨ hi ≤ b8)) from ⟨HO9.out.1.next hb, HO9.out.2.1, HO9.out.2.2.1, Nat.le_trans HO9.out.2.2.2 hb.size, Or.inr (by rw [hb8]; exact HO9.out.2.2.2)⟩); have HD := (show Hid (Bx W8 w6.heap.size [.int .i64 ck, .slice p6_1 cp.length q6_1, .slice p6_2 os.length q6_2] ∧ Bx W8 (w.heap.size + 1) [.bool bg, .int .i64 cl, .bool wt, .string vl, .int .i64 oi, .int .i64 ni] ∧ Below w7.heap.size w7 W8) from ⟨HD.out.1.next hb, HD.out.2.1.next hb, below_next HD.out.2.2 hb⟩); rw [← hW8, ← hb8]; clear hW8 hb8 hb) | (obtain ⟨W8, hW8⟩ : ∃ x, x = W1.alloc (.cells #[.int .i64 0, .slice none 0 0, .slice none 0 0] 29) := ⟨_, rfl⟩; have hb : Below W1.heap.size W1 W8 := hW8 ▸ Go.Joins.below_alloc1 _ _; obtain ⟨b8, hb8⟩ : ∃ b, b = W1.heap.size := ⟨_, rfl⟩; have H8 : Hid (Bx W8 b8 [.int .i64 0, .slice none 0 0, .slice none 0 0] ∧ w7.heap.size ≤ b8) := ⟨hb8 ▸ hW8 ▸ Bx.new W1 [.int .i64 0, .slice none 0 0, .slice none 0 0] _, by rw [hb8]; exact HD.out.2.2.size⟩; (first | (have HO0 := Hid.intro (HO0.out.next hb)) | skip); (first | (have HO1 := Hid.intro (HO1.out.next hb)) | skip); have HD := (show Hid (Bx W8 w6.heap.size [.int .i64 ck, .slice p6_1 cp.length q6_1, .slice p6_2 os.length q6_2] ∧ Bx W8 (w.heap.size + 1) [.bool bg, .int .i64 cl, .bool wt, .string vl, .int .i64 oi, .int .i64 ni] ∧ Below w7.heap.size w7 W8) from ⟨HD.out.1.next hb, HD.out.2.1.next hb, below_next HD.out.2.2 hb⟩); rw [← hW8, ← hb8]; clear hW8 hb8 hb) | (obtain ⟨W8, hW8⟩ : ∃ x, x = X0.alloc (.cells #[.int .i64 0, .slice none 0 0, .slice none 0 0] 29) := ⟨_, rfl⟩; have hb : Below X0.heap.size X0 W8 := hW8 ▸ Go.Joins.below_alloc1 _ _; obtain ⟨b8, hb8⟩ : ∃ b, b = X0.heap.size := ⟨_, rfl⟩; have H8 : Hid (Bx W8 b8 [.int .i64 0, .slice none 0 0, .slice none 0 0] ∧ w7.heap.size ≤ b8) := ⟨hb8 ▸ hW8 ▸ Bx.new X0 [.int .i64 0, .slice none 0 0, .slice none 0 0] _, by rw [hb8]; exact HD.out.2.2.size⟩; (first | (have HO0 := Hid.intro (HO0.out.next hb)) | skip); (first | (have HO1 := Hid.intro (HO1.out.next hb)) | skip); have HD := (show Hid (Bx W8 w6.heap.size [.int .i64 ck, .slice p6_1 cp.length q6_1, .slice p6_2 os.length q6_2] ∧ Bx W8 (w.heap.size + 1) [.bool bg, .int .i64 cl, .bool wt, .string vl, .int .i64 oi, .int .i64 ni] ∧ Below w7.heap.size w7 W8) from ⟨HD.out.1.next hb, HD.out.2.1.next hb, below_next HD.out.2.2 hb⟩); rw [← hW8, ← hb8]; clear hW8 hb8 hb))
        refine hK.out _ _ ⟨HD.out.1, HD.out.2.1⟩ (fun hHeld => ?_)
        clear hK KC
        refine ready_call 3 ⟨some 40, Op.call { callee := Callee.value (Operand.func 20), args := #[Operand.tmp 37, Operand.tmp 39], argTypes := #[29, 42] }, _, _, _, none⟩ (by kernel_rfl) rfl (by kernel_rfl) (fun KC hK => ?_)
        go_wp2_with fail
        refine (stepRegister_l [.int .i64 ck, .slice p6_1 cp.length q6_1, .slice p6_2 os.length q6_2] ck cp os bg cl wt vl oi ni _ CK CP OS z HA.out HS0.out HS1.out HO0.out).mono ?_
        intro r W9 hT
        obtain ⟨cs9, lo, hi, rfl, ho, hlo, hlh, hhi, hb⟩ := ansG_out hT
        obtain ⟨a3_1, k3_1, _, a3_2, k3_2, _, hev, _⟩ := own_Register ho
        subst hev
        have hol : w7.heap.size ≤ lo := Nat.le_trans HD.out.2.2.size hlo
        (first | (have HO9 := (show Hid (Own W9 shRegister [.int .i64 CK, .slice a3_1 CP.length k3_1, .slice a3_2 OS.length k3_2] (CK, CP, OS, ()) (Btw lo hi) ∧ w7.heap.size ≤ lo ∧ lo ≤ hi ∧ hi ≤ W9.heap.size ∧ (b8 < lo ∨ hi ≤ b8)) from ⟨ho, hol, hlh, hhi, Or.inl (Nat.lt_of_lt_of_le H8.out.1.2 hlo)⟩)) | (have HO9 := (show Hid (Own W9 shRegister [.int .i64 CK, .slice a3_1 CP.length k3_1, .slice a3_2 OS.length k3_2] (CK, CP, OS, ()) (Btw lo hi) ∧ w7.heap.size ≤ lo ∧ lo ≤ hi ∧ hi ≤ W9.heap.size) from ⟨ho, hol, hlh, hhi⟩)))
        have HD := (show Hid (Bx W9 w6.heap.size [.int .i64 ck, .slice p6_1 cp.length q6_1, .slice p6_2 os.length q6_2] ∧ Bx W9 (w.heap.size + 1) [.bool bg, .int .i64 cl, .bool wt, .string vl, .int .i64 oi, .int .i64 ni] ∧ Below w7.heap.size w7 W9) from ⟨HD.out.1.next hb, HD.out.2.1.next hb, below_next HD.out.2.2 hb⟩)
        (first | (have H8 := (show Hid (Bx W9 b8 [.int .i64 0, .slice none 0 0, .slice none 0 0] ∧ w7.heap.size ≤ b8) from ⟨H8.out.1.next hb, H8.out.2⟩)) | skip)
        clear ho hlo hlh hhi hol hb hT
        refine hK.out _ _ ⟨HD.out.1, HD.out.2.1⟩ (fun hHeld => ?_)
        clear hK KC
        refine take_v (v := ?_) 4 ⟨some 36, Op.move (Operand.tmp 40), _, _, _, none⟩ rfl (fun _ _ _ h => h) ?_ hHeld ?_
        rotate_left
        · (intro W _; go_simp <;> (try with_reducible rfl))
        refine take_v (v := ?_) 5 ⟨some 41, Op.extract (Operand.tmp 36) 0, _, _, _, none⟩ rfl (fun _ _ _ h => h) ?_ hHeld ?_
        rotate_left
        · (intro W _; go_simp <;> (try with_reducible rfl))
        refine take_v (v := ?_) 6 ⟨some 42, Op.extract (Operand.tmp 36) 1, _, _, _, none⟩ rfl (fun _ _ _ h => h) ?_ hHeld ?_
        rotate_left
        · (intro W _; go_simp <;> (try with_reducible rfl))
        refine ready_call 8 ⟨none, Op.store 29 (Operand.tmp 9) (Operand.tmp 41), _, _, _, none⟩ (by kernel_rfl) rfl (by kernel_rfl) (fun KC hK => ?_)
        have dz := H8.out.1.2
        have d0 := H8.out.1.cell 0 rfl
        have d1 := H8.out.1.cell 1 rfl
        have d2 := H8.out.1.cell 2 rfl
        have f0 := H8.out.1.frz 0 (by simp)
        have f1 := H8.out.1.frz 1 (by simp)
        have f2 := H8.out.1.frz 2 (by simp)
        have h8 := H8.out.2
        go_wp2_with fail
        have HF := Hid.intro (box_own3 (o := w7) H8.out.1 H8.out.2 HO9.out.1 HO9.out.2.2.2.2 HD.out.2.2 (.int .i64 CK) (.slice a3_1 CP.length k3_1) (.slice a3_2 OS.length k3_2))
        clear dz d0 f0 d1 f1 d2 f2
        refine hK.out _ _ ⟨(((HD.out.1.other (by omega)).other (by omega)).other (by omega)), (((HD.out.2.1.other (by omega)).other (by omega)).other (by omega))⟩ (fun hHeld => ?_)
        clear hK KC
        refine take_v (v := ?_) 9 ⟨some 10, Op.assign (Operand.tmp 42), _, _, _, none⟩ rfl (fun _ _ _ h => h) ?_ hHeld ?_
        rotate_left
        · (intro W _; go_simp <;> (try with_reducible rfl))
        refine wpAnyH_done (by kernel_rfl) ?_ _
        refine NoPanic.normal ?_
        clear hHeld
        go_wp2_with fail
        go_meet
        exact ⟨b8, a3_1, k3_1, a3_2, k3_2, lo, hi, rfl, rfl, HF.out.1, HF.out.2.1, HO9.out.2.1, HO9.out.2.2.1, by rw [HF.out.2.2.2]; exact HO9.out.2.2.2.1, H8.out.2, by rw [HF.out.2.2.2]; exact H8.out.1.2, HO9.out.2.2.2.2, HF.out.2.2.1⟩
    ·
      go_wp2_with fail
      (first | (obtain ⟨W8, hW8⟩ : ∃ x, x = W9.alloc (.cells #[.int .i64 0, .slice none 0 0, .slice none 0 0] 29) := ⟨_, rfl⟩; have hb : Below W9.heap.size W9 W8 := hW8 ▸ Go.Joins.below_alloc1 _ _; obtain ⟨b8, hb8⟩ : ∃ b, b = W9.heap.size := ⟨_, rfl⟩; have H8 : Hid (Bx W8 b8 [.int .i64 0, .slice none 0 0, .slice none 0 0] ∧ w7.heap.size ≤ b8) := ⟨hb8 ▸ hW8 ▸ Bx.new W9 [.int .i64 0, .slice none 0 0, .slice none 0 0] _, by rw [hb8]; exact HD.out.2.2.size⟩; have HO9 := (show Hid (Own W8 shRegister [.int .i64 CK, .slice a3_1 CP.length k3_1, .slice a3_2 OS.length k3_2] (CK, CP, OS, ()) (Btw lo hi) ∧ w7.heap.size ≤ lo ∧ lo ≤ hi ∧ hi ≤ W8.heap.size ∧ (b8 < lo ∨ hi ≤ b8)) from ⟨HO9.out.1.next hb, HO9.out.2.1, HO9.out.2.2.1, Nat.le_trans HO9.out.2.2.2 hb.size, Or.inr (by rw [hb8]; exact HO9.out.2.2.2)⟩); have HD := (show Hid (Bx W8 w6.heap.size [.int .i64 ck, .slice p6_1 cp.length q6_1, .slice p6_2 os.length q6_2] ∧ Bx W8 (w.heap.size + 1) [.bool bg, .int .i64 cl, .bool wt, .string vl, .int .i64 oi, .int .i64 ni] ∧ Below w7.heap.size w7 W8) from ⟨HD.out.1.next hb, HD.out.2.1.next hb, below_next HD.out.2.2 hb⟩); rw [← hW8, ← hb8]; clear hW8 hb8 hb) | (obtain ⟨W8, hW8⟩ : ∃ x, x = W1.alloc (.cells #[.int .i64 0, .slice none 0 0, .slice none 0 0] 29) := ⟨_, rfl⟩; have hb : Below W1.heap.size W1 W8 := hW8 ▸ Go.Joins.below_alloc1 _ _; obtain ⟨b8, hb8⟩ : ∃ b, b = W1.heap.size := ⟨_, rfl⟩; have H8 : Hid (Bx W8 b8 [.int .i64 0, .slice none 0 0, .slice none 0 0] ∧ w7.heap.size ≤ b8) := ⟨hb8 ▸ hW8 ▸ Bx.new W1 [.int .i64 0, .slice none 0 0, .slice none 0 0] _, by rw [hb8]; exact HD.out.2.2.size⟩; (first | (have HO0 := Hid.intro (HO0.out.next hb)) | skip); (first | (have HO1 := Hid.intro (HO1.out.next hb)) | skip); have HD := (show Hid (Bx W8 w6.heap.size [.int .i64 ck, .slice p6_1 cp.length q6_1, .slice p6_2 os.length q6_2] ∧ Bx W8 (w.heap.size + 1) [.bool bg, .int .i64 cl, .bool wt, .string vl, .int .i64 oi, .int .i64 ni] ∧ Below w7.heap.size w7 W8) from ⟨HD.out.1.next hb, HD.out.2.1.next hb, below_next HD.out.2.2 hb⟩); rw [← hW8, ← hb8]; clear hW8 hb8 hb) | (obtain ⟨W8, hW8⟩ : ∃ x, x = X0.alloc (.cells #[.int .i64 0, .slice none 0 0, .slice none 0 0] 29) := ⟨_, rfl⟩; have hb : Below X0.heap.size X0 W8 := hW8 ▸ Go.Joins.below_alloc1 _ _; obtain ⟨b8, hb8⟩ : ∃ b, b = X0.heap.size := ⟨_, rfl⟩; have H8 : Hid (Bx W8 b8 [.int .i64 0, .slice none 0 0, .slice none 0 0] ∧ w7.heap.size ≤ b8) := ⟨hb8 ▸ hW8 ▸ Bx.new X0 [.int .i64 0, .slice none 0 0, .slice none 0 0] _, by rw [hb8]; exact HD.out.2.2.size⟩; (first | (have HO0 := Hid.intro (HO0.out.next hb)) | skip); (first | (have HO1 := Hid.intro (HO1.out.next hb)) | skip); have HD := (show Hid (Bx W8 w6.heap.size [.int .i64 ck, .slice p6_1 cp.length q6_1, .slice p6_2 os.length q6_2] ∧ Bx W8 (w.heap.size + 1) [.bool bg, .int .i64 cl, .bool wt, .string vl, .int .i64 oi, .int .i64 ni] ∧ Below w7.heap.size w7 W8) from ⟨HD.out.1.next hb, HD.out.2.1.next hb, below_next HD.out.2.2 hb⟩); rw [← hW8, ← hb8]; clear hW8 hb8 hb))
      refine hK.out _ _ ⟨HD.out.1, HD.out.2.1⟩ (fun hHeld => ?_)
      clear hK KC
      refine ready_call 2 ⟨some 39, Op.call { callee := Callee.value (Operand.func 31), args := #[Operand.tmp 38], argTypes := #[66] }, _, _, _, none⟩ (by kernel_rfl) rfl (by kernel_rfl) (fun KC hK => ?_)
      go_wp2_with fail
      refine (toRegStep_n [.bool bg, .int .i64 cl, .bool wt, .string vl, .int .i64 oi, .int .i64 ni] bg cl wt vl oi ni _ HS1.out (HL1.out.next (below_next HB7.out HD.out.2.2))).mono ?_
      rintro r W1 ⟨cs9, rfl, ho, hb⟩
      obtain hev := own_RegStep ho
      subst hev
      (first | (have HO0 := Hid.intro (HO0.out.next hb)) | skip); (first | (have HO1 := Hid.intro (HO1.out.next hb)) | skip)
      have HO1 := Hid.intro ho.lies
      have HD := (show Hid (Bx W1 w6.heap.size [.int .i64 ck, .slice p6_1 cp.length q6_1, .slice p6_2 os.length q6_2] ∧ Bx W1 (w.heap.size + 1) [.bool bg, .int .i64 cl, .bool wt, .string vl, .int .i64 oi, .int .i64 ni] ∧ Below w7.heap.size w7 W1) from ⟨HD.out.1.next hb, HD.out.2.1.next hb, below_next HD.out.2.2 hb⟩)
      (first | (have H8 := (show Hid (Bx W1 b8 [.int .i64 0, .slice none 0 0, .slice none 0 0] ∧ w7.heap.size ≤ b8) from ⟨H8.out.1.next hb, H8.out.2⟩)) | skip)
      clear ho hb
      refine hK.out _ _ ⟨HD.out.1, HD.out.2.1⟩ (fun hHeld => ?_)
      clear hK KC
      refine ready_call 3 ⟨some 40, Op.call { callee := Callee.value (Operand.func 20), args := #[Operand.tmp 37, Operand.tmp 39], argTypes := #[29, 42] }, _, _, _, none⟩ (by kernel_rfl) rfl (by kernel_rfl) (fun KC hK => ?_)
      go_wp2_with fail
      refine (stepRegister_l [.int .i64 ck, .slice p6_1 cp.length q6_1, .slice p6_2 os.length q6_2] ck cp os bg cl wt vl oi ni _ CK CP OS z HA.out HS0.out HS1.out HO0.out).mono ?_
      intro r W9 hT
      obtain ⟨cs9, lo, hi, rfl, ho, hlo, hlh, hhi, hb⟩ := ansG_out hT
      obtain ⟨a3_1, k3_1, _, a3_2, k3_2, _, hev, _⟩ := own_Register ho
      subst hev
      have hol : w7.heap.size ≤ lo := Nat.le_trans HD.out.2.2.size hlo
      (first | (have HO9 := (show Hid (Own W9 shRegister [.int .i64 CK, .slice a3_1 CP.length k3_1, .slice a3_2 OS.length k3_2] (CK, CP, OS, ()) (Btw lo hi) ∧ w7.heap.size ≤ lo ∧ lo ≤ hi ∧ hi ≤ W9.heap.size ∧ (b8 < lo ∨ hi ≤ b8)) from ⟨ho, hol, hlh, hhi, Or.inl (Nat.lt_of_lt_of_le H8.out.1.2 hlo)⟩)) | (have HO9 := (show Hid (Own W9 shRegister [.int .i64 CK, .slice a3_1 CP.length k3_1, .slice a3_2 OS.length k3_2] (CK, CP, OS, ()) (Btw lo hi) ∧ w7.heap.size ≤ lo ∧ lo ≤ hi ∧ hi ≤ W9.heap.size) from ⟨ho, hol, hlh, hhi⟩)))
      have HD := (show Hid (Bx W9 w6.heap.size [.int .i64 ck, .slice p6_1 cp.length q6_1, .slice p6_2 os.length q6_2] ∧ Bx W9 (w.heap.size + 1) [.bool bg, .int .i64 cl, .bool wt, .string vl, .int .i64 oi, .int .i64 ni] ∧ Below w7.heap.size w7 W9) from ⟨HD.out.1.next hb, HD.out.2.1.next hb, below_next HD.out.2.2 hb⟩)
      (first | (have H8 := (show Hid (Bx W9 b8 [.int .i64 0, .slice none 0 0, .slice none 0 0] ∧ w7.heap.size ≤ b8) from ⟨H8.out.1.next hb, H8.out.2⟩)) | skip)
      clear ho hlo hlh hhi hol hb hT
      refine hK.out _ _ ⟨HD.out.1, HD.out.2.1⟩ (fun hHeld => ?_)
      clear hK KC
      refine take_v (v := ?_) 4 ⟨some 36, Op.move (Operand.tmp 40), _, _, _, none⟩ rfl (fun _ _ _ h => h) ?_ hHeld ?_
      rotate_left
      · (intro W _; go_simp <;> (try with_reducible rfl))
      refine take_v (v := ?_) 5 ⟨some 41, Op.extract (Operand.tmp 36) 0, _, _, _, none⟩ rfl (fun _ _ _ h => h) ?_ hHeld ?_
      rotate_left
      · (intro W _; go_simp <;> (try with_reducible rfl))
      refine take_v (v := ?_) 6 ⟨some 42, Op.extract (Operand.tmp 36) 1, _, _, _, none⟩ rfl (fun _ _ _ h => h) ?_ hHeld ?_
      rotate_left
      · (intro W _; go_simp <;> (try with_reducible rfl))
      refine ready_call 8 ⟨none, Op.store 29 (Operand.tmp 9) (Operand.tmp 41), _, _, _, none⟩ (by kernel_rfl) rfl (by kernel_rfl) (fun KC hK => ?_)
      have dz := H8.out.1.2
      have d0 := H8.out.1.cell 0 rfl
      have d1 := H8.out.1.cell 1 rfl
      have d2 := H8.out.1.cell 2 rfl
      have f0 := H8.out.1.frz 0 (by simp)
      have f1 := H8.out.1.frz 1 (by simp)
      have f2 := H8.out.1.frz 2 (by simp)
      have h8 := H8.out.2
      go_wp2_with fail
      have HF := Hid.intro (box_own3 (o := w7) H8.out.1 H8.out.2 HO9.out.1 HO9.out.2.2.2.2 HD.out.2.2 (.int .i64 CK) (.slice a3_1 CP.length k3_1) (.slice a3_2 OS.length k3_2))
      clear dz d0 f0 d1 f1 d2 f2
      refine hK.out _ _ ⟨(((HD.out.1.other (by omega)).other (by omega)).other (by omega)), (((HD.out.2.1.other (by omega)).other (by omega)).other (by omega))⟩ (fun hHeld => ?_)
      clear hK KC
      refine take_v (v := ?_) 9 ⟨some 10, Op.assign (Operand.tmp 42), _, _, _, none⟩ rfl (fun _ _ _ h => h) ?_ hHeld ?_
      rotate_left
      · (intro W _; go_simp <;> (try with_reducible rfl))
      refine wpAnyH_done (by kernel_rfl) ?_ _
      refine NoPanic.normal ?_
      clear hHeld
      go_wp2_with fail
      go_meet
      exact ⟨b8, a3_1, k3_1, a3_2, k3_2, lo, hi, rfl, rfl, HF.out.1, HF.out.2.1, HO9.out.2.1, HO9.out.2.2.1, by rw [HF.out.2.2.2]; exact HO9.out.2.2.2.1, H8.out.2, by rw [HF.out.2.2.2]; exact H8.out.1.2, HO9.out.2.2.2.2, HF.out.2.2.1⟩
  obtain ⟨b8, p8_1, q8_1, p8_2, q8_2, lo8, hi8, rfl, rfl, hbx, ho, hlo8, hlh8, hhi8, hbo8, hbb8, hbd8, hb⟩ := hcut
  obtain ⟨w8, hwd⟩ : ∃ x, x = wc := ⟨_, rfl⟩
  subst hwd
  have HB8 : Hid (Below w.heap.size w w8) := below_next HB7.out hb
  have sz8 : w7.heap.size ≤ w8.heap.size := hb.size
  have A0_8 : Hid (Bx w8 w.heap.size [.int .i64 ck, .slice a0_1 cp.length k0_1, .slice a0_2 os.length k0_2]) := A0_7.out.next hb
  have A1_8 : Hid (Bx w8 (w.heap.size + 1) [.bool bg, .int .i64 cl, .bool wt, .string vl, .int .i64 oi, .int .i64 ni]) := A1_7.out.next hb
  have W_8 : Hid (Bx w8 b5 [.int .i64 CK, .slice p5_1 CP.length q5_1, .slice p5_2 OS.length q5_2]) := W_7.out.next hb
  have SP_8 : Hid (Own w8 shRegister [.int .i64 CK, .slice p5_1 CP.length q5_1, .slice p5_2 OS.length q5_2] (CK, CP, OS, ()) (Btw lo5 hi5)) := SP_7.out.next hb
  have P_8 : Hid (Own w8 shRegister [.int .i64 ck, .slice p6_1 cp.length q6_1, .slice p6_2 os.length q6_2] (ck, cp, os, ()) (Btw w5.heap.size w6.heap.size)) := P_7.out.next hb
  have U0_8 : Hid (Bx w8 w6.heap.size [.int .i64 ck, .slice p6_1 cp.length q6_1, .slice p6_2 os.length q6_2]) := U0_7.out.next hb
  have G_8 : Hid (Bx w8 b8 [.int .i64 CK, .slice p8_1 CP.length q8_1, .slice p8_2 OS.length q8_2]) := hbx
  have GP_8 : Hid (Own w8 shRegister [.int .i64 CK, .slice p8_1 CP.length q8_1, .slice p8_2 OS.length q8_2] (CK, CP, OS, ()) (Btw lo8 hi8)) := ho
  clear hb hbx ho A0_7 A1_7 W_7 SP_7 P_7 U0_7 HB7
  have cW0 := W_8.out.cell 0 rfl
  have cW1 := W_8.out.cell 1 rfl
  have cW2 := W_8.out.cell 2 rfl
  have zW := W_8.out.2
  have cG0 := G_8.out.cell 0 rfl
  have cG1 := G_8.out.cell 1 rfl
  have cG2 := G_8.out.cell 2 rfl
  have zG := G_8.out.2
  go_wp2_with fail
  refine (eqRegister_n [.int .i64 CK, .slice p8_1 CP.length q8_1, .slice p8_2 OS.length q8_2] [.int .i64 CK, .slice p5_1 CP.length q5_1, .slice p5_2 OS.length q5_2] CK CP OS _ HT.out GP_8.out.lies SP_8.out.lies).mono ?_
  rintro r w9 ⟨rfl, hb⟩
  have HB9 : Hid (Below w.heap.size w w9) := below_next HB8.out hb
  have sz9 : w8.heap.size ≤ w9.heap.size := hb.size
  have A0_9 : Hid (Bx w9 w.heap.size [.int .i64 ck, .slice a0_1 cp.length k0_1, .slice a0_2 os.length k0_2]) := A0_8.out.next hb
  have A1_9 : Hid (Bx w9 (w.heap.size + 1) [.bool bg, .int .i64 cl, .bool wt, .string vl, .int .i64 oi, .int .i64 ni]) := A1_8.out.next hb
  have W_9 : Hid (Bx w9 b5 [.int .i64 CK, .slice p5_1 CP.length q5_1, .slice p5_2 OS.length q5_2]) := W_8.out.next hb
  have SP_9 : Hid (Own w9 shRegister [.int .i64 CK, .slice p5_1 CP.length q5_1, .slice p5_2 OS.length q5_2] (CK, CP, OS, ()) (Btw lo5 hi5)) := SP_8.out.next hb
  have P_9 : Hid (Own w9 shRegister [.int .i64 ck, .slice p6_1 cp.length q6_1, .slice p6_2 os.length q6_2] (ck, cp, os, ()) (Btw w5.heap.size w6.heap.size)) := P_8.out.next hb
  have U0_9 : Hid (Bx w9 w6.heap.size [.int .i64 ck, .slice p6_1 cp.length q6_1, .slice p6_2 os.length q6_2]) := U0_8.out.next hb
  have G_9 : Hid (Bx w9 b8 [.int .i64 CK, .slice p8_1 CP.length q8_1, .slice p8_2 OS.length q8_2]) := G_8.out.next hb
  have GP_9 : Hid (Own w9 shRegister [.int .i64 CK, .slice p8_1 CP.length q8_1, .slice p8_2 OS.length q8_2] (CK, CP, OS, ()) (Btw lo8 hi8)) := GP_8.out.next hb
  clear hb cW0 cW1 cW2 zW cG0 cG1 cG2 zG A0_8 A1_8 W_8 SP_8 P_8 U0_8 G_8 GP_8 HB8
  go_upto_region 13 with fail
  have hb : Below w9.heap.size w9 w9.drew := below_drew _
  have HB10 : Hid (Below w.heap.size w w9.drew) := below_next HB9.out hb
  have sz10 : w9.heap.size ≤ w9.drew.heap.size := hb.size
  have A0_10 : Hid (Bx w9.drew w.heap.size [.int .i64 ck, .slice a0_1 cp.length k0_1, .slice a0_2 os.length k0_2]) := A0_9.out.next hb
  have A1_10 : Hid (Bx w9.drew (w.heap.size + 1) [.bool bg, .int .i64 cl, .bool wt, .string vl, .int .i64 oi, .int .i64 ni]) := A1_9.out.next hb
  have W_10 : Hid (Bx w9.drew b5 [.int .i64 CK, .slice p5_1 CP.length q5_1, .slice p5_2 OS.length q5_2]) := W_9.out.next hb
  have SP_10 : Hid (Own w9.drew shRegister [.int .i64 CK, .slice p5_1 CP.length q5_1, .slice p5_2 OS.length q5_2] (CK, CP, OS, ()) (Btw lo5 hi5)) := SP_9.out.next hb
  have P_10 : Hid (Own w9.drew shRegister [.int .i64 ck, .slice p6_1 cp.length q6_1, .slice p6_2 os.length q6_2] (ck, cp, os, ()) (Btw w5.heap.size w6.heap.size)) := P_9.out.next hb
  have U0_10 : Hid (Bx w9.drew w6.heap.size [.int .i64 ck, .slice p6_1 cp.length q6_1, .slice p6_2 os.length q6_2]) := U0_9.out.next hb
  have G_10 : Hid (Bx w9.drew b8 [.int .i64 CK, .slice p8_1 CP.length q8_1, .slice p8_2 OS.length q8_2]) := G_9.out.next hb
  have GP_10 : Hid (Own w9.drew shRegister [.int .i64 CK, .slice p8_1 CP.length q8_1, .slice p8_2 OS.length q8_2] (CK, CP, OS, ()) (Btw lo8 hi8)) := GP_9.out.next hb
  clear hb A0_9 A1_9 W_9 SP_9 P_9 U0_9 G_9 GP_9 HB9
  refine wp_region_noPanic ?_
  refine wp_region_held_drew (S := fun W => Bx W w.heap.size [.int .i64 ck, .slice a0_1 cp.length k0_1, .slice a0_2 os.length k0_2] ∧ Bx W w6.heap.size [.int .i64 ck, .slice p6_1 cp.length q6_1, .slice p6_2 os.length q6_2]) (by kernel_rfl) ⟨A0_10.out, U0_10.out⟩ (fun hHeld => ?_)
  refine take_v (v := ?_) 0 ⟨some 52, Op.load 29 (Operand.tmp 8), _, _, _, none⟩ rfl (fun _ _ _ h => h) ?_ hHeld ?_
  rotate_left
  · (intro W hSW; (have s0_0 := hSW.1.cell 0 rfl; have s0_1 := hSW.1.cell 1 rfl; have s0_2 := hSW.1.cell 2 rfl; have s0z := hSW.1.2; have s1_0 := hSW.2.cell 0 rfl; have s1_1 := hSW.2.cell 1 rfl; have s1_2 := hSW.2.cell 2 rfl; have s1z := hSW.2.2); go_simp <;> (try with_reducible rfl))
  refine take_v (v := ?_) 1 ⟨some 53, Op.load 62 (Operand.tmp 2), _, _, _, none⟩ rfl (fun _ _ _ h => h) ?_ hHeld ?_
  rotate_left
  · (intro W hSW; (have s0_0 := hSW.1.cell 0 rfl; have s0_1 := hSW.1.cell 1 rfl; have s0_2 := hSW.1.cell 2 rfl; have s0z := hSW.1.2; have s1_0 := hSW.2.cell 0 rfl; have s1_1 := hSW.2.cell 1 rfl; have s1_2 := hSW.2.cell 2 rfl; have s1z := hSW.2.2); go_simp <;> (try with_reducible rfl))
  refine ready_call 2 ⟨some 54, Op.call { callee := Callee.value (Operand.func 29), args := #[Operand.tmp 53], argTypes := #[62] }, _, _, _, none⟩ (by kernel_rfl) rfl (by kernel_rfl) (fun KC hK => ?_)
  go_wp2_with fail
  refine (toRegister_n [.int .i64 ck, .slice a0_1 cp.length k0_1, .slice a0_2 os.length k0_2] ck cp os _ HS0.out (HL0.out.next HB10.out)).mono ?_
  rintro r w11 ⟨cs9, rfl, ho, hb⟩
  obtain ⟨p11_1, q11_1, _, p11_2, q11_2, _, hev, _⟩ := own_Register ho
  subst hev
  have HB11 : Hid (Below w.heap.size w w11) := below_next HB10.out hb
  have sz11 : w9.drew.heap.size ≤ w11.heap.size := hb.size
  have A0_11 : Hid (Bx w11 w.heap.size [.int .i64 ck, .slice a0_1 cp.length k0_1, .slice a0_2 os.length k0_2]) := A0_10.out.next hb
  have A1_11 : Hid (Bx w11 (w.heap.size + 1) [.bool bg, .int .i64 cl, .bool wt, .string vl, .int .i64 oi, .int .i64 ni]) := A1_10.out.next hb
  have W_11 : Hid (Bx w11 b5 [.int .i64 CK, .slice p5_1 CP.length q5_1, .slice p5_2 OS.length q5_2]) := W_10.out.next hb
  have SP_11 : Hid (Own w11 shRegister [.int .i64 CK, .slice p5_1 CP.length q5_1, .slice p5_2 OS.length q5_2] (CK, CP, OS, ()) (Btw lo5 hi5)) := SP_10.out.next hb
  have P_11 : Hid (Own w11 shRegister [.int .i64 ck, .slice p6_1 cp.length q6_1, .slice p6_2 os.length q6_2] (ck, cp, os, ()) (Btw w5.heap.size w6.heap.size)) := P_10.out.next hb
  have U0_11 : Hid (Bx w11 w6.heap.size [.int .i64 ck, .slice p6_1 cp.length q6_1, .slice p6_2 os.length q6_2]) := U0_10.out.next hb
  have G_11 : Hid (Bx w11 b8 [.int .i64 CK, .slice p8_1 CP.length q8_1, .slice p8_2 OS.length q8_2]) := G_10.out.next hb
  have GP_11 : Hid (Own w11 shRegister [.int .i64 CK, .slice p8_1 CP.length q8_1, .slice p8_2 OS.length q8_2] (CK, CP, OS, ()) (Btw lo8 hi8)) := GP_10.out.next hb
  have D_11 : Hid (Own w11 shRegister [.int .i64 ck, .slice p11_1 cp.length q11_1, .slice p11_2 os.length q11_2] (ck, cp, os, ()) (Btw w9.drew.heap.size w11.heap.size)) := ho
  clear hb ho A0_10 A1_10 W_10 SP_10 P_10 U0_10 G_10 GP_10 HB10
  refine hK.out _ _ ⟨A0_11.out, U0_11.out⟩ (fun hHeld => ?_)
  clear hK KC
  refine ready_call 3 ⟨some 55, Op.call { callee := Callee.value (Operand.func 25), args := #[Operand.tmp 52, Operand.tmp 54], argTypes := #[29, 29] }, _, _, _, none⟩ (by kernel_rfl) rfl (by kernel_rfl) (fun KC hK => ?_)
  go_wp2_with fail
  refine (eqRegister_n [.int .i64 ck, .slice p6_1 cp.length q6_1, .slice p6_2 os.length q6_2] [.int .i64 ck, .slice p11_1 cp.length q11_1, .slice p11_2 os.length q11_2] ck cp os _ HS0.out P_11.out.lies D_11.out.lies).mono ?_
  rintro r w12 ⟨rfl, hb⟩
  have HB12 : Hid (Below w.heap.size w w12) := below_next HB11.out hb
  have sz12 : w11.heap.size ≤ w12.heap.size := hb.size
  have A0_12 : Hid (Bx w12 w.heap.size [.int .i64 ck, .slice a0_1 cp.length k0_1, .slice a0_2 os.length k0_2]) := A0_11.out.next hb
  have A1_12 : Hid (Bx w12 (w.heap.size + 1) [.bool bg, .int .i64 cl, .bool wt, .string vl, .int .i64 oi, .int .i64 ni]) := A1_11.out.next hb
  have W_12 : Hid (Bx w12 b5 [.int .i64 CK, .slice p5_1 CP.length q5_1, .slice p5_2 OS.length q5_2]) := W_11.out.next hb
  have SP_12 : Hid (Own w12 shRegister [.int .i64 CK, .slice p5_1 CP.length q5_1, .slice p5_2 OS.length q5_2] (CK, CP, OS, ()) (Btw lo5 hi5)) := SP_11.out.next hb
  have P_12 : Hid (Own w12 shRegister [.int .i64 ck, .slice p6_1 cp.length q6_1, .slice p6_2 os.length q6_2] (ck, cp, os, ()) (Btw w5.heap.size w6.heap.size)) := P_11.out.next hb
  have U0_12 : Hid (Bx w12 w6.heap.size [.int .i64 ck, .slice p6_1 cp.length q6_1, .slice p6_2 os.length q6_2]) := U0_11.out.next hb
  have G_12 : Hid (Bx w12 b8 [.int .i64 CK, .slice p8_1 CP.length q8_1, .slice p8_2 OS.length q8_2]) := G_11.out.next hb
  have GP_12 : Hid (Own w12 shRegister [.int .i64 CK, .slice p8_1 CP.length q8_1, .slice p8_2 OS.length q8_2] (CK, CP, OS, ()) (Btw lo8 hi8)) := GP_11.out.next hb
  have D_12 : Hid (Own w12 shRegister [.int .i64 ck, .slice p11_1 cp.length q11_1, .slice p11_2 os.length q11_2] (ck, cp, os, ()) (Btw w9.drew.heap.size w11.heap.size)) := D_11.out.next hb
  clear hb A0_11 A1_11 W_11 SP_11 P_11 U0_11 G_11 GP_11 D_11 HB11
  refine hK.out _ _ ⟨A0_12.out, U0_12.out⟩ (fun hHeld => ?_)
  clear hK KC
  refine take_v (v := ?_) 4 ⟨some 56, Op.unOp UnOp.not 4 (Operand.tmp 55), _, _, _, none⟩ rfl (fun _ _ _ h => h) ?_ hHeld ?_
  rotate_left
  · (intro W _; go_simp <;> (try with_reducible rfl))
  refine wpAnyH_done (by kernel_rfl) ?_ _
  refine NoPanic.normal ?_
  clear D_12
  have cU00 := U0_12.out.cell 0 rfl
  have cU01 := U0_12.out.cell 1 rfl
  have cU02 := U0_12.out.cell 2 rfl
  have zU0 := U0_12.out.2
  go_wp2_with fail
  refine ((show Calls _ _ _ _ (MkP shRegister [.int .i64 ck, .slice p6_1 cp.length q6_1, .slice p6_2 os.length q6_2] (mkT shRegister (ck, cp, os, ()) 1) (1 + (cx : Int)) (Btw w5.heap.size w6.heap.size) _) from HCX.out ▸ markRegister_n [.int .i64 ck, .slice p6_1 cp.length q6_1, .slice p6_2 os.length q6_2] ck cp os 1 (Btw w5.heap.size w6.heap.size) _ (by decide) (by have h1 := HCX.out; rw [← h1]; omega) HS0.out (fun k hk => by have := hk.2; omega) P_12.out)).mono ?_
  rintro r w13 ⟨rfl, ho, ht⟩
  have HB13 : Hid (Below w.heap.size w w13) := Hid.intro (HB12.out.trans (ht.below (fun k hk => by simp only [Btw] at hk; omega) HB12.out.size))
  have sz13 : w12.heap.size ≤ w13.heap.size := ht.size
  have A0_13 : Hid (Bx w13 w.heap.size [.int .i64 ck, .slice a0_1 cp.length k0_1, .slice a0_2 os.length k0_2]) := A0_12.out.turnS ht (by simp only [Btw]; omega)
  have A1_13 : Hid (Bx w13 (w.heap.size + 1) [.bool bg, .int .i64 cl, .bool wt, .string vl, .int .i64 oi, .int .i64 ni]) := A1_12.out.turnS ht (by simp only [Btw]; omega)
  have W_13 : Hid (Bx w13 b5 [.int .i64 CK, .slice p5_1 CP.length q5_1, .slice p5_2 OS.length q5_2]) := W_12.out.turnS ht (by simp only [Btw]; omega)
  have SP_13 : Hid (Own w13 shRegister [.int .i64 CK, .slice p5_1 CP.length q5_1, .slice p5_2 OS.length q5_2] (CK, CP, OS, ()) (Btw lo5 hi5)) := SP_12.out.turn ht (fun k e f => by simp only [Btw] at e f; omega)
  have P_13 : Hid (Own w13 shRegister [.int .i64 ck, .slice p6_1 cp.length q6_1, .slice p6_2 os.length q6_2] (mkT shRegister (ck, cp, os, ()) 1) (Btw w5.heap.size w6.heap.size)) := ho
  have U0_13 : Hid (Bx w13 w6.heap.size [.int .i64 ck, .slice p6_1 cp.length q6_1, .slice p6_2 os.length q6_2]) := U0_12.out.turnS ht (by simp only [Btw]; omega)
  have G_13 : Hid (Bx w13 b8 [.int .i64 CK, .slice p8_1 CP.length q8_1, .slice p8_2 OS.length q8_2]) := G_12.out.turnS ht (by simp only [Btw]; omega)
  have GP_13 : Hid (Own w13 shRegister [.int .i64 CK, .slice p8_1 CP.length q8_1, .slice p8_2 OS.length q8_2] (CK, CP, OS, ()) (Btw lo8 hi8)) := GP_12.out.turn ht (fun k e f => by simp only [Btw] at e f; omega)
  clear ht ho cU00 cU01 cU02 zU0 A0_12 A1_12 W_12 SP_12 P_12 U0_12 G_12 GP_12 HB12
  clear P_13
  clear U0_13
  have cW0 := W_13.out.cell 0 rfl
  have cW1 := W_13.out.cell 1 rfl
  have cW2 := W_13.out.cell 2 rfl
  have zW := W_13.out.2
  have cG0 := G_13.out.cell 0 rfl
  have cG1 := G_13.out.cell 1 rfl
  have cG2 := G_13.out.cell 2 rfl
  have zG := G_13.out.2
  go_wp2_with fail
  refine (eqRegister_n [.int .i64 CK, .slice p8_1 CP.length q8_1, .slice p8_2 OS.length q8_2] [.int .i64 CK, .slice p5_1 CP.length q5_1, .slice p5_2 OS.length q5_2] CK CP OS _ HT.out GP_13.out.lies SP_13.out.lies).mono ?_
  rintro r w14 ⟨rfl, hb⟩
  have HB14 : Hid (Below w.heap.size w w14) := below_next HB13.out hb
  have sz14 : w13.heap.size ≤ w14.heap.size := hb.size
  have A0_14 : Hid (Bx w14 w.heap.size [.int .i64 ck, .slice a0_1 cp.length k0_1, .slice a0_2 os.length k0_2]) := A0_13.out.next hb
  have A1_14 : Hid (Bx w14 (w.heap.size + 1) [.bool bg, .int .i64 cl, .bool wt, .string vl, .int .i64 oi, .int .i64 ni]) := A1_13.out.next hb
  have W_14 : Hid (Bx w14 b5 [.int .i64 CK, .slice p5_1 CP.length q5_1, .slice p5_2 OS.length q5_2]) := W_13.out.next hb
  have SP_14 : Hid (Own w14 shRegister [.int .i64 CK, .slice p5_1 CP.length q5_1, .slice p5_2 OS.length q5_2] (CK, CP, OS, ()) (Btw lo5 hi5)) := SP_13.out.next hb
  have G_14 : Hid (Bx w14 b8 [.int .i64 CK, .slice p8_1 CP.length q8_1, .slice p8_2 OS.length q8_2]) := G_13.out.next hb
  have GP_14 : Hid (Own w14 shRegister [.int .i64 CK, .slice p8_1 CP.length q8_1, .slice p8_2 OS.length q8_2] (CK, CP, OS, ()) (Btw lo8 hi8)) := GP_13.out.next hb
  clear hb cW0 cW1 cW2 zW cG0 cG1 cG2 zG A0_13 A1_13 W_13 SP_13 G_13 GP_13 HB13
  have cG0 := G_14.out.cell 0 rfl
  have cG1 := G_14.out.cell 1 rfl
  have cG2 := G_14.out.cell 2 rfl
  have zG := G_14.out.2
  go_wp2_with fail
  refine ((show Calls _ _ _ _ (MkP shRegister [.int .i64 CK, .slice p8_1 CP.length q8_1, .slice p8_2 OS.length q8_2] (mkT shRegister (CK, CP, OS, ()) 1) (1 + (cn : Int)) (Btw lo8 hi8) _) from HCN.out ▸ markRegister_n [.int .i64 CK, .slice p8_1 CP.length q8_1, .slice p8_2 OS.length q8_2] CK CP OS 1 (Btw lo8 hi8) _ (by decide) (by have h1 := HCN.out; rw [← h1]; omega) HT.out (fun k hk => by have := hk.2; omega) GP_14.out)).mono ?_
  rintro r w15 ⟨rfl, ho, ht⟩
  have HB15 : Hid (Below w.heap.size w w15) := Hid.intro (HB14.out.trans (ht.below (fun k hk => by simp only [Btw] at hk; omega) HB14.out.size))
  have sz15 : w14.heap.size ≤ w15.heap.size := ht.size
  have A0_15 : Hid (Bx w15 w.heap.size [.int .i64 ck, .slice a0_1 cp.length k0_1, .slice a0_2 os.length k0_2]) := A0_14.out.turnS ht (by simp only [Btw]; omega)
  have A1_15 : Hid (Bx w15 (w.heap.size + 1) [.bool bg, .int .i64 cl, .bool wt, .string vl, .int .i64 oi, .int .i64 ni]) := A1_14.out.turnS ht (by simp only [Btw]; omega)
  have W_15 : Hid (Bx w15 b5 [.int .i64 CK, .slice p5_1 CP.length q5_1, .slice p5_2 OS.length q5_2]) := W_14.out.turnS ht (by simp only [Btw]; omega)
  have SP_15 : Hid (Own w15 shRegister [.int .i64 CK, .slice p5_1 CP.length q5_1, .slice p5_2 OS.length q5_2] (CK, CP, OS, ()) (Btw lo5 hi5)) := SP_14.out.turn ht (fun k e f => by simp only [Btw] at e f; omega)
  have G_15 : Hid (Bx w15 b8 [.int .i64 CK, .slice p8_1 CP.length q8_1, .slice p8_2 OS.length q8_2]) := G_14.out.turnS ht (by simp only [Btw]; omega)
  have GP_15 : Hid (Own w15 shRegister [.int .i64 CK, .slice p8_1 CP.length q8_1, .slice p8_2 OS.length q8_2] (mkT shRegister (CK, CP, OS, ()) 1) (Btw lo8 hi8)) := ho
  clear ht ho cG0 cG1 cG2 zG A0_14 A1_14 W_14 SP_14 G_14 GP_14 HB14
  have cG0 := G_15.out.cell 0 rfl
  have cG1 := G_15.out.cell 1 rfl
  have cG2 := G_15.out.cell 2 rfl
  have zG := G_15.out.2
  go_wp2_with fail
  refine ((show Calls _ _ _ _ (fun r w' => r = .returned (.int .i64 (1 + (cn : Int))) ∧ Below _ _ w') from HCN.out ▸ heldRegister_n [.int .i64 CK, .slice p8_1 CP.length q8_1, .slice p8_2 OS.length q8_2] CK CP OS 1 _ (by decide) (by have h1 := HCN.out; rw [← h1]; omega) HT.out GP_15.out.lies)).mono ?_
  rintro r w16 ⟨rfl, hb⟩
  have HB16 : Hid (Below w.heap.size w w16) := below_next HB15.out hb
  have sz16 : w15.heap.size ≤ w16.heap.size := hb.size
  have A0_16 : Hid (Bx w16 w.heap.size [.int .i64 ck, .slice a0_1 cp.length k0_1, .slice a0_2 os.length k0_2]) := A0_15.out.next hb
  have A1_16 : Hid (Bx w16 (w.heap.size + 1) [.bool bg, .int .i64 cl, .bool wt, .string vl, .int .i64 oi, .int .i64 ni]) := A1_15.out.next hb
  have W_16 : Hid (Bx w16 b5 [.int .i64 CK, .slice p5_1 CP.length q5_1, .slice p5_2 OS.length q5_2]) := W_15.out.next hb
  have SP_16 : Hid (Own w16 shRegister [.int .i64 CK, .slice p5_1 CP.length q5_1, .slice p5_2 OS.length q5_2] (CK, CP, OS, ()) (Btw lo5 hi5)) := SP_15.out.next hb
  have G_16 : Hid (Bx w16 b8 [.int .i64 CK, .slice p8_1 CP.length q8_1, .slice p8_2 OS.length q8_2]) := G_15.out.next hb
  have GP_16 : Hid (Own w16 shRegister [.int .i64 CK, .slice p8_1 CP.length q8_1, .slice p8_2 OS.length q8_2] (mkT shRegister (CK, CP, OS, ()) 1) (Btw lo8 hi8)) := GP_15.out.next hb
  clear hb cG0 cG1 cG2 zG A0_15 A1_15 W_15 SP_15 G_15 GP_15 HB15
  go_upto_region 27 with fail
  go_cut [14, 15] (fun s14 s15 wx => ∃ (b : Nat) (a3_1 : Option Addr) (k3_1 : Nat) (a3_2 : Option Addr) (k3_2 : Nat) (lo hi : Nat), s14 = .pointer (some ⟨b, 0, none⟩) ∧ s15 = .bool z ∧ Bx wx b [.int .i64 CK, .slice a3_1 CP.length k3_1, .slice a3_2 OS.length k3_2] ∧ Own wx shRegister [.int .i64 CK, .slice a3_1 CP.length k3_1, .slice a3_2 OS.length k3_2] (CK, CP, OS, ()) (Btw lo hi) ∧ w16.heap.size ≤ lo ∧ lo ≤ hi ∧ hi ≤ wx.heap.size ∧ w16.heap.size ≤ b ∧ b < wx.heap.size ∧ (b < lo ∨ hi ≤ b) ∧ Below w16.heap.size w16 wx)
  case first =>
    have hb : Below w16.heap.size w16 w16.drew := below_drew _
    have HD : Hid (Bx w16.drew w.heap.size [.int .i64 ck, .slice a0_1 cp.length k0_1, .slice a0_2 os.length k0_2] ∧ Bx w16.drew (w.heap.size + 1) [.bool bg, .int .i64 cl, .bool wt, .string vl, .int .i64 oi, .int .i64 ni] ∧ Below w16.heap.size w16 w16.drew) := ⟨A0_16.out.next hb, A1_16.out.next hb, hb⟩
    clear hb
    refine wp_region_noPanic ?_
    refine wp_region_held_drew (S := fun W => Bx W w.heap.size [.int .i64 ck, .slice a0_1 cp.length k0_1, .slice a0_2 os.length k0_2] ∧ Bx W (w.heap.size + 1) [.bool bg, .int .i64 cl, .bool wt, .string vl, .int .i64 oi, .int .i64 ni]) (by kernel_rfl) ⟨HD.out.1, HD.out.2.1⟩ (fun hHeld => ?_)
    obtain ⟨X0, hX0⟩ : ∃ x, x = w16.drew := ⟨_, rfl⟩
    rw [← hX0] at HD hHeld ⊢
    clear hX0
    refine take_v (v := ?_) 0 ⟨some 85, Op.load 62 (Operand.tmp 2), _, _, _, none⟩ rfl (fun _ _ _ h => h) ?_ hHeld ?_
    rotate_left
    · (intro W hSW; (have s0_0 := hSW.1.cell 0 rfl; have s0_1 := hSW.1.cell 1 rfl; have s0_2 := hSW.1.cell 2 rfl; have s0z := hSW.1.2; have s1_0 := hSW.2.cell 0 rfl; have s1_1 := hSW.2.cell 1 rfl; have s1_2 := hSW.2.cell 2 rfl; have s1_3 := hSW.2.cell 3 rfl; have s1_4 := hSW.2.cell 4 rfl; have s1_5 := hSW.2.cell 5 rfl; have s1z := hSW.2.2); go_simp <;> (try with_reducible rfl))
    refine take_v (v := ?_) 2 ⟨some 87, Op.load 66 (Operand.tmp 3), _, _, _, none⟩ rfl (fun _ _ _ h => h) ?_ hHeld ?_
    rotate_left
    · (intro W hSW; (have s0_0 := hSW.1.cell 0 rfl; have s0_1 := hSW.1.cell 1 rfl; have s0_2 := hSW.1.cell 2 rfl; have s0z := hSW.1.2; have s1_0 := hSW.2.cell 0 rfl; have s1_1 := hSW.2.cell 1 rfl; have s1_2 := hSW.2.cell 2 rfl; have s1_3 := hSW.2.cell 3 rfl; have s1_4 := hSW.2.cell 4 rfl; have s1_5 := hSW.2.cell 5 rfl; have s1z := hSW.2.2); go_simp <;> (try with_reducible rfl))
    refine ready_two 1 8 ⟨some 86, Op.call { callee := Callee.value (Operand.func 29), args := #[Operand.tmp 85], argTypes := #[62] }, _, _, _, none⟩ ⟨some 14, Op.alloc 29, _, _, _, none⟩ (by kernel_rfl) rfl rfl (by kernel_rfl) (by kernel_rfl) (fun KC hK => ?_) (fun KC hK => ?_)
    ·
      go_wp2_with fail
      refine (toRegister_n [.int .i64 ck, .slice a0_1 cp.length k0_1, .slice a0_2 os.length k0_2] ck cp os _ HS0.out (HL0.out.next (below_next HB16.out HD.out.2.2))).mono ?_
      rintro r W1 ⟨cs9, rfl, ho, hb⟩
      obtain ⟨p1_1, q1_1, _, p1_2, q1_2, _, hev, _⟩ := own_Register ho
      subst hev
      (first | (have HO1 := Hid.intro (HO1.out.next hb)) | skip); (first | (have HO2 := Hid.intro (HO2.out.next hb)) | skip)
      have HO1 := Hid.intro ho.lies
      have HD := (show Hid (Bx W1 w.heap.size [.int .i64 ck, .slice a0_1 cp.length k0_1, .slice a0_2 os.length k0_2] ∧ Bx W1 (w.heap.size + 1) [.bool bg, .int .i64 cl, .bool wt, .string vl, .int .i64 oi, .int .i64 ni] ∧ Below w16.heap.size w16 W1) from ⟨HD.out.1.next hb, HD.out.2.1.next hb, below_next HD.out.2.2 hb⟩)
      (first | (have H8 := (show Hid (Bx W1 b8 [.int .i64 0, .slice none 0 0, .slice none 0 0] ∧ w16.heap.size ≤ b8) from ⟨H8.out.1.next hb, H8.out.2⟩)) | skip)
      clear ho hb
      refine hK.out _ _ ⟨HD.out.1, HD.out.2.1⟩ (fun hHeld => ?_)
      clear hK KC
      refine ready_two 3 8 ⟨some 88, Op.call { callee := Callee.value (Operand.func 31), args := #[Operand.tmp 87], argTypes := #[66] }, _, _, _, none⟩ ⟨some 14, Op.alloc 29, _, _, _, none⟩ (by kernel_rfl) rfl rfl (by kernel_rfl) (by kernel_rfl) (fun KC hK => ?_) (fun KC hK => ?_)
      ·
        go_wp2_with fail
        refine (toRegStep_n [.bool bg, .int .i64 cl, .bool wt, .string vl, .int .i64 oi, .int .i64 ni] bg cl wt vl oi ni _ HS1.out (HL1.out.next (below_next HB16.out HD.out.2.2))).mono ?_
        rintro r W2 ⟨cs9, rfl, ho, hb⟩
        obtain hev := own_RegStep ho
        subst hev
        (first | (have HO1 := Hid.intro (HO1.out.next hb)) | skip); (first | (have HO2 := Hid.intro (HO2.out.next hb)) | skip)
        have HO2 := Hid.intro ho.lies
        have HD := (show Hid (Bx W2 w.heap.size [.int .i64 ck, .slice a0_1 cp.length k0_1, .slice a0_2 os.length k0_2] ∧ Bx W2 (w.heap.size + 1) [.bool bg, .int .i64 cl, .bool wt, .string vl, .int .i64 oi, .int .i64 ni] ∧ Below w16.heap.size w16 W2) from ⟨HD.out.1.next hb, HD.out.2.1.next hb, below_next HD.out.2.2 hb⟩)
        (first | (have H8 := (show Hid (Bx W2 b8 [.int .i64 0, .slice none 0 0, .slice none 0 0] ∧ w16.heap.size ≤ b8) from ⟨H8.out.1.next hb, H8.out.2⟩)) | skip)
        clear ho hb
        refine hK.out _ _ ⟨HD.out.1, HD.out.2.1⟩ (fun hHeld => ?_)
        clear hK KC
        refine ready_two 4 8 ⟨some 89, Op.call { callee := Callee.value (Operand.func 20), args := #[Operand.tmp 86, Operand.tmp 88], argTypes := #[29, 42] }, _, _, _, none⟩ ⟨some 14, Op.alloc 29, _, _, _, none⟩ (by kernel_rfl) rfl rfl (by kernel_rfl) (by kernel_rfl) (fun KC hK => ?_) (fun KC hK => ?_)
        ·
          go_wp2_with fail
          refine (stepRegister_l [.int .i64 ck, .slice p1_1 cp.length q1_1, .slice p1_2 os.length q1_2] ck cp os bg cl wt vl oi ni _ CK CP OS z HA.out HS0.out HS1.out HO1.out).mono ?_
          intro r W9 hT
          obtain ⟨cs9, lo, hi, rfl, ho, hlo, hlh, hhi, hb⟩ := ansG_out hT
          obtain ⟨a3_1, k3_1, _, a3_2, k3_2, _, hev, _⟩ := own_Register ho
          subst hev
          have hol : w16.heap.size ≤ lo := Nat.le_trans HD.out.2.2.size hlo
          (first | (have HO9 := (show Hid (Own W9 shRegister [.int .i64 CK, .slice a3_1 CP.length k3_1, .slice a3_2 OS.length k3_2] (CK, CP, OS, ()) (Btw lo hi) ∧ w16.heap.size ≤ lo ∧ lo ≤ hi ∧ hi ≤ W9.heap.size ∧ (b8 < lo ∨ hi ≤ b8)) from ⟨ho, hol, hlh, hhi, Or.inl (Nat.lt_of_lt_of_le H8.out.1.2 hlo)⟩)) | (have HO9 := (show Hid (Own W9 shRegister [.int .i64 CK, .slice a3_1 CP.length k3_1, .slice a3_2 OS.length k3_2] (CK, CP, OS, ()) (Btw lo hi) ∧ w16.heap.size ≤ lo ∧ lo ≤ hi ∧ hi ≤ W9.heap.size) from ⟨ho, hol, hlh, hhi⟩)))
          have HD := (show Hid (Bx W9 w.heap.size [.int .i64 ck, .slice a0_1 cp.length k0_1, .slice a0_2 os.length k0_2] ∧ Bx W9 (w.heap.size + 1) [.bool bg, .int .i64 cl, .bool wt, .string vl, .int .i64 oi, .int .i64 ni] ∧ Below w16.heap.size w16 W9) from ⟨HD.out.1.next hb, HD.out.2.1.next hb, below_next HD.out.2.2 hb⟩)
          (first | (have H8 := (show Hid (Bx W9 b8 [.int .i64 0, .slice none 0 0, .slice none 0 0] ∧ w16.heap.size ≤ b8) from ⟨H8.out.1.next hb, H8.out.2⟩)) | skip)
          clear ho hlo hlh hhi hol hb hT
          refine hK.out _ _ ⟨HD.out.1, HD.out.2.1⟩ (fun hHeld => ?_)
          clear hK KC
          refine take_v (v := ?_) 5 ⟨some 84, Op.move (Operand.tmp 89), _, _, _, none⟩ rfl (fun _ _ _ h => h) ?_ hHeld ?_
          rotate_left
          · (intro W _; go_simp <;> (try with_reducible rfl))
          refine take_v (v := ?_) 6 ⟨some 90, Op.extract (Operand.tmp 84) 0, _, _, _, none⟩ rfl (fun _ _ _ h => h) ?_ hHeld ?_
          rotate_left
          · (intro W _; go_simp <;> (try with_reducible rfl))
          refine take_v (v := ?_) 7 ⟨some 91, Op.extract (Operand.tmp 84) 1, _, _, _, none⟩ rfl (fun _ _ _ h => h) ?_ hHeld ?_
          rotate_left
          · (intro W _; go_simp <;> (try with_reducible rfl))
          refine ready_call 8 ⟨some 14, Op.alloc 29, _, _, _, none⟩ (by kernel_rfl) rfl (by kernel_rfl) (fun KC hK => ?_)
          go_wp2_with fail
          (first | (obtain ⟨W8, hW8⟩ : ∃ x, x = W9.alloc (.cells #[.int .i64 0, .slice none 0 0, .slice none 0 0] 29) := ⟨_, rfl⟩; have hb : Below W9.heap.size W9 W8 := hW8 ▸ Go.Joins.below_alloc1 _ _; obtain ⟨b8, hb8⟩ : ∃ b, b = W9.heap.size := ⟨_, rfl⟩; have H8 : Hid (Bx W8 b8 [.int .i64 0, .slice none 0 0, .slice none 0 0] ∧ w16.heap.size ≤ b8) := ⟨hb8 ▸ hW8 ▸ Bx.new W9 [.int .i64 0, .slice none 0 0, .slice none 0 0] _, by rw [hb8]; exact HD.out.2.2.size⟩; have HO9 := (show Hid (Own W8 shRegister [.int .i64 CK, .slice a3_1 CP.length k3_1, .slice a3_2 OS.length k3_2] (CK, CP, OS, ()) (Btw lo hi) ∧ w16.heap.size ≤ lo ∧ lo ≤ hi ∧ hi ≤ W8.heap.size ∧ (b8 < lo ∨ hi ≤ b8)) from ⟨HO9.out.1.next hb, HO9.out.2.1, HO9.out.2.2.1, Nat.le_trans HO9.out.2.2.2 hb.size, Or.inr (by rw [hb8]; exact HO9.out.2.2.2)⟩); have HD := (show Hid (Bx W8 w.heap.size [.int .i64 ck, .slice a0_1 cp.length k0_1, .slice a0_2 os.length k0_2] ∧ Bx W8 (w.heap.size + 1) [.bool bg, .int .i64 cl, .bool wt, .string vl, .int .i64 oi, .int .i64 ni] ∧ Below w16.heap.size w16 W8) from ⟨HD.out.1.next hb, HD.out.2.1.next hb, below_next HD.out.2.2 hb⟩); rw [← hW8, ← hb8]; clear hW8 hb8 hb) | (obtain ⟨W8, hW8⟩ : ∃ x, x = W2.alloc (.cells #[.int .i64 0, .slice none 0 0, .slice none 0 0] 29) := ⟨_, rfl⟩; have hb : Below W2.heap.size W2 W8 := hW8 ▸ Go.Joins.below_alloc1 _ _; obtain ⟨b8, hb8⟩ : ∃ b, b = W2.heap.size := ⟨_, rfl⟩; have H8 : Hid (Bx W8 b8 [.int .i64 0, .slice none 0 0, .slice none 0 0] ∧ w16.heap.size ≤ b8) := ⟨hb8 ▸ hW8 ▸ Bx.new W2 [.int .i64 0, .slice none 0 0, .slice none 0 0] _, by rw [hb8]; exact HD.out.2.2.size⟩; (first | (have HO1 := Hid.intro (HO1.out.next hb)) | skip); (first | (have HO2 := Hid.intro (HO2.out.next hb)) | skip); have HD := (show Hid (Bx W8 w.heap.size [.int .i64 ck, .slice a0_1 cp.length k0_1, .slice a0_2 os.length k0_2] ∧ Bx W8 (w.heap.size + 1) [.bool bg, .int .i64 cl, .bool wt, .string vl, .int .i64 oi, .int .i64 ni] ∧ Below w16.heap.size w16 W8) from ⟨HD.out.1.next hb, HD.out.2.1.next hb, below_next HD.out.2.2 hb⟩); rw [← hW8, ← hb8]; clear hW8 hb8 hb) | (obtain ⟨W8, hW8⟩ : ∃ x, x = W1.alloc (.cells #[.int .i64 0, .slice none 0 0, .slice none 0 0] 29) := ⟨_, rfl⟩; have hb : Below W1.heap.size W1 W8 := hW8 ▸ Go.Joins.below_alloc1 _ _; obtain ⟨b8, hb8⟩ : ∃ b, b = W1.heap.size := ⟨_, rfl⟩; have H8 : Hid (Bx W8 b8 [.int .i64 0, .slice none 0 0, .slice none 0 0] ∧ w16.heap.size ≤ b8) := ⟨hb8 ▸ hW8 ▸ Bx.new W1 [.int .i64 0, .slice none 0 0, .slice none 0 0] _, by rw [hb8]; exact HD.out.2.2.size⟩; (first | (have HO1 := Hid.intro (HO1.out.next hb)) | skip); (first | (have HO2 := Hid.intro (HO2.out.next hb)) | skip); have HD := (show Hid (Bx W8 w.heap.size [.int .i64 ck, .slice a0_1 cp.length k0_1, .slice a0_2 os.length k0_2] ∧ Bx W8 (w.heap.size + 1) [.bool bg, .int .i64 cl, .bool wt, .string vl, .int .i64 oi, .int .i64 ni] ∧ Below w16.heap.size w16 W8) from ⟨HD.out.1.next hb, HD.out.2.1.next hb, below_next HD.out.2.2 hb⟩); rw [← hW8, ← hb8]; clear hW8 hb8 hb) | (obtain ⟨W8, hW8⟩ : ∃ x, x = X0.alloc (.cells #[.int .i64 0, .slice none 0 0, .slice none 0 0] 29) := ⟨_, rfl⟩; have hb : Below X0.heap.size X0 W8 := hW8 ▸ Go.Joins.below_alloc1 _ _; obtain ⟨b8, hb8⟩ : ∃ b, b = X0.heap.size := ⟨_, rfl⟩; have H8 : Hid (Bx W8 b8 [.int .i64 0, .slice none 0 0, .slice none 0 0] ∧ w16.heap.size ≤ b8) := ⟨hb8 ▸ hW8 ▸ Bx.new X0 [.int .i64 0, .slice none 0 0, .slice none 0 0] _, by rw [hb8]; exact HD.out.2.2.size⟩; (first | (have HO1 := Hid.intro (HO1.out.next hb)) | skip); (first | (have HO2 := Hid.intro (HO2.out.next hb)) | skip); have HD := (show Hid (Bx W8 w.heap.size [.int .i64 ck, .slice a0_1 cp.length k0_1, .slice a0_2 os.length k0_2] ∧ Bx W8 (w.heap.size + 1) [.bool bg, .int .i64 cl, .bool wt, .string vl, .int .i64 oi, .int .i64 ni] ∧ Below w16.heap.size w16 W8) from ⟨HD.out.1.next hb, HD.out.2.1.next hb, below_next HD.out.2.2 hb⟩); rw [← hW8, ← hb8]; clear hW8 hb8 hb))
          refine hK.out _ _ ⟨HD.out.1, HD.out.2.1⟩ (fun hHeld => ?_)
          clear hK KC
          refine ready_call 9 ⟨none, Op.store 29 (Operand.tmp 14) (Operand.tmp 90), _, _, _, none⟩ (by kernel_rfl) rfl (by kernel_rfl) (fun KC hK => ?_)
          have dz := H8.out.1.2
          have d0 := H8.out.1.cell 0 rfl
          have d1 := H8.out.1.cell 1 rfl
          have d2 := H8.out.1.cell 2 rfl
          have f0 := H8.out.1.frz 0 (by simp)
          have f1 := H8.out.1.frz 1 (by simp)
          have f2 := H8.out.1.frz 2 (by simp)
          have h8 := H8.out.2
          go_wp2_with fail
          have HF := Hid.intro (box_own3 (o := w16) H8.out.1 H8.out.2 HO9.out.1 HO9.out.2.2.2.2 HD.out.2.2 (.int .i64 CK) (.slice a3_1 CP.length k3_1) (.slice a3_2 OS.length k3_2))
          clear dz d0 f0 d1 f1 d2 f2
          refine hK.out _ _ ⟨(((HD.out.1.other (by omega)).other (by omega)).other (by omega)), (((HD.out.2.1.other (by omega)).other (by omega)).other (by omega))⟩ (fun hHeld => ?_)
          clear hK KC
          refine take_v (v := ?_) 10 ⟨some 15, Op.assign (Operand.tmp 91), _, _, _, none⟩ rfl (fun _ _ _ h => h) ?_ hHeld ?_
          rotate_left
          · (intro W _; go_simp <;> (try with_reducible rfl))
          refine wpAnyH_done (by kernel_rfl) ?_ _
          refine NoPanic.normal ?_
          clear hHeld
          go_wp2_with fail
          go_meet
          exact ⟨b8, a3_1, k3_1, a3_2, k3_2, lo, hi, rfl, rfl, HF.out.1, HF.out.2.1, HO9.out.2.1, HO9.out.2.2.1, by rw [HF.out.2.2.2]; exact HO9.out.2.2.2.1, H8.out.2, by rw [HF.out.2.2.2]; exact H8.out.1.2, HO9.out.2.2.2.2, HF.out.2.2.1⟩
        ·
          go_wp2_with fail
          (first | (obtain ⟨W8, hW8⟩ : ∃ x, x = W9.alloc (.cells #[.int .i64 0, .slice none 0 0, .slice none 0 0] 29) := ⟨_, rfl⟩; have hb : Below W9.heap.size W9 W8 := hW8 ▸ Go.Joins.below_alloc1 _ _; obtain ⟨b8, hb8⟩ : ∃ b, b = W9.heap.size := ⟨_, rfl⟩; have H8 : Hid (Bx W8 b8 [.int .i64 0, .slice none 0 0, .slice none 0 0] ∧ w16.heap.size ≤ b8) := ⟨hb8 ▸ hW8 ▸ Bx.new W9 [.int .i64 0, .slice none 0 0, .slice none 0 0] _, by rw [hb8]; exact HD.out.2.2.size⟩; have HO9 := (show Hid (Own W8 shRegister [.int .i64 CK, .slice a3_1 CP.length k3_1, .slice a3_2 OS.length k3_2] (CK, CP, OS, ()) (Btw lo hi) ∧ w16.heap.size ≤ lo ∧ lo ≤ hi ∧ hi ≤ W8.heap.size ∧ (b8 < lo ∨ hi ≤ b8)) from ⟨HO9.out.1.next hb, HO9.out.2.1, HO9.out.2.2.1, Nat.le_trans HO9.out.2.2.2 hb.size, Or.inr (by rw [hb8]; exact HO9.out.2.2.2)⟩); have HD := (show Hid (Bx W8 w.heap.size [.int .i64 ck, .slice a0_1 cp.length k0_1, .slice a0_2 os.length k0_2] ∧ Bx W8 (w.heap.size + 1) [.bool bg, .int .i64 cl, .bool wt, .string vl, .int .i64 oi, .int .i64 ni] ∧ Below w16.heap.size w16 W8) from ⟨HD.out.1.next hb, HD.out.2.1.next hb, below_next HD.out.2.2 hb⟩); rw [← hW8, ← hb8]; clear hW8 hb8 hb) | (obtain ⟨W8, hW8⟩ : ∃ x, x = W2.alloc (.cells #[.int .i64 0, .slice none 0 0, .slice none 0 0] 29) := ⟨_, rfl⟩; have hb : Below W2.heap.size W2 W8 := hW8 ▸ Go.Joins.below_alloc1 _ _; obtain ⟨b8, hb8⟩ : ∃ b, b = W2.heap.size := ⟨_, rfl⟩; have H8 : Hid (Bx W8 b8 [.int .i64 0, .slice none 0 0, .slice none 0 0] ∧ w16.heap.size ≤ b8) := ⟨hb8 ▸ hW8 ▸ Bx.new W2 [.int .i64 0, .slice none 0 0, .slice none 0 0] _, by rw [hb8]; exact HD.out.2.2.size⟩; (first | (have HO1 := Hid.intro (HO1.out.next hb)) | skip); (first | (have HO2 := Hid.intro (HO2.out.next hb)) | skip); have HD := (show Hid (Bx W8 w.heap.size [.int .i64 ck, .slice a0_1 cp.length k0_1, .slice a0_2 os.length k0_2] ∧ Bx W8 (w.heap.size + 1) [.bool bg, .int .i64 cl, .bool wt, .string vl, .int .i64 oi, .int .i64 ni] ∧ Below w16.heap.size w16 W8) from ⟨HD.out.1.next hb, HD.out.2.1.next hb, below_next HD.out.2.2 hb⟩); rw [← hW8, ← hb8]; clear hW8 hb8 hb) | (obtain ⟨W8, hW8⟩ : ∃ x, x = W1.alloc (.cells #[.int .i64 0, .slice none 0 0, .slice none 0 0] 29) := ⟨_, rfl⟩; have hb : Below W1.heap.size W1 W8 := hW8 ▸ Go.Joins.below_alloc1 _ _; obtain ⟨b8, hb8⟩ : ∃ b, b = W1.heap.size := ⟨_, rfl⟩; have H8 : Hid (Bx W8 b8 [.int .i64 0, .slice none 0 0, .slice none 0 0] ∧ w16.heap.size ≤ b8) := ⟨hb8 ▸ hW8 ▸ Bx.new W1 [.int .i64 0, .slice none 0 0, .slice none 0 0] _, by rw [hb8]; exact HD.out.2.2.size⟩; (first | (have HO1 := Hid.intro (HO1.out.next hb)) | skip); (first | (have HO2 := Hid.intro (HO2.out.next hb)) | skip); have HD := (show Hid (Bx W8 w.heap.size [.int .i64 ck, .slice a0_1 cp.length k0_1, .slice a0_2 os.length k0_2] ∧ Bx W8 (w.heap.size + 1) [.bool bg, .int .i64 cl, .bool wt, .string vl, .int .i64 oi, .int .i64 ni] ∧ Below w16.heap.size w16 W8) from ⟨HD.out.1.next hb, HD.out.2.1.next hb, below_next HD.out.2.2 hb⟩); rw [← hW8, ← hb8]; clear hW8 hb8 hb) | (obtain ⟨W8, hW8⟩ : ∃ x, x = X0.alloc (.cells #[.int .i64 0, .slice none 0 0, .slice none 0 0] 29) := ⟨_, rfl⟩; have hb : Below X0.heap.size X0 W8 := hW8 ▸ Go.Joins.below_alloc1 _ _; obtain ⟨b8, hb8⟩ : ∃ b, b = X0.heap.size := ⟨_, rfl⟩; have H8 : Hid (Bx W8 b8 [.int .i64 0, .slice none 0 0, .slice none 0 0] ∧ w16.heap.size ≤ b8) := ⟨hb8 ▸ hW8 ▸ Bx.new X0 [.int .i64 0, .slice none 0 0, .slice none 0 0] _, by rw [hb8]; exact HD.out.2.2.size⟩; (first | (have HO1 := Hid.intro (HO1.out.next hb)) | skip); (first | (have HO2 := Hid.intro (HO2.out.next hb)) | skip); have HD := (show Hid (Bx W8 w.heap.size [.int .i64 ck, .slice a0_1 cp.length k0_1, .slice a0_2 os.length k0_2] ∧ Bx W8 (w.heap.size + 1) [.bool bg, .int .i64 cl, .bool wt, .string vl, .int .i64 oi, .int .i64 ni] ∧ Below w16.heap.size w16 W8) from ⟨HD.out.1.next hb, HD.out.2.1.next hb, below_next HD.out.2.2 hb⟩); rw [← hW8, ← hb8]; clear hW8 hb8 hb))
          refine hK.out _ _ ⟨HD.out.1, HD.out.2.1⟩ (fun hHeld => ?_)
          clear hK KC
          refine ready_call 4 ⟨some 89, Op.call { callee := Callee.value (Operand.func 20), args := #[Operand.tmp 86, Operand.tmp 88], argTypes := #[29, 42] }, _, _, _, none⟩ (by kernel_rfl) rfl (by kernel_rfl) (fun KC hK => ?_)
          go_wp2_with fail
          refine (stepRegister_l [.int .i64 ck, .slice p1_1 cp.length q1_1, .slice p1_2 os.length q1_2] ck cp os bg cl wt vl oi ni _ CK CP OS z HA.out HS0.out HS1.out HO1.out).mono ?_
          intro r W9 hT
          obtain ⟨cs9, lo, hi, rfl, ho, hlo, hlh, hhi, hb⟩ := ansG_out hT
          obtain ⟨a3_1, k3_1, _, a3_2, k3_2, _, hev, _⟩ := own_Register ho
          subst hev
          have hol : w16.heap.size ≤ lo := Nat.le_trans HD.out.2.2.size hlo
          (first | (have HO9 := (show Hid (Own W9 shRegister [.int .i64 CK, .slice a3_1 CP.length k3_1, .slice a3_2 OS.length k3_2] (CK, CP, OS, ()) (Btw lo hi) ∧ w16.heap.size ≤ lo ∧ lo ≤ hi ∧ hi ≤ W9.heap.size ∧ (b8 < lo ∨ hi ≤ b8)) from ⟨ho, hol, hlh, hhi, Or.inl (Nat.lt_of_lt_of_le H8.out.1.2 hlo)⟩)) | (have HO9 := (show Hid (Own W9 shRegister [.int .i64 CK, .slice a3_1 CP.length k3_1, .slice a3_2 OS.length k3_2] (CK, CP, OS, ()) (Btw lo hi) ∧ w16.heap.size ≤ lo ∧ lo ≤ hi ∧ hi ≤ W9.heap.size) from ⟨ho, hol, hlh, hhi⟩)))
          have HD := (show Hid (Bx W9 w.heap.size [.int .i64 ck, .slice a0_1 cp.length k0_1, .slice a0_2 os.length k0_2] ∧ Bx W9 (w.heap.size + 1) [.bool bg, .int .i64 cl, .bool wt, .string vl, .int .i64 oi, .int .i64 ni] ∧ Below w16.heap.size w16 W9) from ⟨HD.out.1.next hb, HD.out.2.1.next hb, below_next HD.out.2.2 hb⟩)
          (first | (have H8 := (show Hid (Bx W9 b8 [.int .i64 0, .slice none 0 0, .slice none 0 0] ∧ w16.heap.size ≤ b8) from ⟨H8.out.1.next hb, H8.out.2⟩)) | skip)
          clear ho hlo hlh hhi hol hb hT
          refine hK.out _ _ ⟨HD.out.1, HD.out.2.1⟩ (fun hHeld => ?_)
          clear hK KC
          refine take_v (v := ?_) 5 ⟨some 84, Op.move (Operand.tmp 89), _, _, _, none⟩ rfl (fun _ _ _ h => h) ?_ hHeld ?_
          rotate_left
          · (intro W _; go_simp <;> (try with_reducible rfl))
          refine take_v (v := ?_) 6 ⟨some 90, Op.extract (Operand.tmp 84) 0, _, _, _, none⟩ rfl (fun _ _ _ h => h) ?_ hHeld ?_
          rotate_left
          · (intro W _; go_simp <;> (try with_reducible rfl))
          refine take_v (v := ?_) 7 ⟨some 91, Op.extract (Operand.tmp 84) 1, _, _, _, none⟩ rfl (fun _ _ _ h => h) ?_ hHeld ?_
          rotate_left
          · (intro W _; go_simp <;> (try with_reducible rfl))
          refine ready_call 9 ⟨none, Op.store 29 (Operand.tmp 14) (Operand.tmp 90), _, _, _, none⟩ (by kernel_rfl) rfl (by kernel_rfl) (fun KC hK => ?_)
          have dz := H8.out.1.2
          have d0 := H8.out.1.cell 0 rfl
          have d1 := H8.out.1.cell 1 rfl
          have d2 := H8.out.1.cell 2 rfl
          have f0 := H8.out.1.frz 0 (by simp)
          have f1 := H8.out.1.frz 1 (by simp)
          have f2 := H8.out.1.frz 2 (by simp)
          have h8 := H8.out.2
          go_wp2_with fail
          have HF := Hid.intro (box_own3 (o := w16) H8.out.1 H8.out.2 HO9.out.1 HO9.out.2.2.2.2 HD.out.2.2 (.int .i64 CK) (.slice a3_1 CP.length k3_1) (.slice a3_2 OS.length k3_2))
          clear dz d0 f0 d1 f1 d2 f2
          refine hK.out _ _ ⟨(((HD.out.1.other (by omega)).other (by omega)).other (by omega)), (((HD.out.2.1.other (by omega)).other (by omega)).other (by omega))⟩ (fun hHeld => ?_)
          clear hK KC
          refine take_v (v := ?_) 10 ⟨some 15, Op.assign (Operand.tmp 91), _, _, _, none⟩ rfl (fun _ _ _ h => h) ?_ hHeld ?_
          rotate_left
          · (intro W _; go_simp <;> (try with_reducible rfl))
          refine wpAnyH_done (by kernel_rfl) ?_ _
          refine NoPanic.normal ?_
          clear hHeld
          go_wp2_with fail
          go_meet
          exact ⟨b8, a3_1, k3_1, a3_2, k3_2, lo, hi, rfl, rfl, HF.out.1, HF.out.2.1, HO9.out.2.1, HO9.out.2.2.1, by rw [HF.out.2.2.2]; exact HO9.out.2.2.2.1, H8.out.2, by rw [HF.out.2.2.2]; exact H8.out.1.2, HO9.out.2.2.2.2, HF.out.2.2.1⟩
      ·
        go_wp2_with fail
        (first | (obtain ⟨W8, hW8⟩ : ∃ x, x = W9.alloc (.cells #[.int .i64 0, .slice none 0 0, .slice none 0 0] 29) := ⟨_, rfl⟩; have hb : Below W9.heap.size W9 W8 := hW8 ▸ Go.Joins.below_alloc1 _ _; obtain ⟨b8, hb8⟩ : ∃ b, b = W9.heap.size := ⟨_, rfl⟩; have H8 : Hid (Bx W8 b8 [.int .i64 0, .slice none 0 0, .slice none 0 0] ∧ w16.heap.size ≤ b8) := ⟨hb8 ▸ hW8 ▸ Bx.new W9 [.int .i64 0, .slice none 0 0, .slice none 0 0] _, by rw [hb8]; exact HD.out.2.2.size⟩; have HO9 := (show Hid (Own W8 shRegister [.int .i64 CK, .slice a3_1 CP.length k3_1, .slice a3_2 OS.length k3_2] (CK, CP, OS, ()) (Btw lo hi) ∧ w16.heap.size ≤ lo ∧ lo ≤ hi ∧ hi ≤ W8.heap.size ∧ (b8 < lo ∨ hi ≤ b8)) from ⟨HO9.out.1.next hb, HO9.out.2.1, HO9.out.2.2.1, Nat.le_trans HO9.out.2.2.2 hb.size, Or.inr (by rw [hb8]; exact HO9.out.2.2.2)⟩); have HD := (show Hid (Bx W8 w.heap.size [.int .i64 ck, .slice a0_1 cp.length k0_1, .slice a0_2 os.length k0_2] ∧ Bx W8 (w.heap.size + 1) [.bool bg, .int .i64 cl, .bool wt, .string vl, .int .i64 oi, .int .i64 ni] ∧ Below w16.heap.size w16 W8) from ⟨HD.out.1.next hb, HD.out.2.1.next hb, below_next HD.out.2.2 hb⟩); rw [← hW8, ← hb8]; clear hW8 hb8 hb) | (obtain ⟨W8, hW8⟩ : ∃ x, x = W2.alloc (.cells #[.int .i64 0, .slice none 0 0, .slice none 0 0] 29) := ⟨_, rfl⟩; have hb : Below W2.heap.size W2 W8 := hW8 ▸ Go.Joins.below_alloc1 _ _; obtain ⟨b8, hb8⟩ : ∃ b, b = W2.heap.size := ⟨_, rfl⟩; have H8 : Hid (Bx W8 b8 [.int .i64 0, .slice none 0 0, .slice none 0 0] ∧ w16.heap.size ≤ b8) := ⟨hb8 ▸ hW8 ▸ Bx.new W2 [.int .i64 0, .slice none 0 0, .slice none 0 0] _, by rw [hb8]; exact HD.out.2.2.size⟩; (first | (have HO1 := Hid.intro (HO1.out.next hb)) | skip); (first | (have HO2 := Hid.intro (HO2.out.next hb)) | skip); have HD := (show Hid (Bx W8 w.heap.size [.int .i64 ck, .slice a0_1 cp.length k0_1, .slice a0_2 os.length k0_2] ∧ Bx W8 (w.heap.size + 1) [.bool bg, .int .i64 cl, .bool wt, .string vl, .int .i64 oi, .int .i64 ni] ∧ Below w16.heap.size w16 W8) from ⟨HD.out.1.next hb, HD.out.2.1.next hb, below_next HD.out.2.2 hb⟩); rw [← hW8, ← hb8]; clear hW8 hb8 hb) | (obtain ⟨W8, hW8⟩ : ∃ x, x = W1.alloc (.cells #[.int .i64 0, .slice none 0 0, .slice none 0 0] 29) := ⟨_, rfl⟩; have hb : Below W1.heap.size W1 W8 := hW8 ▸ Go.Joins.below_alloc1 _ _; obtain ⟨b8, hb8⟩ : ∃ b, b = W1.heap.size := ⟨_, rfl⟩; have H8 : Hid (Bx W8 b8 [.int .i64 0, .slice none 0 0, .slice none 0 0] ∧ w16.heap.size ≤ b8) := ⟨hb8 ▸ hW8 ▸ Bx.new W1 [.int .i64 0, .slice none 0 0, .slice none 0 0] _, by rw [hb8]; exact HD.out.2.2.size⟩; (first | (have HO1 := Hid.intro (HO1.out.next hb)) | skip); (first | (have HO2 := Hid.intro (HO2.out.next hb)) | skip); have HD := (show Hid (Bx W8 w.heap.size [.int .i64 ck, .slice a0_1 cp.length k0_1, .slice a0_2 os.length k0_2] ∧ Bx W8 (w.heap.size + 1) [.bool bg, .int .i64 cl, .bool wt, .string vl, .int .i64 oi, .int .i64 ni] ∧ Below w16.heap.size w16 W8) from ⟨HD.out.1.next hb, HD.out.2.1.next hb, below_next HD.out.2.2 hb⟩); rw [← hW8, ← hb8]; clear hW8 hb8 hb) | (obtain ⟨W8, hW8⟩ : ∃ x, x = X0.alloc (.cells #[.int .i64 0, .slice none 0 0, .slice none 0 0] 29) := ⟨_, rfl⟩; have hb : Below X0.heap.size X0 W8 := hW8 ▸ Go.Joins.below_alloc1 _ _; obtain ⟨b8, hb8⟩ : ∃ b, b = X0.heap.size := ⟨_, rfl⟩; have H8 : Hid (Bx W8 b8 [.int .i64 0, .slice none 0 0, .slice none 0 0] ∧ w16.heap.size ≤ b8) := ⟨hb8 ▸ hW8 ▸ Bx.new X0 [.int .i64 0, .slice none 0 0, .slice none 0 0] _, by rw [hb8]; exact HD.out.2.2.size⟩; (first | (have HO1 := Hid.intro (HO1.out.next hb)) | skip); (first | (have HO2 := Hid.intro (HO2.out.next hb)) | skip); have HD := (show Hid (Bx W8 w.heap.size [.int .i64 ck, .slice a0_1 cp.length k0_1, .slice a0_2 os.length k0_2] ∧ Bx W8 (w.heap.size + 1) [.bool bg, .int .i64 cl, .bool wt, .string vl, .int .i64 oi, .int .i64 ni] ∧ Below w16.heap.size w16 W8) from ⟨HD.out.1.next hb, HD.out.2.1.next hb, below_next HD.out.2.2 hb⟩); rw [← hW8, ← hb8]; clear hW8 hb8 hb))
        refine hK.out _ _ ⟨HD.out.1, HD.out.2.1⟩ (fun hHeld => ?_)
        clear hK KC
        refine ready_call 3 ⟨some 88, Op.call { callee := Callee.value (Operand.func 31), args := #[Operand.tmp 87], argTypes := #[66] }, _, _, _, none⟩ (by kernel_rfl) rfl (by kernel_rfl) (fun KC hK => ?_)
        go_wp2_with fail
        refine (toRegStep_n [.bool bg, .int .i64 cl, .bool wt, .string vl, .int .i64 oi, .int .i64 ni] bg cl wt vl oi ni _ HS1.out (HL1.out.next (below_next HB16.out HD.out.2.2))).mono ?_
        rintro r W2 ⟨cs9, rfl, ho, hb⟩
        obtain hev := own_RegStep ho
        subst hev
        (first | (have HO1 := Hid.intro (HO1.out.next hb)) | skip); (first | (have HO2 := Hid.intro (HO2.out.next hb)) | skip)
        have HO2 := Hid.intro ho.lies
        have HD := (show Hid (Bx W2 w.heap.size [.int .i64 ck, .slice a0_1 cp.length k0_1, .slice a0_2 os.length k0_2] ∧ Bx W2 (w.heap.size + 1) [.bool bg, .int .i64 cl, .bool wt, .string vl, .int .i64 oi, .int .i64 ni] ∧ Below w16.heap.size w16 W2) from ⟨HD.out.1.next hb, HD.out.2.1.next hb, below_next HD.out.2.2 hb⟩)
        (first | (have H8 := (show Hid (Bx W2 b8 [.int .i64 0, .slice none 0 0, .slice none 0 0] ∧ w16.heap.size ≤ b8) from ⟨H8.out.1.next hb, H8.out.2⟩)) | skip)
        clear ho hb
        refine hK.out _ _ ⟨HD.out.1, HD.out.2.1⟩ (fun hHeld => ?_)
        clear hK KC
        refine ready_call 4 ⟨some 89, Op.call { callee := Callee.value (Operand.func 20), args := #[Operand.tmp 86, Operand.tmp 88], argTypes := #[29, 42] }, _, _, _, none⟩ (by kernel_rfl) rfl (by kernel_rfl) (fun KC hK => ?_)
        go_wp2_with fail
        refine (stepRegister_l [.int .i64 ck, .slice p1_1 cp.length q1_1, .slice p1_2 os.length q1_2] ck cp os bg cl wt vl oi ni _ CK CP OS z HA.out HS0.out HS1.out HO1.out).mono ?_
        intro r W9 hT
        obtain ⟨cs9, lo, hi, rfl, ho, hlo, hlh, hhi, hb⟩ := ansG_out hT
        obtain ⟨a3_1, k3_1, _, a3_2, k3_2, _, hev, _⟩ := own_Register ho
        subst hev
        have hol : w16.heap.size ≤ lo := Nat.le_trans HD.out.2.2.size hlo
        (first | (have HO9 := (show Hid (Own W9 shRegister [.int .i64 CK, .slice a3_1 CP.length k3_1, .slice a3_2 OS.length k3_2] (CK, CP, OS, ()) (Btw lo hi) ∧ w16.heap.size ≤ lo ∧ lo ≤ hi ∧ hi ≤ W9.heap.size ∧ (b8 < lo ∨ hi ≤ b8)) from ⟨ho, hol, hlh, hhi, Or.inl (Nat.lt_of_lt_of_le H8.out.1.2 hlo)⟩)) | (have HO9 := (show Hid (Own W9 shRegister [.int .i64 CK, .slice a3_1 CP.length k3_1, .slice a3_2 OS.length k3_2] (CK, CP, OS, ()) (Btw lo hi) ∧ w16.heap.size ≤ lo ∧ lo ≤ hi ∧ hi ≤ W9.heap.size) from ⟨ho, hol, hlh, hhi⟩)))
        have HD := (show Hid (Bx W9 w.heap.size [.int .i64 ck, .slice a0_1 cp.length k0_1, .slice a0_2 os.length k0_2] ∧ Bx W9 (w.heap.size + 1) [.bool bg, .int .i64 cl, .bool wt, .string vl, .int .i64 oi, .int .i64 ni] ∧ Below w16.heap.size w16 W9) from ⟨HD.out.1.next hb, HD.out.2.1.next hb, below_next HD.out.2.2 hb⟩)
        (first | (have H8 := (show Hid (Bx W9 b8 [.int .i64 0, .slice none 0 0, .slice none 0 0] ∧ w16.heap.size ≤ b8) from ⟨H8.out.1.next hb, H8.out.2⟩)) | skip)
        clear ho hlo hlh hhi hol hb hT
        refine hK.out _ _ ⟨HD.out.1, HD.out.2.1⟩ (fun hHeld => ?_)
        clear hK KC
        refine take_v (v := ?_) 5 ⟨some 84, Op.move (Operand.tmp 89), _, _, _, none⟩ rfl (fun _ _ _ h => h) ?_ hHeld ?_
        rotate_left
        · (intro W _; go_simp <;> (try with_reducible rfl))
        refine take_v (v := ?_) 6 ⟨some 90, Op.extract (Operand.tmp 84) 0, _, _, _, none⟩ rfl (fun _ _ _ h => h) ?_ hHeld ?_
        rotate_left
        · (intro W _; go_simp <;> (try with_reducible rfl))
        refine take_v (v := ?_) 7 ⟨some 91, Op.extract (Operand.tmp 84) 1, _, _, _, none⟩ rfl (fun _ _ _ h => h) ?_ hHeld ?_
        rotate_left
        · (intro W _; go_simp <;> (try with_reducible rfl))
        refine ready_call 9 ⟨none, Op.store 29 (Operand.tmp 14) (Operand.tmp 90), _, _, _, none⟩ (by kernel_rfl) rfl (by kernel_rfl) (fun KC hK => ?_)
        have dz := H8.out.1.2
        have d0 := H8.out.1.cell 0 rfl
        have d1 := H8.out.1.cell 1 rfl
        have d2 := H8.out.1.cell 2 rfl
        have f0 := H8.out.1.frz 0 (by simp)
        have f1 := H8.out.1.frz 1 (by simp)
        have f2 := H8.out.1.frz 2 (by simp)
        have h8 := H8.out.2
        go_wp2_with fail
        have HF := Hid.intro (box_own3 (o := w16) H8.out.1 H8.out.2 HO9.out.1 HO9.out.2.2.2.2 HD.out.2.2 (.int .i64 CK) (.slice a3_1 CP.length k3_1) (.slice a3_2 OS.length k3_2))
        clear dz d0 f0 d1 f1 d2 f2
        refine hK.out _ _ ⟨(((HD.out.1.other (by omega)).other (by omega)).other (by omega)), (((HD.out.2.1.other (by omega)).other (by omega)).other (by omega))⟩ (fun hHeld => ?_)
        clear hK KC
        refine take_v (v := ?_) 10 ⟨some 15, Op.assign (Operand.tmp 91), _, _, _, none⟩ rfl (fun _ _ _ h => h) ?_ hHeld ?_
        rotate_left
        · (intro W _; go_simp <;> (try with_reducible rfl))
        refine wpAnyH_done (by kernel_rfl) ?_ _
        refine NoPanic.normal ?_
        clear hHeld
        go_wp2_with fail
        go_meet
        exact ⟨b8, a3_1, k3_1, a3_2, k3_2, lo, hi, rfl, rfl, HF.out.1, HF.out.2.1, HO9.out.2.1, HO9.out.2.2.1, by rw [HF.out.2.2.2]; exact HO9.out.2.2.2.1, H8.out.2, by rw [HF.out.2.2.2]; exact H8.out.1.2, HO9.out.2.2.2.2, HF.out.2.2.1⟩
    ·
      go_wp2_with fail
      (first | (obtain ⟨W8, hW8⟩ : ∃ x, x = W9.alloc (.cells #[.int .i64 0, .slice none 0 0, .slice none 0 0] 29) := ⟨_, rfl⟩; have hb : Below W9.heap.size W9 W8 := hW8 ▸ Go.Joins.below_alloc1 _ _; obtain ⟨b8, hb8⟩ : ∃ b, b = W9.heap.size := ⟨_, rfl⟩; have H8 : Hid (Bx W8 b8 [.int .i64 0, .slice none 0 0, .slice none 0 0] ∧ w16.heap.size ≤ b8) := ⟨hb8 ▸ hW8 ▸ Bx.new W9 [.int .i64 0, .slice none 0 0, .slice none 0 0] _, by rw [hb8]; exact HD.out.2.2.size⟩; have HO9 := (show Hid (Own W8 shRegister [.int .i64 CK, .slice a3_1 CP.length k3_1, .slice a3_2 OS.length k3_2] (CK, CP, OS, ()) (Btw lo hi) ∧ w16.heap.size ≤ lo ∧ lo ≤ hi ∧ hi ≤ W8.heap.size ∧ (b8 < lo ∨ hi ≤ b8)) from ⟨HO9.out.1.next hb, HO9.out.2.1, HO9.out.2.2.1, Nat.le_trans HO9.out.2.2.2 hb.size, Or.inr (by rw [hb8]; exact HO9.out.2.2.2)⟩); have HD := (show Hid (Bx W8 w.heap.size [.int .i64 ck, .slice a0_1 cp.length k0_1, .slice a0_2 os.length k0_2] ∧ Bx W8 (w.heap.size + 1) [.bool bg, .int .i64 cl, .bool wt, .string vl, .int .i64 oi, .int .i64 ni] ∧ Below w16.heap.size w16 W8) from ⟨HD.out.1.next hb, HD.out.2.1.next hb, below_next HD.out.2.2 hb⟩); rw [← hW8, ← hb8]; clear hW8 hb8 hb) | (obtain ⟨W8, hW8⟩ : ∃ x, x = W2.alloc (.cells #[.int .i64 0, .slice none 0 0, .slice none 0 0] 29) := ⟨_, rfl⟩; have hb : Below W2.heap.size W2 W8 := hW8 ▸ Go.Joins.below_alloc1 _ _; obtain ⟨b8, hb8⟩ : ∃ b, b = W2.heap.size := ⟨_, rfl⟩; have H8 : Hid (Bx W8 b8 [.int .i64 0, .slice none 0 0, .slice none 0 0] ∧ w16.heap.size ≤ b8) := ⟨hb8 ▸ hW8 ▸ Bx.new W2 [.int .i64 0, .slice none 0 0, .slice none 0 0] _, by rw [hb8]; exact HD.out.2.2.size⟩; (first | (have HO1 := Hid.intro (HO1.out.next hb)) | skip); (first | (have HO2 := Hid.intro (HO2.out.next hb)) | skip); have HD := (show Hid (Bx W8 w.heap.size [.int .i64 ck, .slice a0_1 cp.length k0_1, .slice a0_2 os.length k0_2] ∧ Bx W8 (w.heap.size + 1) [.bool bg, .int .i64 cl, .bool wt, .string vl, .int .i64 oi, .int .i64 ni] ∧ Below w16.heap.size w16 W8) from ⟨HD.out.1.next hb, HD.out.2.1.next hb, below_next HD.out.2.2 hb⟩); rw [← hW8, ← hb8]; clear hW8 hb8 hb) | (obtain ⟨W8, hW8⟩ : ∃ x, x = W1.alloc (.cells #[.int .i64 0, .slice none 0 0, .slice none 0 0] 29) := ⟨_, rfl⟩; have hb : Below W1.heap.size W1 W8 := hW8 ▸ Go.Joins.below_alloc1 _ _; obtain ⟨b8, hb8⟩ : ∃ b, b = W1.heap.size := ⟨_, rfl⟩; have H8 : Hid (Bx W8 b8 [.int .i64 0, .slice none 0 0, .slice none 0 0] ∧ w16.heap.size ≤ b8) := ⟨hb8 ▸ hW8 ▸ Bx.new W1 [.int .i64 0, .slice none 0 0, .slice none 0 0] _, by rw [hb8]; exact HD.out.2.2.size⟩; (first | (have HO1 := Hid.intro (HO1.out.next hb)) | skip); (first | (have HO2 := Hid.intro (HO2.out.next hb)) | skip); have HD := (show Hid (Bx W8 w.heap.size [.int .i64 ck, .slice a0_1 cp.length k0_1, .slice a0_2 os.length k0_2] ∧ Bx W8 (w.heap.size + 1) [.bool bg, .int .i64 cl, .bool wt, .string vl, .int .i64 oi, .int .i64 ni] ∧ Below w16.heap.size w16 W8) from ⟨HD.out.1.next hb, HD.out.2.1.next hb, below_next HD.out.2.2 hb⟩); rw [← hW8, ← hb8]; clear hW8 hb8 hb) | (obtain ⟨W8, hW8⟩ : ∃ x, x = X0.alloc (.cells #[.int .i64 0, .slice none 0 0, .slice none 0 0] 29) := ⟨_, rfl⟩; have hb : Below X0.heap.size X0 W8 := hW8 ▸ Go.Joins.below_alloc1 _ _; obtain ⟨b8, hb8⟩ : ∃ b, b = X0.heap.size := ⟨_, rfl⟩; have H8 : Hid (Bx W8 b8 [.int .i64 0, .slice none 0 0, .slice none 0 0] ∧ w16.heap.size ≤ b8) := ⟨hb8 ▸ hW8 ▸ Bx.new X0 [.int .i64 0, .slice none 0 0, .slice none 0 0] _, by rw [hb8]; exact HD.out.2.2.size⟩; (first | (have HO1 := Hid.intro (HO1.out.next hb)) | skip); (first | (have HO2 := Hid.intro (HO2.out.next hb)) | skip); have HD := (show Hid (Bx W8 w.heap.size [.int .i64 ck, .slice a0_1 cp.length k0_1, .slice a0_2 os.length k0_2] ∧ Bx W8 (w.heap.size + 1) [.bool bg, .int .i64 cl, .bool wt, .string vl, .int .i64 oi, .int .i64 ni] ∧ Below w16.heap.size w16 W8) from ⟨HD.out.1.next hb, HD.out.2.1.next hb, below_next HD.out.2.2 hb⟩); rw [← hW8, ← hb8]; clear hW8 hb8 hb))
      refine hK.out _ _ ⟨HD.out.1, HD.out.2.1⟩ (fun hHeld => ?_)
      clear hK KC
      refine ready_call 1 ⟨some 86, Op.call { callee := Callee.value (Operand.func 29), args := #[Operand.tmp 85], argTypes := #[62] }, _, _, _, none⟩ (by kernel_rfl) rfl (by kernel_rfl) (fun KC hK => ?_)
      go_wp2_with fail
      refine (toRegister_n [.int .i64 ck, .slice a0_1 cp.length k0_1, .slice a0_2 os.length k0_2] ck cp os _ HS0.out (HL0.out.next (below_next HB16.out HD.out.2.2))).mono ?_
      rintro r W1 ⟨cs9, rfl, ho, hb⟩
      obtain ⟨p1_1, q1_1, _, p1_2, q1_2, _, hev, _⟩ := own_Register ho
      subst hev
      (first | (have HO1 := Hid.intro (HO1.out.next hb)) | skip); (first | (have HO2 := Hid.intro (HO2.out.next hb)) | skip)
      have HO1 := Hid.intro ho.lies
      have HD := (show Hid (Bx W1 w.heap.size [.int .i64 ck, .slice a0_1 cp.length k0_1, .slice a0_2 os.length k0_2] ∧ Bx W1 (w.heap.size + 1) [.bool bg, .int .i64 cl, .bool wt, .string vl, .int .i64 oi, .int .i64 ni] ∧ Below w16.heap.size w16 W1) from ⟨HD.out.1.next hb, HD.out.2.1.next hb, below_next HD.out.2.2 hb⟩)
      (first | (have H8 := (show Hid (Bx W1 b8 [.int .i64 0, .slice none 0 0, .slice none 0 0] ∧ w16.heap.size ≤ b8) from ⟨H8.out.1.next hb, H8.out.2⟩)) | skip)
      clear ho hb
      refine hK.out _ _ ⟨HD.out.1, HD.out.2.1⟩ (fun hHeld => ?_)
      clear hK KC
      refine ready_call 3 ⟨some 88, Op.call { callee := Callee.value (Operand.func 31), args := #[Operand.tmp 87], argTypes := #[66] }, _, _, _, none⟩ (by kernel_rfl) rfl (by kernel_rfl) (fun KC hK => ?_)
      go_wp2_with fail
      refine (toRegStep_n [.bool bg, .int .i64 cl, .bool wt, .string vl, .int .i64 oi, .int .i64 ni] bg cl wt vl oi ni _ HS1.out (HL1.out.next (below_next HB16.out HD.out.2.2))).mono ?_
      rintro r W2 ⟨cs9, rfl, ho, hb⟩
      obtain hev := own_RegStep ho
      subst hev
      (first | (have HO1 := Hid.intro (HO1.out.next hb)) | skip); (first | (have HO2 := Hid.intro (HO2.out.next hb)) | skip)
      have HO2 := Hid.intro ho.lies
      have HD := (show Hid (Bx W2 w.heap.size [.int .i64 ck, .slice a0_1 cp.length k0_1, .slice a0_2 os.length k0_2] ∧ Bx W2 (w.heap.size + 1) [.bool bg, .int .i64 cl, .bool wt, .string vl, .int .i64 oi, .int .i64 ni] ∧ Below w16.heap.size w16 W2) from ⟨HD.out.1.next hb, HD.out.2.1.next hb, below_next HD.out.2.2 hb⟩)
      (first | (have H8 := (show Hid (Bx W2 b8 [.int .i64 0, .slice none 0 0, .slice none 0 0] ∧ w16.heap.size ≤ b8) from ⟨H8.out.1.next hb, H8.out.2⟩)) | skip)
      clear ho hb
      refine hK.out _ _ ⟨HD.out.1, HD.out.2.1⟩ (fun hHeld => ?_)
      clear hK KC
      refine ready_call 4 ⟨some 89, Op.call { callee := Callee.value (Operand.func 20), args := #[Operand.tmp 86, Operand.tmp 88], argTypes := #[29, 42] }, _, _, _, none⟩ (by kernel_rfl) rfl (by kernel_rfl) (fun KC hK => ?_)
      go_wp2_with fail
      refine (stepRegister_l [.int .i64 ck, .slice p1_1 cp.length q1_1, .slice p1_2 os.length q1_2] ck cp os bg cl wt vl oi ni _ CK CP OS z HA.out HS0.out HS1.out HO1.out).mono ?_
      intro r W9 hT
      obtain ⟨cs9, lo, hi, rfl, ho, hlo, hlh, hhi, hb⟩ := ansG_out hT
      obtain ⟨a3_1, k3_1, _, a3_2, k3_2, _, hev, _⟩ := own_Register ho
      subst hev
      have hol : w16.heap.size ≤ lo := Nat.le_trans HD.out.2.2.size hlo
      (first | (have HO9 := (show Hid (Own W9 shRegister [.int .i64 CK, .slice a3_1 CP.length k3_1, .slice a3_2 OS.length k3_2] (CK, CP, OS, ()) (Btw lo hi) ∧ w16.heap.size ≤ lo ∧ lo ≤ hi ∧ hi ≤ W9.heap.size ∧ (b8 < lo ∨ hi ≤ b8)) from ⟨ho, hol, hlh, hhi, Or.inl (Nat.lt_of_lt_of_le H8.out.1.2 hlo)⟩)) | (have HO9 := (show Hid (Own W9 shRegister [.int .i64 CK, .slice a3_1 CP.length k3_1, .slice a3_2 OS.length k3_2] (CK, CP, OS, ()) (Btw lo hi) ∧ w16.heap.size ≤ lo ∧ lo ≤ hi ∧ hi ≤ W9.heap.size) from ⟨ho, hol, hlh, hhi⟩)))
      have HD := (show Hid (Bx W9 w.heap.size [.int .i64 ck, .slice a0_1 cp.length k0_1, .slice a0_2 os.length k0_2] ∧ Bx W9 (w.heap.size + 1) [.bool bg, .int .i64 cl, .bool wt, .string vl, .int .i64 oi, .int .i64 ni] ∧ Below w16.heap.size w16 W9) from ⟨HD.out.1.next hb, HD.out.2.1.next hb, below_next HD.out.2.2 hb⟩)
      (first | (have H8 := (show Hid (Bx W9 b8 [.int .i64 0, .slice none 0 0, .slice none 0 0] ∧ w16.heap.size ≤ b8) from ⟨H8.out.1.next hb, H8.out.2⟩)) | skip)
      clear ho hlo hlh hhi hol hb hT
      refine hK.out _ _ ⟨HD.out.1, HD.out.2.1⟩ (fun hHeld => ?_)
      clear hK KC
      refine take_v (v := ?_) 5 ⟨some 84, Op.move (Operand.tmp 89), _, _, _, none⟩ rfl (fun _ _ _ h => h) ?_ hHeld ?_
      rotate_left
      · (intro W _; go_simp <;> (try with_reducible rfl))
      refine take_v (v := ?_) 6 ⟨some 90, Op.extract (Operand.tmp 84) 0, _, _, _, none⟩ rfl (fun _ _ _ h => h) ?_ hHeld ?_
      rotate_left
      · (intro W _; go_simp <;> (try with_reducible rfl))
      refine take_v (v := ?_) 7 ⟨some 91, Op.extract (Operand.tmp 84) 1, _, _, _, none⟩ rfl (fun _ _ _ h => h) ?_ hHeld ?_
      rotate_left
      · (intro W _; go_simp <;> (try with_reducible rfl))
      refine ready_call 9 ⟨none, Op.store 29 (Operand.tmp 14) (Operand.tmp 90), _, _, _, none⟩ (by kernel_rfl) rfl (by kernel_rfl) (fun KC hK => ?_)
      have dz := H8.out.1.2
      have d0 := H8.out.1.cell 0 rfl
      have d1 := H8.out.1.cell 1 rfl
      have d2 := H8.out.1.cell 2 rfl
      have f0 := H8.out.1.frz 0 (by simp)
      have f1 := H8.out.1.frz 1 (by simp)
      have f2 := H8.out.1.frz 2 (by simp)
      have h8 := H8.out.2
      go_wp2_with fail
      have HF := Hid.intro (box_own3 (o := w16) H8.out.1 H8.out.2 HO9.out.1 HO9.out.2.2.2.2 HD.out.2.2 (.int .i64 CK) (.slice a3_1 CP.length k3_1) (.slice a3_2 OS.length k3_2))
      clear dz d0 f0 d1 f1 d2 f2
      refine hK.out _ _ ⟨(((HD.out.1.other (by omega)).other (by omega)).other (by omega)), (((HD.out.2.1.other (by omega)).other (by omega)).other (by omega))⟩ (fun hHeld => ?_)
      clear hK KC
      refine take_v (v := ?_) 10 ⟨some 15, Op.assign (Operand.tmp 91), _, _, _, none⟩ rfl (fun _ _ _ h => h) ?_ hHeld ?_
      rotate_left
      · (intro W _; go_simp <;> (try with_reducible rfl))
      refine wpAnyH_done (by kernel_rfl) ?_ _
      refine NoPanic.normal ?_
      clear hHeld
      go_wp2_with fail
      go_meet
      exact ⟨b8, a3_1, k3_1, a3_2, k3_2, lo, hi, rfl, rfl, HF.out.1, HF.out.2.1, HO9.out.2.1, HO9.out.2.2.1, by rw [HF.out.2.2.2]; exact HO9.out.2.2.2.1, H8.out.2, by rw [HF.out.2.2.2]; exact H8.out.1.2, HO9.out.2.2.2.2, HF.out.2.2.1⟩
  obtain ⟨b17, p17_1, q17_1, p17_2, q17_2, lo17, hi17, rfl, rfl, hbx, ho, hlo17, hlh17, hhi17, hbo17, hbb17, hbd17, hb⟩ := hcut
  obtain ⟨w17, hwd⟩ : ∃ x, x = wc := ⟨_, rfl⟩
  subst hwd
  have HB17 : Hid (Below w.heap.size w w17) := below_next HB16.out hb
  have sz17 : w16.heap.size ≤ w17.heap.size := hb.size
  have A0_17 : Hid (Bx w17 w.heap.size [.int .i64 ck, .slice a0_1 cp.length k0_1, .slice a0_2 os.length k0_2]) := A0_16.out.next hb
  have A1_17 : Hid (Bx w17 (w.heap.size + 1) [.bool bg, .int .i64 cl, .bool wt, .string vl, .int .i64 oi, .int .i64 ni]) := A1_16.out.next hb
  have W_17 : Hid (Bx w17 b5 [.int .i64 CK, .slice p5_1 CP.length q5_1, .slice p5_2 OS.length q5_2]) := W_16.out.next hb
  have SP_17 : Hid (Own w17 shRegister [.int .i64 CK, .slice p5_1 CP.length q5_1, .slice p5_2 OS.length q5_2] (CK, CP, OS, ()) (Btw lo5 hi5)) := SP_16.out.next hb
  have G_17 : Hid (Bx w17 b8 [.int .i64 CK, .slice p8_1 CP.length q8_1, .slice p8_2 OS.length q8_2]) := G_16.out.next hb
  have GP_17 : Hid (Own w17 shRegister [.int .i64 CK, .slice p8_1 CP.length q8_1, .slice p8_2 OS.length q8_2] (mkT shRegister (CK, CP, OS, ()) 1) (Btw lo8 hi8)) := GP_16.out.next hb
  have H_17 : Hid (Bx w17 b17 [.int .i64 CK, .slice p17_1 CP.length q17_1, .slice p17_2 OS.length q17_2]) := hbx
  have HP_17 : Hid (Own w17 shRegister [.int .i64 CK, .slice p17_1 CP.length q17_1, .slice p17_2 OS.length q17_2] (CK, CP, OS, ()) (Btw lo17 hi17)) := ho
  clear hb hbx ho A0_16 A1_16 W_16 SP_16 G_16 GP_16 HB16
  have cW0 := W_17.out.cell 0 rfl
  have cW1 := W_17.out.cell 1 rfl
  have cW2 := W_17.out.cell 2 rfl
  have zW := W_17.out.2
  have cH0 := H_17.out.cell 0 rfl
  have cH1 := H_17.out.cell 1 rfl
  have cH2 := H_17.out.cell 2 rfl
  have zH := H_17.out.2
  go_wp2_with fail
  refine (eqRegister_n [.int .i64 CK, .slice p17_1 CP.length q17_1, .slice p17_2 OS.length q17_2] [.int .i64 CK, .slice p5_1 CP.length q5_1, .slice p5_2 OS.length q5_2] CK CP OS _ HT.out HP_17.out.lies SP_17.out.lies).mono ?_
  rintro r w18 ⟨rfl, hb⟩
  have HB18 : Hid (Below w.heap.size w w18) := below_next HB17.out hb
  have sz18 : w17.heap.size ≤ w18.heap.size := hb.size
  have A0_18 : Hid (Bx w18 w.heap.size [.int .i64 ck, .slice a0_1 cp.length k0_1, .slice a0_2 os.length k0_2]) := A0_17.out.next hb
  have A1_18 : Hid (Bx w18 (w.heap.size + 1) [.bool bg, .int .i64 cl, .bool wt, .string vl, .int .i64 oi, .int .i64 ni]) := A1_17.out.next hb
  have W_18 : Hid (Bx w18 b5 [.int .i64 CK, .slice p5_1 CP.length q5_1, .slice p5_2 OS.length q5_2]) := W_17.out.next hb
  have SP_18 : Hid (Own w18 shRegister [.int .i64 CK, .slice p5_1 CP.length q5_1, .slice p5_2 OS.length q5_2] (CK, CP, OS, ()) (Btw lo5 hi5)) := SP_17.out.next hb
  have G_18 : Hid (Bx w18 b8 [.int .i64 CK, .slice p8_1 CP.length q8_1, .slice p8_2 OS.length q8_2]) := G_17.out.next hb
  have GP_18 : Hid (Own w18 shRegister [.int .i64 CK, .slice p8_1 CP.length q8_1, .slice p8_2 OS.length q8_2] (mkT shRegister (CK, CP, OS, ()) 1) (Btw lo8 hi8)) := GP_17.out.next hb
  have H_18 : Hid (Bx w18 b17 [.int .i64 CK, .slice p17_1 CP.length q17_1, .slice p17_2 OS.length q17_2]) := H_17.out.next hb
  have HP_18 : Hid (Own w18 shRegister [.int .i64 CK, .slice p17_1 CP.length q17_1, .slice p17_2 OS.length q17_2] (CK, CP, OS, ()) (Btw lo17 hi17)) := HP_17.out.next hb
  clear hb cW0 cW1 cW2 zW cH0 cH1 cH2 zH A0_17 A1_17 W_17 SP_17 G_17 GP_17 H_17 HP_17 HB17
  have cG0 := G_18.out.cell 0 rfl
  have cG1 := G_18.out.cell 1 rfl
  have cG2 := G_18.out.cell 2 rfl
  have zG := G_18.out.2
  go_wp2_with fail
  refine ((show Calls _ _ _ _ (fun r w' => r = .returned (.int .i64 (1 + (cn : Int))) ∧ Below _ _ w') from HCN.out ▸ heldRegister_n [.int .i64 CK, .slice p8_1 CP.length q8_1, .slice p8_2 OS.length q8_2] CK CP OS 1 _ (by decide) (by have h1 := HCN.out; rw [← h1]; omega) HT.out GP_18.out.lies)).mono ?_
  rintro r w19 ⟨rfl, hb⟩
  have HB19 : Hid (Below w.heap.size w w19) := below_next HB18.out hb
  have sz19 : w18.heap.size ≤ w19.heap.size := hb.size
  have A0_19 : Hid (Bx w19 w.heap.size [.int .i64 ck, .slice a0_1 cp.length k0_1, .slice a0_2 os.length k0_2]) := A0_18.out.next hb
  have A1_19 : Hid (Bx w19 (w.heap.size + 1) [.bool bg, .int .i64 cl, .bool wt, .string vl, .int .i64 oi, .int .i64 ni]) := A1_18.out.next hb
  have W_19 : Hid (Bx w19 b5 [.int .i64 CK, .slice p5_1 CP.length q5_1, .slice p5_2 OS.length q5_2]) := W_18.out.next hb
  have SP_19 : Hid (Own w19 shRegister [.int .i64 CK, .slice p5_1 CP.length q5_1, .slice p5_2 OS.length q5_2] (CK, CP, OS, ()) (Btw lo5 hi5)) := SP_18.out.next hb
  have G_19 : Hid (Bx w19 b8 [.int .i64 CK, .slice p8_1 CP.length q8_1, .slice p8_2 OS.length q8_2]) := G_18.out.next hb
  have GP_19 : Hid (Own w19 shRegister [.int .i64 CK, .slice p8_1 CP.length q8_1, .slice p8_2 OS.length q8_2] (mkT shRegister (CK, CP, OS, ()) 1) (Btw lo8 hi8)) := GP_18.out.next hb
  have H_19 : Hid (Bx w19 b17 [.int .i64 CK, .slice p17_1 CP.length q17_1, .slice p17_2 OS.length q17_2]) := H_18.out.next hb
  have HP_19 : Hid (Own w19 shRegister [.int .i64 CK, .slice p17_1 CP.length q17_1, .slice p17_2 OS.length q17_2] (CK, CP, OS, ()) (Btw lo17 hi17)) := HP_18.out.next hb
  clear hb cG0 cG1 cG2 zG A0_18 A1_18 W_18 SP_18 G_18 GP_18 H_18 HP_18 HB18
  have HE := HB19
  go_wp2
  go_ret
  exact ⟨rfl, HE.out⟩


theorem own : ownKnob Try.prog.godebug = none := by kernel_rfl
theorem laidOut : laidOutB Try.prog = true := by kernel_rfl

set_option maxRecDepth 100000 in
theorem lifted (os : Os) (started : os.Started) (H : Type) (enc : TypeId × Value → H) :
    ReturnsInHanded {} Try.checked os 7 .any (Rows.fnExactStepRegisterSpec.pre6 enc Try.prog Try.f7 Rows.fnExactStepRegisterRow.domain false) (Rows.fnExactStepRegisterSpec.post enc Try.prog Try.f7 false true false false) := by
  refine returnsInHanded_of_change (C := Try.checked) own started (by kernel_rfl) Try.func7
    (ChangeSpec.witness6 (enc := enc) (C := Try.checked) false ⟨#[], #[.agg #[.int .i64 0, .slice none 0 0, .slice none 0 0], .agg #[.bool false, .int .i64 0, .bool false, .string ⟨#[]⟩, .int .i64 0, .int .i64 0]], []⟩ 8 (by kernel_rfl) (by kernel_rfl) (by kernel_rfl) (by kernel_rfl)) ?_
  intro W base args ds gs before hval0 hW hcnd _
  have hval : ∀ (j : Nat) t v, Try.f7.params[j]? = some t → args[j]? = some v → Value.okWide Try.prog W .any base t v := hval0
  have hW' := hW
  obtain ⟨p, q, hA0, hV, rfl, hfz, hnd⟩ := hW
  have hA : DataW.TrodAll enc Try.prog W 0 (fun _ => true) true Try.f7.params.toList args.toList ds p := hA0
  rw [Try.params7] at hA hval
  obtain ⟨v0, vs0, d0, ds0, p0, q0, hargs, rfl, rfl, h0, r0⟩ := trodAll_cons hA
  obtain ⟨v1, vs1, d1, ds1, p1, q1, rfl, rfl, rfl, h1, r1⟩ := trodAll_cons r0
  obtain ⟨rfl, rfl, rfl⟩ := trodAll_nil r1
  obtain rfl : args = #[v0, v1] := by cases args; simp_all
  obtain ⟨rfl, rfl⟩ := trodVars_none hV
  have k0 := h0
  have lt0 : ∀ x ∈ p0, x.block < W.heap.size := by obtain ⟨m, hm⟩ := k0; exact DataW.trod_lt m _ _ _ hm
  obtain ⟨cs0, X0, rfl, li0, fi0⟩ := open_Register_n (hval 0 62 v0 rfl rfl) h0
  have k1 := h1
  have lt1 : ∀ x ∈ p1, x.block < W.heap.size := by obtain ⟨m, hm⟩ := k1; exact DataW.trod_lt m _ _ _ hm
  obtain ⟨cs1, X1, rfl, li1, fi1⟩ := open_RegStep_n (hval 1 66 v1 rfl rfl) h1
  clear hA0 hval0
  refine (walk (w := W) cs0 X0 li0 fi0 cs1 X1 li1 fi1).mono fun e W' ⟨he, bel⟩ => ?_
  subst he
  exact ⟨_, rfl, _, _, _, [], _, [], hW', trodAll_mk1 (shut_bool Try.underlying4 _), (trodAll_cons_mk (Below.trod laidOut (by kernel_rfl) (of_decide_eq_true (by kernel_rfl)) k0 bel lt0) (trodAll_cons_mk (Below.trod laidOut (by kernel_rfl) (of_decide_eq_true (by kernel_rfl)) k1 bel lt1) trodAll_mk0)), rfl, bel.frame _, fun h => by cases h⟩

set_option maxHeartbeats 40000000 in
theorem closed : joinedFacts Try.pinned.checked.prog 7 Try.f7 Rows.fnExactStepRegisterSpec Rows.fnExactStepRegisterRow = true := by
  unfold joinedFacts
  repeat' (first | (with_reducible refine both ?_ ?_) | (with_reducible exact may_enter') | (with_reducible refine lifts_eq ?_) | (with_reducible refine make_eq ?_) | as_aux_lemma => kernel_rfl)
theorem named : Try.pinned.checked.prog.funcNamed Rows.fnExactStepRegisterRow.func = some 7 := by kernel_rfl
theorem over : Rows.fnExactStepRegisterRow.holds Try.pinned (OpenSpec.ofChange Rows.fnExactStepRegisterSpec) :=
  OpenClaim.holds_of_wide 7 Try.f7 rfl rfl rfl rfl rfl rfl rfl ⟨rfl, rfl, rfl, rfl, rfl⟩ rfl rfl rfl rfl rfl named Try.func7 closed
    (of_decide_eq_true (by as_aux_lemma => kernel_rfl)) (by unfold Func.isWrapper; first | (rw [if_pos (by decide +kernel)]; kernel_rfl) | (rw [if_neg (by decide +kernel)]; exact ⟨rfl, rfl⟩))
    (fun os started H enc _ => lifted os started H enc)

end Go.Proofs.Ytaofolbnommpgaa.xStepRegister
namespace Go.Proofs.Ytaofolbnommpgaa
theorem xStepRegister_holds : Rows.FnExactStepRegisterSaid := xStepRegister.over
#print axioms xStepRegister_holds
end Go.Proofs.Ytaofolbnommpgaa
