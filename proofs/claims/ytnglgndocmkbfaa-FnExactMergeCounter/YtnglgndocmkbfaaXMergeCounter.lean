/- At every argument impl.MergeCounter answers as the specification does, field by field, writes into no argument, its answer owns its memory, and each argument reads behind the call as it read before. No condition. -/
import Derived.Test.YtnglgndocmkbfaaCtN
import Derived.Test.YtnglgndocmkbfaaShD
import Derived.Test.YtnglgndocmkbfaaNtZ
import Derived.Test.YtnglgndocmkbfaaNtT
import Derived.Test.YtnglgndocmkbfaaNtE
import Derived.Test.YtnglgndocmkbfaaNtO
import Derived.Test.YtnglgndocmkbfaaNtM
import Derived.Test.YtnglgndocmkbfaaNtH
import Derived.Test.YtnglgndocmkbfaaWords
import Derived.ProofKit
import Derived.OpenShut
import Derived.ShutString
import Derived.ChangeOld
import Derived.Below
import Derived.Lib.SmallJoins
namespace Go.Proofs.Ytnglgndocmkbfaa.xMergeCounter
open Go.ChangeShapes Go.WideShapes Go.ChangeAt Go.RowKit
open Go.ChangeMaps (open_string shut_string)
set_option linter.unusedVariables false

set_option maxRecDepth 100000 in
set_option maxHeartbeats 4000000 in
theorem walk (w : World) (cs0 : List Value) (X0 : Sh.T shCounter) (li0 : Lies w shCounter cs0 X0) (fi0 : Fits shCounter X0) (cs1 : List Value) (X1 : Sh.T shCounter) (li1 : Lies w shCounter cs1 X1) (fi1 : Fits shCounter X1) :
    Calls Try.prog 9 #[.agg cs0.toArray, .agg cs1.toArray] w fun r w' => r = .returned (.bool true) ∧ Below w.heap.size w w' := by
  obtain ⟨u, d, ⟨⟩⟩ := X0
  obtain ⟨a0_1, k0_1, a0_2, k0_2, rfl, l0_1, l0_2⟩ := lies_Counter li0
  have HL0 : Hid (Lies w shCounter [.slice a0_1 u.length k0_1, .slice a0_2 d.length k0_2] (u, d, ())) := li0
  have HF0 : Hid (Fits shCounter (u, d, ())) := fi0
  clear li0 fi0 l0_1 l0_2
  obtain ⟨uu, dd, ⟨⟩⟩ := X1
  obtain ⟨a1_1, k1_1, a1_2, k1_2, rfl, l1_1, l1_2⟩ := lies_Counter li1
  have HL1 : Hid (Lies w shCounter [.slice a1_1 uu.length k1_1, .slice a1_2 dd.length k1_2] (uu, dd, ())) := li1
  have HF1 : Hid (Fits shCounter (uu, dd, ())) := fi1
  clear li1 fi1 l1_1 l1_2
  obtain ⟨U, V, z, hA⟩ : ∃ U V z, mcA u d uu dd = (U, V, z) := ⟨_, _, _, rfl⟩
  have HA : Hid (mcA u d uu dd = (U, V, z)) := hA
  clear hA
  go_enter Try.func9, Try.ntmps9
  go_wp2_with fail
  obtain ⟨w1, hw1⟩ : ∃ x, x = w.alloc (.cells #[.slice a0_1 u.length k0_1, .slice a0_2 d.length k0_2] 63) := ⟨_, rfl⟩
  have hb : Below w.heap.size w w1 := hw1 ▸ Go.Joins.below_alloc1 _ _
  have HB1 : Hid (Below w.heap.size w w1) := below_next (Below.refl _ _) hb
  have sz1 : w.heap.size < w1.heap.size := by rw [hw1]; simp
  have A0_1 : Hid (Bx w1 w.heap.size [.slice a0_1 u.length k0_1, .slice a0_2 d.length k0_2]) := hw1 ▸ Bx.new w [.slice a0_1 u.length k0_1, .slice a0_2 d.length k0_2] _
  have HZ1 : Hid (w1.heap.size = w.heap.size + 1) := Hid.intro (by rw [hw1]; simp)
  rw [← hw1]
  clear hb hw1 
  obtain ⟨w2, hw2⟩ : ∃ x, x = w1.alloc (.cells #[.slice a1_1 uu.length k1_1, .slice a1_2 dd.length k1_2] 63) := ⟨_, rfl⟩
  have hb : Below w1.heap.size w1 w2 := hw2 ▸ Go.Joins.below_alloc1 _ _
  have HB2 : Hid (Below w.heap.size w w2) := below_next HB1.out hb
  have sz2 : w1.heap.size < w2.heap.size := by rw [hw2]; simp
  have A0_2 : Hid (Bx w2 w.heap.size [.slice a0_1 u.length k0_1, .slice a0_2 d.length k0_2]) := A0_1.out.next hb
  have A1_2 : Hid (Bx w2 (w.heap.size + 1) [.slice a1_1 uu.length k1_1, .slice a1_2 dd.length k1_2]) := hw2 ▸ Bx.newAt HZ1.out
  rw [← hw2]
  clear hb hw2 A0_1 HB1
  refine (szCounter_n [.slice a0_1 u.length k0_1, .slice a0_2 d.length k0_2] u d _ _ (by omega) (by omega) HF0.out (HL0.out.next HB2.out)).mono ?_
  rintro r w3 ⟨⟨y0, rfl, hy0⟩, hb⟩
  have HB3 : Hid (Below w.heap.size w w3) := below_next HB2.out hb
  have sz3 : w2.heap.size ≤ w3.heap.size := hb.size
  have A0_3 : Hid (Bx w3 w.heap.size [.slice a0_1 u.length k0_1, .slice a0_2 d.length k0_2]) := A0_2.out.next hb
  have A1_3 : Hid (Bx w3 (w.heap.size + 1) [.slice a1_1 uu.length k1_1, .slice a1_2 dd.length k1_2]) := A1_2.out.next hb
  clear hb A0_2 A1_2 HB2
  by_cases ng0 : y0 < 0
  · clear hy0
    go_wp2
    go_ret
    exact ⟨rfl, HB3.out⟩
  have HS0 : Hid (szD shCounter (u, d, ()) ≤ 1073741824) := Hid.intro (by rcases hy0 with e | e <;> omega)
  have hb0 : 0 ≤ y0 ∧ y0 ≤ 1048576 := by rcases hy0 with e | e <;> omega
  clear hy0
  have cA10 := A1_3.out.cell 0 rfl
  have cA11 := A1_3.out.cell 1 rfl
  have zA1 := A1_3.out.2
  go_wp2_with fail
  refine (szCounter_n [.slice a1_1 uu.length k1_1, .slice a1_2 dd.length k1_2] uu dd _ _ (by omega) (by omega) HF1.out (HL1.out.next HB3.out)).mono ?_
  rintro r w4 ⟨⟨y1, rfl, hy1⟩, hb⟩
  have HB4 : Hid (Below w.heap.size w w4) := below_next HB3.out hb
  have sz4 : w3.heap.size ≤ w4.heap.size := hb.size
  have A0_4 : Hid (Bx w4 w.heap.size [.slice a0_1 u.length k0_1, .slice a0_2 d.length k0_2]) := A0_3.out.next hb
  have A1_4 : Hid (Bx w4 (w.heap.size + 1) [.slice a1_1 uu.length k1_1, .slice a1_2 dd.length k1_2]) := A1_3.out.next hb
  clear hb A0_3 A1_3 HB3 cA10 cA11 zA1
  by_cases ng1 : y1 < 0
  · clear hy1
    go_wp2
    go_ret
    exact ⟨rfl, HB4.out⟩
  have HS1 : Hid (szD shCounter (uu, dd, ()) ≤ 1073741824) := Hid.intro (by rcases hy1 with e | e <;> omega)
  have hb1 : 0 ≤ y1 ∧ y1 ≤ 1048576 := by rcases hy1 with e | e <;> omega
  clear hy1
  have HT : Hid (szD shCounter (U, V, ()) ≤ 1073741824) := Hid.intro (sz_mcA HA.out)
  obtain ⟨cn, hcn⟩ : ∃ c : Nat, c = cntT shCounter (U, V, ()) := ⟨_, rfl⟩
  have HCN : Hid (cn = cntT shCounter (U, V, ())) := hcn
  have hcnb : cn ≤ 100000000000 := by rw [hcn]; exact cnt_ctr HT.out
  clear hcn
  obtain ⟨cx, hcx⟩ : ∃ c : Nat, c = cntT shCounter (u, d, ()) := ⟨_, rfl⟩
  have HCX : Hid (cx = cntT shCounter (u, d, ())) := hcx
  have hcxb : cx ≤ 100000000000 := by rw [hcx]; exact cnt_ctr HS0.out
  clear hcx
  obtain ⟨cy, hcy⟩ : ∃ c : Nat, c = cntT shCounter (uu, dd, ()) := ⟨_, rfl⟩
  have HCY : Hid (cy = cntT shCounter (uu, dd, ())) := hcy
  have hcyb : cy ≤ 100000000000 := by rw [hcy]; exact cnt_ctr HS1.out
  clear hcy
  have hng : ¬ (1 + (cn : Int)) < 0 := by omega
  have hnx : ¬ ((1 + (cx : Int)) + (cy : Int)) < 0 := by omega
  go_upto_region 8 with fail
  go_cut [6, 7] (fun s6 s7 wx => ∃ (b : Nat) (a3_1 : Option Addr) (k3_1 : Nat) (a3_2 : Option Addr) (k3_2 : Nat) (lo hi : Nat), s6 = .pointer (some ⟨b, 0, none⟩) ∧ s7 = .bool z ∧ Bx wx b [.slice a3_1 U.length k3_1, .slice a3_2 V.length k3_2] ∧ Own wx shCounter [.slice a3_1 U.length k3_1, .slice a3_2 V.length k3_2] (U, V, ()) (Btw lo hi) ∧ w4.heap.size ≤ lo ∧ lo ≤ hi ∧ hi ≤ wx.heap.size ∧ w4.heap.size ≤ b ∧ b < wx.heap.size ∧ (b < lo ∨ hi ≤ b) ∧ Below w4.heap.size w4 wx)
  case first =>
    have hb : Below w4.heap.size w4 w4.drew := below_drew _
    have HD : Hid (Bx w4.drew w.heap.size [.slice a0_1 u.length k0_1, .slice a0_2 d.length k0_2] ∧ Bx w4.drew (w.heap.size + 1) [.slice a1_1 uu.length k1_1, .slice a1_2 dd.length k1_2] ∧ Below w4.heap.size w4 w4.drew) := ⟨A0_4.out.next hb, A1_4.out.next hb, hb⟩
    clear hb
    refine wp_region_noPanic ?_
    refine wp_region_held_drew (S := fun W => Bx W w.heap.size [.slice a0_1 u.length k0_1, .slice a0_2 d.length k0_2] ∧ Bx W (w.heap.size + 1) [.slice a1_1 uu.length k1_1, .slice a1_2 dd.length k1_2]) (by kernel_rfl) ⟨HD.out.1, HD.out.2.1⟩ (fun hHeld => ?_)
    obtain ⟨X0, hX0⟩ : ∃ x, x = w4.drew := ⟨_, rfl⟩
    rw [← hX0] at HD hHeld ⊢
    clear hX0
    refine take_v (v := ?_) 0 ⟨some 28, Op.load 63 (Operand.tmp 2), _, _, _, none⟩ rfl (fun _ _ _ h => h) ?_ hHeld ?_
    rotate_left
    · (intro W hSW; (have s0_0 := hSW.1.cell 0 rfl; have s0_1 := hSW.1.cell 1 rfl; have s0z := hSW.1.2; have s1_0 := hSW.2.cell 0 rfl; have s1_1 := hSW.2.cell 1 rfl; have s1z := hSW.2.2); go_simp <;> (try with_reducible rfl))
    refine take_v (v := ?_) 2 ⟨some 30, Op.load 63 (Operand.tmp 3), _, _, _, none⟩ rfl (fun _ _ _ h => h) ?_ hHeld ?_
    rotate_left
    · (intro W hSW; (have s0_0 := hSW.1.cell 0 rfl; have s0_1 := hSW.1.cell 1 rfl; have s0z := hSW.1.2; have s1_0 := hSW.2.cell 0 rfl; have s1_1 := hSW.2.cell 1 rfl; have s1z := hSW.2.2); go_simp <;> (try with_reducible rfl))
    refine ready_two 1 8 ⟨some 29, Op.call { callee := Callee.value (Operand.func 41), args := #[Operand.tmp 28], argTypes := #[63] }, _, _, _, none⟩ ⟨some 6, Op.alloc 25, _, _, _, none⟩ (by kernel_rfl) rfl rfl (by kernel_rfl) (by kernel_rfl) (fun KC hK => ?_) (fun KC hK => ?_)
    ·
      go_wp2_with fail
      refine (toCounter_n [.slice a0_1 u.length k0_1, .slice a0_2 d.length k0_2] u d _ HS0.out (HL0.out.next (below_next HB4.out HD.out.2.2))).mono ?_
      rintro r W1 ⟨cs9, rfl, ho, hb⟩
      obtain ⟨p1_1, q1_1, _, p1_2, q1_2, _, hev, _⟩ := own_Counter ho
      subst hev
      (first | (have HO1 := Hid.intro (HO1.out.next hb)) | skip); (first | (have HO2 := Hid.intro (HO2.out.next hb)) | skip)
      have HO1 := Hid.intro ho.lies
      have HD := (show Hid (Bx W1 w.heap.size [.slice a0_1 u.length k0_1, .slice a0_2 d.length k0_2] ∧ Bx W1 (w.heap.size + 1) [.slice a1_1 uu.length k1_1, .slice a1_2 dd.length k1_2] ∧ Below w4.heap.size w4 W1) from ⟨HD.out.1.next hb, HD.out.2.1.next hb, below_next HD.out.2.2 hb⟩)
      (first | (have H8 := (show Hid (Bx W1 b8 [.slice none 0 0, .slice none 0 0] ∧ w4.heap.size ≤ b8) from ⟨H8.out.1.next hb, H8.out.2⟩)) | skip)
      clear ho hb
      refine hK.out _ _ ⟨HD.out.1, HD.out.2.1⟩ (fun hHeld => ?_)
      clear hK KC
      refine ready_two 3 8 ⟨some 31, Op.call { callee := Callee.value (Operand.func 41), args := #[Operand.tmp 30], argTypes := #[63] }, _, _, _, none⟩ ⟨some 6, Op.alloc 25, _, _, _, none⟩ (by kernel_rfl) rfl rfl (by kernel_rfl) (by kernel_rfl) (fun KC hK => ?_) (fun KC hK => ?_)
      ·
        go_wp2_with fail
        refine (toCounter_n [.slice a1_1 uu.length k1_1, .slice a1_2 dd.length k1_2] uu dd _ HS1.out (HL1.out.next (below_next HB4.out HD.out.2.2))).mono ?_
        rintro r W2 ⟨cs9, rfl, ho, hb⟩
        obtain ⟨p2_1, q2_1, _, p2_2, q2_2, _, hev, _⟩ := own_Counter ho
        subst hev
        (first | (have HO1 := Hid.intro (HO1.out.next hb)) | skip); (first | (have HO2 := Hid.intro (HO2.out.next hb)) | skip)
        have HO2 := Hid.intro ho.lies
        have HD := (show Hid (Bx W2 w.heap.size [.slice a0_1 u.length k0_1, .slice a0_2 d.length k0_2] ∧ Bx W2 (w.heap.size + 1) [.slice a1_1 uu.length k1_1, .slice a1_2 dd.length k1_2] ∧ Below w4.heap.size w4 W2) from ⟨HD.out.1.next hb, HD.out.2.1.next hb, below_next HD.out.2.2 hb⟩)
        (first | (have H8 := (show Hid (Bx W2 b8 [.slice none 0 0, .slice none 0 0] ∧ w4.heap.size ≤ b8) from ⟨H8.out.1.next hb, H8.out.2⟩)) | skip)
        clear ho hb
        refine hK.out _ _ ⟨HD.out.1, HD.out.2.1⟩ (fun hHeld => ?_)
        clear hK KC
        refine ready_two 4 8 ⟨some 32, Op.call { callee := Callee.value (Operand.func 19), args := #[Operand.tmp 29, Operand.tmp 31], argTypes := #[25, 25] }, _, _, _, none⟩ ⟨some 6, Op.alloc 25, _, _, _, none⟩ (by kernel_rfl) rfl rfl (by kernel_rfl) (by kernel_rfl) (fun KC hK => ?_) (fun KC hK => ?_)
        ·
          go_wp2_with fail
          refine (specMergeCounter_l [.slice p1_1 u.length q1_1, .slice p1_2 d.length q1_2] [.slice p2_1 uu.length q2_1, .slice p2_2 dd.length q2_2] u d uu dd _ U V z HA.out HS0.out HS1.out HO1.out HO2.out).mono ?_
          intro r W9 hT
          obtain ⟨cs9, lo, hi, rfl, ho, hlo, hlh, hhi, hb⟩ := ansG_out hT
          obtain ⟨a3_1, k3_1, _, a3_2, k3_2, _, hev, _⟩ := own_Counter ho
          subst hev
          have hol : w4.heap.size ≤ lo := Nat.le_trans HD.out.2.2.size hlo
          (first | (have HO9 := (show Hid (Own W9 shCounter [.slice a3_1 U.length k3_1, .slice a3_2 V.length k3_2] (U, V, ()) (Btw lo hi) ∧ w4.heap.size ≤ lo ∧ lo ≤ hi ∧ hi ≤ W9.heap.size ∧ (b8 < lo ∨ hi ≤ b8)) from ⟨ho, hol, hlh, hhi, Or.inl (Nat.lt_of_lt_of_le H8.out.1.2 hlo)⟩)) | (have HO9 := (show Hid (Own W9 shCounter [.slice a3_1 U.length k3_1, .slice a3_2 V.length k3_2] (U, V, ()) (Btw lo hi) ∧ w4.heap.size ≤ lo ∧ lo ≤ hi ∧ hi ≤ W9.heap.size) from ⟨ho, hol, hlh, hhi⟩)))
          have HD := (show Hid (Bx W9 w.heap.size [.slice a0_1 u.length k0_1, .slice a0_2 d.length k0_2] ∧ Bx W9 (w.heap.size + 1) [.slice a1_1 uu.length k1_1, .slice a1_2 dd.length k1_2] ∧ Below w4.heap.size w4 W9) from ⟨HD.out.1.next hb, HD.out.2.1.next hb, below_next HD.out.2.2 hb⟩)
          (first | (have H8 := (show Hid (Bx W9 b8 [.slice none 0 0, .slice none 0 0] ∧ w4.heap.size ≤ b8) from ⟨H8.out.1.next hb, H8.out.2⟩)) | skip)
          clear ho hlo hlh hhi hol hb hT
          refine hK.out _ _ ⟨HD.out.1, HD.out.2.1⟩ (fun hHeld => ?_)
          clear hK KC
          refine take_v (v := ?_) 5 ⟨some 27, Op.move (Operand.tmp 32), _, _, _, none⟩ rfl (fun _ _ _ h => h) ?_ hHeld ?_
          rotate_left
          · (intro W _; go_simp <;> (try with_reducible rfl))
          refine take_v (v := ?_) 6 ⟨some 33, Op.extract (Operand.tmp 27) 0, _, _, _, none⟩ rfl (fun _ _ _ h => h) ?_ hHeld ?_
          rotate_left
          · (intro W _; go_simp <;> (try with_reducible rfl))
          refine take_v (v := ?_) 7 ⟨some 34, Op.extract (Operand.tmp 27) 1, _, _, _, none⟩ rfl (fun _ _ _ h => h) ?_ hHeld ?_
          rotate_left
          · (intro W _; go_simp <;> (try with_reducible rfl))
          refine ready_call 8 ⟨some 6, Op.alloc 25, _, _, _, none⟩ (by kernel_rfl) rfl (by kernel_rfl) (fun KC hK => ?_)
          go_wp2_with fail
          (first | (obtain ⟨W8, hW8⟩ : ∃ x, x = W9.alloc (.cells #[.slice none 0 0, .slice none 0 0] 25) := ⟨_, rfl⟩; have hb : Below W9.heap.size W9 W8 := hW8 ▸ Go.Joins.below_alloc1 _ _; obtain ⟨b8, hb8⟩ : ∃ b, b = W9.heap.size := ⟨_, rfl⟩; have H8 : Hid (Bx W8 b8 [.slice none 0 0, .slice none 0 0] ∧ w4.heap.size ≤ b8) := ⟨hb8 ▸ hW8 ▸ Bx.new W9 [.slice none 0 0, .slice none 0 0] _, by rw [hb8]; exact HD.out.2.2.size⟩; have HO9 := (show Hid (Own W8 shCounter [.slice a3_1 U.length k3_1, .slice a3_2 V.length k3_2] (U, V, ()) (Btw lo hi) ∧ w4.heap.size ≤ lo ∧ lo ≤ hi ∧ hi ≤ W8.heap.size ∧ (b8 < lo ∨ hi ≤ b8)) from ⟨HO9.out.1.next hb, HO9.out.2.1, HO9.out.2.2.1, Nat.le_trans HO9.out.2.2.2 hb.size, Or.inr (by rw [hb8]; exact HO9.out.2.2.2)⟩); have HD := (show Hid (Bx W8 w.heap.size [.slice a0_1 u.length k0_1, .slice a0_2 d.length k0_2] ∧ Bx W8 (w.heap.size + 1) [.slice a1_1 uu.length k1_1, .slice a1_2 dd.length k1_2] ∧ Below w4.heap.size w4 W8) from ⟨HD.out.1.next hb, HD.out.2.1.next hb, below_next HD.out.2.2 hb⟩); rw [← hW8, ← hb8]; clear hW8 hb8 hb) | (obtain ⟨W8, hW8⟩ : ∃ x, x = W2.alloc (.cells #[.slice none 0 0, .slice none 0 0] 25) := ⟨_, rfl⟩; have hb : Below W2.heap.size W2 W8 := hW8 ▸ Go.Joins.below_alloc1 _ _; obtain ⟨b8, hb8⟩ : ∃ b, b = W2.heap.size := ⟨_, rfl⟩; have H8 : Hid (Bx W8 b8 [.slice none 0 0, .slice none 0 0] ∧ w4.heap.size ≤ b8) := ⟨hb8 ▸ hW8 ▸ Bx.new W2 [.slice none 0 0, .slice none 0 0] _, by rw [hb8]; exact HD.out.2.2.size⟩; (first | (have HO1 := Hid.intro (HO1.out.next hb)) | skip); (first | (have HO2 := Hid.intro (HO2.out.next hb)) | skip); have HD := (show Hid (Bx W8 w.heap.size [.slice a0_1 u.length k0_1, .slice a0_2 d.length k0_2] ∧ Bx W8 (w.heap.size + 1) [.slice a1_1 uu.length k1_1, .slice a1_2 dd.length k1_2] ∧ Below w4.heap.size w4 W8) from ⟨HD.out.1.next hb, HD.out.2.1.next hb, below_next HD.out.2.2 hb⟩); rw [← hW8, ← hb8]; clear hW8 hb8 hb) | (obtain ⟨W8, hW8⟩ : ∃ x, x = W1.alloc (.cells #[.slice none 0 0, .slice none 0 0] 25) := ⟨_, rfl⟩; have hb : Below W1.heap.size W1 W8 := hW8 ▸ Go.Joins.below_alloc1 _ _; obtain ⟨b8, hb8⟩ : ∃ b, b = W1.heap.size := ⟨_, rfl⟩; have H8 : Hid (Bx W8 b8 [.slice none 0 0, .slice none 0 0] ∧ w4.heap.size ≤ b8) := ⟨hb8 ▸ hW8 ▸ Bx.new W1 [.slice none 0 0, .slice none 0 0] _, by rw [hb8]; exact HD.out.2.2.size⟩; (first | (have HO1 := Hid.intro (HO1.out.next hb)) | skip); (first | (have HO2 := Hid.intro (HO2.out.next hb)) | skip); have HD := (show Hid (Bx W8 w.heap.size [.slice a0_1 u.length k0_1, .slice a0_2 d.length k0_2] ∧ Bx W8 (w.heap.size + 1) [.slice a1_1 uu.length k1_1, .slice a1_2 dd.length k1_2] ∧ Below w4.heap.size w4 W8) from ⟨HD.out.1.next hb, HD.out.2.1.next hb, below_next HD.out.2.2 hb⟩); rw [← hW8, ← hb8]; clear hW8 hb8 hb) | (obtain ⟨W8, hW8⟩ : ∃ x, x = X0.alloc (.cells #[.slice none 0 0, .slice none 0 0] 25) := ⟨_, rfl⟩; have hb : Below X0.heap.size X0 W8 := hW8 ▸ Go.Joins.below_alloc1 _ _; obtain ⟨b8, hb8⟩ : ∃ b, b = X0.heap.size := ⟨_, rfl⟩; have H8 : Hid (Bx W8 b8 [.slice none 0 0, .slice none 0 0] ∧ w4.heap.size ≤ b8) := ⟨hb8 ▸ hW8 ▸ Bx.new X0 [.slice none 0 0, .slice none 0 0] _, by rw [hb8]; exact HD.out.2.2.size⟩; (first | (have HO1 := Hid.intro (HO1.out.next hb)) | skip); (first | (have HO2 := Hid.intro (HO2.out.next hb)) | skip); have HD := (show Hid (Bx W8 w.heap.size [.slice a0_1 u.length k0_1, .slice a0_2 d.length k0_2] ∧ Bx W8 (w.heap.size + 1) [.slice a1_1 uu.length k1_1, .slice a1_2 dd.length k1_2] ∧ Below w4.heap.size w4 W8) from ⟨HD.out.1.next hb, HD.out.2.1.next hb, below_next HD.out.2.2 hb⟩); rw [← hW8, ← hb8]; clear hW8 hb8 hb))
          refine hK.out _ _ ⟨HD.out.1, HD.out.2.1⟩ (fun hHeld => ?_)
          clear hK KC
          refine ready_call 9 ⟨none, Op.store 25 (Operand.tmp 6) (Operand.tmp 33), _, _, _, none⟩ (by kernel_rfl) rfl (by kernel_rfl) (fun KC hK => ?_)
          have dz := H8.out.1.2
          have d0 := H8.out.1.cell 0 rfl
          have d1 := H8.out.1.cell 1 rfl
          have f0 := H8.out.1.frz 0 (by simp)
          have f1 := H8.out.1.frz 1 (by simp)
          have h8 := H8.out.2
          go_wp2_with fail
          have HF := Hid.intro (box_own2 (o := w4) H8.out.1 H8.out.2 HO9.out.1 HO9.out.2.2.2.2 HD.out.2.2 (.slice a3_1 U.length k3_1) (.slice a3_2 V.length k3_2))
          clear dz d0 f0 d1 f1
          refine hK.out _ _ ⟨((HD.out.1.other (by omega)).other (by omega)), ((HD.out.2.1.other (by omega)).other (by omega))⟩ (fun hHeld => ?_)
          clear hK KC
          refine take_v (v := ?_) 10 ⟨some 7, Op.assign (Operand.tmp 34), _, _, _, none⟩ rfl (fun _ _ _ h => h) ?_ hHeld ?_
          rotate_left
          · (intro W _; go_simp <;> (try with_reducible rfl))
          refine wpAnyH_done (by kernel_rfl) ?_ _
          refine NoPanic.normal ?_
          clear hHeld
          go_wp2_with fail
          go_meet
          exact ⟨b8, a3_1, k3_1, a3_2, k3_2, lo, hi, rfl, rfl, HF.out.1, HF.out.2.1, HO9.out.2.1, HO9.out.2.2.1, by rw [HF.out.2.2.2]; exact HO9.out.2.2.2.1, H8.out.2, by rw [HF.out.2.2.2]; exact H8.out.1.2, HO9.out.2.2.2.2, HF.out.2.2.1⟩
        ·
          go_wp2_with fail
          (first | (obtain ⟨W8, hW8⟩ : ∃ x, x = W9.alloc (.cells #[.slice none 0 0, .slice none 0 0] 25) := ⟨_, rfl⟩; have hb : Below W9.heap.size W9 W8 := hW8 ▸ Go.Joins.below_alloc1 _ _; obtain ⟨b8, hb8⟩ : ∃ b, b = W9.heap.size := ⟨_, rfl⟩; have H8 : Hid (Bx W8 b8 [.slice none 0 0, .slice none 0 0] ∧ w4.heap.size ≤ b8) := ⟨hb8 ▸ hW8 ▸ Bx.new W9 [.slice none 0 0, .slice none 0 0] _, by rw [hb8]; exact HD.out.2.2.size⟩; have HO9 := (show Hid (Own W8 shCounter [.slice a3_1 U.length k3_1, .slice a3_2 V.length k3_2] (U, V, ()) (Btw lo hi) ∧ w4.heap.size ≤ lo ∧ lo ≤ hi ∧ hi ≤ W8.heap.size ∧ (b8 < lo ∨ hi ≤ b8)) from ⟨HO9.out.1.next hb, HO9.out.2.1, HO9.out.2.2.1, Nat.le_trans HO9.out.2.2.2 hb.size, Or.inr (by rw [hb8]; exact HO9.out.2.2.2)⟩); have HD := (show Hid (Bx W8 w.heap.size [.slice a0_1 u.length k0_1, .slice a0_2 d.length k0_2] ∧ Bx W8 (w.heap.size + 1) [.slice a1_1 uu.length k1_1, .slice a1_2 dd.length k1_2] ∧ Below w4.heap.size w4 W8) from ⟨HD.out.1.next hb, HD.out.2.1.next hb, below_next HD.out.2.2 hb⟩); rw [← hW8, ← hb8]; clear hW8 hb8 hb) | (obtain ⟨W8, hW8⟩ : ∃ x, x = W2.alloc (.cells #[.slice none 0 0, .slice none 0 0] 25) := ⟨_, rfl⟩; have hb : Below W2.heap.size W2 W8 := hW8 ▸ Go.Joins.below_alloc1 _ _; obtain ⟨b8, hb8⟩ : ∃ b, b = W2.heap.size := ⟨_, rfl⟩; have H8 : Hid (Bx W8 b8 [.slice none 0 0, .slice none 0 0] ∧ w4.heap.size ≤ b8) := ⟨hb8 ▸ hW8 ▸ Bx.new W2 [.slice none 0 0, .slice none 0 0] _, by rw [hb8]; exact HD.out.2.2.size⟩; (first | (have HO1 := Hid.intro (HO1.out.next hb)) | skip); (first | (have HO2 := Hid.intro (HO2.out.next hb)) | skip); have HD := (show Hid (Bx W8 w.heap.size [.slice a0_1 u.length k0_1, .slice a0_2 d.length k0_2] ∧ Bx W8 (w.heap.size + 1) [.slice a1_1 uu.length k1_1, .slice a1_2 dd.length k1_2] ∧ Below w4.heap.size w4 W8) from ⟨HD.out.1.next hb, HD.out.2.1.next hb, below_next HD.out.2.2 hb⟩); rw [← hW8, ← hb8]; clear hW8 hb8 hb) | (obtain ⟨W8, hW8⟩ : ∃ x, x = W1.alloc (.cells #[.slice none 0 0, .slice none 0 0] 25) := ⟨_, rfl⟩; have hb : Below W1.heap.size W1 W8 := hW8 ▸ Go.Joins.below_alloc1 _ _; obtain ⟨b8, hb8⟩ : ∃ b, b = W1.heap.size := ⟨_, rfl⟩; have H8 : Hid (Bx W8 b8 [.slice none 0 0, .slice none 0 0] ∧ w4.heap.size ≤ b8) := ⟨hb8 ▸ hW8 ▸ Bx.new W1 [.slice none 0 0, .slice none 0 0] _, by rw [hb8]; exact HD.out.2.2.size⟩; (first | (have HO1 := Hid.intro (HO1.out.next hb)) | skip); (first | (have HO2 := Hid.intro (HO2.out.next hb)) | skip); have HD := (show Hid (Bx W8 w.heap.size [.slice a0_1 u.length k0_1, .slice a0_2 d.length k0_2] ∧ Bx W8 (w.heap.size + 1) [.slice a1_1 uu.length k1_1, .slice a1_2 dd.length k1_2] ∧ Below w4.heap.size w4 W8) from ⟨HD.out.1.next hb, HD.out.2.1.next hb, below_next HD.out.2.2 hb⟩); rw [← hW8, ← hb8]; clear hW8 hb8 hb) | (obtain ⟨W8, hW8⟩ : ∃ x, x = X0.alloc (.cells #[.slice none 0 0, .slice none 0 0] 25) := ⟨_, rfl⟩; have hb : Below X0.heap.size X0 W8 := hW8 ▸ Go.Joins.below_alloc1 _ _; obtain ⟨b8, hb8⟩ : ∃ b, b = X0.heap.size := ⟨_, rfl⟩; have H8 : Hid (Bx W8 b8 [.slice none 0 0, .slice none 0 0] ∧ w4.heap.size ≤ b8) := ⟨hb8 ▸ hW8 ▸ Bx.new X0 [.slice none 0 0, .slice none 0 0] _, by rw [hb8]; exact HD.out.2.2.size⟩; (first | (have HO1 := Hid.intro (HO1.out.next hb)) | skip); (first | (have HO2 := Hid.intro (HO2.out.next hb)) | skip); have HD := (show Hid (Bx W8 w.heap.size [.slice a0_1 u.length k0_1, .slice a0_2 d.length k0_2] ∧ Bx W8 (w.heap.size + 1) [.slice a1_1 uu.length k1_1, .slice a1_2 dd.length k1_2] ∧ Below w4.heap.size w4 W8) from ⟨HD.out.1.next hb, HD.out.2.1.next hb, below_next HD.out.2.2 hb⟩); rw [← hW8, ← hb8]; clear hW8 hb8 hb))
          refine hK.out _ _ ⟨HD.out.1, HD.out.2.1⟩ (fun hHeld => ?_)
          clear hK KC
          refine ready_call 4 ⟨some 32, Op.call { callee := Callee.value (Operand.func 19), args := #[Operand.tmp 29, Operand.tmp 31], argTypes := #[25, 25] }, _, _, _, none⟩ (by kernel_rfl) rfl (by kernel_rfl) (fun KC hK => ?_)
          go_wp2_with fail
          refine (specMergeCounter_l [.slice p1_1 u.length q1_1, .slice p1_2 d.length q1_2] [.slice p2_1 uu.length q2_1, .slice p2_2 dd.length q2_2] u d uu dd _ U V z HA.out HS0.out HS1.out HO1.out HO2.out).mono ?_
          intro r W9 hT
          obtain ⟨cs9, lo, hi, rfl, ho, hlo, hlh, hhi, hb⟩ := ansG_out hT
          obtain ⟨a3_1, k3_1, _, a3_2, k3_2, _, hev, _⟩ := own_Counter ho
          subst hev
          have hol : w4.heap.size ≤ lo := Nat.le_trans HD.out.2.2.size hlo
          (first | (have HO9 := (show Hid (Own W9 shCounter [.slice a3_1 U.length k3_1, .slice a3_2 V.length k3_2] (U, V, ()) (Btw lo hi) ∧ w4.heap.size ≤ lo ∧ lo ≤ hi ∧ hi ≤ W9.heap.size ∧ (b8 < lo ∨ hi ≤ b8)) from ⟨ho, hol, hlh, hhi, Or.inl (Nat.lt_of_lt_of_le H8.out.1.2 hlo)⟩)) | (have HO9 := (show Hid (Own W9 shCounter [.slice a3_1 U.length k3_1, .slice a3_2 V.length k3_2] (U, V, ()) (Btw lo hi) ∧ w4.heap.size ≤ lo ∧ lo ≤ hi ∧ hi ≤ W9.heap.size) from ⟨ho, hol, hlh, hhi⟩)))
          have HD := (show Hid (Bx W9 w.heap.size [.slice a0_1 u.length k0_1, .slice a0_2 d.length k0_2] ∧ Bx W9 (w.heap.size + 1) [.slice a1_1 uu.length k1_1, .slice a1_2 dd.length k1_2] ∧ Below w4.heap.size w4 W9) from ⟨HD.out.1.next hb, HD.out.2.1.next hb, below_next HD.out.2.2 hb⟩)
          (first | (have H8 := (show Hid (Bx W9 b8 [.slice none 0 0, .slice none 0 0] ∧ w4.heap.size ≤ b8) from ⟨H8.out.1.next hb, H8.out.2⟩)) | skip)
          clear ho hlo hlh hhi hol hb hT
          refine hK.out _ _ ⟨HD.out.1, HD.out.2.1⟩ (fun hHeld => ?_)
          clear hK KC
          refine take_v (v := ?_) 5 ⟨some 27, Op.move (Operand.tmp 32), _, _, _, none⟩ rfl (fun _ _ _ h => h) ?_ hHeld ?_
          rotate_left
          · (intro W _; go_simp <;> (try with_reducible rfl))
          refine take_v (v := ?_) 6 ⟨some 33, Op.extract (Operand.tmp 27) 0, _, _, _, none⟩ rfl (fun _ _ _ h => h) ?_ hHeld ?_
          rotate_left
          · (intro W _; go_simp <;> (try with_reducible rfl))
          refine take_v (v := ?_) 7 ⟨some 34, Op.extract (Operand.tmp 27) 1, _, _, _, none⟩ rfl (fun _ _ _ h => h) ?_ hHeld ?_
          rotate_left
          · (intro W _; go_simp <;> (try with_reducible rfl))
          refine ready_call 9 ⟨none, Op.store 25 (Operand.tmp 6) (Operand.tmp 33), _, _, _, none⟩ (by kernel_rfl) rfl (by kernel_rfl) (fun KC hK => ?_)
          have dz := H8.out.1.2
          have d0 := H8.out.1.cell 0 rfl
          have d1 := H8.out.1.cell 1 rfl
          have f0 := H8.out.1.frz 0 (by simp)
          have f1 := H8.out.1.frz 1 (by simp)
          have h8 := H8.out.2
          go_wp2_with fail
          have HF := Hid.intro (box_own2 (o := w4) H8.out.1 H8.out.2 HO9.out.1 HO9.out.2.2.2.2 HD.out.2.2 (.slice a3_1 U.length k3_1) (.slice a3_2 V.length k3_2))
          clear dz d0 f0 d1 f1
          refine hK.out _ _ ⟨((HD.out.1.other (by omega)).other (by omega)), ((HD.out.2.1.other (by omega)).other (by omega))⟩ (fun hHeld => ?_)
          clear hK KC
          refine take_v (v := ?_) 10 ⟨some 7, Op.assign (Operand.tmp 34), _, _, _, none⟩ rfl (fun _ _ _ h => h) ?_ hHeld ?_
          rotate_left
          · (intro W _; go_simp <;> (try with_reducible rfl))
          refine wpAnyH_done (by kernel_rfl) ?_ _
          refine NoPanic.normal ?_
          clear hHeld
          go_wp2_with fail
          go_meet
          exact ⟨b8, a3_1, k3_1, a3_2, k3_2, lo, hi, rfl, rfl, HF.out.1, HF.out.2.1, HO9.out.2.1, HO9.out.2.2.1, by rw [HF.out.2.2.2]; exact HO9.out.2.2.2.1, H8.out.2, by rw [HF.out.2.2.2]; exact H8.out.1.2, HO9.out.2.2.2.2, HF.out.2.2.1⟩
      ·
        go_wp2_with fail
        (first | (obtain ⟨W8, hW8⟩ : ∃ x, x = W9.alloc (.cells #[.slice none 0 0, .slice none 0 0] 25) := ⟨_, rfl⟩; have hb : Below W9.heap.size W9 W8 := hW8 ▸ Go.Joins.below_alloc1 _ _; obtain ⟨b8, hb8⟩ : ∃ b, b = W9.heap.size := ⟨_, rfl⟩; have H8 : Hid (Bx W8 b8 [.slice none 0 0, .slice none 0 0] ∧ w4.heap.size ≤ b8) := ⟨hb8 ▸ hW8 ▸ Bx.new W9 [.slice none 0 0, .slice none 0 0] _, by rw [hb8]; exact HD.out.2.2.size⟩; have HO9 := (show Hid (Own W8 shCounter [.slice a3_1 U.length k3_1, .slice a3_2 V.length k3_2] (U, V, ()) (Btw lo hi) ∧ w4.heap.size ≤ lo ∧ lo ≤ hi ∧ hi ≤ W8.heap.size ∧ (b8 < lo ∨ hi ≤ b8)) from ⟨HO9.out.1.next hb, HO9.out.2.1, HO9.out.2.2.1, Nat.le_trans HO9.out.2.2.2 hb.size, Or.inr (by rw [hb8]; exact HO9.out.2.2.2)⟩); have HD := (show Hid (Bx W8 w.heap.size [.slice a0_1 u.length k0_1, .slice a0_2 d.length k0_2] ∧ Bx W8 (w.heap.size + 1) [.slice a1_1 uu.length k1_1, .slice a1_2 dd.length k1_2] ∧ Below w4.heap.size w4 W8) from ⟨HD.out.1.next hb, HD.out.2.1.next hb, below_next HD.out.2.2 hb⟩); rw [← hW8, ← hb8]; clear hW8 hb8 hb) | (obtain ⟨W8, hW8⟩ : ∃ x, x = W2.alloc (.cells #[.slice none 0 0, .slice none 0 0] 25) := ⟨_, rfl⟩; have hb : Below W2.heap.size W2 W8 := hW8 ▸ Go.Joins.below_alloc1 _ _; obtain ⟨b8, hb8⟩ : ∃ b, b = W2.heap.size := ⟨_, rfl⟩; have H8 : Hid (Bx W8 b8 [.slice none 0 0, .slice none 0 0] ∧ w4.heap.size ≤ b8) := ⟨hb8 ▸ hW8 ▸ Bx.new W2 [.slice none 0 0, .slice none 0 0] _, by rw [hb8]; exact HD.out.2.2.size⟩; (first | (have HO1 := Hid.intro (HO1.out.next hb)) | skip); (first | (have HO2 := Hid.intro (HO2.out.next hb)) | skip); have HD := (show Hid (Bx W8 w.heap.size [.slice a0_1 u.length k0_1, .slice a0_2 d.length k0_2] ∧ Bx W8 (w.heap.size + 1) [.slice a1_1 uu.length k1_1, .slice a1_2 dd.length k1_2] ∧ Below w4.heap.size w4 W8) from ⟨HD.out.1.next hb, HD.out.2.1.next hb, below_next HD.out.2.2 hb⟩); rw [← hW8, ← hb8]; clear hW8 hb8 hb) | (obtain ⟨W8, hW8⟩ : ∃ x, x = W1.alloc (.cells #[.slice none 0 0, .slice none 0 0] 25) := ⟨_, rfl⟩; have hb : Below W1.heap.size W1 W8 := hW8 ▸ Go.Joins.below_alloc1 _ _; obtain ⟨b8, hb8⟩ : ∃ b, b = W1.heap.size := ⟨_, rfl⟩; have H8 : Hid (Bx W8 b8 [.slice none 0 0, .slice none 0 0] ∧ w4.heap.size ≤ b8) := ⟨hb8 ▸ hW8 ▸ Bx.new W1 [.slice none 0 0, .slice none 0 0] _, by rw [hb8]; exact HD.out.2.2.size⟩; (first | (have HO1 := Hid.intro (HO1.out.next hb)) | skip); (first | (have HO2 := Hid.intro (HO2.out.next hb)) | skip); have HD := (show Hid (Bx W8 w.heap.size [.slice a0_1 u.length k0_1, .slice a0_2 d.length k0_2] ∧ Bx W8 (w.heap.size + 1) [.slice a1_1 uu.length k1_1, .slice a1_2 dd.length k1_2] ∧ Below w4.heap.size w4 W8) from ⟨HD.out.1.next hb, HD.out.2.1.next hb, below_next HD.out.2.2 hb⟩); rw [← hW8, ← hb8]; clear hW8 hb8 hb) | (obtain ⟨W8, hW8⟩ : ∃ x, x = X0.alloc (.cells #[.slice none 0 0, .slice none 0 0] 25) := ⟨_, rfl⟩; have hb : Below X0.heap.size X0 W8 := hW8 ▸ Go.Joins.below_alloc1 _ _; obtain ⟨b8, hb8⟩ : ∃ b, b = X0.heap.size := ⟨_, rfl⟩; have H8 : Hid (Bx W8 b8 [.slice none 0 0, .slice none 0 0] ∧ w4.heap.size ≤ b8) := ⟨hb8 ▸ hW8 ▸ Bx.new X0 [.slice none 0 0, .slice none 0 0] _, by rw [hb8]; exact HD.out.2.2.size⟩; (first | (have HO1 := Hid.intro (HO1.out.next hb)) | skip); (first | (have HO2 := Hid.intro (HO2.out.next hb)) | skip); have HD := (show Hid (Bx W8 w.heap.size [.slice a0_1 u.length k0_1, .slice a0_2 d.length k0_2] ∧ Bx W8 (w.heap.size + 1) [.slice a1_1 uu.length k1_1, .slice a1_2 dd.length k1_2] ∧ Below w4.heap.size w4 W8) from ⟨HD.out.1.next hb, HD.out.2.1.next hb, below_next HD.out.2.2 hb⟩); rw [← hW8, ← hb8]; clear hW8 hb8 hb))
        refine hK.out _ _ ⟨HD.out.1, HD.out.2.1⟩ (fun hHeld => ?_)
        clear hK KC
        refine ready_call 3 ⟨some 31, Op.call { callee := Callee.value (Operand.func 41), args := #[Operand.tmp 30], argTypes := #[63] }, _, _, _, none⟩ (by kernel_rfl) rfl (by kernel_rfl) (fun KC hK => ?_)
        go_wp2_with fail
        refine (toCounter_n [.slice a1_1 uu.length k1_1, .slice a1_2 dd.length k1_2] uu dd _ HS1.out (HL1.out.next (below_next HB4.out HD.out.2.2))).mono ?_
        rintro r W2 ⟨cs9, rfl, ho, hb⟩
        obtain ⟨p2_1, q2_1, _, p2_2, q2_2, _, hev, _⟩ := own_Counter ho
        subst hev
        (first | (have HO1 := Hid.intro (HO1.out.next hb)) | skip); (first | (have HO2 := Hid.intro (HO2.out.next hb)) | skip)
        have HO2 := Hid.intro ho.lies
        have HD := (show Hid (Bx W2 w.heap.size [.slice a0_1 u.length k0_1, .slice a0_2 d.length k0_2] ∧ Bx W2 (w.heap.size + 1) [.slice a1_1 uu.length k1_1, .slice a1_2 dd.length k1_2] ∧ Below w4.heap.size w4 W2) from ⟨HD.out.1.next hb, HD.out.2.1.next hb, below_next HD.out.2.2 hb⟩)
        (first | (have H8 := (show Hid (Bx W2 b8 [.slice none 0 0, .slice none 0 0] ∧ w4.heap.size ≤ b8) from ⟨H8.out.1.next hb, H8.out.2⟩)) | skip)
        clear ho hb
        refine hK.out _ _ ⟨HD.out.1, HD.out.2.1⟩ (fun hHeld => ?_)
        clear hK KC
        refine ready_call 4 ⟨some 32, Op.call { callee := Callee.value (Operand.func 19), args := #[Operand.tmp 29, Operand.tmp 31], argTypes := #[25, 25] }, _, _, _, none⟩ (by kernel_rfl) rfl (by kernel_rfl) (fun KC hK => ?_)
        go_wp2_with fail
        refine (specMergeCounter_l [.slice p1_1 u.length q1_1, .slice p1_2 d.length q1_2] [.slice p2_1 uu.length q2_1, .slice p2_2 dd.length q2_2] u d uu dd _ U V z HA.out HS0.out HS1.out HO1.out HO2.out).mono ?_
        intro r W9 hT
        obtain ⟨cs9, lo, hi, rfl, ho, hlo, hlh, hhi, hb⟩ := ansG_out hT
        obtain ⟨a3_1, k3_1, _, a3_2, k3_2, _, hev, _⟩ := own_Counter ho
        subst hev
        have hol : w4.heap.size ≤ lo := Nat.le_trans HD.out.2.2.size hlo
        (first | (have HO9 := (show Hid (Own W9 shCounter [.slice a3_1 U.length k3_1, .slice a3_2 V.length k3_2] (U, V, ()) (Btw lo hi) ∧ w4.heap.size ≤ lo ∧ lo ≤ hi ∧ hi ≤ W9.heap.size ∧ (b8 < lo ∨ hi ≤ b8)) from ⟨ho, hol, hlh, hhi, Or.inl (Nat.lt_of_lt_of_le H8.out.1.2 hlo)⟩)) | (have HO9 := (show Hid (Own W9 shCounter [.slice a3_1 U.length k3_1, .slice a3_2 V.length k3_2] (U, V, ()) (Btw lo hi) ∧ w4.heap.size ≤ lo ∧ lo ≤ hi ∧ hi ≤ W9.heap.size) from ⟨ho, hol, hlh, hhi⟩)))
        have HD := (show Hid (Bx W9 w.heap.size [.slice a0_1 u.length k0_1, .slice a0_2 d.length k0_2] ∧ Bx W9 (w.heap.size + 1) [.slice a1_1 uu.length k1_1, .slice a1_2 dd.length k1_2] ∧ Below w4.heap.size w4 W9) from ⟨HD.out.1.next hb, HD.out.2.1.next hb, below_next HD.out.2.2 hb⟩)
        (first | (have H8 := (show Hid (Bx W9 b8 [.slice none 0 0, .slice none 0 0] ∧ w4.heap.size ≤ b8) from ⟨H8.out.1.next hb, H8.out.2⟩)) | skip)
        clear ho hlo hlh hhi hol hb hT
        refine hK.out _ _ ⟨HD.out.1, HD.out.2.1⟩ (fun hHeld => ?_)
        clear hK KC
        refine take_v (v := ?_) 5 ⟨some 27, Op.move (Operand.tmp 32), _, _, _, none⟩ rfl (fun _ _ _ h => h) ?_ hHeld ?_
        rotate_left
        · (intro W _; go_simp <;> (try with_reducible rfl))
        refine take_v (v := ?_) 6 ⟨some 33, Op.extract (Operand.tmp 27) 0, _, _, _, none⟩ rfl (fun _ _ _ h => h) ?_ hHeld ?_
        rotate_left
        · (intro W _; go_simp <;> (try with_reducible rfl))
        refine take_v (v := ?_) 7 ⟨some 34, Op.extract (Operand.tmp 27) 1, _, _, _, none⟩ rfl (fun _ _ _ h => h) ?_ hHeld ?_
        rotate_left
        · (intro W _; go_simp <;> (try with_reducible rfl))
        refine ready_call 9 ⟨none, Op.store 25 (Operand.tmp 6) (Operand.tmp 33), _, _, _, none⟩ (by kernel_rfl) rfl (by kernel_rfl) (fun KC hK => ?_)
        have dz := H8.out.1.2
        have d0 := H8.out.1.cell 0 rfl
        have d1 := H8.out.1.cell 1 rfl
        have f0 := H8.out.1.frz 0 (by simp)
        have f1 := H8.out.1.frz 1 (by simp)
        have h8 := H8.out.2
        go_wp2_with fail
        have HF := Hid.intro (box_own2 (o := w4) H8.out.1 H8.out.2 HO9.out.1 HO9.out.2.2.2.2 HD.out.2.2 (.slice a3_1 U.length k3_1) (.slice a3_2 V.length k3_2))
        clear dz d0 f0 d1 f1
        refine hK.out _ _ ⟨((HD.out.1.other (by omega)).other (by omega)), ((HD.out.2.1.other (by omega)).other (by omega))⟩ (fun hHeld => ?_)
        clear hK KC
        refine take_v (v := ?_) 10 ⟨some 7, Op.assign (Operand.tmp 34), _, _, _, none⟩ rfl (fun _ _ _ h => h) ?_ hHeld ?_
        rotate_left
        · (intro W _; go_simp <;> (try with_reducible rfl))
        refine wpAnyH_done (by kernel_rfl) ?_ _
        refine NoPanic.normal ?_
        clear hHeld
        go_wp2_with fail
        go_meet
        exact ⟨b8, a3_1, k3_1, a3_2, k3_2, lo, hi, rfl, rfl, HF.out.1, HF.out.2.1, HO9.out.2.1, HO9.out.2.2.1, by rw [HF.out.2.2.2]; exact HO9.out.2.2.2.1, H8.out.2, by rw [HF.out.2.2.2]; exact H8.out.1.2, HO9.out.2.2.2.2, HF.out.2.2.1⟩
    ·
      go_wp2_with fail
      (first | (obtain ⟨W8, hW8⟩ : ∃ x, x = W9.alloc (.cells #[.slice none 0 0, .slice none 0 0] 25) := ⟨_, rfl⟩; have hb : Below W9.heap.size W9 W8 := hW8 ▸ Go.Joins.below_alloc1 _ _; obtain ⟨b8, hb8⟩ : ∃ b, b = W9.heap.size := ⟨_, rfl⟩; have H8 : Hid (Bx W8 b8 [.slice none 0 0, .slice none 0 0] ∧ w4.heap.size ≤ b8) := ⟨hb8 ▸ hW8 ▸ Bx.new W9 [.slice none 0 0, .slice none 0 0] _, by rw [hb8]; exact HD.out.2.2.size⟩; have HO9 := (show Hid (Own W8 shCounter [.slice a3_1 U.length k3_1, .slice a3_2 V.length k3_2] (U, V, ()) (Btw lo hi) ∧ w4.heap.size ≤ lo ∧ lo ≤ hi ∧ hi ≤ W8.heap.size ∧ (b8 < lo ∨ hi ≤ b8)) from ⟨HO9.out.1.next hb, HO9.out.2.1, HO9.out.2.2.1, Nat.le_trans HO9.out.2.2.2 hb.size, Or.inr (by rw [hb8]; exact HO9.out.2.2.2)⟩); have HD := (show Hid (Bx W8 w.heap.size [.slice a0_1 u.length k0_1, .slice a0_2 d.length k0_2] ∧ Bx W8 (w.heap.size + 1) [.slice a1_1 uu.length k1_1, .slice a1_2 dd.length k1_2] ∧ Below w4.heap.size w4 W8) from ⟨HD.out.1.next hb, HD.out.2.1.next hb, below_next HD.out.2.2 hb⟩); rw [← hW8, ← hb8]; clear hW8 hb8 hb) | (obtain ⟨W8, hW8⟩ : ∃ x, x = W2.alloc (.cells #[.slice none 0 0, .slice none 0 0] 25) := ⟨_, rfl⟩; have hb : Below W2.heap.size W2 W8 := hW8 ▸ Go.Joins.below_alloc1 _ _; obtain ⟨b8, hb8⟩ : ∃ b, b = W2.heap.size := ⟨_, rfl⟩; have H8 : Hid (Bx W8 b8 [.slice none 0 0, .slice none 0 0] ∧ w4.heap.size ≤ b8) := ⟨hb8 ▸ hW8 ▸ Bx.new W2 [.slice none 0 0, .slice none 0 0] _, by rw [hb8]; exact HD.out.2.2.size⟩; (first | (have HO1 := Hid.intro (HO1.out.next hb)) | skip); (first | (have HO2 := Hid.intro (HO2.out.next hb)) | skip); have HD := (show Hid (Bx W8 w.heap.size [.slice a0_1 u.length k0_1, .slice a0_2 d.length k0_2] ∧ Bx W8 (w.heap.size + 1) [.slice a1_1 uu.length k1_1, .slice a1_2 dd.length k1_2] ∧ Below w4.heap.size w4 W8) from ⟨HD.out.1.next hb, HD.out.2.1.next hb, below_next HD.out.2.2 hb⟩); rw [← hW8, ← hb8]; clear hW8 hb8 hb) | (obtain ⟨W8, hW8⟩ : ∃ x, x = W1.alloc (.cells #[.slice none 0 0, .slice none 0 0] 25) := ⟨_, rfl⟩; have hb : Below W1.heap.size W1 W8 := hW8 ▸ Go.Joins.below_alloc1 _ _; obtain ⟨b8, hb8⟩ : ∃ b, b = W1.heap.size := ⟨_, rfl⟩; have H8 : Hid (Bx W8 b8 [.slice none 0 0, .slice none 0 0] ∧ w4.heap.size ≤ b8) := ⟨hb8 ▸ hW8 ▸ Bx.new W1 [.slice none 0 0, .slice none 0 0] _, by rw [hb8]; exact HD.out.2.2.size⟩; (first | (have HO1 := Hid.intro (HO1.out.next hb)) | skip); (first | (have HO2 := Hid.intro (HO2.out.next hb)) | skip); have HD := (show Hid (Bx W8 w.heap.size [.slice a0_1 u.length k0_1, .slice a0_2 d.length k0_2] ∧ Bx W8 (w.heap.size + 1) [.slice a1_1 uu.length k1_1, .slice a1_2 dd.length k1_2] ∧ Below w4.heap.size w4 W8) from ⟨HD.out.1.next hb, HD.out.2.1.next hb, below_next HD.out.2.2 hb⟩); rw [← hW8, ← hb8]; clear hW8 hb8 hb) | (obtain ⟨W8, hW8⟩ : ∃ x, x = X0.alloc (.cells #[.slice none 0 0, .slice none 0 0] 25) := ⟨_, rfl⟩; have hb : Below X0.heap.size X0 W8 := hW8 ▸ Go.Joins.below_alloc1 _ _; obtain ⟨b8, hb8⟩ : ∃ b, b = X0.heap.size := ⟨_, rfl⟩; have H8 : Hid (Bx W8 b8 [.slice none 0 0, .slice none 0 0] ∧ w4.heap.size ≤ b8) := ⟨hb8 ▸ hW8 ▸ Bx.new X0 [.slice none 0 0, .slice none 0 0] _, by rw [hb8]; exact HD.out.2.2.size⟩; (first | (have HO1 := Hid.intro (HO1.out.next hb)) | skip); (first | (have HO2 := Hid.intro (HO2.out.next hb)) | skip); have HD := (show Hid (Bx W8 w.heap.size [.slice a0_1 u.length k0_1, .slice a0_2 d.length k0_2] ∧ Bx W8 (w.heap.size + 1) [.slice a1_1 uu.length k1_1, .slice a1_2 dd.length k1_2] ∧ Below w4.heap.size w4 W8) from ⟨HD.out.1.next hb, HD.out.2.1.next hb, below_next HD.out.2.2 hb⟩); rw [← hW8, ← hb8]; clear hW8 hb8 hb))
      refine hK.out _ _ ⟨HD.out.1, HD.out.2.1⟩ (fun hHeld => ?_)
      clear hK KC
      refine ready_call 1 ⟨some 29, Op.call { callee := Callee.value (Operand.func 41), args := #[Operand.tmp 28], argTypes := #[63] }, _, _, _, none⟩ (by kernel_rfl) rfl (by kernel_rfl) (fun KC hK => ?_)
      go_wp2_with fail
      refine (toCounter_n [.slice a0_1 u.length k0_1, .slice a0_2 d.length k0_2] u d _ HS0.out (HL0.out.next (below_next HB4.out HD.out.2.2))).mono ?_
      rintro r W1 ⟨cs9, rfl, ho, hb⟩
      obtain ⟨p1_1, q1_1, _, p1_2, q1_2, _, hev, _⟩ := own_Counter ho
      subst hev
      (first | (have HO1 := Hid.intro (HO1.out.next hb)) | skip); (first | (have HO2 := Hid.intro (HO2.out.next hb)) | skip)
      have HO1 := Hid.intro ho.lies
      have HD := (show Hid (Bx W1 w.heap.size [.slice a0_1 u.length k0_1, .slice a0_2 d.length k0_2] ∧ Bx W1 (w.heap.size + 1) [.slice a1_1 uu.length k1_1, .slice a1_2 dd.length k1_2] ∧ Below w4.heap.size w4 W1) from ⟨HD.out.1.next hb, HD.out.2.1.next hb, below_next HD.out.2.2 hb⟩)
      (first | (have H8 := (show Hid (Bx W1 b8 [.slice none 0 0, .slice none 0 0] ∧ w4.heap.size ≤ b8) from ⟨H8.out.1.next hb, H8.out.2⟩)) | skip)
      clear ho hb
      refine hK.out _ _ ⟨HD.out.1, HD.out.2.1⟩ (fun hHeld => ?_)
      clear hK KC
      refine ready_call 3 ⟨some 31, Op.call { callee := Callee.value (Operand.func 41), args := #[Operand.tmp 30], argTypes := #[63] }, _, _, _, none⟩ (by kernel_rfl) rfl (by kernel_rfl) (fun KC hK => ?_)
      go_wp2_with fail
      refine (toCounter_n [.slice a1_1 uu.length k1_1, .slice a1_2 dd.length k1_2] uu dd _ HS1.out (HL1.out.next (below_next HB4.out HD.out.2.2))).mono ?_
      rintro r W2 ⟨cs9, rfl, ho, hb⟩
      obtain ⟨p2_1, q2_1, _, p2_2, q2_2, _, hev, _⟩ := own_Counter ho
      subst hev
      (first | (have HO1 := Hid.intro (HO1.out.next hb)) | skip); (first | (have HO2 := Hid.intro (HO2.out.next hb)) | skip)
      have HO2 := Hid.intro ho.lies
      have HD := (show Hid (Bx W2 w.heap.size [.slice a0_1 u.length k0_1, .slice a0_2 d.length k0_2] ∧ Bx W2 (w.heap.size + 1) [.slice a1_1 uu.length k1_1, .slice a1_2 dd.length k1_2] ∧ Below w4.heap.size w4 W2) from ⟨HD.out.1.next hb, HD.out.2.1.next hb, below_next HD.out.2.2 hb⟩)
      (first | (have H8 := (show Hid (Bx W2 b8 [.slice none 0 0, .slice none 0 0] ∧ w4.heap.size ≤ b8) from ⟨H8.out.1.next hb, H8.out.2⟩)) | skip)
      clear ho hb
      refine hK.out _ _ ⟨HD.out.1, HD.out.2.1⟩ (fun hHeld => ?_)
      clear hK KC
      refine ready_call 4 ⟨some 32, Op.call { callee := Callee.value (Operand.func 19), args := #[Operand.tmp 29, Operand.tmp 31], argTypes := #[25, 25] }, _, _, _, none⟩ (by kernel_rfl) rfl (by kernel_rfl) (fun KC hK => ?_)
      go_wp2_with fail
      refine (specMergeCounter_l [.slice p1_1 u.length q1_1, .slice p1_2 d.length q1_2] [.slice p2_1 uu.length q2_1, .slice p2_2 dd.length q2_2] u d uu dd _ U V z HA.out HS0.out HS1.out HO1.out HO2.out).mono ?_
      intro r W9 hT
      obtain ⟨cs9, lo, hi, rfl, ho, hlo, hlh, hhi, hb⟩ := ansG_out hT
      obtain ⟨a3_1, k3_1, _, a3_2, k3_2, _, hev, _⟩ := own_Counter ho
      subst hev
      have hol : w4.heap.size ≤ lo := Nat.le_trans HD.out.2.2.size hlo
      (first | (have HO9 := (show Hid (Own W9 shCounter [.slice a3_1 U.length k3_1, .slice a3_2 V.length k3_2] (U, V, ()) (Btw lo hi) ∧ w4.heap.size ≤ lo ∧ lo ≤ hi ∧ hi ≤ W9.heap.size ∧ (b8 < lo ∨ hi ≤ b8)) from ⟨ho, hol, hlh, hhi, Or.inl (Nat.lt_of_lt_of_le H8.out.1.2 hlo)⟩)) | (have HO9 := (show Hid (Own W9 shCounter [.slice a3_1 U.length k3_1, .slice a3_2 V.length k3_2] (U, V, ()) (Btw lo hi) ∧ w4.heap.size ≤ lo ∧ lo ≤ hi ∧ hi ≤ W9.heap.size) from ⟨ho, hol, hlh, hhi⟩)))
      have HD := (show Hid (Bx W9 w.heap.size [.slice a0_1 u.length k0_1, .slice a0_2 d.length k0_2] ∧ Bx W9 (w.heap.size + 1) [.slice a1_1 uu.length k1_1, .slice a1_2 dd.length k1_2] ∧ Below w4.heap.size w4 W9) from ⟨HD.out.1.next hb, HD.out.2.1.next hb, below_next HD.out.2.2 hb⟩)
      (first | (have H8 := (show Hid (Bx W9 b8 [.slice none 0 0, .slice none 0 0] ∧ w4.heap.size ≤ b8) from ⟨H8.out.1.next hb, H8.out.2⟩)) | skip)
      clear ho hlo hlh hhi hol hb hT
      refine hK.out _ _ ⟨HD.out.1, HD.out.2.1⟩ (fun hHeld => ?_)
      clear hK KC
      refine take_v (v := ?_) 5 ⟨some 27, Op.move (Operand.tmp 32), _, _, _, none⟩ rfl (fun _ _ _ h => h) ?_ hHeld ?_
      rotate_left
      · (intro W _; go_simp <;> (try with_reducible rfl))
      refine take_v (v := ?_) 6 ⟨some 33, Op.extract (Operand.tmp 27) 0, _, _, _, none⟩ rfl (fun _ _ _ h => h) ?_ hHeld ?_
      rotate_left
      · (intro W _; go_simp <;> (try with_reducible rfl))
      refine take_v (v := ?_) 7 ⟨some 34, Op.extract (Operand.tmp 27) 1, _, _, _, none⟩ rfl (fun _ _ _ h => h) ?_ hHeld ?_
      rotate_left
      · (intro W _; go_simp <;> (try with_reducible rfl))
      refine ready_call 9 ⟨none, Op.store 25 (Operand.tmp 6) (Operand.tmp 33), _, _, _, none⟩ (by kernel_rfl) rfl (by kernel_rfl) (fun KC hK => ?_)
      have dz := H8.out.1.2
      have d0 := H8.out.1.cell 0 rfl
      have d1 := H8.out.1.cell 1 rfl
      have f0 := H8.out.1.frz 0 (by simp)
      have f1 := H8.out.1.frz 1 (by simp)
      have h8 := H8.out.2
      go_wp2_with fail
      have HF := Hid.intro (box_own2 (o := w4) H8.out.1 H8.out.2 HO9.out.1 HO9.out.2.2.2.2 HD.out.2.2 (.slice a3_1 U.length k3_1) (.slice a3_2 V.length k3_2))
      clear dz d0 f0 d1 f1
      refine hK.out _ _ ⟨((HD.out.1.other (by omega)).other (by omega)), ((HD.out.2.1.other (by omega)).other (by omega))⟩ (fun hHeld => ?_)
      clear hK KC
      refine take_v (v := ?_) 10 ⟨some 7, Op.assign (Operand.tmp 34), _, _, _, none⟩ rfl (fun _ _ _ h => h) ?_ hHeld ?_
      rotate_left
      · (intro W _; go_simp <;> (try with_reducible rfl))
      refine wpAnyH_done (by kernel_rfl) ?_ _
      refine NoPanic.normal ?_
      clear hHeld
      go_wp2_with fail
      go_meet
      exact ⟨b8, a3_1, k3_1, a3_2, k3_2, lo, hi, rfl, rfl, HF.out.1, HF.out.2.1, HO9.out.2.1, HO9.out.2.2.1, by rw [HF.out.2.2.2]; exact HO9.out.2.2.2.1, H8.out.2, by rw [HF.out.2.2.2]; exact H8.out.1.2, HO9.out.2.2.2.2, HF.out.2.2.1⟩
  obtain ⟨b5, p5_1, q5_1, p5_2, q5_2, lo5, hi5, rfl, rfl, hbx, ho, hlo5, hlh5, hhi5, hbo5, hbb5, hbd5, hb⟩ := hcut
  obtain ⟨w5, hwd⟩ : ∃ x, x = wc := ⟨_, rfl⟩
  subst hwd
  have HB5 : Hid (Below w.heap.size w w5) := below_next HB4.out hb
  have sz5 : w4.heap.size ≤ w5.heap.size := hb.size
  have A0_5 : Hid (Bx w5 w.heap.size [.slice a0_1 u.length k0_1, .slice a0_2 d.length k0_2]) := A0_4.out.next hb
  have A1_5 : Hid (Bx w5 (w.heap.size + 1) [.slice a1_1 uu.length k1_1, .slice a1_2 dd.length k1_2]) := A1_4.out.next hb
  have W_5 : Hid (Bx w5 b5 [.slice p5_1 U.length q5_1, .slice p5_2 V.length q5_2]) := hbx
  have SP_5 : Hid (Own w5 shCounter [.slice p5_1 U.length q5_1, .slice p5_2 V.length q5_2] (U, V, ()) (Btw lo5 hi5)) := ho
  clear hb hbx ho A0_4 A1_4 HB4
  have cA00 := A0_5.out.cell 0 rfl
  have cA01 := A0_5.out.cell 1 rfl
  have zA0 := A0_5.out.2
  go_wp2_with fail
  refine (toCounter_n [.slice a0_1 u.length k0_1, .slice a0_2 d.length k0_2] u d _ HS0.out (HL0.out.next HB5.out)).mono ?_
  rintro r w6 ⟨cs9, rfl, ho, hb⟩
  obtain ⟨p6_1, q6_1, _, p6_2, q6_2, _, hev, _⟩ := own_Counter ho
  subst hev
  have HB6 : Hid (Below w.heap.size w w6) := below_next HB5.out hb
  have sz6 : w5.heap.size ≤ w6.heap.size := hb.size
  have A0_6 : Hid (Bx w6 w.heap.size [.slice a0_1 u.length k0_1, .slice a0_2 d.length k0_2]) := A0_5.out.next hb
  have A1_6 : Hid (Bx w6 (w.heap.size + 1) [.slice a1_1 uu.length k1_1, .slice a1_2 dd.length k1_2]) := A1_5.out.next hb
  have W_6 : Hid (Bx w6 b5 [.slice p5_1 U.length q5_1, .slice p5_2 V.length q5_2]) := W_5.out.next hb
  have SP_6 : Hid (Own w6 shCounter [.slice p5_1 U.length q5_1, .slice p5_2 V.length q5_2] (U, V, ()) (Btw lo5 hi5)) := SP_5.out.next hb
  have P_6 : Hid (Own w6 shCounter [.slice p6_1 u.length q6_1, .slice p6_2 d.length q6_2] (u, d, ()) (Btw w5.heap.size w6.heap.size)) := ho
  clear hb ho cA00 cA01 zA0 A0_5 A1_5 W_5 SP_5 HB5
  have cA10 := A1_6.out.cell 0 rfl
  have cA11 := A1_6.out.cell 1 rfl
  have zA1 := A1_6.out.2
  go_wp2_with fail
  obtain ⟨w7, hw7⟩ : ∃ x, x = w6.alloc (.cells #[.slice p6_1 u.length q6_1, .slice p6_2 d.length q6_2] 25) := ⟨_, rfl⟩
  have hb : Below w6.heap.size w6 w7 := hw7 ▸ Go.Joins.below_alloc1 _ _
  have HB7 : Hid (Below w.heap.size w w7) := below_next HB6.out hb
  have sz7 : w6.heap.size < w7.heap.size := by rw [hw7]; simp
  have A0_7 : Hid (Bx w7 w.heap.size [.slice a0_1 u.length k0_1, .slice a0_2 d.length k0_2]) := A0_6.out.next hb
  have A1_7 : Hid (Bx w7 (w.heap.size + 1) [.slice a1_1 uu.length k1_1, .slice a1_2 dd.length k1_2]) := A1_6.out.next hb
  have W_7 : Hid (Bx w7 b5 [.slice p5_1 U.length q5_1, .slice p5_2 V.length q5_2]) := W_6.out.next hb
  have SP_7 : Hid (Own w7 shCounter [.slice p5_1 U.length q5_1, .slice p5_2 V.length q5_2] (U, V, ()) (Btw lo5 hi5)) := SP_6.out.next hb
  have P_7 : Hid (Own w7 shCounter [.slice p6_1 u.length q6_1, .slice p6_2 d.length q6_2] (u, d, ()) (Btw w5.heap.size w6.heap.size)) := P_6.out.next hb
  have U0_7 : Hid (Bx w7 w6.heap.size [.slice p6_1 u.length q6_1, .slice p6_2 d.length q6_2]) := hw7 ▸ Bx.new w6 [.slice p6_1 u.length q6_1, .slice p6_2 d.length q6_2] _
  rw [← hw7]
  clear hb hw7 cA10 cA11 zA1 A0_6 A1_6 W_6 SP_6 P_6 HB6
  refine (toCounter_n [.slice a1_1 uu.length k1_1, .slice a1_2 dd.length k1_2] uu dd _ HS1.out (HL1.out.next HB7.out)).mono ?_
  rintro r w8 ⟨cs9, rfl, ho, hb⟩
  obtain ⟨p8_1, q8_1, _, p8_2, q8_2, _, hev, _⟩ := own_Counter ho
  subst hev
  have HB8 : Hid (Below w.heap.size w w8) := below_next HB7.out hb
  have sz8 : w7.heap.size ≤ w8.heap.size := hb.size
  have A0_8 : Hid (Bx w8 w.heap.size [.slice a0_1 u.length k0_1, .slice a0_2 d.length k0_2]) := A0_7.out.next hb
  have A1_8 : Hid (Bx w8 (w.heap.size + 1) [.slice a1_1 uu.length k1_1, .slice a1_2 dd.length k1_2]) := A1_7.out.next hb
  have W_8 : Hid (Bx w8 b5 [.slice p5_1 U.length q5_1, .slice p5_2 V.length q5_2]) := W_7.out.next hb
  have SP_8 : Hid (Own w8 shCounter [.slice p5_1 U.length q5_1, .slice p5_2 V.length q5_2] (U, V, ()) (Btw lo5 hi5)) := SP_7.out.next hb
  have P_8 : Hid (Own w8 shCounter [.slice p6_1 u.length q6_1, .slice p6_2 d.length q6_2] (u, d, ()) (Btw w5.heap.size w6.heap.size)) := P_7.out.next hb
  have U0_8 : Hid (Bx w8 w6.heap.size [.slice p6_1 u.length q6_1, .slice p6_2 d.length q6_2]) := U0_7.out.next hb
  have Q_8 : Hid (Own w8 shCounter [.slice p8_1 uu.length q8_1, .slice p8_2 dd.length q8_2] (uu, dd, ()) (Btw w7.heap.size w8.heap.size)) := ho
  clear hb ho A0_7 A1_7 W_7 SP_7 P_7 U0_7 HB7
  have cU00 := U0_8.out.cell 0 rfl
  have cU01 := U0_8.out.cell 1 rfl
  have zU0 := U0_8.out.2
  go_wp2_with fail
  obtain ⟨w9, hw9⟩ : ∃ x, x = w8.alloc (.cells #[.slice p8_1 uu.length q8_1, .slice p8_2 dd.length q8_2] 25) := ⟨_, rfl⟩
  have hb : Below w8.heap.size w8 w9 := hw9 ▸ Go.Joins.below_alloc1 _ _
  have HB9 : Hid (Below w.heap.size w w9) := below_next HB8.out hb
  have sz9 : w8.heap.size < w9.heap.size := by rw [hw9]; simp
  have A0_9 : Hid (Bx w9 w.heap.size [.slice a0_1 u.length k0_1, .slice a0_2 d.length k0_2]) := A0_8.out.next hb
  have A1_9 : Hid (Bx w9 (w.heap.size + 1) [.slice a1_1 uu.length k1_1, .slice a1_2 dd.length k1_2]) := A1_8.out.next hb
  have W_9 : Hid (Bx w9 b5 [.slice p5_1 U.length q5_1, .slice p5_2 V.length q5_2]) := W_8.out.next hb
  have SP_9 : Hid (Own w9 shCounter [.slice p5_1 U.length q5_1, .slice p5_2 V.length q5_2] (U, V, ()) (Btw lo5 hi5)) := SP_8.out.next hb
  have P_9 : Hid (Own w9 shCounter [.slice p6_1 u.length q6_1, .slice p6_2 d.length q6_2] (u, d, ()) (Btw w5.heap.size w6.heap.size)) := P_8.out.next hb
  have U0_9 : Hid (Bx w9 w6.heap.size [.slice p6_1 u.length q6_1, .slice p6_2 d.length q6_2]) := U0_8.out.next hb
  have Q_9 : Hid (Own w9 shCounter [.slice p8_1 uu.length q8_1, .slice p8_2 dd.length q8_2] (uu, dd, ()) (Btw w7.heap.size w8.heap.size)) := Q_8.out.next hb
  have U1_9 : Hid (Bx w9 w8.heap.size [.slice p8_1 uu.length q8_1, .slice p8_2 dd.length q8_2]) := hw9 ▸ Bx.new w8 [.slice p8_1 uu.length q8_1, .slice p8_2 dd.length q8_2] _
  rw [← hw9]
  clear hb hw9 cU00 cU01 zU0 A0_8 A1_8 W_8 SP_8 P_8 U0_8 Q_8 HB8
  refine (mergeCounter_l [.slice p6_1 u.length q6_1, .slice p6_2 d.length q6_2] [.slice p8_1 uu.length q8_1, .slice p8_2 dd.length q8_2] u d uu dd _ U V z HA.out HS0.out HS1.out P_9.out.lies Q_9.out.lies).mono ?_
  rintro r w10 ⟨cs9, rfl, ho, hb⟩
  obtain ⟨p10_1, q10_1, _, p10_2, q10_2, _, hev, _⟩ := own_Counter ho
  subst hev
  have HB10 : Hid (Below w.heap.size w w10) := below_next HB9.out hb
  have sz10 : w9.heap.size ≤ w10.heap.size := hb.size
  have A0_10 : Hid (Bx w10 w.heap.size [.slice a0_1 u.length k0_1, .slice a0_2 d.length k0_2]) := A0_9.out.next hb
  have A1_10 : Hid (Bx w10 (w.heap.size + 1) [.slice a1_1 uu.length k1_1, .slice a1_2 dd.length k1_2]) := A1_9.out.next hb
  have W_10 : Hid (Bx w10 b5 [.slice p5_1 U.length q5_1, .slice p5_2 V.length q5_2]) := W_9.out.next hb
  have SP_10 : Hid (Own w10 shCounter [.slice p5_1 U.length q5_1, .slice p5_2 V.length q5_2] (U, V, ()) (Btw lo5 hi5)) := SP_9.out.next hb
  have P_10 : Hid (Own w10 shCounter [.slice p6_1 u.length q6_1, .slice p6_2 d.length q6_2] (u, d, ()) (Btw w5.heap.size w6.heap.size)) := P_9.out.next hb
  have U0_10 : Hid (Bx w10 w6.heap.size [.slice p6_1 u.length q6_1, .slice p6_2 d.length q6_2]) := U0_9.out.next hb
  have Q_10 : Hid (Own w10 shCounter [.slice p8_1 uu.length q8_1, .slice p8_2 dd.length q8_2] (uu, dd, ()) (Btw w7.heap.size w8.heap.size)) := Q_9.out.next hb
  have U1_10 : Hid (Bx w10 w8.heap.size [.slice p8_1 uu.length q8_1, .slice p8_2 dd.length q8_2]) := U1_9.out.next hb
  have GP_10 : Hid (Own w10 shCounter [.slice p10_1 U.length q10_1, .slice p10_2 V.length q10_2] (U, V, ()) (Btw w9.heap.size w10.heap.size)) := ho
  clear hb ho A0_9 A1_9 W_9 SP_9 P_9 U0_9 Q_9 U1_9 HB9
  have cW0 := W_10.out.cell 0 rfl
  have cW1 := W_10.out.cell 1 rfl
  have zW := W_10.out.2
  go_wp2_with fail
  obtain ⟨w11, hw11⟩ : ∃ x, x = w10.alloc (.cells #[.slice p10_1 U.length q10_1, .slice p10_2 V.length q10_2] 25) := ⟨_, rfl⟩
  have hb : Below w10.heap.size w10 w11 := hw11 ▸ Go.Joins.below_alloc1 _ _
  have HB11 : Hid (Below w.heap.size w w11) := below_next HB10.out hb
  have sz11 : w10.heap.size < w11.heap.size := by rw [hw11]; simp
  have A0_11 : Hid (Bx w11 w.heap.size [.slice a0_1 u.length k0_1, .slice a0_2 d.length k0_2]) := A0_10.out.next hb
  have A1_11 : Hid (Bx w11 (w.heap.size + 1) [.slice a1_1 uu.length k1_1, .slice a1_2 dd.length k1_2]) := A1_10.out.next hb
  have W_11 : Hid (Bx w11 b5 [.slice p5_1 U.length q5_1, .slice p5_2 V.length q5_2]) := W_10.out.next hb
  have SP_11 : Hid (Own w11 shCounter [.slice p5_1 U.length q5_1, .slice p5_2 V.length q5_2] (U, V, ()) (Btw lo5 hi5)) := SP_10.out.next hb
  have P_11 : Hid (Own w11 shCounter [.slice p6_1 u.length q6_1, .slice p6_2 d.length q6_2] (u, d, ()) (Btw w5.heap.size w6.heap.size)) := P_10.out.next hb
  have U0_11 : Hid (Bx w11 w6.heap.size [.slice p6_1 u.length q6_1, .slice p6_2 d.length q6_2]) := U0_10.out.next hb
  have Q_11 : Hid (Own w11 shCounter [.slice p8_1 uu.length q8_1, .slice p8_2 dd.length q8_2] (uu, dd, ()) (Btw w7.heap.size w8.heap.size)) := Q_10.out.next hb
  have U1_11 : Hid (Bx w11 w8.heap.size [.slice p8_1 uu.length q8_1, .slice p8_2 dd.length q8_2]) := U1_10.out.next hb
  have GP_11 : Hid (Own w11 shCounter [.slice p10_1 U.length q10_1, .slice p10_2 V.length q10_2] (U, V, ()) (Btw w9.heap.size w10.heap.size)) := GP_10.out.next hb
  have G_11 : Hid (Bx w11 w10.heap.size [.slice p10_1 U.length q10_1, .slice p10_2 V.length q10_2]) := hw11 ▸ Bx.new w10 [.slice p10_1 U.length q10_1, .slice p10_2 V.length q10_2] _
  rw [← hw11]
  clear hb hw11 cW0 cW1 zW A0_10 A1_10 W_10 SP_10 P_10 U0_10 Q_10 U1_10 GP_10 HB10
  refine (eqCounter_n [.slice p10_1 U.length q10_1, .slice p10_2 V.length q10_2] [.slice p5_1 U.length q5_1, .slice p5_2 V.length q5_2] U V _ HT.out GP_11.out.lies SP_11.out.lies).mono ?_
  rintro r w12 ⟨rfl, hb⟩
  have HB12 : Hid (Below w.heap.size w w12) := below_next HB11.out hb
  have sz12 : w11.heap.size ≤ w12.heap.size := hb.size
  have A0_12 : Hid (Bx w12 w.heap.size [.slice a0_1 u.length k0_1, .slice a0_2 d.length k0_2]) := A0_11.out.next hb
  have A1_12 : Hid (Bx w12 (w.heap.size + 1) [.slice a1_1 uu.length k1_1, .slice a1_2 dd.length k1_2]) := A1_11.out.next hb
  have W_12 : Hid (Bx w12 b5 [.slice p5_1 U.length q5_1, .slice p5_2 V.length q5_2]) := W_11.out.next hb
  have SP_12 : Hid (Own w12 shCounter [.slice p5_1 U.length q5_1, .slice p5_2 V.length q5_2] (U, V, ()) (Btw lo5 hi5)) := SP_11.out.next hb
  have P_12 : Hid (Own w12 shCounter [.slice p6_1 u.length q6_1, .slice p6_2 d.length q6_2] (u, d, ()) (Btw w5.heap.size w6.heap.size)) := P_11.out.next hb
  have U0_12 : Hid (Bx w12 w6.heap.size [.slice p6_1 u.length q6_1, .slice p6_2 d.length q6_2]) := U0_11.out.next hb
  have Q_12 : Hid (Own w12 shCounter [.slice p8_1 uu.length q8_1, .slice p8_2 dd.length q8_2] (uu, dd, ()) (Btw w7.heap.size w8.heap.size)) := Q_11.out.next hb
  have U1_12 : Hid (Bx w12 w8.heap.size [.slice p8_1 uu.length q8_1, .slice p8_2 dd.length q8_2]) := U1_11.out.next hb
  have GP_12 : Hid (Own w12 shCounter [.slice p10_1 U.length q10_1, .slice p10_2 V.length q10_2] (U, V, ()) (Btw w9.heap.size w10.heap.size)) := GP_11.out.next hb
  have G_12 : Hid (Bx w12 w10.heap.size [.slice p10_1 U.length q10_1, .slice p10_2 V.length q10_2]) := G_11.out.next hb
  clear hb A0_11 A1_11 W_11 SP_11 P_11 U0_11 Q_11 U1_11 GP_11 G_11 HB11
  go_upto_region 14 with fail
  have hb : Below w12.heap.size w12 w12.drew := below_drew _
  have HB13 : Hid (Below w.heap.size w w12.drew) := below_next HB12.out hb
  have sz13 : w12.heap.size ≤ w12.drew.heap.size := hb.size
  have A0_13 : Hid (Bx w12.drew w.heap.size [.slice a0_1 u.length k0_1, .slice a0_2 d.length k0_2]) := A0_12.out.next hb
  have A1_13 : Hid (Bx w12.drew (w.heap.size + 1) [.slice a1_1 uu.length k1_1, .slice a1_2 dd.length k1_2]) := A1_12.out.next hb
  have W_13 : Hid (Bx w12.drew b5 [.slice p5_1 U.length q5_1, .slice p5_2 V.length q5_2]) := W_12.out.next hb
  have SP_13 : Hid (Own w12.drew shCounter [.slice p5_1 U.length q5_1, .slice p5_2 V.length q5_2] (U, V, ()) (Btw lo5 hi5)) := SP_12.out.next hb
  have P_13 : Hid (Own w12.drew shCounter [.slice p6_1 u.length q6_1, .slice p6_2 d.length q6_2] (u, d, ()) (Btw w5.heap.size w6.heap.size)) := P_12.out.next hb
  have U0_13 : Hid (Bx w12.drew w6.heap.size [.slice p6_1 u.length q6_1, .slice p6_2 d.length q6_2]) := U0_12.out.next hb
  have Q_13 : Hid (Own w12.drew shCounter [.slice p8_1 uu.length q8_1, .slice p8_2 dd.length q8_2] (uu, dd, ()) (Btw w7.heap.size w8.heap.size)) := Q_12.out.next hb
  have U1_13 : Hid (Bx w12.drew w8.heap.size [.slice p8_1 uu.length q8_1, .slice p8_2 dd.length q8_2]) := U1_12.out.next hb
  have GP_13 : Hid (Own w12.drew shCounter [.slice p10_1 U.length q10_1, .slice p10_2 V.length q10_2] (U, V, ()) (Btw w9.heap.size w10.heap.size)) := GP_12.out.next hb
  have G_13 : Hid (Bx w12.drew w10.heap.size [.slice p10_1 U.length q10_1, .slice p10_2 V.length q10_2]) := G_12.out.next hb
  clear hb A0_12 A1_12 W_12 SP_12 P_12 U0_12 Q_12 U1_12 GP_12 G_12 HB12
  refine wp_region_noPanic ?_
  refine wp_region_held_drew (S := fun W => Bx W w.heap.size [.slice a0_1 u.length k0_1, .slice a0_2 d.length k0_2] ∧ Bx W w6.heap.size [.slice p6_1 u.length q6_1, .slice p6_2 d.length q6_2]) (by kernel_rfl) ⟨A0_13.out, U0_13.out⟩ (fun hHeld => ?_)
  refine take_v (v := ?_) 0 ⟨some 54, Op.load 25 (Operand.tmp 8), _, _, _, none⟩ rfl (fun _ _ _ h => h) ?_ hHeld ?_
  rotate_left
  · (intro W hSW; (have s0_0 := hSW.1.cell 0 rfl; have s0_1 := hSW.1.cell 1 rfl; have s0z := hSW.1.2; have s1_0 := hSW.2.cell 0 rfl; have s1_1 := hSW.2.cell 1 rfl; have s1z := hSW.2.2); go_simp <;> (try with_reducible rfl))
  refine take_v (v := ?_) 1 ⟨some 55, Op.load 63 (Operand.tmp 2), _, _, _, none⟩ rfl (fun _ _ _ h => h) ?_ hHeld ?_
  rotate_left
  · (intro W hSW; (have s0_0 := hSW.1.cell 0 rfl; have s0_1 := hSW.1.cell 1 rfl; have s0z := hSW.1.2; have s1_0 := hSW.2.cell 0 rfl; have s1_1 := hSW.2.cell 1 rfl; have s1z := hSW.2.2); go_simp <;> (try with_reducible rfl))
  refine ready_call 2 ⟨some 56, Op.call { callee := Callee.value (Operand.func 41), args := #[Operand.tmp 55], argTypes := #[63] }, _, _, _, none⟩ (by kernel_rfl) rfl (by kernel_rfl) (fun KC hK => ?_)
  go_wp2_with fail
  refine (toCounter_n [.slice a0_1 u.length k0_1, .slice a0_2 d.length k0_2] u d _ HS0.out (HL0.out.next HB13.out)).mono ?_
  rintro r w14 ⟨cs9, rfl, ho, hb⟩
  obtain ⟨p14_1, q14_1, _, p14_2, q14_2, _, hev, _⟩ := own_Counter ho
  subst hev
  have HB14 : Hid (Below w.heap.size w w14) := below_next HB13.out hb
  have sz14 : w12.drew.heap.size ≤ w14.heap.size := hb.size
  have A0_14 : Hid (Bx w14 w.heap.size [.slice a0_1 u.length k0_1, .slice a0_2 d.length k0_2]) := A0_13.out.next hb
  have A1_14 : Hid (Bx w14 (w.heap.size + 1) [.slice a1_1 uu.length k1_1, .slice a1_2 dd.length k1_2]) := A1_13.out.next hb
  have W_14 : Hid (Bx w14 b5 [.slice p5_1 U.length q5_1, .slice p5_2 V.length q5_2]) := W_13.out.next hb
  have SP_14 : Hid (Own w14 shCounter [.slice p5_1 U.length q5_1, .slice p5_2 V.length q5_2] (U, V, ()) (Btw lo5 hi5)) := SP_13.out.next hb
  have P_14 : Hid (Own w14 shCounter [.slice p6_1 u.length q6_1, .slice p6_2 d.length q6_2] (u, d, ()) (Btw w5.heap.size w6.heap.size)) := P_13.out.next hb
  have U0_14 : Hid (Bx w14 w6.heap.size [.slice p6_1 u.length q6_1, .slice p6_2 d.length q6_2]) := U0_13.out.next hb
  have Q_14 : Hid (Own w14 shCounter [.slice p8_1 uu.length q8_1, .slice p8_2 dd.length q8_2] (uu, dd, ()) (Btw w7.heap.size w8.heap.size)) := Q_13.out.next hb
  have U1_14 : Hid (Bx w14 w8.heap.size [.slice p8_1 uu.length q8_1, .slice p8_2 dd.length q8_2]) := U1_13.out.next hb
  have GP_14 : Hid (Own w14 shCounter [.slice p10_1 U.length q10_1, .slice p10_2 V.length q10_2] (U, V, ()) (Btw w9.heap.size w10.heap.size)) := GP_13.out.next hb
  have G_14 : Hid (Bx w14 w10.heap.size [.slice p10_1 U.length q10_1, .slice p10_2 V.length q10_2]) := G_13.out.next hb
  have D_14 : Hid (Own w14 shCounter [.slice p14_1 u.length q14_1, .slice p14_2 d.length q14_2] (u, d, ()) (Btw w12.drew.heap.size w14.heap.size)) := ho
  clear hb ho A0_13 A1_13 W_13 SP_13 P_13 U0_13 Q_13 U1_13 GP_13 G_13 HB13
  refine hK.out _ _ ⟨A0_14.out, U0_14.out⟩ (fun hHeld => ?_)
  clear hK KC
  refine ready_call 3 ⟨some 57, Op.call { callee := Callee.value (Operand.func 43), args := #[Operand.tmp 54, Operand.tmp 56], argTypes := #[25, 25] }, _, _, _, none⟩ (by kernel_rfl) rfl (by kernel_rfl) (fun KC hK => ?_)
  go_wp2_with fail
  refine (eqCounter_n [.slice p6_1 u.length q6_1, .slice p6_2 d.length q6_2] [.slice p14_1 u.length q14_1, .slice p14_2 d.length q14_2] u d _ HS0.out P_14.out.lies D_14.out.lies).mono ?_
  rintro r w15 ⟨rfl, hb⟩
  have HB15 : Hid (Below w.heap.size w w15) := below_next HB14.out hb
  have sz15 : w14.heap.size ≤ w15.heap.size := hb.size
  have A0_15 : Hid (Bx w15 w.heap.size [.slice a0_1 u.length k0_1, .slice a0_2 d.length k0_2]) := A0_14.out.next hb
  have A1_15 : Hid (Bx w15 (w.heap.size + 1) [.slice a1_1 uu.length k1_1, .slice a1_2 dd.length k1_2]) := A1_14.out.next hb
  have W_15 : Hid (Bx w15 b5 [.slice p5_1 U.length q5_1, .slice p5_2 V.length q5_2]) := W_14.out.next hb
  have SP_15 : Hid (Own w15 shCounter [.slice p5_1 U.length q5_1, .slice p5_2 V.length q5_2] (U, V, ()) (Btw lo5 hi5)) := SP_14.out.next hb
  have P_15 : Hid (Own w15 shCounter [.slice p6_1 u.length q6_1, .slice p6_2 d.length q6_2] (u, d, ()) (Btw w5.heap.size w6.heap.size)) := P_14.out.next hb
  have U0_15 : Hid (Bx w15 w6.heap.size [.slice p6_1 u.length q6_1, .slice p6_2 d.length q6_2]) := U0_14.out.next hb
  have Q_15 : Hid (Own w15 shCounter [.slice p8_1 uu.length q8_1, .slice p8_2 dd.length q8_2] (uu, dd, ()) (Btw w7.heap.size w8.heap.size)) := Q_14.out.next hb
  have U1_15 : Hid (Bx w15 w8.heap.size [.slice p8_1 uu.length q8_1, .slice p8_2 dd.length q8_2]) := U1_14.out.next hb
  have GP_15 : Hid (Own w15 shCounter [.slice p10_1 U.length q10_1, .slice p10_2 V.length q10_2] (U, V, ()) (Btw w9.heap.size w10.heap.size)) := GP_14.out.next hb
  have G_15 : Hid (Bx w15 w10.heap.size [.slice p10_1 U.length q10_1, .slice p10_2 V.length q10_2]) := G_14.out.next hb
  have D_15 : Hid (Own w15 shCounter [.slice p14_1 u.length q14_1, .slice p14_2 d.length q14_2] (u, d, ()) (Btw w12.drew.heap.size w14.heap.size)) := D_14.out.next hb
  clear hb A0_14 A1_14 W_14 SP_14 P_14 U0_14 Q_14 U1_14 GP_14 G_14 D_14 HB14
  refine hK.out _ _ ⟨A0_15.out, U0_15.out⟩ (fun hHeld => ?_)
  clear hK KC
  refine take_v (v := ?_) 4 ⟨some 58, Op.unOp UnOp.not 4 (Operand.tmp 57), _, _, _, none⟩ rfl (fun _ _ _ h => h) ?_ hHeld ?_
  rotate_left
  · (intro W _; go_simp <;> (try with_reducible rfl))
  refine wpAnyH_done (by kernel_rfl) ?_ _
  refine NoPanic.normal ?_
  clear D_15
  go_upto_region 16 with fail
  have hb : Below w15.heap.size w15 w15.drew := below_drew _
  have HB16 : Hid (Below w.heap.size w w15.drew) := below_next HB15.out hb
  have sz16 : w15.heap.size ≤ w15.drew.heap.size := hb.size
  have A0_16 : Hid (Bx w15.drew w.heap.size [.slice a0_1 u.length k0_1, .slice a0_2 d.length k0_2]) := A0_15.out.next hb
  have A1_16 : Hid (Bx w15.drew (w.heap.size + 1) [.slice a1_1 uu.length k1_1, .slice a1_2 dd.length k1_2]) := A1_15.out.next hb
  have W_16 : Hid (Bx w15.drew b5 [.slice p5_1 U.length q5_1, .slice p5_2 V.length q5_2]) := W_15.out.next hb
  have SP_16 : Hid (Own w15.drew shCounter [.slice p5_1 U.length q5_1, .slice p5_2 V.length q5_2] (U, V, ()) (Btw lo5 hi5)) := SP_15.out.next hb
  have P_16 : Hid (Own w15.drew shCounter [.slice p6_1 u.length q6_1, .slice p6_2 d.length q6_2] (u, d, ()) (Btw w5.heap.size w6.heap.size)) := P_15.out.next hb
  have U0_16 : Hid (Bx w15.drew w6.heap.size [.slice p6_1 u.length q6_1, .slice p6_2 d.length q6_2]) := U0_15.out.next hb
  have Q_16 : Hid (Own w15.drew shCounter [.slice p8_1 uu.length q8_1, .slice p8_2 dd.length q8_2] (uu, dd, ()) (Btw w7.heap.size w8.heap.size)) := Q_15.out.next hb
  have U1_16 : Hid (Bx w15.drew w8.heap.size [.slice p8_1 uu.length q8_1, .slice p8_2 dd.length q8_2]) := U1_15.out.next hb
  have GP_16 : Hid (Own w15.drew shCounter [.slice p10_1 U.length q10_1, .slice p10_2 V.length q10_2] (U, V, ()) (Btw w9.heap.size w10.heap.size)) := GP_15.out.next hb
  have G_16 : Hid (Bx w15.drew w10.heap.size [.slice p10_1 U.length q10_1, .slice p10_2 V.length q10_2]) := G_15.out.next hb
  clear hb A0_15 A1_15 W_15 SP_15 P_15 U0_15 Q_15 U1_15 GP_15 G_15 HB15
  refine wp_region_noPanic ?_
  refine wp_region_held_drew (S := fun W => Bx W (w.heap.size + 1) [.slice a1_1 uu.length k1_1, .slice a1_2 dd.length k1_2] ∧ Bx W w8.heap.size [.slice p8_1 uu.length q8_1, .slice p8_2 dd.length q8_2]) (by kernel_rfl) ⟨A1_16.out, U1_16.out⟩ (fun hHeld => ?_)
  refine take_v (v := ?_) 0 ⟨some 59, Op.load 25 (Operand.tmp 9), _, _, _, none⟩ rfl (fun _ _ _ h => h) ?_ hHeld ?_
  rotate_left
  · (intro W hSW; (have s0_0 := hSW.1.cell 0 rfl; have s0_1 := hSW.1.cell 1 rfl; have s0z := hSW.1.2; have s1_0 := hSW.2.cell 0 rfl; have s1_1 := hSW.2.cell 1 rfl; have s1z := hSW.2.2); go_simp <;> (try with_reducible rfl))
  refine take_v (v := ?_) 1 ⟨some 60, Op.load 63 (Operand.tmp 3), _, _, _, none⟩ rfl (fun _ _ _ h => h) ?_ hHeld ?_
  rotate_left
  · (intro W hSW; (have s0_0 := hSW.1.cell 0 rfl; have s0_1 := hSW.1.cell 1 rfl; have s0z := hSW.1.2; have s1_0 := hSW.2.cell 0 rfl; have s1_1 := hSW.2.cell 1 rfl; have s1z := hSW.2.2); go_simp <;> (try with_reducible rfl))
  refine ready_call 2 ⟨some 61, Op.call { callee := Callee.value (Operand.func 41), args := #[Operand.tmp 60], argTypes := #[63] }, _, _, _, none⟩ (by kernel_rfl) rfl (by kernel_rfl) (fun KC hK => ?_)
  go_wp2_with fail
  refine (toCounter_n [.slice a1_1 uu.length k1_1, .slice a1_2 dd.length k1_2] uu dd _ HS1.out (HL1.out.next HB16.out)).mono ?_
  rintro r w17 ⟨cs9, rfl, ho, hb⟩
  obtain ⟨p17_1, q17_1, _, p17_2, q17_2, _, hev, _⟩ := own_Counter ho
  subst hev
  have HB17 : Hid (Below w.heap.size w w17) := below_next HB16.out hb
  have sz17 : w15.drew.heap.size ≤ w17.heap.size := hb.size
  have A0_17 : Hid (Bx w17 w.heap.size [.slice a0_1 u.length k0_1, .slice a0_2 d.length k0_2]) := A0_16.out.next hb
  have A1_17 : Hid (Bx w17 (w.heap.size + 1) [.slice a1_1 uu.length k1_1, .slice a1_2 dd.length k1_2]) := A1_16.out.next hb
  have W_17 : Hid (Bx w17 b5 [.slice p5_1 U.length q5_1, .slice p5_2 V.length q5_2]) := W_16.out.next hb
  have SP_17 : Hid (Own w17 shCounter [.slice p5_1 U.length q5_1, .slice p5_2 V.length q5_2] (U, V, ()) (Btw lo5 hi5)) := SP_16.out.next hb
  have P_17 : Hid (Own w17 shCounter [.slice p6_1 u.length q6_1, .slice p6_2 d.length q6_2] (u, d, ()) (Btw w5.heap.size w6.heap.size)) := P_16.out.next hb
  have U0_17 : Hid (Bx w17 w6.heap.size [.slice p6_1 u.length q6_1, .slice p6_2 d.length q6_2]) := U0_16.out.next hb
  have Q_17 : Hid (Own w17 shCounter [.slice p8_1 uu.length q8_1, .slice p8_2 dd.length q8_2] (uu, dd, ()) (Btw w7.heap.size w8.heap.size)) := Q_16.out.next hb
  have U1_17 : Hid (Bx w17 w8.heap.size [.slice p8_1 uu.length q8_1, .slice p8_2 dd.length q8_2]) := U1_16.out.next hb
  have GP_17 : Hid (Own w17 shCounter [.slice p10_1 U.length q10_1, .slice p10_2 V.length q10_2] (U, V, ()) (Btw w9.heap.size w10.heap.size)) := GP_16.out.next hb
  have G_17 : Hid (Bx w17 w10.heap.size [.slice p10_1 U.length q10_1, .slice p10_2 V.length q10_2]) := G_16.out.next hb
  have D_17 : Hid (Own w17 shCounter [.slice p17_1 uu.length q17_1, .slice p17_2 dd.length q17_2] (uu, dd, ()) (Btw w15.drew.heap.size w17.heap.size)) := ho
  clear hb ho A0_16 A1_16 W_16 SP_16 P_16 U0_16 Q_16 U1_16 GP_16 G_16 HB16
  refine hK.out _ _ ⟨A1_17.out, U1_17.out⟩ (fun hHeld => ?_)
  clear hK KC
  refine ready_call 3 ⟨some 62, Op.call { callee := Callee.value (Operand.func 43), args := #[Operand.tmp 59, Operand.tmp 61], argTypes := #[25, 25] }, _, _, _, none⟩ (by kernel_rfl) rfl (by kernel_rfl) (fun KC hK => ?_)
  go_wp2_with fail
  refine (eqCounter_n [.slice p8_1 uu.length q8_1, .slice p8_2 dd.length q8_2] [.slice p17_1 uu.length q17_1, .slice p17_2 dd.length q17_2] uu dd _ HS1.out Q_17.out.lies D_17.out.lies).mono ?_
  rintro r w18 ⟨rfl, hb⟩
  have HB18 : Hid (Below w.heap.size w w18) := below_next HB17.out hb
  have sz18 : w17.heap.size ≤ w18.heap.size := hb.size
  have A0_18 : Hid (Bx w18 w.heap.size [.slice a0_1 u.length k0_1, .slice a0_2 d.length k0_2]) := A0_17.out.next hb
  have A1_18 : Hid (Bx w18 (w.heap.size + 1) [.slice a1_1 uu.length k1_1, .slice a1_2 dd.length k1_2]) := A1_17.out.next hb
  have W_18 : Hid (Bx w18 b5 [.slice p5_1 U.length q5_1, .slice p5_2 V.length q5_2]) := W_17.out.next hb
  have SP_18 : Hid (Own w18 shCounter [.slice p5_1 U.length q5_1, .slice p5_2 V.length q5_2] (U, V, ()) (Btw lo5 hi5)) := SP_17.out.next hb
  have P_18 : Hid (Own w18 shCounter [.slice p6_1 u.length q6_1, .slice p6_2 d.length q6_2] (u, d, ()) (Btw w5.heap.size w6.heap.size)) := P_17.out.next hb
  have U0_18 : Hid (Bx w18 w6.heap.size [.slice p6_1 u.length q6_1, .slice p6_2 d.length q6_2]) := U0_17.out.next hb
  have Q_18 : Hid (Own w18 shCounter [.slice p8_1 uu.length q8_1, .slice p8_2 dd.length q8_2] (uu, dd, ()) (Btw w7.heap.size w8.heap.size)) := Q_17.out.next hb
  have U1_18 : Hid (Bx w18 w8.heap.size [.slice p8_1 uu.length q8_1, .slice p8_2 dd.length q8_2]) := U1_17.out.next hb
  have GP_18 : Hid (Own w18 shCounter [.slice p10_1 U.length q10_1, .slice p10_2 V.length q10_2] (U, V, ()) (Btw w9.heap.size w10.heap.size)) := GP_17.out.next hb
  have G_18 : Hid (Bx w18 w10.heap.size [.slice p10_1 U.length q10_1, .slice p10_2 V.length q10_2]) := G_17.out.next hb
  have D_18 : Hid (Own w18 shCounter [.slice p17_1 uu.length q17_1, .slice p17_2 dd.length q17_2] (uu, dd, ()) (Btw w15.drew.heap.size w17.heap.size)) := D_17.out.next hb
  clear hb A0_17 A1_17 W_17 SP_17 P_17 U0_17 Q_17 U1_17 GP_17 G_17 D_17 HB17
  refine hK.out _ _ ⟨A1_18.out, U1_18.out⟩ (fun hHeld => ?_)
  clear hK KC
  refine take_v (v := ?_) 4 ⟨some 63, Op.unOp UnOp.not 4 (Operand.tmp 62), _, _, _, none⟩ rfl (fun _ _ _ h => h) ?_ hHeld ?_
  rotate_left
  · (intro W _; go_simp <;> (try with_reducible rfl))
  refine wpAnyH_done (by kernel_rfl) ?_ _
  refine NoPanic.normal ?_
  clear D_18
  have cU00 := U0_18.out.cell 0 rfl
  have cU01 := U0_18.out.cell 1 rfl
  have zU0 := U0_18.out.2
  go_wp2_with fail
  refine ((show Calls _ _ _ _ (MkP shCounter [.slice p6_1 u.length q6_1, .slice p6_2 d.length q6_2] (mkT shCounter (u, d, ()) 1) (1 + (cx : Int)) (Btw w5.heap.size w6.heap.size) _) from HCX.out ▸ markCounter_n [.slice p6_1 u.length q6_1, .slice p6_2 d.length q6_2] u d 1 (Btw w5.heap.size w6.heap.size) _ (by omega) (by have h1 := HCX.out; rw [← h1]; omega) HS0.out (fun k hk => by have := hk.2; omega) P_18.out)).mono ?_
  rintro r w19 ⟨rfl, ho, ht⟩
  have HB19 : Hid (Below w.heap.size w w19) := Hid.intro (HB18.out.trans (ht.below (fun k hk => by simp only [Btw] at hk; omega) HB18.out.size))
  have sz19 : w18.heap.size ≤ w19.heap.size := ht.size
  have A0_19 : Hid (Bx w19 w.heap.size [.slice a0_1 u.length k0_1, .slice a0_2 d.length k0_2]) := A0_18.out.turnS ht (by simp only [Btw]; omega)
  have A1_19 : Hid (Bx w19 (w.heap.size + 1) [.slice a1_1 uu.length k1_1, .slice a1_2 dd.length k1_2]) := A1_18.out.turnS ht (by simp only [Btw]; omega)
  have W_19 : Hid (Bx w19 b5 [.slice p5_1 U.length q5_1, .slice p5_2 V.length q5_2]) := W_18.out.turnS ht (by simp only [Btw]; omega)
  have SP_19 : Hid (Own w19 shCounter [.slice p5_1 U.length q5_1, .slice p5_2 V.length q5_2] (U, V, ()) (Btw lo5 hi5)) := SP_18.out.turn ht (fun k e f => by simp only [Btw] at e f; omega)
  have P_19 : Hid (Own w19 shCounter [.slice p6_1 u.length q6_1, .slice p6_2 d.length q6_2] (mkT shCounter (u, d, ()) 1) (Btw w5.heap.size w6.heap.size)) := ho
  have U0_19 : Hid (Bx w19 w6.heap.size [.slice p6_1 u.length q6_1, .slice p6_2 d.length q6_2]) := U0_18.out.turnS ht (by simp only [Btw]; omega)
  have Q_19 : Hid (Own w19 shCounter [.slice p8_1 uu.length q8_1, .slice p8_2 dd.length q8_2] (uu, dd, ()) (Btw w7.heap.size w8.heap.size)) := Q_18.out.turn ht (fun k e f => by simp only [Btw] at e f; omega)
  have U1_19 : Hid (Bx w19 w8.heap.size [.slice p8_1 uu.length q8_1, .slice p8_2 dd.length q8_2]) := U1_18.out.turnS ht (by simp only [Btw]; omega)
  have GP_19 : Hid (Own w19 shCounter [.slice p10_1 U.length q10_1, .slice p10_2 V.length q10_2] (U, V, ()) (Btw w9.heap.size w10.heap.size)) := GP_18.out.turn ht (fun k e f => by simp only [Btw] at e f; omega)
  have G_19 : Hid (Bx w19 w10.heap.size [.slice p10_1 U.length q10_1, .slice p10_2 V.length q10_2]) := G_18.out.turnS ht (by simp only [Btw]; omega)
  clear ht ho cU00 cU01 zU0 A0_18 A1_18 W_18 SP_18 P_18 U0_18 Q_18 U1_18 GP_18 G_18 HB18
  have cU10 := U1_19.out.cell 0 rfl
  have cU11 := U1_19.out.cell 1 rfl
  have zU1 := U1_19.out.2
  go_wp2_with fail
  refine ((show Calls _ _ _ _ (MkP shCounter [.slice p8_1 uu.length q8_1, .slice p8_2 dd.length q8_2] (mkT shCounter (uu, dd, ()) (1 + (cx : Int))) ((1 + (cx : Int)) + (cy : Int)) (Btw w7.heap.size w8.heap.size) _) from HCY.out ▸ markCounter_n [.slice p8_1 uu.length q8_1, .slice p8_2 dd.length q8_2] uu dd (1 + (cx : Int)) (Btw w7.heap.size w8.heap.size) _ (by omega) (by have h1 := HCY.out; rw [← h1]; omega) HS1.out (fun k hk => by have := hk.2; omega) Q_19.out)).mono ?_
  rintro r w20 ⟨rfl, ho, ht⟩
  have HB20 : Hid (Below w.heap.size w w20) := Hid.intro (HB19.out.trans (ht.below (fun k hk => by simp only [Btw] at hk; omega) HB19.out.size))
  have sz20 : w19.heap.size ≤ w20.heap.size := ht.size
  have A0_20 : Hid (Bx w20 w.heap.size [.slice a0_1 u.length k0_1, .slice a0_2 d.length k0_2]) := A0_19.out.turnS ht (by simp only [Btw]; omega)
  have A1_20 : Hid (Bx w20 (w.heap.size + 1) [.slice a1_1 uu.length k1_1, .slice a1_2 dd.length k1_2]) := A1_19.out.turnS ht (by simp only [Btw]; omega)
  have W_20 : Hid (Bx w20 b5 [.slice p5_1 U.length q5_1, .slice p5_2 V.length q5_2]) := W_19.out.turnS ht (by simp only [Btw]; omega)
  have SP_20 : Hid (Own w20 shCounter [.slice p5_1 U.length q5_1, .slice p5_2 V.length q5_2] (U, V, ()) (Btw lo5 hi5)) := SP_19.out.turn ht (fun k e f => by simp only [Btw] at e f; omega)
  have P_20 : Hid (Own w20 shCounter [.slice p6_1 u.length q6_1, .slice p6_2 d.length q6_2] (mkT shCounter (u, d, ()) 1) (Btw w5.heap.size w6.heap.size)) := P_19.out.turn ht (fun k e f => by simp only [Btw] at e f; omega)
  have U0_20 : Hid (Bx w20 w6.heap.size [.slice p6_1 u.length q6_1, .slice p6_2 d.length q6_2]) := U0_19.out.turnS ht (by simp only [Btw]; omega)
  have Q_20 : Hid (Own w20 shCounter [.slice p8_1 uu.length q8_1, .slice p8_2 dd.length q8_2] (mkT shCounter (uu, dd, ()) (1 + (cx : Int))) (Btw w7.heap.size w8.heap.size)) := ho
  have U1_20 : Hid (Bx w20 w8.heap.size [.slice p8_1 uu.length q8_1, .slice p8_2 dd.length q8_2]) := U1_19.out.turnS ht (by simp only [Btw]; omega)
  have GP_20 : Hid (Own w20 shCounter [.slice p10_1 U.length q10_1, .slice p10_2 V.length q10_2] (U, V, ()) (Btw w9.heap.size w10.heap.size)) := GP_19.out.turn ht (fun k e f => by simp only [Btw] at e f; omega)
  have G_20 : Hid (Bx w20 w10.heap.size [.slice p10_1 U.length q10_1, .slice p10_2 V.length q10_2]) := G_19.out.turnS ht (by simp only [Btw]; omega)
  clear ht ho cU10 cU11 zU1 A0_19 A1_19 W_19 SP_19 P_19 U0_19 Q_19 U1_19 GP_19 G_19 HB19
  clear P_20
  clear U0_20
  clear Q_20
  clear U1_20
  have cW0 := W_20.out.cell 0 rfl
  have cW1 := W_20.out.cell 1 rfl
  have zW := W_20.out.2
  have cG0 := G_20.out.cell 0 rfl
  have cG1 := G_20.out.cell 1 rfl
  have zG := G_20.out.2
  go_wp2_with fail
  refine (eqCounter_n [.slice p10_1 U.length q10_1, .slice p10_2 V.length q10_2] [.slice p5_1 U.length q5_1, .slice p5_2 V.length q5_2] U V _ HT.out GP_20.out.lies SP_20.out.lies).mono ?_
  rintro r w21 ⟨rfl, hb⟩
  have HB21 : Hid (Below w.heap.size w w21) := below_next HB20.out hb
  have sz21 : w20.heap.size ≤ w21.heap.size := hb.size
  have A0_21 : Hid (Bx w21 w.heap.size [.slice a0_1 u.length k0_1, .slice a0_2 d.length k0_2]) := A0_20.out.next hb
  have A1_21 : Hid (Bx w21 (w.heap.size + 1) [.slice a1_1 uu.length k1_1, .slice a1_2 dd.length k1_2]) := A1_20.out.next hb
  have W_21 : Hid (Bx w21 b5 [.slice p5_1 U.length q5_1, .slice p5_2 V.length q5_2]) := W_20.out.next hb
  have SP_21 : Hid (Own w21 shCounter [.slice p5_1 U.length q5_1, .slice p5_2 V.length q5_2] (U, V, ()) (Btw lo5 hi5)) := SP_20.out.next hb
  have GP_21 : Hid (Own w21 shCounter [.slice p10_1 U.length q10_1, .slice p10_2 V.length q10_2] (U, V, ()) (Btw w9.heap.size w10.heap.size)) := GP_20.out.next hb
  have G_21 : Hid (Bx w21 w10.heap.size [.slice p10_1 U.length q10_1, .slice p10_2 V.length q10_2]) := G_20.out.next hb
  clear hb cW0 cW1 zW cG0 cG1 zG A0_20 A1_20 W_20 SP_20 GP_20 G_20 HB20
  have cG0 := G_21.out.cell 0 rfl
  have cG1 := G_21.out.cell 1 rfl
  have zG := G_21.out.2
  go_wp2_with fail
  refine ((show Calls _ _ _ _ (MkP shCounter [.slice p10_1 U.length q10_1, .slice p10_2 V.length q10_2] (mkT shCounter (U, V, ()) 1) (1 + (cn : Int)) (Btw w9.heap.size w10.heap.size) _) from HCN.out ▸ markCounter_n [.slice p10_1 U.length q10_1, .slice p10_2 V.length q10_2] U V 1 (Btw w9.heap.size w10.heap.size) _ (by omega) (by have h1 := HCN.out; rw [← h1]; omega) HT.out (fun k hk => by have := hk.2; omega) GP_21.out)).mono ?_
  rintro r w22 ⟨rfl, ho, ht⟩
  have HB22 : Hid (Below w.heap.size w w22) := Hid.intro (HB21.out.trans (ht.below (fun k hk => by simp only [Btw] at hk; omega) HB21.out.size))
  have sz22 : w21.heap.size ≤ w22.heap.size := ht.size
  have A0_22 : Hid (Bx w22 w.heap.size [.slice a0_1 u.length k0_1, .slice a0_2 d.length k0_2]) := A0_21.out.turnS ht (by simp only [Btw]; omega)
  have A1_22 : Hid (Bx w22 (w.heap.size + 1) [.slice a1_1 uu.length k1_1, .slice a1_2 dd.length k1_2]) := A1_21.out.turnS ht (by simp only [Btw]; omega)
  have W_22 : Hid (Bx w22 b5 [.slice p5_1 U.length q5_1, .slice p5_2 V.length q5_2]) := W_21.out.turnS ht (by simp only [Btw]; omega)
  have SP_22 : Hid (Own w22 shCounter [.slice p5_1 U.length q5_1, .slice p5_2 V.length q5_2] (U, V, ()) (Btw lo5 hi5)) := SP_21.out.turn ht (fun k e f => by simp only [Btw] at e f; omega)
  have GP_22 : Hid (Own w22 shCounter [.slice p10_1 U.length q10_1, .slice p10_2 V.length q10_2] (mkT shCounter (U, V, ()) 1) (Btw w9.heap.size w10.heap.size)) := ho
  have G_22 : Hid (Bx w22 w10.heap.size [.slice p10_1 U.length q10_1, .slice p10_2 V.length q10_2]) := G_21.out.turnS ht (by simp only [Btw]; omega)
  clear ht ho cG0 cG1 zG A0_21 A1_21 W_21 SP_21 GP_21 G_21 HB21
  have cG0 := G_22.out.cell 0 rfl
  have cG1 := G_22.out.cell 1 rfl
  have zG := G_22.out.2
  go_wp2_with fail
  refine ((show Calls _ _ _ _ (fun r w' => r = .returned (.int .i64 (1 + (cn : Int))) ∧ Below _ _ w') from HCN.out ▸ heldCounter_n [.slice p10_1 U.length q10_1, .slice p10_2 V.length q10_2] U V 1 _ (by decide) (by have h1 := HCN.out; rw [← h1]; omega) HT.out GP_22.out.lies)).mono ?_
  rintro r w23 ⟨rfl, hb⟩
  have HB23 : Hid (Below w.heap.size w w23) := below_next HB22.out hb
  have sz23 : w22.heap.size ≤ w23.heap.size := hb.size
  have A0_23 : Hid (Bx w23 w.heap.size [.slice a0_1 u.length k0_1, .slice a0_2 d.length k0_2]) := A0_22.out.next hb
  have A1_23 : Hid (Bx w23 (w.heap.size + 1) [.slice a1_1 uu.length k1_1, .slice a1_2 dd.length k1_2]) := A1_22.out.next hb
  have W_23 : Hid (Bx w23 b5 [.slice p5_1 U.length q5_1, .slice p5_2 V.length q5_2]) := W_22.out.next hb
  have SP_23 : Hid (Own w23 shCounter [.slice p5_1 U.length q5_1, .slice p5_2 V.length q5_2] (U, V, ()) (Btw lo5 hi5)) := SP_22.out.next hb
  have GP_23 : Hid (Own w23 shCounter [.slice p10_1 U.length q10_1, .slice p10_2 V.length q10_2] (mkT shCounter (U, V, ()) 1) (Btw w9.heap.size w10.heap.size)) := GP_22.out.next hb
  have G_23 : Hid (Bx w23 w10.heap.size [.slice p10_1 U.length q10_1, .slice p10_2 V.length q10_2]) := G_22.out.next hb
  clear hb cG0 cG1 zG A0_22 A1_22 W_22 SP_22 GP_22 G_22 HB22
  go_upto_region 31 with fail
  go_cut [15, 16] (fun s15 s16 wx => ∃ (b : Nat) (a3_1 : Option Addr) (k3_1 : Nat) (a3_2 : Option Addr) (k3_2 : Nat) (lo hi : Nat), s15 = .pointer (some ⟨b, 0, none⟩) ∧ s16 = .bool z ∧ Bx wx b [.slice a3_1 U.length k3_1, .slice a3_2 V.length k3_2] ∧ Own wx shCounter [.slice a3_1 U.length k3_1, .slice a3_2 V.length k3_2] (U, V, ()) (Btw lo hi) ∧ w23.heap.size ≤ lo ∧ lo ≤ hi ∧ hi ≤ wx.heap.size ∧ w23.heap.size ≤ b ∧ b < wx.heap.size ∧ (b < lo ∨ hi ≤ b) ∧ Below w23.heap.size w23 wx)
  case first =>
    have hb : Below w23.heap.size w23 w23.drew := below_drew _
    have HD : Hid (Bx w23.drew w.heap.size [.slice a0_1 u.length k0_1, .slice a0_2 d.length k0_2] ∧ Bx w23.drew (w.heap.size + 1) [.slice a1_1 uu.length k1_1, .slice a1_2 dd.length k1_2] ∧ Below w23.heap.size w23 w23.drew) := ⟨A0_23.out.next hb, A1_23.out.next hb, hb⟩
    clear hb
    refine wp_region_noPanic ?_
    refine wp_region_held_drew (S := fun W => Bx W w.heap.size [.slice a0_1 u.length k0_1, .slice a0_2 d.length k0_2] ∧ Bx W (w.heap.size + 1) [.slice a1_1 uu.length k1_1, .slice a1_2 dd.length k1_2]) (by kernel_rfl) ⟨HD.out.1, HD.out.2.1⟩ (fun hHeld => ?_)
    obtain ⟨X0, hX0⟩ : ∃ x, x = w23.drew := ⟨_, rfl⟩
    rw [← hX0] at HD hHeld ⊢
    clear hX0
    refine take_v (v := ?_) 0 ⟨some 95, Op.load 63 (Operand.tmp 2), _, _, _, none⟩ rfl (fun _ _ _ h => h) ?_ hHeld ?_
    rotate_left
    · (intro W hSW; (have s0_0 := hSW.1.cell 0 rfl; have s0_1 := hSW.1.cell 1 rfl; have s0z := hSW.1.2; have s1_0 := hSW.2.cell 0 rfl; have s1_1 := hSW.2.cell 1 rfl; have s1z := hSW.2.2); go_simp <;> (try with_reducible rfl))
    refine take_v (v := ?_) 2 ⟨some 97, Op.load 63 (Operand.tmp 3), _, _, _, none⟩ rfl (fun _ _ _ h => h) ?_ hHeld ?_
    rotate_left
    · (intro W hSW; (have s0_0 := hSW.1.cell 0 rfl; have s0_1 := hSW.1.cell 1 rfl; have s0z := hSW.1.2; have s1_0 := hSW.2.cell 0 rfl; have s1_1 := hSW.2.cell 1 rfl; have s1z := hSW.2.2); go_simp <;> (try with_reducible rfl))
    refine ready_two 1 8 ⟨some 96, Op.call { callee := Callee.value (Operand.func 41), args := #[Operand.tmp 95], argTypes := #[63] }, _, _, _, none⟩ ⟨some 15, Op.alloc 25, _, _, _, none⟩ (by kernel_rfl) rfl rfl (by kernel_rfl) (by kernel_rfl) (fun KC hK => ?_) (fun KC hK => ?_)
    ·
      go_wp2_with fail
      refine (toCounter_n [.slice a0_1 u.length k0_1, .slice a0_2 d.length k0_2] u d _ HS0.out (HL0.out.next (below_next HB23.out HD.out.2.2))).mono ?_
      rintro r W1 ⟨cs9, rfl, ho, hb⟩
      obtain ⟨p1_1, q1_1, _, p1_2, q1_2, _, hev, _⟩ := own_Counter ho
      subst hev
      (first | (have HO1 := Hid.intro (HO1.out.next hb)) | skip); (first | (have HO2 := Hid.intro (HO2.out.next hb)) | skip)
      have HO1 := Hid.intro ho.lies
      have HD := (show Hid (Bx W1 w.heap.size [.slice a0_1 u.length k0_1, .slice a0_2 d.length k0_2] ∧ Bx W1 (w.heap.size + 1) [.slice a1_1 uu.length k1_1, .slice a1_2 dd.length k1_2] ∧ Below w23.heap.size w23 W1) from ⟨HD.out.1.next hb, HD.out.2.1.next hb, below_next HD.out.2.2 hb⟩)
      (first | (have H8 := (show Hid (Bx W1 b8 [.slice none 0 0, .slice none 0 0] ∧ w23.heap.size ≤ b8) from ⟨H8.out.1.next hb, H8.out.2⟩)) | skip)
      clear ho hb
      refine hK.out _ _ ⟨HD.out.1, HD.out.2.1⟩ (fun hHeld => ?_)
      clear hK KC
      refine ready_two 3 8 ⟨some 98, Op.call { callee := Callee.value (Operand.func 41), args := #[Operand.tmp 97], argTypes := #[63] }, _, _, _, none⟩ ⟨some 15, Op.alloc 25, _, _, _, none⟩ (by kernel_rfl) rfl rfl (by kernel_rfl) (by kernel_rfl) (fun KC hK => ?_) (fun KC hK => ?_)
      ·
        go_wp2_with fail
        refine (toCounter_n [.slice a1_1 uu.length k1_1, .slice a1_2 dd.length k1_2] uu dd _ HS1.out (HL1.out.next (below_next HB23.out HD.out.2.2))).mono ?_
        rintro r W2 ⟨cs9, rfl, ho, hb⟩
        obtain ⟨p2_1, q2_1, _, p2_2, q2_2, _, hev, _⟩ := own_Counter ho
        subst hev
        (first | (have HO1 := Hid.intro (HO1.out.next hb)) | skip); (first | (have HO2 := Hid.intro (HO2.out.next hb)) | skip)
        have HO2 := Hid.intro ho.lies
        have HD := (show Hid (Bx W2 w.heap.size [.slice a0_1 u.length k0_1, .slice a0_2 d.length k0_2] ∧ Bx W2 (w.heap.size + 1) [.slice a1_1 uu.length k1_1, .slice a1_2 dd.length k1_2] ∧ Below w23.heap.size w23 W2) from ⟨HD.out.1.next hb, HD.out.2.1.next hb, below_next HD.out.2.2 hb⟩)
        (first | (have H8 := (show Hid (Bx W2 b8 [.slice none 0 0, .slice none 0 0] ∧ w23.heap.size ≤ b8) from ⟨H8.out.1.next hb, H8.out.2⟩)) | skip)
        clear ho hb
        refine hK.out _ _ ⟨HD.out.1, HD.out.2.1⟩ (fun hHeld => ?_)
        clear hK KC
        refine ready_two 4 8 ⟨some 99, Op.call { callee := Callee.value (Operand.func 18), args := #[Operand.tmp 96, Operand.tmp 98], argTypes := #[25, 25] }, _, _, _, none⟩ ⟨some 15, Op.alloc 25, _, _, _, none⟩ (by kernel_rfl) rfl rfl (by kernel_rfl) (by kernel_rfl) (fun KC hK => ?_) (fun KC hK => ?_)
        ·
          go_wp2_with fail
          refine (mergeCounter_l [.slice p1_1 u.length q1_1, .slice p1_2 d.length q1_2] [.slice p2_1 uu.length q2_1, .slice p2_2 dd.length q2_2] u d uu dd _ U V z HA.out HS0.out HS1.out HO1.out HO2.out).mono ?_
          intro r W9 hT
          obtain ⟨cs9, lo, hi, rfl, ho, hlo, hlh, hhi, hb⟩ := ansG_out hT
          obtain ⟨a3_1, k3_1, _, a3_2, k3_2, _, hev, _⟩ := own_Counter ho
          subst hev
          have hol : w23.heap.size ≤ lo := Nat.le_trans HD.out.2.2.size hlo
          (first | (have HO9 := (show Hid (Own W9 shCounter [.slice a3_1 U.length k3_1, .slice a3_2 V.length k3_2] (U, V, ()) (Btw lo hi) ∧ w23.heap.size ≤ lo ∧ lo ≤ hi ∧ hi ≤ W9.heap.size ∧ (b8 < lo ∨ hi ≤ b8)) from ⟨ho, hol, hlh, hhi, Or.inl (Nat.lt_of_lt_of_le H8.out.1.2 hlo)⟩)) | (have HO9 := (show Hid (Own W9 shCounter [.slice a3_1 U.length k3_1, .slice a3_2 V.length k3_2] (U, V, ()) (Btw lo hi) ∧ w23.heap.size ≤ lo ∧ lo ≤ hi ∧ hi ≤ W9.heap.size) from ⟨ho, hol, hlh, hhi⟩)))
          have HD := (show Hid (Bx W9 w.heap.size [.slice a0_1 u.length k0_1, .slice a0_2 d.length k0_2] ∧ Bx W9 (w.heap.size + 1) [.slice a1_1 uu.length k1_1, .slice a1_2 dd.length k1_2] ∧ Below w23.heap.size w23 W9) from ⟨HD.out.1.next hb, HD.out.2.1.next hb, below_next HD.out.2.2 hb⟩)
          (first | (have H8 := (show Hid (Bx W9 b8 [.slice none 0 0, .slice none 0 0] ∧ w23.heap.size ≤ b8) from ⟨H8.out.1.next hb, H8.out.2⟩)) | skip)
          clear ho hlo hlh hhi hol hb hT
          refine hK.out _ _ ⟨HD.out.1, HD.out.2.1⟩ (fun hHeld => ?_)
          clear hK KC
          refine take_v (v := ?_) 5 ⟨some 94, Op.move (Operand.tmp 99), _, _, _, none⟩ rfl (fun _ _ _ h => h) ?_ hHeld ?_
          rotate_left
          · (intro W _; go_simp <;> (try with_reducible rfl))
          refine take_v (v := ?_) 6 ⟨some 100, Op.extract (Operand.tmp 94) 0, _, _, _, none⟩ rfl (fun _ _ _ h => h) ?_ hHeld ?_
          rotate_left
          · (intro W _; go_simp <;> (try with_reducible rfl))
          refine take_v (v := ?_) 7 ⟨some 101, Op.extract (Operand.tmp 94) 1, _, _, _, none⟩ rfl (fun _ _ _ h => h) ?_ hHeld ?_
          rotate_left
          · (intro W _; go_simp <;> (try with_reducible rfl))
          refine ready_call 8 ⟨some 15, Op.alloc 25, _, _, _, none⟩ (by kernel_rfl) rfl (by kernel_rfl) (fun KC hK => ?_)
          go_wp2_with fail
          (first | (obtain ⟨W8, hW8⟩ : ∃ x, x = W9.alloc (.cells #[.slice none 0 0, .slice none 0 0] 25) := ⟨_, rfl⟩; have hb : Below W9.heap.size W9 W8 := hW8 ▸ Go.Joins.below_alloc1 _ _; obtain ⟨b8, hb8⟩ : ∃ b, b = W9.heap.size := ⟨_, rfl⟩; have H8 : Hid (Bx W8 b8 [.slice none 0 0, .slice none 0 0] ∧ w23.heap.size ≤ b8) := ⟨hb8 ▸ hW8 ▸ Bx.new W9 [.slice none 0 0, .slice none 0 0] _, by rw [hb8]; exact HD.out.2.2.size⟩; have HO9 := (show Hid (Own W8 shCounter [.slice a3_1 U.length k3_1, .slice a3_2 V.length k3_2] (U, V, ()) (Btw lo hi) ∧ w23.heap.size ≤ lo ∧ lo ≤ hi ∧ hi ≤ W8.heap.size ∧ (b8 < lo ∨ hi ≤ b8)) from ⟨HO9.out.1.next hb, HO9.out.2.1, HO9.out.2.2.1, Nat.le_trans HO9.out.2.2.2 hb.size, Or.inr (by rw [hb8]; exact HO9.out.2.2.2)⟩); have HD := (show Hid (Bx W8 w.heap.size [.slice a0_1 u.length k0_1, .slice a0_2 d.length k0_2] ∧ Bx W8 (w.heap.size + 1) [.slice a1_1 uu.length k1_1, .slice a1_2 dd.length k1_2] ∧ Below w23.heap.size w23 W8) from ⟨HD.out.1.next hb, HD.out.2.1.next hb, below_next HD.out.2.2 hb⟩); rw [← hW8, ← hb8]; clear hW8 hb8 hb) | (obtain ⟨W8, hW8⟩ : ∃ x, x = W2.alloc (.cells #[.slice none 0 0, .slice none 0 0] 25) := ⟨_, rfl⟩; have hb : Below W2.heap.size W2 W8 := hW8 ▸ Go.Joins.below_alloc1 _ _; obtain ⟨b8, hb8⟩ : ∃ b, b = W2.heap.size := ⟨_, rfl⟩; have H8 : Hid (Bx W8 b8 [.slice none 0 0, .slice none 0 0] ∧ w23.heap.size ≤ b8) := ⟨hb8 ▸ hW8 ▸ Bx.new W2 [.slice none 0 0, .slice none 0 0] _, by rw [hb8]; exact HD.out.2.2.size⟩; (first | (have HO1 := Hid.intro (HO1.out.next hb)) | skip); (first | (have HO2 := Hid.intro (HO2.out.next hb)) | skip); have HD := (show Hid (Bx W8 w.heap.size [.slice a0_1 u.length k0_1, .slice a0_2 d.length k0_2] ∧ Bx W8 (w.heap.size + 1) [.slice a1_1 uu.length k1_1, .slice a1_2 dd.length k1_2] ∧ Below w23.heap.size w23 W8) from ⟨HD.out.1.next hb, HD.out.2.1.next hb, below_next HD.out.2.2 hb⟩); rw [← hW8, ← hb8]; clear hW8 hb8 hb) | (obtain ⟨W8, hW8⟩ : ∃ x, x = W1.alloc (.cells #[.slice none 0 0, .slice none 0 0] 25) := ⟨_, rfl⟩; have hb : Below W1.heap.size W1 W8 := hW8 ▸ Go.Joins.below_alloc1 _ _; obtain ⟨b8, hb8⟩ : ∃ b, b = W1.heap.size := ⟨_, rfl⟩; have H8 : Hid (Bx W8 b8 [.slice none 0 0, .slice none 0 0] ∧ w23.heap.size ≤ b8) := ⟨hb8 ▸ hW8 ▸ Bx.new W1 [.slice none 0 0, .slice none 0 0] _, by rw [hb8]; exact HD.out.2.2.size⟩; (first | (have HO1 := Hid.intro (HO1.out.next hb)) | skip); (first | (have HO2 := Hid.intro (HO2.out.next hb)) | skip); have HD := (show Hid (Bx W8 w.heap.size [.slice a0_1 u.length k0_1, .slice a0_2 d.length k0_2] ∧ Bx W8 (w.heap.size + 1) [.slice a1_1 uu.length k1_1, .slice a1_2 dd.length k1_2] ∧ Below w23.heap.size w23 W8) from ⟨HD.out.1.next hb, HD.out.2.1.next hb, below_next HD.out.2.2 hb⟩); rw [← hW8, ← hb8]; clear hW8 hb8 hb) | (obtain ⟨W8, hW8⟩ : ∃ x, x = X0.alloc (.cells #[.slice none 0 0, .slice none 0 0] 25) := ⟨_, rfl⟩; have hb : Below X0.heap.size X0 W8 := hW8 ▸ Go.Joins.below_alloc1 _ _; obtain ⟨b8, hb8⟩ : ∃ b, b = X0.heap.size := ⟨_, rfl⟩; have H8 : Hid (Bx W8 b8 [.slice none 0 0, .slice none 0 0] ∧ w23.heap.size ≤ b8) := ⟨hb8 ▸ hW8 ▸ Bx.new X0 [.slice none 0 0, .slice none 0 0] _, by rw [hb8]; exact HD.out.2.2.size⟩; (first | (have HO1 := Hid.intro (HO1.out.next hb)) | skip); (first | (have HO2 := Hid.intro (HO2.out.next hb)) | skip); have HD := (show Hid (Bx W8 w.heap.size [.slice a0_1 u.length k0_1, .slice a0_2 d.length k0_2] ∧ Bx W8 (w.heap.size + 1) [.slice a1_1 uu.length k1_1, .slice a1_2 dd.length k1_2] ∧ Below w23.heap.size w23 W8) from ⟨HD.out.1.next hb, HD.out.2.1.next hb, below_next HD.out.2.2 hb⟩); rw [← hW8, ← hb8]; clear hW8 hb8 hb))
          refine hK.out _ _ ⟨HD.out.1, HD.out.2.1⟩ (fun hHeld => ?_)
          clear hK KC
          refine ready_call 9 ⟨none, Op.store 25 (Operand.tmp 15) (Operand.tmp 100), _, _, _, none⟩ (by kernel_rfl) rfl (by kernel_rfl) (fun KC hK => ?_)
          have dz := H8.out.1.2
          have d0 := H8.out.1.cell 0 rfl
          have d1 := H8.out.1.cell 1 rfl
          have f0 := H8.out.1.frz 0 (by simp)
          have f1 := H8.out.1.frz 1 (by simp)
          have h8 := H8.out.2
          go_wp2_with fail
          have HF := Hid.intro (box_own2 (o := w23) H8.out.1 H8.out.2 HO9.out.1 HO9.out.2.2.2.2 HD.out.2.2 (.slice a3_1 U.length k3_1) (.slice a3_2 V.length k3_2))
          clear dz d0 f0 d1 f1
          refine hK.out _ _ ⟨((HD.out.1.other (by omega)).other (by omega)), ((HD.out.2.1.other (by omega)).other (by omega))⟩ (fun hHeld => ?_)
          clear hK KC
          refine take_v (v := ?_) 10 ⟨some 16, Op.assign (Operand.tmp 101), _, _, _, none⟩ rfl (fun _ _ _ h => h) ?_ hHeld ?_
          rotate_left
          · (intro W _; go_simp <;> (try with_reducible rfl))
          refine wpAnyH_done (by kernel_rfl) ?_ _
          refine NoPanic.normal ?_
          clear hHeld
          go_wp2_with fail
          go_meet
          exact ⟨b8, a3_1, k3_1, a3_2, k3_2, lo, hi, rfl, rfl, HF.out.1, HF.out.2.1, HO9.out.2.1, HO9.out.2.2.1, by rw [HF.out.2.2.2]; exact HO9.out.2.2.2.1, H8.out.2, by rw [HF.out.2.2.2]; exact H8.out.1.2, HO9.out.2.2.2.2, HF.out.2.2.1⟩
        ·
          go_wp2_with fail
          (first | (obtain ⟨W8, hW8⟩ : ∃ x, x = W9.alloc (.cells #[.slice none 0 0, .slice none 0 0] 25) := ⟨_, rfl⟩; have hb : Below W9.heap.size W9 W8 := hW8 ▸ Go.Joins.below_alloc1 _ _; obtain ⟨b8, hb8⟩ : ∃ b, b = W9.heap.size := ⟨_, rfl⟩; have H8 : Hid (Bx W8 b8 [.slice none 0 0, .slice none 0 0] ∧ w23.heap.size ≤ b8) := ⟨hb8 ▸ hW8 ▸ Bx.new W9 [.slice none 0 0, .slice none 0 0] _, by rw [hb8]; exact HD.out.2.2.size⟩; have HO9 := (show Hid (Own W8 shCounter [.slice a3_1 U.length k3_1, .slice a3_2 V.length k3_2] (U, V, ()) (Btw lo hi) ∧ w23.heap.size ≤ lo ∧ lo ≤ hi ∧ hi ≤ W8.heap.size ∧ (b8 < lo ∨ hi ≤ b8)) from ⟨HO9.out.1.next hb, HO9.out.2.1, HO9.out.2.2.1, Nat.le_trans HO9.out.2.2.2 hb.size, Or.inr (by rw [hb8]; exact HO9.out.2.2.2)⟩); have HD := (show Hid (Bx W8 w.heap.size [.slice a0_1 u.length k0_1, .slice a0_2 d.length k0_2] ∧ Bx W8 (w.heap.size + 1) [.slice a1_1 uu.length k1_1, .slice a1_2 dd.length k1_2] ∧ Below w23.heap.size w23 W8) from ⟨HD.out.1.next hb, HD.out.2.1.next hb, below_next HD.out.2.2 hb⟩); rw [← hW8, ← hb8]; clear hW8 hb8 hb) | (obtain ⟨W8, hW8⟩ : ∃ x, x = W2.alloc (.cells #[.slice none 0 0, .slice none 0 0] 25) := ⟨_, rfl⟩; have hb : Below W2.heap.size W2 W8 := hW8 ▸ Go.Joins.below_alloc1 _ _; obtain ⟨b8, hb8⟩ : ∃ b, b = W2.heap.size := ⟨_, rfl⟩; have H8 : Hid (Bx W8 b8 [.slice none 0 0, .slice none 0 0] ∧ w23.heap.size ≤ b8) := ⟨hb8 ▸ hW8 ▸ Bx.new W2 [.slice none 0 0, .slice none 0 0] _, by rw [hb8]; exact HD.out.2.2.size⟩; (first | (have HO1 := Hid.intro (HO1.out.next hb)) | skip); (first | (have HO2 := Hid.intro (HO2.out.next hb)) | skip); have HD := (show Hid (Bx W8 w.heap.size [.slice a0_1 u.length k0_1, .slice a0_2 d.length k0_2] ∧ Bx W8 (w.heap.size + 1) [.slice a1_1 uu.length k1_1, .slice a1_2 dd.length k1_2] ∧ Below w23.heap.size w23 W8) from ⟨HD.out.1.next hb, HD.out.2.1.next hb, below_next HD.out.2.2 hb⟩); rw [← hW8, ← hb8]; clear hW8 hb8 hb) | (obtain ⟨W8, hW8⟩ : ∃ x, x = W1.alloc (.cells #[.slice none 0 0, .slice none 0 0] 25) := ⟨_, rfl⟩; have hb : Below W1.heap.size W1 W8 := hW8 ▸ Go.Joins.below_alloc1 _ _; obtain ⟨b8, hb8⟩ : ∃ b, b = W1.heap.size := ⟨_, rfl⟩; have H8 : Hid (Bx W8 b8 [.slice none 0 0, .slice none 0 0] ∧ w23.heap.size ≤ b8) := ⟨hb8 ▸ hW8 ▸ Bx.new W1 [.slice none 0 0, .slice none 0 0] _, by rw [hb8]; exact HD.out.2.2.size⟩; (first | (have HO1 := Hid.intro (HO1.out.next hb)) | skip); (first | (have HO2 := Hid.intro (HO2.out.next hb)) | skip); have HD := (show Hid (Bx W8 w.heap.size [.slice a0_1 u.length k0_1, .slice a0_2 d.length k0_2] ∧ Bx W8 (w.heap.size + 1) [.slice a1_1 uu.length k1_1, .slice a1_2 dd.length k1_2] ∧ Below w23.heap.size w23 W8) from ⟨HD.out.1.next hb, HD.out.2.1.next hb, below_next HD.out.2.2 hb⟩); rw [← hW8, ← hb8]; clear hW8 hb8 hb) | (obtain ⟨W8, hW8⟩ : ∃ x, x = X0.alloc (.cells #[.slice none 0 0, .slice none 0 0] 25) := ⟨_, rfl⟩; have hb : Below X0.heap.size X0 W8 := hW8 ▸ Go.Joins.below_alloc1 _ _; obtain ⟨b8, hb8⟩ : ∃ b, b = X0.heap.size := ⟨_, rfl⟩; have H8 : Hid (Bx W8 b8 [.slice none 0 0, .slice none 0 0] ∧ w23.heap.size ≤ b8) := ⟨hb8 ▸ hW8 ▸ Bx.new X0 [.slice none 0 0, .slice none 0 0] _, by rw [hb8]; exact HD.out.2.2.size⟩; (first | (have HO1 := Hid.intro (HO1.out.next hb)) | skip); (first | (have HO2 := Hid.intro (HO2.out.next hb)) | skip); have HD := (show Hid (Bx W8 w.heap.size [.slice a0_1 u.length k0_1, .slice a0_2 d.length k0_2] ∧ Bx W8 (w.heap.size + 1) [.slice a1_1 uu.length k1_1, .slice a1_2 dd.length k1_2] ∧ Below w23.heap.size w23 W8) from ⟨HD.out.1.next hb, HD.out.2.1.next hb, below_next HD.out.2.2 hb⟩); rw [← hW8, ← hb8]; clear hW8 hb8 hb))
          refine hK.out _ _ ⟨HD.out.1, HD.out.2.1⟩ (fun hHeld => ?_)
          clear hK KC
          refine ready_call 4 ⟨some 99, Op.call { callee := Callee.value (Operand.func 18), args := #[Operand.tmp 96, Operand.tmp 98], argTypes := #[25, 25] }, _, _, _, none⟩ (by kernel_rfl) rfl (by kernel_rfl) (fun KC hK => ?_)
          go_wp2_with fail
          refine (mergeCounter_l [.slice p1_1 u.length q1_1, .slice p1_2 d.length q1_2] [.slice p2_1 uu.length q2_1, .slice p2_2 dd.length q2_2] u d uu dd _ U V z HA.out HS0.out HS1.out HO1.out HO2.out).mono ?_
          intro r W9 hT
          obtain ⟨cs9, lo, hi, rfl, ho, hlo, hlh, hhi, hb⟩ := ansG_out hT
          obtain ⟨a3_1, k3_1, _, a3_2, k3_2, _, hev, _⟩ := own_Counter ho
          subst hev
          have hol : w23.heap.size ≤ lo := Nat.le_trans HD.out.2.2.size hlo
          (first | (have HO9 := (show Hid (Own W9 shCounter [.slice a3_1 U.length k3_1, .slice a3_2 V.length k3_2] (U, V, ()) (Btw lo hi) ∧ w23.heap.size ≤ lo ∧ lo ≤ hi ∧ hi ≤ W9.heap.size ∧ (b8 < lo ∨ hi ≤ b8)) from ⟨ho, hol, hlh, hhi, Or.inl (Nat.lt_of_lt_of_le H8.out.1.2 hlo)⟩)) | (have HO9 := (show Hid (Own W9 shCounter [.slice a3_1 U.length k3_1, .slice a3_2 V.length k3_2] (U, V, ()) (Btw lo hi) ∧ w23.heap.size ≤ lo ∧ lo ≤ hi ∧ hi ≤ W9.heap.size) from ⟨ho, hol, hlh, hhi⟩)))
          have HD := (show Hid (Bx W9 w.heap.size [.slice a0_1 u.length k0_1, .slice a0_2 d.length k0_2] ∧ Bx W9 (w.heap.size + 1) [.slice a1_1 uu.length k1_1, .slice a1_2 dd.length k1_2] ∧ Below w23.heap.size w23 W9) from ⟨HD.out.1.next hb, HD.out.2.1.next hb, below_next HD.out.2.2 hb⟩)
          (first | (have H8 := (show Hid (Bx W9 b8 [.slice none 0 0, .slice none 0 0] ∧ w23.heap.size ≤ b8) from ⟨H8.out.1.next hb, H8.out.2⟩)) | skip)
          clear ho hlo hlh hhi hol hb hT
          refine hK.out _ _ ⟨HD.out.1, HD.out.2.1⟩ (fun hHeld => ?_)
          clear hK KC
          refine take_v (v := ?_) 5 ⟨some 94, Op.move (Operand.tmp 99), _, _, _, none⟩ rfl (fun _ _ _ h => h) ?_ hHeld ?_
          rotate_left
          · (intro W _; go_simp <;> (try with_reducible rfl))
          refine take_v (v := ?_) 6 ⟨some 100, Op.extract (Operand.tmp 94) 0, _, _, _, none⟩ rfl (fun _ _ _ h => h) ?_ hHeld ?_
          rotate_left
          · (intro W _; go_simp <;> (try with_reducible rfl))
          refine take_v (v := ?_) 7 ⟨some 101, Op.extract (Operand.tmp 94) 1, _, _, _, none⟩ rfl (fun _ _ _ h => h) ?_ hHeld ?_
          rotate_left
          · (intro W _; go_simp <;> (try with_reducible rfl))
          refine ready_call 9 ⟨none, Op.store 25 (Operand.tmp 15) (Operand.tmp 100), _, _, _, none⟩ (by kernel_rfl) rfl (by kernel_rfl) (fun KC hK => ?_)
          have dz := H8.out.1.2
          have d0 := H8.out.1.cell 0 rfl
          have d1 := H8.out.1.cell 1 rfl
          have f0 := H8.out.1.frz 0 (by simp)
          have f1 := H8.out.1.frz 1 (by simp)
          have h8 := H8.out.2
          go_wp2_with fail
          have HF := Hid.intro (box_own2 (o := w23) H8.out.1 H8.out.2 HO9.out.1 HO9.out.2.2.2.2 HD.out.2.2 (.slice a3_1 U.length k3_1) (.slice a3_2 V.length k3_2))
          clear dz d0 f0 d1 f1
          refine hK.out _ _ ⟨((HD.out.1.other (by omega)).other (by omega)), ((HD.out.2.1.other (by omega)).other (by omega))⟩ (fun hHeld => ?_)
          clear hK KC
          refine take_v (v := ?_) 10 ⟨some 16, Op.assign (Operand.tmp 101), _, _, _, none⟩ rfl (fun _ _ _ h => h) ?_ hHeld ?_
          rotate_left
          · (intro W _; go_simp <;> (try with_reducible rfl))
          refine wpAnyH_done (by kernel_rfl) ?_ _
          refine NoPanic.normal ?_
          clear hHeld
          go_wp2_with fail
          go_meet
          exact ⟨b8, a3_1, k3_1, a3_2, k3_2, lo, hi, rfl, rfl, HF.out.1, HF.out.2.1, HO9.out.2.1, HO9.out.2.2.1, by rw [HF.out.2.2.2]; exact HO9.out.2.2.2.1, H8.out.2, by rw [HF.out.2.2.2]; exact H8.out.1.2, HO9.out.2.2.2.2, HF.out.2.2.1⟩
      ·
        go_wp2_with fail
        (first | (obtain ⟨W8, hW8⟩ : ∃ x, x = W9.alloc (.cells #[.slice none 0 0, .slice none 0 0] 25) := ⟨_, rfl⟩; have hb : Below W9.heap.size W9 W8 := hW8 ▸ Go.Joins.below_alloc1 _ _; obtain ⟨b8, hb8⟩ : ∃ b, b = W9.heap.size := ⟨_, rfl⟩; have H8 : Hid (Bx W8 b8 [.slice none 0 0, .slice none 0 0] ∧ w23.heap.size ≤ b8) := ⟨hb8 ▸ hW8 ▸ Bx.new W9 [.slice none 0 0, .slice none 0 0] _, by rw [hb8]; exact HD.out.2.2.size⟩; have HO9 := (show Hid (Own W8 shCounter [.slice a3_1 U.length k3_1, .slice a3_2 V.length k3_2] (U, V, ()) (Btw lo hi) ∧ w23.heap.size ≤ lo ∧ lo ≤ hi ∧ hi ≤ W8.heap.size ∧ (b8 < lo ∨ hi ≤ b8)) from ⟨HO9.out.1.next hb, HO9.out.2.1, HO9.out.2.2.1, Nat.le_trans HO9.out.2.2.2 hb.size, Or.inr (by rw [hb8]; exact HO9.out.2.2.2)⟩); have HD := (show Hid (Bx W8 w.heap.size [.slice a0_1 u.length k0_1, .slice a0_2 d.length k0_2] ∧ Bx W8 (w.heap.size + 1) [.slice a1_1 uu.length k1_1, .slice a1_2 dd.length k1_2] ∧ Below w23.heap.size w23 W8) from ⟨HD.out.1.next hb, HD.out.2.1.next hb, below_next HD.out.2.2 hb⟩); rw [← hW8, ← hb8]; clear hW8 hb8 hb) | (obtain ⟨W8, hW8⟩ : ∃ x, x = W2.alloc (.cells #[.slice none 0 0, .slice none 0 0] 25) := ⟨_, rfl⟩; have hb : Below W2.heap.size W2 W8 := hW8 ▸ Go.Joins.below_alloc1 _ _; obtain ⟨b8, hb8⟩ : ∃ b, b = W2.heap.size := ⟨_, rfl⟩; have H8 : Hid (Bx W8 b8 [.slice none 0 0, .slice none 0 0] ∧ w23.heap.size ≤ b8) := ⟨hb8 ▸ hW8 ▸ Bx.new W2 [.slice none 0 0, .slice none 0 0] _, by rw [hb8]; exact HD.out.2.2.size⟩; (first | (have HO1 := Hid.intro (HO1.out.next hb)) | skip); (first | (have HO2 := Hid.intro (HO2.out.next hb)) | skip); have HD := (show Hid (Bx W8 w.heap.size [.slice a0_1 u.length k0_1, .slice a0_2 d.length k0_2] ∧ Bx W8 (w.heap.size + 1) [.slice a1_1 uu.length k1_1, .slice a1_2 dd.length k1_2] ∧ Below w23.heap.size w23 W8) from ⟨HD.out.1.next hb, HD.out.2.1.next hb, below_next HD.out.2.2 hb⟩); rw [← hW8, ← hb8]; clear hW8 hb8 hb) | (obtain ⟨W8, hW8⟩ : ∃ x, x = W1.alloc (.cells #[.slice none 0 0, .slice none 0 0] 25) := ⟨_, rfl⟩; have hb : Below W1.heap.size W1 W8 := hW8 ▸ Go.Joins.below_alloc1 _ _; obtain ⟨b8, hb8⟩ : ∃ b, b = W1.heap.size := ⟨_, rfl⟩; have H8 : Hid (Bx W8 b8 [.slice none 0 0, .slice none 0 0] ∧ w23.heap.size ≤ b8) := ⟨hb8 ▸ hW8 ▸ Bx.new W1 [.slice none 0 0, .slice none 0 0] _, by rw [hb8]; exact HD.out.2.2.size⟩; (first | (have HO1 := Hid.intro (HO1.out.next hb)) | skip); (first | (have HO2 := Hid.intro (HO2.out.next hb)) | skip); have HD := (show Hid (Bx W8 w.heap.size [.slice a0_1 u.length k0_1, .slice a0_2 d.length k0_2] ∧ Bx W8 (w.heap.size + 1) [.slice a1_1 uu.length k1_1, .slice a1_2 dd.length k1_2] ∧ Below w23.heap.size w23 W8) from ⟨HD.out.1.next hb, HD.out.2.1.next hb, below_next HD.out.2.2 hb⟩); rw [← hW8, ← hb8]; clear hW8 hb8 hb) | (obtain ⟨W8, hW8⟩ : ∃ x, x = X0.alloc (.cells #[.slice none 0 0, .slice none 0 0] 25) := ⟨_, rfl⟩; have hb : Below X0.heap.size X0 W8 := hW8 ▸ Go.Joins.below_alloc1 _ _; obtain ⟨b8, hb8⟩ : ∃ b, b = X0.heap.size := ⟨_, rfl⟩; have H8 : Hid (Bx W8 b8 [.slice none 0 0, .slice none 0 0] ∧ w23.heap.size ≤ b8) := ⟨hb8 ▸ hW8 ▸ Bx.new X0 [.slice none 0 0, .slice none 0 0] _, by rw [hb8]; exact HD.out.2.2.size⟩; (first | (have HO1 := Hid.intro (HO1.out.next hb)) | skip); (first | (have HO2 := Hid.intro (HO2.out.next hb)) | skip); have HD := (show Hid (Bx W8 w.heap.size [.slice a0_1 u.length k0_1, .slice a0_2 d.length k0_2] ∧ Bx W8 (w.heap.size + 1) [.slice a1_1 uu.length k1_1, .slice a1_2 dd.length k1_2] ∧ Below w23.heap.size w23 W8) from ⟨HD.out.1.next hb, HD.out.2.1.next hb, below_next HD.out.2.2 hb⟩); rw [← hW8, ← hb8]; clear hW8 hb8 hb))
        refine hK.out _ _ ⟨HD.out.1, HD.out.2.1⟩ (fun hHeld => ?_)
        clear hK KC
        refine ready_call 3 ⟨some 98, Op.call { callee := Callee.value (Operand.func 41), args := #[Operand.tmp 97], argTypes := #[63] }, _, _, _, none⟩ (by kernel_rfl) rfl (by kernel_rfl) (fun KC hK => ?_)
        go_wp2_with fail
        refine (toCounter_n [.slice a1_1 uu.length k1_1, .slice a1_2 dd.length k1_2] uu dd _ HS1.out (HL1.out.next (below_next HB23.out HD.out.2.2))).mono ?_
        rintro r W2 ⟨cs9, rfl, ho, hb⟩
        obtain ⟨p2_1, q2_1, _, p2_2, q2_2, _, hev, _⟩ := own_Counter ho
        subst hev
        (first | (have HO1 := Hid.intro (HO1.out.next hb)) | skip); (first | (have HO2 := Hid.intro (HO2.out.next hb)) | skip)
        have HO2 := Hid.intro ho.lies
        have HD := (show Hid (Bx W2 w.heap.size [.slice a0_1 u.length k0_1, .slice a0_2 d.length k0_2] ∧ Bx W2 (w.heap.size + 1) [.slice a1_1 uu.length k1_1, .slice a1_2 dd.length k1_2] ∧ Below w23.heap.size w23 W2) from ⟨HD.out.1.next hb, HD.out.2.1.next hb, below_next HD.out.2.2 hb⟩)
        (first | (have H8 := (show Hid (Bx W2 b8 [.slice none 0 0, .slice none 0 0] ∧ w23.heap.size ≤ b8) from ⟨H8.out.1.next hb, H8.out.2⟩)) | skip)
        clear ho hb
        refine hK.out _ _ ⟨HD.out.1, HD.out.2.1⟩ (fun hHeld => ?_)
        clear hK KC
        refine ready_call 4 ⟨some 99, Op.call { callee := Callee.value (Operand.func 18), args := #[Operand.tmp 96, Operand.tmp 98], argTypes := #[25, 25] }, _, _, _, none⟩ (by kernel_rfl) rfl (by kernel_rfl) (fun KC hK => ?_)
        go_wp2_with fail
        refine (mergeCounter_l [.slice p1_1 u.length q1_1, .slice p1_2 d.length q1_2] [.slice p2_1 uu.length q2_1, .slice p2_2 dd.length q2_2] u d uu dd _ U V z HA.out HS0.out HS1.out HO1.out HO2.out).mono ?_
        intro r W9 hT
        obtain ⟨cs9, lo, hi, rfl, ho, hlo, hlh, hhi, hb⟩ := ansG_out hT
        obtain ⟨a3_1, k3_1, _, a3_2, k3_2, _, hev, _⟩ := own_Counter ho
        subst hev
        have hol : w23.heap.size ≤ lo := Nat.le_trans HD.out.2.2.size hlo
        (first | (have HO9 := (show Hid (Own W9 shCounter [.slice a3_1 U.length k3_1, .slice a3_2 V.length k3_2] (U, V, ()) (Btw lo hi) ∧ w23.heap.size ≤ lo ∧ lo ≤ hi ∧ hi ≤ W9.heap.size ∧ (b8 < lo ∨ hi ≤ b8)) from ⟨ho, hol, hlh, hhi, Or.inl (Nat.lt_of_lt_of_le H8.out.1.2 hlo)⟩)) | (have HO9 := (show Hid (Own W9 shCounter [.slice a3_1 U.length k3_1, .slice a3_2 V.length k3_2] (U, V, ()) (Btw lo hi) ∧ w23.heap.size ≤ lo ∧ lo ≤ hi ∧ hi ≤ W9.heap.size) from ⟨ho, hol, hlh, hhi⟩)))
        have HD := (show Hid (Bx W9 w.heap.size [.slice a0_1 u.length k0_1, .slice a0_2 d.length k0_2] ∧ Bx W9 (w.heap.size + 1) [.slice a1_1 uu.length k1_1, .slice a1_2 dd.length k1_2] ∧ Below w23.heap.size w23 W9) from ⟨HD.out.1.next hb, HD.out.2.1.next hb, below_next HD.out.2.2 hb⟩)
        (first | (have H8 := (show Hid (Bx W9 b8 [.slice none 0 0, .slice none 0 0] ∧ w23.heap.size ≤ b8) from ⟨H8.out.1.next hb, H8.out.2⟩)) | skip)
        clear ho hlo hlh hhi hol hb hT
        refine hK.out _ _ ⟨HD.out.1, HD.out.2.1⟩ (fun hHeld => ?_)
        clear hK KC
        refine take_v (v := ?_) 5 ⟨some 94, Op.move (Operand.tmp 99), _, _, _, none⟩ rfl (fun _ _ _ h => h) ?_ hHeld ?_
        rotate_left
        · (intro W _; go_simp <;> (try with_reducible rfl))
        refine take_v (v := ?_) 6 ⟨some 100, Op.extract (Operand.tmp 94) 0, _, _, _, none⟩ rfl (fun _ _ _ h => h) ?_ hHeld ?_
        rotate_left
        · (intro W _; go_simp <;> (try with_reducible rfl))
        refine take_v (v := ?_) 7 ⟨some 101, Op.extract (Operand.tmp 94) 1, _, _, _, none⟩ rfl (fun _ _ _ h => h) ?_ hHeld ?_
        rotate_left
        · (intro W _; go_simp <;> (try with_reducible rfl))
        refine ready_call 9 ⟨none, Op.store 25 (Operand.tmp 15) (Operand.tmp 100), _, _, _, none⟩ (by kernel_rfl) rfl (by kernel_rfl) (fun KC hK => ?_)
        have dz := H8.out.1.2
        have d0 := H8.out.1.cell 0 rfl
        have d1 := H8.out.1.cell 1 rfl
        have f0 := H8.out.1.frz 0 (by simp)
        have f1 := H8.out.1.frz 1 (by simp)
        have h8 := H8.out.2
        go_wp2_with fail
        have HF := Hid.intro (box_own2 (o := w23) H8.out.1 H8.out.2 HO9.out.1 HO9.out.2.2.2.2 HD.out.2.2 (.slice a3_1 U.length k3_1) (.slice a3_2 V.length k3_2))
        clear dz d0 f0 d1 f1
        refine hK.out _ _ ⟨((HD.out.1.other (by omega)).other (by omega)), ((HD.out.2.1.other (by omega)).other (by omega))⟩ (fun hHeld => ?_)
        clear hK KC
        refine take_v (v := ?_) 10 ⟨some 16, Op.assign (Operand.tmp 101), _, _, _, none⟩ rfl (fun _ _ _ h => h) ?_ hHeld ?_
        rotate_left
        · (intro W _; go_simp <;> (try with_reducible rfl))
        refine wpAnyH_done (by kernel_rfl) ?_ _
        refine NoPanic.normal ?_
        clear hHeld
        go_wp2_with fail
        go_meet
        exact ⟨b8, a3_1, k3_1, a3_2, k3_2, lo, hi, rfl, rfl, HF.out.1, HF.out.2.1, HO9.out.2.1, HO9.out.2.2.1, by rw [HF.out.2.2.2]; exact HO9.out.2.2.2.1, H8.out.2, by rw [HF.out.2.2.2]; exact H8.out.1.2, HO9.out.2.2.2.2, HF.out.2.2.1⟩
    ·
      go_wp2_with fail
      (first | (obtain ⟨W8, hW8⟩ : ∃ x, x = W9.alloc (.cells #[.slice none 0 0, .slice none 0 0] 25) := ⟨_, rfl⟩; have hb : Below W9.heap.size W9 W8 := hW8 ▸ Go.Joins.below_alloc1 _ _; obtain ⟨b8, hb8⟩ : ∃ b, b = W9.heap.size := ⟨_, rfl⟩; have H8 : Hid (Bx W8 b8 [.slice none 0 0, .slice none 0 0] ∧ w23.heap.size ≤ b8) := ⟨hb8 ▸ hW8 ▸ Bx.new W9 [.slice none 0 0, .slice none 0 0] _, by rw [hb8]; exact HD.out.2.2.size⟩; have HO9 := (show Hid (Own W8 shCounter [.slice a3_1 U.length k3_1, .slice a3_2 V.length k3_2] (U, V, ()) (Btw lo hi) ∧ w23.heap.size ≤ lo ∧ lo ≤ hi ∧ hi ≤ W8.heap.size ∧ (b8 < lo ∨ hi ≤ b8)) from ⟨HO9.out.1.next hb, HO9.out.2.1, HO9.out.2.2.1, Nat.le_trans HO9.out.2.2.2 hb.size, Or.inr (by rw [hb8]; exact HO9.out.2.2.2)⟩); have HD := (show Hid (Bx W8 w.heap.size [.slice a0_1 u.length k0_1, .slice a0_2 d.length k0_2] ∧ Bx W8 (w.heap.size + 1) [.slice a1_1 uu.length k1_1, .slice a1_2 dd.length k1_2] ∧ Below w23.heap.size w23 W8) from ⟨HD.out.1.next hb, HD.out.2.1.next hb, below_next HD.out.2.2 hb⟩); rw [← hW8, ← hb8]; clear hW8 hb8 hb) | (obtain ⟨W8, hW8⟩ : ∃ x, x = W2.alloc (.cells #[.slice none 0 0, .slice none 0 0] 25) := ⟨_, rfl⟩; have hb : Below W2.heap.size W2 W8 := hW8 ▸ Go.Joins.below_alloc1 _ _; obtain ⟨b8, hb8⟩ : ∃ b, b = W2.heap.size := ⟨_, rfl⟩; have H8 : Hid (Bx W8 b8 [.slice none 0 0, .slice none 0 0] ∧ w23.heap.size ≤ b8) := ⟨hb8 ▸ hW8 ▸ Bx.new W2 [.slice none 0 0, .slice none 0 0] _, by rw [hb8]; exact HD.out.2.2.size⟩; (first | (have HO1 := Hid.intro (HO1.out.next hb)) | skip); (first | (have HO2 := Hid.intro (HO2.out.next hb)) | skip); have HD := (show Hid (Bx W8 w.heap.size [.slice a0_1 u.length k0_1, .slice a0_2 d.length k0_2] ∧ Bx W8 (w.heap.size + 1) [.slice a1_1 uu.length k1_1, .slice a1_2 dd.length k1_2] ∧ Below w23.heap.size w23 W8) from ⟨HD.out.1.next hb, HD.out.2.1.next hb, below_next HD.out.2.2 hb⟩); rw [← hW8, ← hb8]; clear hW8 hb8 hb) | (obtain ⟨W8, hW8⟩ : ∃ x, x = W1.alloc (.cells #[.slice none 0 0, .slice none 0 0] 25) := ⟨_, rfl⟩; have hb : Below W1.heap.size W1 W8 := hW8 ▸ Go.Joins.below_alloc1 _ _; obtain ⟨b8, hb8⟩ : ∃ b, b = W1.heap.size := ⟨_, rfl⟩; have H8 : Hid (Bx W8 b8 [.slice none 0 0, .slice none 0 0] ∧ w23.heap.size ≤ b8) := ⟨hb8 ▸ hW8 ▸ Bx.new W1 [.slice none 0 0, .slice none 0 0] _, by rw [hb8]; exact HD.out.2.2.size⟩; (first | (have HO1 := Hid.intro (HO1.out.next hb)) | skip); (first | (have HO2 := Hid.intro (HO2.out.next hb)) | skip); have HD := (show Hid (Bx W8 w.heap.size [.slice a0_1 u.length k0_1, .slice a0_2 d.length k0_2] ∧ Bx W8 (w.heap.size + 1) [.slice a1_1 uu.length k1_1, .slice a1_2 dd.length k1_2] ∧ Below w23.heap.size w23 W8) from ⟨HD.out.1.next hb, HD.out.2.1.next hb, below_next HD.out.2.2 hb⟩); rw [← hW8, ← hb8]; clear hW8 hb8 hb) | (obtain ⟨W8, hW8⟩ : ∃ x, x = X0.alloc (.cells #[.slice none 0 0, .slice none 0 0] 25) := ⟨_, rfl⟩; have hb : Below X0.heap.size X0 W8 := hW8 ▸ Go.Joins.below_alloc1 _ _; obtain ⟨b8, hb8⟩ : ∃ b, b = X0.heap.size := ⟨_, rfl⟩; have H8 : Hid (Bx W8 b8 [.slice none 0 0, .slice none 0 0] ∧ w23.heap.size ≤ b8) := ⟨hb8 ▸ hW8 ▸ Bx.new X0 [.slice none 0 0, .slice none 0 0] _, by rw [hb8]; exact HD.out.2.2.size⟩; (first | (have HO1 := Hid.intro (HO1.out.next hb)) | skip); (first | (have HO2 := Hid.intro (HO2.out.next hb)) | skip); have HD := (show Hid (Bx W8 w.heap.size [.slice a0_1 u.length k0_1, .slice a0_2 d.length k0_2] ∧ Bx W8 (w.heap.size + 1) [.slice a1_1 uu.length k1_1, .slice a1_2 dd.length k1_2] ∧ Below w23.heap.size w23 W8) from ⟨HD.out.1.next hb, HD.out.2.1.next hb, below_next HD.out.2.2 hb⟩); rw [← hW8, ← hb8]; clear hW8 hb8 hb))
      refine hK.out _ _ ⟨HD.out.1, HD.out.2.1⟩ (fun hHeld => ?_)
      clear hK KC
      refine ready_call 1 ⟨some 96, Op.call { callee := Callee.value (Operand.func 41), args := #[Operand.tmp 95], argTypes := #[63] }, _, _, _, none⟩ (by kernel_rfl) rfl (by kernel_rfl) (fun KC hK => ?_)
      go_wp2_with fail
      refine (toCounter_n [.slice a0_1 u.length k0_1, .slice a0_2 d.length k0_2] u d _ HS0.out (HL0.out.next (below_next HB23.out HD.out.2.2))).mono ?_
      rintro r W1 ⟨cs9, rfl, ho, hb⟩
      obtain ⟨p1_1, q1_1, _, p1_2, q1_2, _, hev, _⟩ := own_Counter ho
      subst hev
      (first | (have HO1 := Hid.intro (HO1.out.next hb)) | skip); (first | (have HO2 := Hid.intro (HO2.out.next hb)) | skip)
      have HO1 := Hid.intro ho.lies
      have HD := (show Hid (Bx W1 w.heap.size [.slice a0_1 u.length k0_1, .slice a0_2 d.length k0_2] ∧ Bx W1 (w.heap.size + 1) [.slice a1_1 uu.length k1_1, .slice a1_2 dd.length k1_2] ∧ Below w23.heap.size w23 W1) from ⟨HD.out.1.next hb, HD.out.2.1.next hb, below_next HD.out.2.2 hb⟩)
      (first | (have H8 := (show Hid (Bx W1 b8 [.slice none 0 0, .slice none 0 0] ∧ w23.heap.size ≤ b8) from ⟨H8.out.1.next hb, H8.out.2⟩)) | skip)
      clear ho hb
      refine hK.out _ _ ⟨HD.out.1, HD.out.2.1⟩ (fun hHeld => ?_)
      clear hK KC
      refine ready_call 3 ⟨some 98, Op.call { callee := Callee.value (Operand.func 41), args := #[Operand.tmp 97], argTypes := #[63] }, _, _, _, none⟩ (by kernel_rfl) rfl (by kernel_rfl) (fun KC hK => ?_)
      go_wp2_with fail
      refine (toCounter_n [.slice a1_1 uu.length k1_1, .slice a1_2 dd.length k1_2] uu dd _ HS1.out (HL1.out.next (below_next HB23.out HD.out.2.2))).mono ?_
      rintro r W2 ⟨cs9, rfl, ho, hb⟩
      obtain ⟨p2_1, q2_1, _, p2_2, q2_2, _, hev, _⟩ := own_Counter ho
      subst hev
      (first | (have HO1 := Hid.intro (HO1.out.next hb)) | skip); (first | (have HO2 := Hid.intro (HO2.out.next hb)) | skip)
      have HO2 := Hid.intro ho.lies
      have HD := (show Hid (Bx W2 w.heap.size [.slice a0_1 u.length k0_1, .slice a0_2 d.length k0_2] ∧ Bx W2 (w.heap.size + 1) [.slice a1_1 uu.length k1_1, .slice a1_2 dd.length k1_2] ∧ Below w23.heap.size w23 W2) from ⟨HD.out.1.next hb, HD.out.2.1.next hb, below_next HD.out.2.2 hb⟩)
      (first | (have H8 := (show Hid (Bx W2 b8 [.slice none 0 0, .slice none 0 0] ∧ w23.heap.size ≤ b8) from ⟨H8.out.1.next hb, H8.out.2⟩)) | skip)
      clear ho hb
      refine hK.out _ _ ⟨HD.out.1, HD.out.2.1⟩ (fun hHeld => ?_)
      clear hK KC
      refine ready_call 4 ⟨some 99, Op.call { callee := Callee.value (Operand.func 18), args := #[Operand.tmp 96, Operand.tmp 98], argTypes := #[25, 25] }, _, _, _, none⟩ (by kernel_rfl) rfl (by kernel_rfl) (fun KC hK => ?_)
      go_wp2_with fail
      refine (mergeCounter_l [.slice p1_1 u.length q1_1, .slice p1_2 d.length q1_2] [.slice p2_1 uu.length q2_1, .slice p2_2 dd.length q2_2] u d uu dd _ U V z HA.out HS0.out HS1.out HO1.out HO2.out).mono ?_
      intro r W9 hT
      obtain ⟨cs9, lo, hi, rfl, ho, hlo, hlh, hhi, hb⟩ := ansG_out hT
      obtain ⟨a3_1, k3_1, _, a3_2, k3_2, _, hev, _⟩ := own_Counter ho
      subst hev
      have hol : w23.heap.size ≤ lo := Nat.le_trans HD.out.2.2.size hlo
      (first | (have HO9 := (show Hid (Own W9 shCounter [.slice a3_1 U.length k3_1, .slice a3_2 V.length k3_2] (U, V, ()) (Btw lo hi) ∧ w23.heap.size ≤ lo ∧ lo ≤ hi ∧ hi ≤ W9.heap.size ∧ (b8 < lo ∨ hi ≤ b8)) from ⟨ho, hol, hlh, hhi, Or.inl (Nat.lt_of_lt_of_le H8.out.1.2 hlo)⟩)) | (have HO9 := (show Hid (Own W9 shCounter [.slice a3_1 U.length k3_1, .slice a3_2 V.length k3_2] (U, V, ()) (Btw lo hi) ∧ w23.heap.size ≤ lo ∧ lo ≤ hi ∧ hi ≤ W9.heap.size) from ⟨ho, hol, hlh, hhi⟩)))
      have HD := (show Hid (Bx W9 w.heap.size [.slice a0_1 u.length k0_1, .slice a0_2 d.length k0_2] ∧ Bx W9 (w.heap.size + 1) [.slice a1_1 uu.length k1_1, .slice a1_2 dd.length k1_2] ∧ Below w23.heap.size w23 W9) from ⟨HD.out.1.next hb, HD.out.2.1.next hb, below_next HD.out.2.2 hb⟩)
      (first | (have H8 := (show Hid (Bx W9 b8 [.slice none 0 0, .slice none 0 0] ∧ w23.heap.size ≤ b8) from ⟨H8.out.1.next hb, H8.out.2⟩)) | skip)
      clear ho hlo hlh hhi hol hb hT
      refine hK.out _ _ ⟨HD.out.1, HD.out.2.1⟩ (fun hHeld => ?_)
      clear hK KC
      refine take_v (v := ?_) 5 ⟨some 94, Op.move (Operand.tmp 99), _, _, _, none⟩ rfl (fun _ _ _ h => h) ?_ hHeld ?_
      rotate_left
      · (intro W _; go_simp <;> (try with_reducible rfl))
      refine take_v (v := ?_) 6 ⟨some 100, Op.extract (Operand.tmp 94) 0, _, _, _, none⟩ rfl (fun _ _ _ h => h) ?_ hHeld ?_
      rotate_left
      · (intro W _; go_simp <;> (try with_reducible rfl))
      refine take_v (v := ?_) 7 ⟨some 101, Op.extract (Operand.tmp 94) 1, _, _, _, none⟩ rfl (fun _ _ _ h => h) ?_ hHeld ?_
      rotate_left
      · (intro W _; go_simp <;> (try with_reducible rfl))
      refine ready_call 9 ⟨none, Op.store 25 (Operand.tmp 15) (Operand.tmp 100), _, _, _, none⟩ (by kernel_rfl) rfl (by kernel_rfl) (fun KC hK => ?_)
      have dz := H8.out.1.2
      have d0 := H8.out.1.cell 0 rfl
      have d1 := H8.out.1.cell 1 rfl
      have f0 := H8.out.1.frz 0 (by simp)
      have f1 := H8.out.1.frz 1 (by simp)
      have h8 := H8.out.2
      go_wp2_with fail
      have HF := Hid.intro (box_own2 (o := w23) H8.out.1 H8.out.2 HO9.out.1 HO9.out.2.2.2.2 HD.out.2.2 (.slice a3_1 U.length k3_1) (.slice a3_2 V.length k3_2))
      clear dz d0 f0 d1 f1
      refine hK.out _ _ ⟨((HD.out.1.other (by omega)).other (by omega)), ((HD.out.2.1.other (by omega)).other (by omega))⟩ (fun hHeld => ?_)
      clear hK KC
      refine take_v (v := ?_) 10 ⟨some 16, Op.assign (Operand.tmp 101), _, _, _, none⟩ rfl (fun _ _ _ h => h) ?_ hHeld ?_
      rotate_left
      · (intro W _; go_simp <;> (try with_reducible rfl))
      refine wpAnyH_done (by kernel_rfl) ?_ _
      refine NoPanic.normal ?_
      clear hHeld
      go_wp2_with fail
      go_meet
      exact ⟨b8, a3_1, k3_1, a3_2, k3_2, lo, hi, rfl, rfl, HF.out.1, HF.out.2.1, HO9.out.2.1, HO9.out.2.2.1, by rw [HF.out.2.2.2]; exact HO9.out.2.2.2.1, H8.out.2, by rw [HF.out.2.2.2]; exact H8.out.1.2, HO9.out.2.2.2.2, HF.out.2.2.1⟩
  obtain ⟨b24, p24_1, q24_1, p24_2, q24_2, lo24, hi24, rfl, rfl, hbx, ho, hlo24, hlh24, hhi24, hbo24, hbb24, hbd24, hb⟩ := hcut
  obtain ⟨w24, hwd⟩ : ∃ x, x = wc := ⟨_, rfl⟩
  subst hwd
  have HB24 : Hid (Below w.heap.size w w24) := below_next HB23.out hb
  have sz24 : w23.heap.size ≤ w24.heap.size := hb.size
  have A0_24 : Hid (Bx w24 w.heap.size [.slice a0_1 u.length k0_1, .slice a0_2 d.length k0_2]) := A0_23.out.next hb
  have A1_24 : Hid (Bx w24 (w.heap.size + 1) [.slice a1_1 uu.length k1_1, .slice a1_2 dd.length k1_2]) := A1_23.out.next hb
  have W_24 : Hid (Bx w24 b5 [.slice p5_1 U.length q5_1, .slice p5_2 V.length q5_2]) := W_23.out.next hb
  have SP_24 : Hid (Own w24 shCounter [.slice p5_1 U.length q5_1, .slice p5_2 V.length q5_2] (U, V, ()) (Btw lo5 hi5)) := SP_23.out.next hb
  have GP_24 : Hid (Own w24 shCounter [.slice p10_1 U.length q10_1, .slice p10_2 V.length q10_2] (mkT shCounter (U, V, ()) 1) (Btw w9.heap.size w10.heap.size)) := GP_23.out.next hb
  have G_24 : Hid (Bx w24 w10.heap.size [.slice p10_1 U.length q10_1, .slice p10_2 V.length q10_2]) := G_23.out.next hb
  have H_24 : Hid (Bx w24 b24 [.slice p24_1 U.length q24_1, .slice p24_2 V.length q24_2]) := hbx
  have HP_24 : Hid (Own w24 shCounter [.slice p24_1 U.length q24_1, .slice p24_2 V.length q24_2] (U, V, ()) (Btw lo24 hi24)) := ho
  clear hb hbx ho A0_23 A1_23 W_23 SP_23 GP_23 G_23 HB23
  have cW0 := W_24.out.cell 0 rfl
  have cW1 := W_24.out.cell 1 rfl
  have zW := W_24.out.2
  have cH0 := H_24.out.cell 0 rfl
  have cH1 := H_24.out.cell 1 rfl
  have zH := H_24.out.2
  go_wp2_with fail
  refine (eqCounter_n [.slice p24_1 U.length q24_1, .slice p24_2 V.length q24_2] [.slice p5_1 U.length q5_1, .slice p5_2 V.length q5_2] U V _ HT.out HP_24.out.lies SP_24.out.lies).mono ?_
  rintro r w25 ⟨rfl, hb⟩
  have HB25 : Hid (Below w.heap.size w w25) := below_next HB24.out hb
  have sz25 : w24.heap.size ≤ w25.heap.size := hb.size
  have A0_25 : Hid (Bx w25 w.heap.size [.slice a0_1 u.length k0_1, .slice a0_2 d.length k0_2]) := A0_24.out.next hb
  have A1_25 : Hid (Bx w25 (w.heap.size + 1) [.slice a1_1 uu.length k1_1, .slice a1_2 dd.length k1_2]) := A1_24.out.next hb
  have W_25 : Hid (Bx w25 b5 [.slice p5_1 U.length q5_1, .slice p5_2 V.length q5_2]) := W_24.out.next hb
  have SP_25 : Hid (Own w25 shCounter [.slice p5_1 U.length q5_1, .slice p5_2 V.length q5_2] (U, V, ()) (Btw lo5 hi5)) := SP_24.out.next hb
  have GP_25 : Hid (Own w25 shCounter [.slice p10_1 U.length q10_1, .slice p10_2 V.length q10_2] (mkT shCounter (U, V, ()) 1) (Btw w9.heap.size w10.heap.size)) := GP_24.out.next hb
  have G_25 : Hid (Bx w25 w10.heap.size [.slice p10_1 U.length q10_1, .slice p10_2 V.length q10_2]) := G_24.out.next hb
  have H_25 : Hid (Bx w25 b24 [.slice p24_1 U.length q24_1, .slice p24_2 V.length q24_2]) := H_24.out.next hb
  have HP_25 : Hid (Own w25 shCounter [.slice p24_1 U.length q24_1, .slice p24_2 V.length q24_2] (U, V, ()) (Btw lo24 hi24)) := HP_24.out.next hb
  clear hb cW0 cW1 zW cH0 cH1 zH A0_24 A1_24 W_24 SP_24 GP_24 G_24 H_24 HP_24 HB24
  have cG0 := G_25.out.cell 0 rfl
  have cG1 := G_25.out.cell 1 rfl
  have zG := G_25.out.2
  go_wp2_with fail
  refine ((show Calls _ _ _ _ (fun r w' => r = .returned (.int .i64 (1 + (cn : Int))) ∧ Below _ _ w') from HCN.out ▸ heldCounter_n [.slice p10_1 U.length q10_1, .slice p10_2 V.length q10_2] U V 1 _ (by decide) (by have h1 := HCN.out; rw [← h1]; omega) HT.out GP_25.out.lies)).mono ?_
  rintro r w26 ⟨rfl, hb⟩
  have HB26 : Hid (Below w.heap.size w w26) := below_next HB25.out hb
  have sz26 : w25.heap.size ≤ w26.heap.size := hb.size
  have A0_26 : Hid (Bx w26 w.heap.size [.slice a0_1 u.length k0_1, .slice a0_2 d.length k0_2]) := A0_25.out.next hb
  have A1_26 : Hid (Bx w26 (w.heap.size + 1) [.slice a1_1 uu.length k1_1, .slice a1_2 dd.length k1_2]) := A1_25.out.next hb
  have W_26 : Hid (Bx w26 b5 [.slice p5_1 U.length q5_1, .slice p5_2 V.length q5_2]) := W_25.out.next hb
  have SP_26 : Hid (Own w26 shCounter [.slice p5_1 U.length q5_1, .slice p5_2 V.length q5_2] (U, V, ()) (Btw lo5 hi5)) := SP_25.out.next hb
  have GP_26 : Hid (Own w26 shCounter [.slice p10_1 U.length q10_1, .slice p10_2 V.length q10_2] (mkT shCounter (U, V, ()) 1) (Btw w9.heap.size w10.heap.size)) := GP_25.out.next hb
  have G_26 : Hid (Bx w26 w10.heap.size [.slice p10_1 U.length q10_1, .slice p10_2 V.length q10_2]) := G_25.out.next hb
  have H_26 : Hid (Bx w26 b24 [.slice p24_1 U.length q24_1, .slice p24_2 V.length q24_2]) := H_25.out.next hb
  have HP_26 : Hid (Own w26 shCounter [.slice p24_1 U.length q24_1, .slice p24_2 V.length q24_2] (U, V, ()) (Btw lo24 hi24)) := HP_25.out.next hb
  clear hb cG0 cG1 zG A0_25 A1_25 W_25 SP_25 GP_25 G_25 H_25 HP_25 HB25
  have HE := HB26
  go_wp2
  go_ret
  exact ⟨rfl, HE.out⟩


theorem own : ownKnob Try.prog.godebug = none := by kernel_rfl
theorem laidOut : laidOutB Try.prog = true := by kernel_rfl

set_option maxRecDepth 100000 in
theorem lifted (os : Os) (started : os.Started) (H : Type) (enc : TypeId × Value → H) :
    ReturnsInHanded {} Try.checked os 9 .any (Rows.fnExactMergeCounterSpec.pre6 enc Try.prog Try.f9 Rows.fnExactMergeCounterRow.domain false) (Rows.fnExactMergeCounterSpec.post enc Try.prog Try.f9 false true false false) := by
  refine returnsInHanded_of_change (C := Try.checked) own started (by kernel_rfl) Try.func9
    (ChangeSpec.witness6 (enc := enc) (C := Try.checked) false ⟨#[], #[.agg #[.slice none 0 0, .slice none 0 0], .agg #[.slice none 0 0, .slice none 0 0]], []⟩ 8 (by kernel_rfl) (by kernel_rfl) (by kernel_rfl) (by kernel_rfl)) ?_
  intro W base args ds gs before hval0 hW hcnd _
  have hval : ∀ (j : Nat) t v, Try.f9.params[j]? = some t → args[j]? = some v → Value.okWide Try.prog W .any base t v := hval0
  have hW' := hW
  obtain ⟨p, q, hA0, hV, rfl, hfz, hnd⟩ := hW
  have hA : DataW.TrodAll enc Try.prog W 0 (fun _ => true) true Try.f9.params.toList args.toList ds p := hA0
  rw [Try.params9] at hA hval
  obtain ⟨v0, vs0, d0, ds0, p0, q0, hargs, rfl, rfl, h0, r0⟩ := trodAll_cons hA
  obtain ⟨v1, vs1, d1, ds1, p1, q1, rfl, rfl, rfl, h1, r1⟩ := trodAll_cons r0
  obtain ⟨rfl, rfl, rfl⟩ := trodAll_nil r1
  obtain rfl : args = #[v0, v1] := by cases args; simp_all
  obtain ⟨rfl, rfl⟩ := trodVars_none hV
  have k0 := h0
  have lt0 : ∀ x ∈ p0, x.block < W.heap.size := by obtain ⟨m, hm⟩ := k0; exact DataW.trod_lt m _ _ _ hm
  obtain ⟨cs0, X0, rfl, li0, fi0⟩ := open_Counter_n (hval 0 63 v0 rfl rfl) h0
  have k1 := h1
  have lt1 : ∀ x ∈ p1, x.block < W.heap.size := by obtain ⟨m, hm⟩ := k1; exact DataW.trod_lt m _ _ _ hm
  obtain ⟨cs1, X1, rfl, li1, fi1⟩ := open_Counter_n (hval 1 63 v1 rfl rfl) h1
  clear hA0 hval0
  refine (walk (w := W) cs0 X0 li0 fi0 cs1 X1 li1 fi1).mono fun e W' ⟨he, bel⟩ => ?_
  subst he
  exact ⟨_, rfl, _, _, _, [], _, [], hW', trodAll_mk1 (shut_bool Try.underlying4 _), (trodAll_cons_mk (Below.trod laidOut (by kernel_rfl) (of_decide_eq_true (by kernel_rfl)) k0 bel lt0) (trodAll_cons_mk (Below.trod laidOut (by kernel_rfl) (of_decide_eq_true (by kernel_rfl)) k1 bel lt1) trodAll_mk0)), rfl, bel.frame _, fun h => by cases h⟩

set_option maxHeartbeats 40000000 in
theorem closed : joinedFacts Try.pinned.checked.prog 9 Try.f9 Rows.fnExactMergeCounterSpec Rows.fnExactMergeCounterRow = true := by
  unfold joinedFacts
  repeat' (first | (with_reducible refine both ?_ ?_) | (with_reducible exact may_enter') | (with_reducible refine lifts_eq ?_) | (with_reducible refine make_eq ?_) | as_aux_lemma => kernel_rfl)
theorem named : Try.pinned.checked.prog.funcNamed Rows.fnExactMergeCounterRow.func = some 9 := by kernel_rfl
theorem over : Rows.fnExactMergeCounterRow.holds Try.pinned (OpenSpec.ofChange Rows.fnExactMergeCounterSpec) :=
  OpenClaim.holds_of_wide 9 Try.f9 rfl rfl rfl rfl rfl rfl rfl ⟨rfl, rfl, rfl, rfl, rfl⟩ rfl rfl rfl rfl rfl named Try.func9 closed
    (of_decide_eq_true (by as_aux_lemma => kernel_rfl)) (by unfold Func.isWrapper; first | (rw [if_pos (by decide +kernel)]; kernel_rfl) | (rw [if_neg (by decide +kernel)]; exact ⟨rfl, rfl⟩))
    (fun os started H enc _ => lifted os started H enc)

end Go.Proofs.Ytnglgndocmkbfaa.xMergeCounter
namespace Go.Proofs.Ytnglgndocmkbfaa
theorem xMergeCounter_holds : Rows.FnExactMergeCounterSaid := xMergeCounter.over
#print axioms xMergeCounter_holds
end Go.Proofs.Ytnglgndocmkbfaa
