/- At every argument impl.MergeLatest answers as the specification does, field by field. No condition. -/
import Derived.Test.YtnglgndocmkbfaaLtL
import Derived.Test.YtnglgndocmkbfaaShD
import Derived.Test.YtnglgndocmkbfaaNtZ
import Derived.Test.YtnglgndocmkbfaaNtT
import Derived.Test.YtnglgndocmkbfaaNtE
import Derived.Test.YtnglgndocmkbfaaNtO
import Derived.Test.YtnglgndocmkbfaaWords
import Derived.ProofKit
import Derived.OpenShut
import Derived.ShutString
import Derived.ChangeOld
import Derived.Below
import Derived.Lib.SmallJoins
namespace Go.Proofs.Ytnglgndocmkbfaa.xMergeLatest
open Go.ChangeShapes Go.WideShapes Go.ChangeAt Go.RowKit
open Go.ChangeMaps (open_string shut_string)
set_option linter.unusedVariables false

set_option maxRecDepth 100000 in
set_option maxHeartbeats 4000000 in
theorem walk (w : World) (cs0 : List Value) (X0 : Sh.T shLatest) (li0 : Lies w shLatest cs0 X0) (fi0 : Fits shLatest X0) (cs1 : List Value) (X1 : Sh.T shLatest) (li1 : Lies w shLatest cs1 X1) (fi1 : Fits shLatest X1) :
    Calls Try.prog 11 #[.agg cs0.toArray, .agg cs1.toArray] w fun r w' => r = .returned (.bool true) ∧ Below w.heap.size w w' := by
  obtain ⟨lv, lt, la, ⟨⟩⟩ := X0
  obtain rfl := lies_Latest li0
  have HL0 : Hid (Lies w shLatest [.string lv, .int .i64 lt, .int .i64 la] (lv, lt, la, ())) := li0
  have HF0 : Hid (Fits shLatest (lv, lt, la, ())) := fi0
  clear li0 fi0
  obtain ⟨mv, mt, ma, ⟨⟩⟩ := X1
  obtain rfl := lies_Latest li1
  have HL1 : Hid (Lies w shLatest [.string mv, .int .i64 mt, .int .i64 ma] (mv, mt, ma, ())) := li1
  have HF1 : Hid (Fits shLatest (mv, mt, ma, ())) := fi1
  clear li1 fi1
  obtain ⟨V, TT, AA, z, hA⟩ : ∃ V TT AA z, mlA lv lt la mv mt ma = ((V, TT, AA), z) := ⟨_, _, _, _, rfl⟩
  have HA : Hid (mlA lv lt la mv mt ma = ((V, TT, AA), z)) := hA
  clear hA
  go_enter Try.func11, Try.ntmps11
  go_wp2_with fail
  obtain ⟨w1, hw1⟩ : ∃ x, x = w.alloc (.cells #[.string lv, .int .i64 lt, .int .i64 la] 70) := ⟨_, rfl⟩
  have hb : Below w.heap.size w w1 := hw1 ▸ Go.Joins.below_alloc1 _ _
  have HB1 : Hid (Below w.heap.size w w1) := below_next (Below.refl _ _) hb
  have sz1 : w.heap.size < w1.heap.size := by rw [hw1]; simp
  have A0_1 : Hid (Bx w1 w.heap.size [.string lv, .int .i64 lt, .int .i64 la]) := hw1 ▸ Bx.new w [.string lv, .int .i64 lt, .int .i64 la] _
  have HZ1 : Hid (w1.heap.size = w.heap.size + 1) := Hid.intro (by rw [hw1]; simp)
  rw [← hw1]
  clear hb hw1 
  obtain ⟨w2, hw2⟩ : ∃ x, x = w1.alloc (.cells #[.string mv, .int .i64 mt, .int .i64 ma] 70) := ⟨_, rfl⟩
  have hb : Below w1.heap.size w1 w2 := hw2 ▸ Go.Joins.below_alloc1 _ _
  have HB2 : Hid (Below w.heap.size w w2) := below_next HB1.out hb
  have sz2 : w1.heap.size < w2.heap.size := by rw [hw2]; simp
  have A0_2 : Hid (Bx w2 w.heap.size [.string lv, .int .i64 lt, .int .i64 la]) := A0_1.out.next hb
  have A1_2 : Hid (Bx w2 (w.heap.size + 1) [.string mv, .int .i64 mt, .int .i64 ma]) := hw2 ▸ Bx.newAt HZ1.out
  rw [← hw2]
  clear hb hw2 A0_1 HB1
  refine (szLatest_n [.string lv, .int .i64 lt, .int .i64 la] lv lt la _ _ (by omega) (by omega) HF0.out (HL0.out.next HB2.out)).mono ?_
  rintro r w3 ⟨⟨y0, rfl, hy0⟩, hb⟩
  have HB3 : Hid (Below w.heap.size w w3) := below_next HB2.out hb
  have sz3 : w2.heap.size ≤ w3.heap.size := hb.size
  have A0_3 : Hid (Bx w3 w.heap.size [.string lv, .int .i64 lt, .int .i64 la]) := A0_2.out.next hb
  have A1_3 : Hid (Bx w3 (w.heap.size + 1) [.string mv, .int .i64 mt, .int .i64 ma]) := A1_2.out.next hb
  clear hb A0_2 A1_2 HB2
  by_cases ng0 : y0 < 0
  · clear hy0
    go_wp2
    go_ret
    exact ⟨rfl, HB3.out⟩
  have HS0 : Hid (szD shLatest (lv, lt, la, ()) ≤ 1073741824) := Hid.intro (by rcases hy0 with e | e <;> omega)
  have hb0 : 0 ≤ y0 ∧ y0 ≤ 1048576 := by rcases hy0 with e | e <;> omega
  clear hy0
  have cA10 := A1_3.out.cell 0 rfl
  have cA11 := A1_3.out.cell 1 rfl
  have cA12 := A1_3.out.cell 2 rfl
  have zA1 := A1_3.out.2
  go_wp2_with fail
  refine (szLatest_n [.string mv, .int .i64 mt, .int .i64 ma] mv mt ma _ _ (by omega) (by omega) HF1.out (HL1.out.next HB3.out)).mono ?_
  rintro r w4 ⟨⟨y1, rfl, hy1⟩, hb⟩
  have HB4 : Hid (Below w.heap.size w w4) := below_next HB3.out hb
  have sz4 : w3.heap.size ≤ w4.heap.size := hb.size
  have A0_4 : Hid (Bx w4 w.heap.size [.string lv, .int .i64 lt, .int .i64 la]) := A0_3.out.next hb
  have A1_4 : Hid (Bx w4 (w.heap.size + 1) [.string mv, .int .i64 mt, .int .i64 ma]) := A1_3.out.next hb
  clear hb A0_3 A1_3 HB3 cA10 cA11 cA12 zA1
  by_cases ng1 : y1 < 0
  · clear hy1
    go_wp2
    go_ret
    exact ⟨rfl, HB4.out⟩
  have HS1 : Hid (szD shLatest (mv, mt, ma, ()) ≤ 1073741824) := Hid.intro (by rcases hy1 with e | e <;> omega)
  have hb1 : 0 ≤ y1 ∧ y1 ≤ 1048576 := by rcases hy1 with e | e <;> omega
  clear hy1
  have HT : Hid (szD shLatest (V, TT, AA, ()) ≤ 1073741824) := Hid.intro (sz_mlA HA.out HS0.out HS1.out)
  go_upto_region 8 with fail
  go_cut [6, 7] (fun s6 s7 wx => ∃ (b : Nat)  (lo hi : Nat), s6 = .pointer (some ⟨b, 0, none⟩) ∧ s7 = .bool z ∧ Bx wx b [.string V, .int .i64 TT, .int .i64 AA] ∧ Own wx shLatest [.string V, .int .i64 TT, .int .i64 AA] (V, TT, AA, ()) (Btw lo hi) ∧ w4.heap.size ≤ lo ∧ lo ≤ hi ∧ hi ≤ wx.heap.size ∧ w4.heap.size ≤ b ∧ b < wx.heap.size ∧ (b < lo ∨ hi ≤ b) ∧ Below w4.heap.size w4 wx)
  case first =>
    have hb : Below w4.heap.size w4 w4.drew := below_drew _
    have HD : Hid (Bx w4.drew w.heap.size [.string lv, .int .i64 lt, .int .i64 la] ∧ Bx w4.drew (w.heap.size + 1) [.string mv, .int .i64 mt, .int .i64 ma] ∧ Below w4.heap.size w4 w4.drew) := ⟨A0_4.out.next hb, A1_4.out.next hb, hb⟩
    clear hb
    refine wp_region_noPanic ?_
    refine wp_region_held_drew (S := fun W => Bx W w.heap.size [.string lv, .int .i64 lt, .int .i64 la] ∧ Bx W (w.heap.size + 1) [.string mv, .int .i64 mt, .int .i64 ma]) (by kernel_rfl) ⟨HD.out.1, HD.out.2.1⟩ (fun hHeld => ?_)
    obtain ⟨X0, hX0⟩ : ∃ x, x = w4.drew := ⟨_, rfl⟩
    rw [← hX0] at HD hHeld ⊢
    clear hX0
    refine take_v (v := ?_) 0 ⟨some 21, Op.load 70 (Operand.tmp 2), _, _, _, none⟩ rfl (fun _ _ _ h => h) ?_ hHeld ?_
    rotate_left
    · (intro W hSW; (have s0_0 := hSW.1.cell 0 rfl; have s0_1 := hSW.1.cell 1 rfl; have s0_2 := hSW.1.cell 2 rfl; have s0z := hSW.1.2; have s1_0 := hSW.2.cell 0 rfl; have s1_1 := hSW.2.cell 1 rfl; have s1_2 := hSW.2.cell 2 rfl; have s1z := hSW.2.2); go_simp <;> (try with_reducible rfl))
    refine take_v (v := ?_) 2 ⟨some 23, Op.load 70 (Operand.tmp 3), _, _, _, none⟩ rfl (fun _ _ _ h => h) ?_ hHeld ?_
    rotate_left
    · (intro W hSW; (have s0_0 := hSW.1.cell 0 rfl; have s0_1 := hSW.1.cell 1 rfl; have s0_2 := hSW.1.cell 2 rfl; have s0z := hSW.1.2; have s1_0 := hSW.2.cell 0 rfl; have s1_1 := hSW.2.cell 1 rfl; have s1_2 := hSW.2.cell 2 rfl; have s1z := hSW.2.2); go_simp <;> (try with_reducible rfl))
    refine ready_two 1 8 ⟨some 22, Op.call { callee := Callee.value (Operand.func 48), args := #[Operand.tmp 21], argTypes := #[70] }, _, _, _, none⟩ ⟨some 6, Op.alloc 39, _, _, _, none⟩ (by kernel_rfl) rfl rfl (by kernel_rfl) (by kernel_rfl) (fun KC hK => ?_) (fun KC hK => ?_)
    ·
      go_wp2_with fail
      refine (toLatest_n [.string lv, .int .i64 lt, .int .i64 la] lv lt la _ HS0.out (HL0.out.next (below_next HB4.out HD.out.2.2))).mono ?_
      rintro r W1 ⟨cs9, rfl, ho, hb⟩
      obtain hev := own_Latest ho
      subst hev
      (first | (have HO1 := Hid.intro (HO1.out.next hb)) | skip); (first | (have HO2 := Hid.intro (HO2.out.next hb)) | skip)
      have HO1 := Hid.intro ho.lies
      have HD := (show Hid (Bx W1 w.heap.size [.string lv, .int .i64 lt, .int .i64 la] ∧ Bx W1 (w.heap.size + 1) [.string mv, .int .i64 mt, .int .i64 ma] ∧ Below w4.heap.size w4 W1) from ⟨HD.out.1.next hb, HD.out.2.1.next hb, below_next HD.out.2.2 hb⟩)
      (first | (have H8 := (show Hid (Bx W1 b8 [.string ⟨#[]⟩, .int .i64 0, .int .i64 0] ∧ w4.heap.size ≤ b8) from ⟨H8.out.1.next hb, H8.out.2⟩)) | skip)
      clear ho hb
      refine hK.out _ _ ⟨HD.out.1, HD.out.2.1⟩ (fun hHeld => ?_)
      clear hK KC
      refine ready_two 3 8 ⟨some 24, Op.call { callee := Callee.value (Operand.func 48), args := #[Operand.tmp 23], argTypes := #[70] }, _, _, _, none⟩ ⟨some 6, Op.alloc 39, _, _, _, none⟩ (by kernel_rfl) rfl rfl (by kernel_rfl) (by kernel_rfl) (fun KC hK => ?_) (fun KC hK => ?_)
      ·
        go_wp2_with fail
        refine (toLatest_n [.string mv, .int .i64 mt, .int .i64 ma] mv mt ma _ HS1.out (HL1.out.next (below_next HB4.out HD.out.2.2))).mono ?_
        rintro r W2 ⟨cs9, rfl, ho, hb⟩
        obtain hev := own_Latest ho
        subst hev
        (first | (have HO1 := Hid.intro (HO1.out.next hb)) | skip); (first | (have HO2 := Hid.intro (HO2.out.next hb)) | skip)
        have HO2 := Hid.intro ho.lies
        have HD := (show Hid (Bx W2 w.heap.size [.string lv, .int .i64 lt, .int .i64 la] ∧ Bx W2 (w.heap.size + 1) [.string mv, .int .i64 mt, .int .i64 ma] ∧ Below w4.heap.size w4 W2) from ⟨HD.out.1.next hb, HD.out.2.1.next hb, below_next HD.out.2.2 hb⟩)
        (first | (have H8 := (show Hid (Bx W2 b8 [.string ⟨#[]⟩, .int .i64 0, .int .i64 0] ∧ w4.heap.size ≤ b8) from ⟨H8.out.1.next hb, H8.out.2⟩)) | skip)
        clear ho hb
        refine hK.out _ _ ⟨HD.out.1, HD.out.2.1⟩ (fun hHeld => ?_)
        clear hK KC
        refine ready_two 4 8 ⟨some 25, Op.call { callee := Callee.value (Operand.func 27), args := #[Operand.tmp 22, Operand.tmp 24], argTypes := #[39, 39] }, _, _, _, none⟩ ⟨some 6, Op.alloc 39, _, _, _, none⟩ (by kernel_rfl) rfl rfl (by kernel_rfl) (by kernel_rfl) (fun KC hK => ?_) (fun KC hK => ?_)
        ·
          go_wp2_with fail
          refine (specMergeLatest_l lv lt la mv mt ma _ V TT AA z HA.out HS0.out HS1.out).mono ?_
          intro r W9 hT
          obtain ⟨cs9, lo, hi, rfl, ho, hlo, hlh, hhi, hb⟩ := ansG_out hT
          obtain hev := own_Latest ho
          subst hev
          have hol : w4.heap.size ≤ lo := Nat.le_trans HD.out.2.2.size hlo
          (first | (have HO9 := (show Hid (Own W9 shLatest [.string V, .int .i64 TT, .int .i64 AA] (V, TT, AA, ()) (Btw lo hi) ∧ w4.heap.size ≤ lo ∧ lo ≤ hi ∧ hi ≤ W9.heap.size ∧ (b8 < lo ∨ hi ≤ b8)) from ⟨ho, hol, hlh, hhi, Or.inl (Nat.lt_of_lt_of_le H8.out.1.2 hlo)⟩)) | (have HO9 := (show Hid (Own W9 shLatest [.string V, .int .i64 TT, .int .i64 AA] (V, TT, AA, ()) (Btw lo hi) ∧ w4.heap.size ≤ lo ∧ lo ≤ hi ∧ hi ≤ W9.heap.size) from ⟨ho, hol, hlh, hhi⟩)))
          have HD := (show Hid (Bx W9 w.heap.size [.string lv, .int .i64 lt, .int .i64 la] ∧ Bx W9 (w.heap.size + 1) [.string mv, .int .i64 mt, .int .i64 ma] ∧ Below w4.heap.size w4 W9) from ⟨HD.out.1.next hb, HD.out.2.1.next hb, below_next HD.out.2.2 hb⟩)
          (first | (have H8 := (show Hid (Bx W9 b8 [.string ⟨#[]⟩, .int .i64 0, .int .i64 0] ∧ w4.heap.size ≤ b8) from ⟨H8.out.1.next hb, H8.out.2⟩)) | skip)
          clear ho hlo hlh hhi hol hb hT
          refine hK.out _ _ ⟨HD.out.1, HD.out.2.1⟩ (fun hHeld => ?_)
          clear hK KC
          refine take_v (v := ?_) 5 ⟨some 20, Op.move (Operand.tmp 25), _, _, _, none⟩ rfl (fun _ _ _ h => h) ?_ hHeld ?_
          rotate_left
          · (intro W _; go_simp <;> (try with_reducible rfl))
          refine take_v (v := ?_) 6 ⟨some 26, Op.extract (Operand.tmp 20) 0, _, _, _, none⟩ rfl (fun _ _ _ h => h) ?_ hHeld ?_
          rotate_left
          · (intro W _; go_simp <;> (try with_reducible rfl))
          refine take_v (v := ?_) 7 ⟨some 27, Op.extract (Operand.tmp 20) 1, _, _, _, none⟩ rfl (fun _ _ _ h => h) ?_ hHeld ?_
          rotate_left
          · (intro W _; go_simp <;> (try with_reducible rfl))
          refine ready_call 8 ⟨some 6, Op.alloc 39, _, _, _, none⟩ (by kernel_rfl) rfl (by kernel_rfl) (fun KC hK => ?_)
          go_wp2_with fail
          (first | (obtain ⟨W8, hW8⟩ : ∃ x, x = W9.alloc (.cells #[.string ⟨#[]⟩, .int .i64 0, .int .i64 0] 39) := ⟨_, rfl⟩; have hb : Below W9.heap.size W9 W8 := hW8 ▸ Go.Joins.below_alloc1 _ _; obtain ⟨b8, hb8⟩ : ∃ b, b = W9.heap.size := ⟨_, rfl⟩; have H8 : Hid (Bx W8 b8 [.string ⟨#[]⟩, .int .i64 0, .int .i64 0] ∧ w4.heap.size ≤ b8) := ⟨hb8 ▸ hW8 ▸ Bx.new W9 [.string ⟨#[]⟩, .int .i64 0, .int .i64 0] _, by rw [hb8]; exact HD.out.2.2.size⟩; have HO9 := (show Hid (Own W8 shLatest [.string V, .int .i64 TT, .int .i64 AA] (V, TT, AA, ()) (Btw lo hi) ∧ w4.heap.size ≤ lo ∧ lo ≤ hi ∧ hi ≤ W8.heap.size ∧ (b8 < lo ∨ hi ≤ b8)) from ⟨HO9.out.1.next hb, HO9.out.2.1, HO9.out.2.2.1, Nat.le_trans HO9.out.2.2.2 hb.size, Or.inr (by rw [hb8]; exact HO9.out.2.2.2)⟩); have HD := (show Hid (Bx W8 w.heap.size [.string lv, .int .i64 lt, .int .i64 la] ∧ Bx W8 (w.heap.size + 1) [.string mv, .int .i64 mt, .int .i64 ma] ∧ Below w4.heap.size w4 W8) from ⟨HD.out.1.next hb, HD.out.2.1.next hb, below_next HD.out.2.2 hb⟩); rw [← hW8, ← hb8]; clear hW8 hb8 hb) | (obtain ⟨W8, hW8⟩ : ∃ x, x = W2.alloc (.cells #[.string ⟨#[]⟩, .int .i64 0, .int .i64 0] 39) := ⟨_, rfl⟩; have hb : Below W2.heap.size W2 W8 := hW8 ▸ Go.Joins.below_alloc1 _ _; obtain ⟨b8, hb8⟩ : ∃ b, b = W2.heap.size := ⟨_, rfl⟩; have H8 : Hid (Bx W8 b8 [.string ⟨#[]⟩, .int .i64 0, .int .i64 0] ∧ w4.heap.size ≤ b8) := ⟨hb8 ▸ hW8 ▸ Bx.new W2 [.string ⟨#[]⟩, .int .i64 0, .int .i64 0] _, by rw [hb8]; exact HD.out.2.2.size⟩; (first | (have HO1 := Hid.intro (HO1.out.next hb)) | skip); (first | (have HO2 := Hid.intro (HO2.out.next hb)) | skip); have HD := (show Hid (Bx W8 w.heap.size [.string lv, .int .i64 lt, .int .i64 la] ∧ Bx W8 (w.heap.size + 1) [.string mv, .int .i64 mt, .int .i64 ma] ∧ Below w4.heap.size w4 W8) from ⟨HD.out.1.next hb, HD.out.2.1.next hb, below_next HD.out.2.2 hb⟩); rw [← hW8, ← hb8]; clear hW8 hb8 hb) | (obtain ⟨W8, hW8⟩ : ∃ x, x = W1.alloc (.cells #[.string ⟨#[]⟩, .int .i64 0, .int .i64 0] 39) := ⟨_, rfl⟩; have hb : Below W1.heap.size W1 W8 := hW8 ▸ Go.Joins.below_alloc1 _ _; obtain ⟨b8, hb8⟩ : ∃ b, b = W1.heap.size := ⟨_, rfl⟩; have H8 : Hid (Bx W8 b8 [.string ⟨#[]⟩, .int .i64 0, .int .i64 0] ∧ w4.heap.size ≤ b8) := ⟨hb8 ▸ hW8 ▸ Bx.new W1 [.string ⟨#[]⟩, .int .i64 0, .int .i64 0] _, by rw [hb8]; exact HD.out.2.2.size⟩; (first | (have HO1 := Hid.intro (HO1.out.next hb)) | skip); (first | (have HO2 := Hid.intro (HO2.out.next hb)) | skip); have HD := (show Hid (Bx W8 w.heap.size [.string lv, .int .i64 lt, .int .i64 la] ∧ Bx W8 (w.heap.size + 1) [.string mv, .int .i64 mt, .int .i64 ma] ∧ Below w4.heap.size w4 W8) from ⟨HD.out.1.next hb, HD.out.2.1.next hb, below_next HD.out.2.2 hb⟩); rw [← hW8, ← hb8]; clear hW8 hb8 hb) | (obtain ⟨W8, hW8⟩ : ∃ x, x = X0.alloc (.cells #[.string ⟨#[]⟩, .int .i64 0, .int .i64 0] 39) := ⟨_, rfl⟩; have hb : Below X0.heap.size X0 W8 := hW8 ▸ Go.Joins.below_alloc1 _ _; obtain ⟨b8, hb8⟩ : ∃ b, b = X0.heap.size := ⟨_, rfl⟩; have H8 : Hid (Bx W8 b8 [.string ⟨#[]⟩, .int .i64 0, .int .i64 0] ∧ w4.heap.size ≤ b8) := ⟨hb8 ▸ hW8 ▸ Bx.new X0 [.string ⟨#[]⟩, .int .i64 0, .int .i64 0] _, by rw [hb8]; exact HD.out.2.2.size⟩; (first | (have HO1 := Hid.intro (HO1.out.next hb)) | skip); (first | (have HO2 := Hid.intro (HO2.out.next hb)) | skip); have HD := (show Hid (Bx W8 w.heap.size [.string lv, .int .i64 lt, .int .i64 la] ∧ Bx W8 (w.heap.size + 1) [.string mv, .int .i64 mt, .int .i64 ma] ∧ Below w4.heap.size w4 W8) from ⟨HD.out.1.next hb, HD.out.2.1.next hb, below_next HD.out.2.2 hb⟩); rw [← hW8, ← hb8]; clear hW8 hb8 hb))
          refine hK.out _ _ ⟨HD.out.1, HD.out.2.1⟩ (fun hHeld => ?_)
          clear hK KC
          refine ready_call 9 ⟨none, Op.store 39 (Operand.tmp 6) (Operand.tmp 26), _, _, _, none⟩ (by kernel_rfl) rfl (by kernel_rfl) (fun KC hK => ?_)
          have dz := H8.out.1.2
          have d0 := H8.out.1.cell 0 rfl
          have d1 := H8.out.1.cell 1 rfl
          have d2 := H8.out.1.cell 2 rfl
          have f0 := H8.out.1.frz 0 (by simp)
          have f1 := H8.out.1.frz 1 (by simp)
          have f2 := H8.out.1.frz 2 (by simp)
          have h8 := H8.out.2
          go_wp2_with fail
          have HF := Hid.intro (box_own3 (o := w4) H8.out.1 H8.out.2 HO9.out.1 HO9.out.2.2.2.2 HD.out.2.2 (.string V) (.int .i64 TT) (.int .i64 AA))
          clear dz d0 f0 d1 f1 d2 f2
          refine hK.out _ _ ⟨(((HD.out.1.other (by omega)).other (by omega)).other (by omega)), (((HD.out.2.1.other (by omega)).other (by omega)).other (by omega))⟩ (fun hHeld => ?_)
          clear hK KC
          refine take_v (v := ?_) 10 ⟨some 7, Op.assign (Operand.tmp 27), _, _, _, none⟩ rfl (fun _ _ _ h => h) ?_ hHeld ?_
          rotate_left
          · (intro W _; go_simp <;> (try with_reducible rfl))
          refine wpAnyH_done (by kernel_rfl) ?_ _
          refine NoPanic.normal ?_
          clear hHeld
          go_wp2_with fail
          go_meet
          exact ⟨b8, lo, hi, rfl, rfl, HF.out.1, HF.out.2.1, HO9.out.2.1, HO9.out.2.2.1, by rw [HF.out.2.2.2]; exact HO9.out.2.2.2.1, H8.out.2, by rw [HF.out.2.2.2]; exact H8.out.1.2, HO9.out.2.2.2.2, HF.out.2.2.1⟩
        ·
          go_wp2_with fail
          (first | (obtain ⟨W8, hW8⟩ : ∃ x, x = W9.alloc (.cells #[.string ⟨#[]⟩, .int .i64 0, .int .i64 0] 39) := ⟨_, rfl⟩; have hb : Below W9.heap.size W9 W8 := hW8 ▸ Go.Joins.below_alloc1 _ _; obtain ⟨b8, hb8⟩ : ∃ b, b = W9.heap.size := ⟨_, rfl⟩; have H8 : Hid (Bx W8 b8 [.string ⟨#[]⟩, .int .i64 0, .int .i64 0] ∧ w4.heap.size ≤ b8) := ⟨hb8 ▸ hW8 ▸ Bx.new W9 [.string ⟨#[]⟩, .int .i64 0, .int .i64 0] _, by rw [hb8]; exact HD.out.2.2.size⟩; have HO9 := (show Hid (Own W8 shLatest [.string V, .int .i64 TT, .int .i64 AA] (V, TT, AA, ()) (Btw lo hi) ∧ w4.heap.size ≤ lo ∧ lo ≤ hi ∧ hi ≤ W8.heap.size ∧ (b8 < lo ∨ hi ≤ b8)) from ⟨HO9.out.1.next hb, HO9.out.2.1, HO9.out.2.2.1, Nat.le_trans HO9.out.2.2.2 hb.size, Or.inr (by rw [hb8]; exact HO9.out.2.2.2)⟩); have HD := (show Hid (Bx W8 w.heap.size [.string lv, .int .i64 lt, .int .i64 la] ∧ Bx W8 (w.heap.size + 1) [.string mv, .int .i64 mt, .int .i64 ma] ∧ Below w4.heap.size w4 W8) from ⟨HD.out.1.next hb, HD.out.2.1.next hb, below_next HD.out.2.2 hb⟩); rw [← hW8, ← hb8]; clear hW8 hb8 hb) | (obtain ⟨W8, hW8⟩ : ∃ x, x = W2.alloc (.cells #[.string ⟨#[]⟩, .int .i64 0, .int .i64 0] 39) := ⟨_, rfl⟩; have hb : Below W2.heap.size W2 W8 := hW8 ▸ Go.Joins.below_alloc1 _ _; obtain ⟨b8, hb8⟩ : ∃ b, b = W2.heap.size := ⟨_, rfl⟩; have H8 : Hid (Bx W8 b8 [.string ⟨#[]⟩, .int .i64 0, .int .i64 0] ∧ w4.heap.size ≤ b8) := ⟨hb8 ▸ hW8 ▸ Bx.new W2 [.string ⟨#[]⟩, .int .i64 0, .int .i64 0] _, by rw [hb8]; exact HD.out.2.2.size⟩; (first | (have HO1 := Hid.intro (HO1.out.next hb)) | skip); (first | (have HO2 := Hid.intro (HO2.out.next hb)) | skip); have HD := (show Hid (Bx W8 w.heap.size [.string lv, .int .i64 lt, .int .i64 la] ∧ Bx W8 (w.heap.size + 1) [.string mv, .int .i64 mt, .int .i64 ma] ∧ Below w4.heap.size w4 W8) from ⟨HD.out.1.next hb, HD.out.2.1.next hb, below_next HD.out.2.2 hb⟩); rw [← hW8, ← hb8]; clear hW8 hb8 hb) | (obtain ⟨W8, hW8⟩ : ∃ x, x = W1.alloc (.cells #[.string ⟨#[]⟩, .int .i64 0, .int .i64 0] 39) := ⟨_, rfl⟩; have hb : Below W1.heap.size W1 W8 := hW8 ▸ Go.Joins.below_alloc1 _ _; obtain ⟨b8, hb8⟩ : ∃ b, b = W1.heap.size := ⟨_, rfl⟩; have H8 : Hid (Bx W8 b8 [.string ⟨#[]⟩, .int .i64 0, .int .i64 0] ∧ w4.heap.size ≤ b8) := ⟨hb8 ▸ hW8 ▸ Bx.new W1 [.string ⟨#[]⟩, .int .i64 0, .int .i64 0] _, by rw [hb8]; exact HD.out.2.2.size⟩; (first | (have HO1 := Hid.intro (HO1.out.next hb)) | skip); (first | (have HO2 := Hid.intro (HO2.out.next hb)) | skip); have HD := (show Hid (Bx W8 w.heap.size [.string lv, .int .i64 lt, .int .i64 la] ∧ Bx W8 (w.heap.size + 1) [.string mv, .int .i64 mt, .int .i64 ma] ∧ Below w4.heap.size w4 W8) from ⟨HD.out.1.next hb, HD.out.2.1.next hb, below_next HD.out.2.2 hb⟩); rw [← hW8, ← hb8]; clear hW8 hb8 hb) | (obtain ⟨W8, hW8⟩ : ∃ x, x = X0.alloc (.cells #[.string ⟨#[]⟩, .int .i64 0, .int .i64 0] 39) := ⟨_, rfl⟩; have hb : Below X0.heap.size X0 W8 := hW8 ▸ Go.Joins.below_alloc1 _ _; obtain ⟨b8, hb8⟩ : ∃ b, b = X0.heap.size := ⟨_, rfl⟩; have H8 : Hid (Bx W8 b8 [.string ⟨#[]⟩, .int .i64 0, .int .i64 0] ∧ w4.heap.size ≤ b8) := ⟨hb8 ▸ hW8 ▸ Bx.new X0 [.string ⟨#[]⟩, .int .i64 0, .int .i64 0] _, by rw [hb8]; exact HD.out.2.2.size⟩; (first | (have HO1 := Hid.intro (HO1.out.next hb)) | skip); (first | (have HO2 := Hid.intro (HO2.out.next hb)) | skip); have HD := (show Hid (Bx W8 w.heap.size [.string lv, .int .i64 lt, .int .i64 la] ∧ Bx W8 (w.heap.size + 1) [.string mv, .int .i64 mt, .int .i64 ma] ∧ Below w4.heap.size w4 W8) from ⟨HD.out.1.next hb, HD.out.2.1.next hb, below_next HD.out.2.2 hb⟩); rw [← hW8, ← hb8]; clear hW8 hb8 hb))
          refine hK.out _ _ ⟨HD.out.1, HD.out.2.1⟩ (fun hHeld => ?_)
          clear hK KC
          refine ready_call 4 ⟨some 25, Op.call { callee := Callee.value (Operand.func 27), args := #[Operand.tmp 22, Operand.tmp 24], argTypes := #[39, 39] }, _, _, _, none⟩ (by kernel_rfl) rfl (by kernel_rfl) (fun KC hK => ?_)
          go_wp2_with fail
          refine (specMergeLatest_l lv lt la mv mt ma _ V TT AA z HA.out HS0.out HS1.out).mono ?_
          intro r W9 hT
          obtain ⟨cs9, lo, hi, rfl, ho, hlo, hlh, hhi, hb⟩ := ansG_out hT
          obtain hev := own_Latest ho
          subst hev
          have hol : w4.heap.size ≤ lo := Nat.le_trans HD.out.2.2.size hlo
          (first | (have HO9 := (show Hid (Own W9 shLatest [.string V, .int .i64 TT, .int .i64 AA] (V, TT, AA, ()) (Btw lo hi) ∧ w4.heap.size ≤ lo ∧ lo ≤ hi ∧ hi ≤ W9.heap.size ∧ (b8 < lo ∨ hi ≤ b8)) from ⟨ho, hol, hlh, hhi, Or.inl (Nat.lt_of_lt_of_le H8.out.1.2 hlo)⟩)) | (have HO9 := (show Hid (Own W9 shLatest [.string V, .int .i64 TT, .int .i64 AA] (V, TT, AA, ()) (Btw lo hi) ∧ w4.heap.size ≤ lo ∧ lo ≤ hi ∧ hi ≤ W9.heap.size) from ⟨ho, hol, hlh, hhi⟩)))
          have HD := (show Hid (Bx W9 w.heap.size [.string lv, .int .i64 lt, .int .i64 la] ∧ Bx W9 (w.heap.size + 1) [.string mv, .int .i64 mt, .int .i64 ma] ∧ Below w4.heap.size w4 W9) from ⟨HD.out.1.next hb, HD.out.2.1.next hb, below_next HD.out.2.2 hb⟩)
          (first | (have H8 := (show Hid (Bx W9 b8 [.string ⟨#[]⟩, .int .i64 0, .int .i64 0] ∧ w4.heap.size ≤ b8) from ⟨H8.out.1.next hb, H8.out.2⟩)) | skip)
          clear ho hlo hlh hhi hol hb hT
          refine hK.out _ _ ⟨HD.out.1, HD.out.2.1⟩ (fun hHeld => ?_)
          clear hK KC
          refine take_v (v := ?_) 5 ⟨some 20, Op.move (Operand.tmp 25), _, _, _, none⟩ rfl (fun _ _ _ h => h) ?_ hHeld ?_
          rotate_left
          · (intro W _; go_simp <;> (try with_reducible rfl))
          refine take_v (v := ?_) 6 ⟨some 26, Op.extract (Operand.tmp 20) 0, _, _, _, none⟩ rfl (fun _ _ _ h => h) ?_ hHeld ?_
          rotate_left
          · (intro W _; go_simp <;> (try with_reducible rfl))
          refine take_v (v := ?_) 7 ⟨some 27, Op.extract (Operand.tmp 20) 1, _, _, _, none⟩ rfl (fun _ _ _ h => h) ?_ hHeld ?_
          rotate_left
          · (intro W _; go_simp <;> (try with_reducible rfl))
          refine ready_call 9 ⟨none, Op.store 39 (Operand.tmp 6) (Operand.tmp 26), _, _, _, none⟩ (by kernel_rfl) rfl (by kernel_rfl) (fun KC hK => ?_)
          have dz := H8.out.1.2
          have d0 := H8.out.1.cell 0 rfl
          have d1 := H8.out.1.cell 1 rfl
          have d2 := H8.out.1.cell 2 rfl
          have f0 := H8.out.1.frz 0 (by simp)
          have f1 := H8.out.1.frz 1 (by simp)
          have f2 := H8.out.1.frz 2 (by simp)
          have h8 := H8.out.2
          go_wp2_with fail
          have HF := Hid.intro (box_own3 (o := w4) H8.out.1 H8.out.2 HO9.out.1 HO9.out.2.2.2.2 HD.out.2.2 (.string V) (.int .i64 TT) (.int .i64 AA))
          clear dz d0 f0 d1 f1 d2 f2
          refine hK.out _ _ ⟨(((HD.out.1.other (by omega)).other (by omega)).other (by omega)), (((HD.out.2.1.other (by omega)).other (by omega)).other (by omega))⟩ (fun hHeld => ?_)
          clear hK KC
          refine take_v (v := ?_) 10 ⟨some 7, Op.assign (Operand.tmp 27), _, _, _, none⟩ rfl (fun _ _ _ h => h) ?_ hHeld ?_
          rotate_left
          · (intro W _; go_simp <;> (try with_reducible rfl))
          refine wpAnyH_done (by kernel_rfl) ?_ _
          refine NoPanic.normal ?_
          clear hHeld
          go_wp2_with fail
          go_meet
          exact ⟨b8, lo, hi, rfl, rfl, HF.out.1, HF.out.2.1, HO9.out.2.1, HO9.out.2.2.1, by rw [HF.out.2.2.2]; exact HO9.out.2.2.2.1, H8.out.2, by rw [HF.out.2.2.2]; exact H8.out.1.2, HO9.out.2.2.2.2, HF.out.2.2.1⟩
      ·
        go_wp2_with fail
        (first | (obtain ⟨W8, hW8⟩ : ∃ x, x = W9.alloc (.cells #[.string ⟨#[]⟩, .int .i64 0, .int .i64 0] 39) := ⟨_, rfl⟩; have hb : Below W9.heap.size W9 W8 := hW8 ▸ Go.Joins.below_alloc1 _ _; obtain ⟨b8, hb8⟩ : ∃ b, b = W9.heap.size := ⟨_, rfl⟩; have H8 : Hid (Bx W8 b8 [.string ⟨#[]⟩, .int .i64 0, .int .i64 0] ∧ w4.heap.size ≤ b8) := ⟨hb8 ▸ hW8 ▸ Bx.new W9 [.string ⟨#[]⟩, .int .i64 0, .int .i64 0] _, by rw [hb8]; exact HD.out.2.2.size⟩; have HO9 := (show Hid (Own W8 shLatest [.string V, .int .i64 TT, .int .i64 AA] (V, TT, AA, ()) (Btw lo hi) ∧ w4.heap.size ≤ lo ∧ lo ≤ hi ∧ hi ≤ W8.heap.size ∧ (b8 < lo ∨ hi ≤ b8)) from ⟨HO9.out.1.next hb, HO9.out.2.1, HO9.out.2.2.1, Nat.le_trans HO9.out.2.2.2 hb.size, Or.inr (by rw [hb8]; exact HO9.out.2.2.2)⟩); have HD := (show Hid (Bx W8 w.heap.size [.string lv, .int .i64 lt, .int .i64 la] ∧ Bx W8 (w.heap.size + 1) [.string mv, .int .i64 mt, .int .i64 ma] ∧ Below w4.heap.size w4 W8) from ⟨HD.out.1.next hb, HD.out.2.1.next hb, below_next HD.out.2.2 hb⟩); rw [← hW8, ← hb8]; clear hW8 hb8 hb) | (obtain ⟨W8, hW8⟩ : ∃ x, x = W2.alloc (.cells #[.string ⟨#[]⟩, .int .i64 0, .int .i64 0] 39) := ⟨_, rfl⟩; have hb : Below W2.heap.size W2 W8 := hW8 ▸ Go.Joins.below_alloc1 _ _; obtain ⟨b8, hb8⟩ : ∃ b, b = W2.heap.size := ⟨_, rfl⟩; have H8 : Hid (Bx W8 b8 [.string ⟨#[]⟩, .int .i64 0, .int .i64 0] ∧ w4.heap.size ≤ b8) := ⟨hb8 ▸ hW8 ▸ Bx.new W2 [.string ⟨#[]⟩, .int .i64 0, .int .i64 0] _, by rw [hb8]; exact HD.out.2.2.size⟩; (first | (have HO1 := Hid.intro (HO1.out.next hb)) | skip); (first | (have HO2 := Hid.intro (HO2.out.next hb)) | skip); have HD := (show Hid (Bx W8 w.heap.size [.string lv, .int .i64 lt, .int .i64 la] ∧ Bx W8 (w.heap.size + 1) [.string mv, .int .i64 mt, .int .i64 ma] ∧ Below w4.heap.size w4 W8) from ⟨HD.out.1.next hb, HD.out.2.1.next hb, below_next HD.out.2.2 hb⟩); rw [← hW8, ← hb8]; clear hW8 hb8 hb) | (obtain ⟨W8, hW8⟩ : ∃ x, x = W1.alloc (.cells #[.string ⟨#[]⟩, .int .i64 0, .int .i64 0] 39) := ⟨_, rfl⟩; have hb : Below W1.heap.size W1 W8 := hW8 ▸ Go.Joins.below_alloc1 _ _; obtain ⟨b8, hb8⟩ : ∃ b, b = W1.heap.size := ⟨_, rfl⟩; have H8 : Hid (Bx W8 b8 [.string ⟨#[]⟩, .int .i64 0, .int .i64 0] ∧ w4.heap.size ≤ b8) := ⟨hb8 ▸ hW8 ▸ Bx.new W1 [.string ⟨#[]⟩, .int .i64 0, .int .i64 0] _, by rw [hb8]; exact HD.out.2.2.size⟩; (first | (have HO1 := Hid.intro (HO1.out.next hb)) | skip); (first | (have HO2 := Hid.intro (HO2.out.next hb)) | skip); have HD := (show Hid (Bx W8 w.heap.size [.string lv, .int .i64 lt, .int .i64 la] ∧ Bx W8 (w.heap.size + 1) [.string mv, .int .i64 mt, .int .i64 ma] ∧ Below w4.heap.size w4 W8) from ⟨HD.out.1.next hb, HD.out.2.1.next hb, below_next HD.out.2.2 hb⟩); rw [← hW8, ← hb8]; clear hW8 hb8 hb) | (obtain ⟨W8, hW8⟩ : ∃ x, x = X0.alloc (.cells #[.string ⟨#[]⟩, .int .i64 0, .int .i64 0] 39) := ⟨_, rfl⟩; have hb : Below X0.heap.size X0 W8 := hW8 ▸ Go.Joins.below_alloc1 _ _; obtain ⟨b8, hb8⟩ : ∃ b, b = X0.heap.size := ⟨_, rfl⟩; have H8 : Hid (Bx W8 b8 [.string ⟨#[]⟩, .int .i64 0, .int .i64 0] ∧ w4.heap.size ≤ b8) := ⟨hb8 ▸ hW8 ▸ Bx.new X0 [.string ⟨#[]⟩, .int .i64 0, .int .i64 0] _, by rw [hb8]; exact HD.out.2.2.size⟩; (first | (have HO1 := Hid.intro (HO1.out.next hb)) | skip); (first | (have HO2 := Hid.intro (HO2.out.next hb)) | skip); have HD := (show Hid (Bx W8 w.heap.size [.string lv, .int .i64 lt, .int .i64 la] ∧ Bx W8 (w.heap.size + 1) [.string mv, .int .i64 mt, .int .i64 ma] ∧ Below w4.heap.size w4 W8) from ⟨HD.out.1.next hb, HD.out.2.1.next hb, below_next HD.out.2.2 hb⟩); rw [← hW8, ← hb8]; clear hW8 hb8 hb))
        refine hK.out _ _ ⟨HD.out.1, HD.out.2.1⟩ (fun hHeld => ?_)
        clear hK KC
        refine ready_call 3 ⟨some 24, Op.call { callee := Callee.value (Operand.func 48), args := #[Operand.tmp 23], argTypes := #[70] }, _, _, _, none⟩ (by kernel_rfl) rfl (by kernel_rfl) (fun KC hK => ?_)
        go_wp2_with fail
        refine (toLatest_n [.string mv, .int .i64 mt, .int .i64 ma] mv mt ma _ HS1.out (HL1.out.next (below_next HB4.out HD.out.2.2))).mono ?_
        rintro r W2 ⟨cs9, rfl, ho, hb⟩
        obtain hev := own_Latest ho
        subst hev
        (first | (have HO1 := Hid.intro (HO1.out.next hb)) | skip); (first | (have HO2 := Hid.intro (HO2.out.next hb)) | skip)
        have HO2 := Hid.intro ho.lies
        have HD := (show Hid (Bx W2 w.heap.size [.string lv, .int .i64 lt, .int .i64 la] ∧ Bx W2 (w.heap.size + 1) [.string mv, .int .i64 mt, .int .i64 ma] ∧ Below w4.heap.size w4 W2) from ⟨HD.out.1.next hb, HD.out.2.1.next hb, below_next HD.out.2.2 hb⟩)
        (first | (have H8 := (show Hid (Bx W2 b8 [.string ⟨#[]⟩, .int .i64 0, .int .i64 0] ∧ w4.heap.size ≤ b8) from ⟨H8.out.1.next hb, H8.out.2⟩)) | skip)
        clear ho hb
        refine hK.out _ _ ⟨HD.out.1, HD.out.2.1⟩ (fun hHeld => ?_)
        clear hK KC
        refine ready_call 4 ⟨some 25, Op.call { callee := Callee.value (Operand.func 27), args := #[Operand.tmp 22, Operand.tmp 24], argTypes := #[39, 39] }, _, _, _, none⟩ (by kernel_rfl) rfl (by kernel_rfl) (fun KC hK => ?_)
        go_wp2_with fail
        refine (specMergeLatest_l lv lt la mv mt ma _ V TT AA z HA.out HS0.out HS1.out).mono ?_
        intro r W9 hT
        obtain ⟨cs9, lo, hi, rfl, ho, hlo, hlh, hhi, hb⟩ := ansG_out hT
        obtain hev := own_Latest ho
        subst hev
        have hol : w4.heap.size ≤ lo := Nat.le_trans HD.out.2.2.size hlo
        (first | (have HO9 := (show Hid (Own W9 shLatest [.string V, .int .i64 TT, .int .i64 AA] (V, TT, AA, ()) (Btw lo hi) ∧ w4.heap.size ≤ lo ∧ lo ≤ hi ∧ hi ≤ W9.heap.size ∧ (b8 < lo ∨ hi ≤ b8)) from ⟨ho, hol, hlh, hhi, Or.inl (Nat.lt_of_lt_of_le H8.out.1.2 hlo)⟩)) | (have HO9 := (show Hid (Own W9 shLatest [.string V, .int .i64 TT, .int .i64 AA] (V, TT, AA, ()) (Btw lo hi) ∧ w4.heap.size ≤ lo ∧ lo ≤ hi ∧ hi ≤ W9.heap.size) from ⟨ho, hol, hlh, hhi⟩)))
        have HD := (show Hid (Bx W9 w.heap.size [.string lv, .int .i64 lt, .int .i64 la] ∧ Bx W9 (w.heap.size + 1) [.string mv, .int .i64 mt, .int .i64 ma] ∧ Below w4.heap.size w4 W9) from ⟨HD.out.1.next hb, HD.out.2.1.next hb, below_next HD.out.2.2 hb⟩)
        (first | (have H8 := (show Hid (Bx W9 b8 [.string ⟨#[]⟩, .int .i64 0, .int .i64 0] ∧ w4.heap.size ≤ b8) from ⟨H8.out.1.next hb, H8.out.2⟩)) | skip)
        clear ho hlo hlh hhi hol hb hT
        refine hK.out _ _ ⟨HD.out.1, HD.out.2.1⟩ (fun hHeld => ?_)
        clear hK KC
        refine take_v (v := ?_) 5 ⟨some 20, Op.move (Operand.tmp 25), _, _, _, none⟩ rfl (fun _ _ _ h => h) ?_ hHeld ?_
        rotate_left
        · (intro W _; go_simp <;> (try with_reducible rfl))
        refine take_v (v := ?_) 6 ⟨some 26, Op.extract (Operand.tmp 20) 0, _, _, _, none⟩ rfl (fun _ _ _ h => h) ?_ hHeld ?_
        rotate_left
        · (intro W _; go_simp <;> (try with_reducible rfl))
        refine take_v (v := ?_) 7 ⟨some 27, Op.extract (Operand.tmp 20) 1, _, _, _, none⟩ rfl (fun _ _ _ h => h) ?_ hHeld ?_
        rotate_left
        · (intro W _; go_simp <;> (try with_reducible rfl))
        refine ready_call 9 ⟨none, Op.store 39 (Operand.tmp 6) (Operand.tmp 26), _, _, _, none⟩ (by kernel_rfl) rfl (by kernel_rfl) (fun KC hK => ?_)
        have dz := H8.out.1.2
        have d0 := H8.out.1.cell 0 rfl
        have d1 := H8.out.1.cell 1 rfl
        have d2 := H8.out.1.cell 2 rfl
        have f0 := H8.out.1.frz 0 (by simp)
        have f1 := H8.out.1.frz 1 (by simp)
        have f2 := H8.out.1.frz 2 (by simp)
        have h8 := H8.out.2
        go_wp2_with fail
        have HF := Hid.intro (box_own3 (o := w4) H8.out.1 H8.out.2 HO9.out.1 HO9.out.2.2.2.2 HD.out.2.2 (.string V) (.int .i64 TT) (.int .i64 AA))
        clear dz d0 f0 d1 f1 d2 f2
        refine hK.out _ _ ⟨(((HD.out.1.other (by omega)).other (by omega)).other (by omega)), (((HD.out.2.1.other (by omega)).other (by omega)).other (by omega))⟩ (fun hHeld => ?_)
        clear hK KC
        refine take_v (v := ?_) 10 ⟨some 7, Op.assign (Operand.tmp 27), _, _, _, none⟩ rfl (fun _ _ _ h => h) ?_ hHeld ?_
        rotate_left
        · (intro W _; go_simp <;> (try with_reducible rfl))
        refine wpAnyH_done (by kernel_rfl) ?_ _
        refine NoPanic.normal ?_
        clear hHeld
        go_wp2_with fail
        go_meet
        exact ⟨b8, lo, hi, rfl, rfl, HF.out.1, HF.out.2.1, HO9.out.2.1, HO9.out.2.2.1, by rw [HF.out.2.2.2]; exact HO9.out.2.2.2.1, H8.out.2, by rw [HF.out.2.2.2]; exact H8.out.1.2, HO9.out.2.2.2.2, HF.out.2.2.1⟩
    ·
      go_wp2_with fail
      (first | (obtain ⟨W8, hW8⟩ : ∃ x, x = W9.alloc (.cells #[.string ⟨#[]⟩, .int .i64 0, .int .i64 0] 39) := ⟨_, rfl⟩; have hb : Below W9.heap.size W9 W8 := hW8 ▸ Go.Joins.below_alloc1 _ _; obtain ⟨b8, hb8⟩ : ∃ b, b = W9.heap.size := ⟨_, rfl⟩; have H8 : Hid (Bx W8 b8 [.string ⟨#[]⟩, .int .i64 0, .int .i64 0] ∧ w4.heap.size ≤ b8) := ⟨hb8 ▸ hW8 ▸ Bx.new W9 [.string ⟨#[]⟩, .int .i64 0, .int .i64 0] _, by rw [hb8]; exact HD.out.2.2.size⟩; have HO9 := (show Hid (Own W8 shLatest [.string V, .int .i64 TT, .int .i64 AA] (V, TT, AA, ()) (Btw lo hi) ∧ w4.heap.size ≤ lo ∧ lo ≤ hi ∧ hi ≤ W8.heap.size ∧ (b8 < lo ∨ hi ≤ b8)) from ⟨HO9.out.1.next hb, HO9.out.2.1, HO9.out.2.2.1, Nat.le_trans HO9.out.2.2.2 hb.size, Or.inr (by rw [hb8]; exact HO9.out.2.2.2)⟩); have HD := (show Hid (Bx W8 w.heap.size [.string lv, .int .i64 lt, .int .i64 la] ∧ Bx W8 (w.heap.size + 1) [.string mv, .int .i64 mt, .int .i64 ma] ∧ Below w4.heap.size w4 W8) from ⟨HD.out.1.next hb, HD.out.2.1.next hb, below_next HD.out.2.2 hb⟩); rw [← hW8, ← hb8]; clear hW8 hb8 hb) | (obtain ⟨W8, hW8⟩ : ∃ x, x = W2.alloc (.cells #[.string ⟨#[]⟩, .int .i64 0, .int .i64 0] 39) := ⟨_, rfl⟩; have hb : Below W2.heap.size W2 W8 := hW8 ▸ Go.Joins.below_alloc1 _ _; obtain ⟨b8, hb8⟩ : ∃ b, b = W2.heap.size := ⟨_, rfl⟩; have H8 : Hid (Bx W8 b8 [.string ⟨#[]⟩, .int .i64 0, .int .i64 0] ∧ w4.heap.size ≤ b8) := ⟨hb8 ▸ hW8 ▸ Bx.new W2 [.string ⟨#[]⟩, .int .i64 0, .int .i64 0] _, by rw [hb8]; exact HD.out.2.2.size⟩; (first | (have HO1 := Hid.intro (HO1.out.next hb)) | skip); (first | (have HO2 := Hid.intro (HO2.out.next hb)) | skip); have HD := (show Hid (Bx W8 w.heap.size [.string lv, .int .i64 lt, .int .i64 la] ∧ Bx W8 (w.heap.size + 1) [.string mv, .int .i64 mt, .int .i64 ma] ∧ Below w4.heap.size w4 W8) from ⟨HD.out.1.next hb, HD.out.2.1.next hb, below_next HD.out.2.2 hb⟩); rw [← hW8, ← hb8]; clear hW8 hb8 hb) | (obtain ⟨W8, hW8⟩ : ∃ x, x = W1.alloc (.cells #[.string ⟨#[]⟩, .int .i64 0, .int .i64 0] 39) := ⟨_, rfl⟩; have hb : Below W1.heap.size W1 W8 := hW8 ▸ Go.Joins.below_alloc1 _ _; obtain ⟨b8, hb8⟩ : ∃ b, b = W1.heap.size := ⟨_, rfl⟩; have H8 : Hid (Bx W8 b8 [.string ⟨#[]⟩, .int .i64 0, .int .i64 0] ∧ w4.heap.size ≤ b8) := ⟨hb8 ▸ hW8 ▸ Bx.new W1 [.string ⟨#[]⟩, .int .i64 0, .int .i64 0] _, by rw [hb8]; exact HD.out.2.2.size⟩; (first | (have HO1 := Hid.intro (HO1.out.next hb)) | skip); (first | (have HO2 := Hid.intro (HO2.out.next hb)) | skip); have HD := (show Hid (Bx W8 w.heap.size [.string lv, .int .i64 lt, .int .i64 la] ∧ Bx W8 (w.heap.size + 1) [.string mv, .int .i64 mt, .int .i64 ma] ∧ Below w4.heap.size w4 W8) from ⟨HD.out.1.next hb, HD.out.2.1.next hb, below_next HD.out.2.2 hb⟩); rw [← hW8, ← hb8]; clear hW8 hb8 hb) | (obtain ⟨W8, hW8⟩ : ∃ x, x = X0.alloc (.cells #[.string ⟨#[]⟩, .int .i64 0, .int .i64 0] 39) := ⟨_, rfl⟩; have hb : Below X0.heap.size X0 W8 := hW8 ▸ Go.Joins.below_alloc1 _ _; obtain ⟨b8, hb8⟩ : ∃ b, b = X0.heap.size := ⟨_, rfl⟩; have H8 : Hid (Bx W8 b8 [.string ⟨#[]⟩, .int .i64 0, .int .i64 0] ∧ w4.heap.size ≤ b8) := ⟨hb8 ▸ hW8 ▸ Bx.new X0 [.string ⟨#[]⟩, .int .i64 0, .int .i64 0] _, by rw [hb8]; exact HD.out.2.2.size⟩; (first | (have HO1 := Hid.intro (HO1.out.next hb)) | skip); (first | (have HO2 := Hid.intro (HO2.out.next hb)) | skip); have HD := (show Hid (Bx W8 w.heap.size [.string lv, .int .i64 lt, .int .i64 la] ∧ Bx W8 (w.heap.size + 1) [.string mv, .int .i64 mt, .int .i64 ma] ∧ Below w4.heap.size w4 W8) from ⟨HD.out.1.next hb, HD.out.2.1.next hb, below_next HD.out.2.2 hb⟩); rw [← hW8, ← hb8]; clear hW8 hb8 hb))
      refine hK.out _ _ ⟨HD.out.1, HD.out.2.1⟩ (fun hHeld => ?_)
      clear hK KC
      refine ready_call 1 ⟨some 22, Op.call { callee := Callee.value (Operand.func 48), args := #[Operand.tmp 21], argTypes := #[70] }, _, _, _, none⟩ (by kernel_rfl) rfl (by kernel_rfl) (fun KC hK => ?_)
      go_wp2_with fail
      refine (toLatest_n [.string lv, .int .i64 lt, .int .i64 la] lv lt la _ HS0.out (HL0.out.next (below_next HB4.out HD.out.2.2))).mono ?_
      rintro r W1 ⟨cs9, rfl, ho, hb⟩
      obtain hev := own_Latest ho
      subst hev
      (first | (have HO1 := Hid.intro (HO1.out.next hb)) | skip); (first | (have HO2 := Hid.intro (HO2.out.next hb)) | skip)
      have HO1 := Hid.intro ho.lies
      have HD := (show Hid (Bx W1 w.heap.size [.string lv, .int .i64 lt, .int .i64 la] ∧ Bx W1 (w.heap.size + 1) [.string mv, .int .i64 mt, .int .i64 ma] ∧ Below w4.heap.size w4 W1) from ⟨HD.out.1.next hb, HD.out.2.1.next hb, below_next HD.out.2.2 hb⟩)
      (first | (have H8 := (show Hid (Bx W1 b8 [.string ⟨#[]⟩, .int .i64 0, .int .i64 0] ∧ w4.heap.size ≤ b8) from ⟨H8.out.1.next hb, H8.out.2⟩)) | skip)
      clear ho hb
      refine hK.out _ _ ⟨HD.out.1, HD.out.2.1⟩ (fun hHeld => ?_)
      clear hK KC
      refine ready_call 3 ⟨some 24, Op.call { callee := Callee.value (Operand.func 48), args := #[Operand.tmp 23], argTypes := #[70] }, _, _, _, none⟩ (by kernel_rfl) rfl (by kernel_rfl) (fun KC hK => ?_)
      go_wp2_with fail
      refine (toLatest_n [.string mv, .int .i64 mt, .int .i64 ma] mv mt ma _ HS1.out (HL1.out.next (below_next HB4.out HD.out.2.2))).mono ?_
      rintro r W2 ⟨cs9, rfl, ho, hb⟩
      obtain hev := own_Latest ho
      subst hev
      (first | (have HO1 := Hid.intro (HO1.out.next hb)) | skip); (first | (have HO2 := Hid.intro (HO2.out.next hb)) | skip)
      have HO2 := Hid.intro ho.lies
      have HD := (show Hid (Bx W2 w.heap.size [.string lv, .int .i64 lt, .int .i64 la] ∧ Bx W2 (w.heap.size + 1) [.string mv, .int .i64 mt, .int .i64 ma] ∧ Below w4.heap.size w4 W2) from ⟨HD.out.1.next hb, HD.out.2.1.next hb, below_next HD.out.2.2 hb⟩)
      (first | (have H8 := (show Hid (Bx W2 b8 [.string ⟨#[]⟩, .int .i64 0, .int .i64 0] ∧ w4.heap.size ≤ b8) from ⟨H8.out.1.next hb, H8.out.2⟩)) | skip)
      clear ho hb
      refine hK.out _ _ ⟨HD.out.1, HD.out.2.1⟩ (fun hHeld => ?_)
      clear hK KC
      refine ready_call 4 ⟨some 25, Op.call { callee := Callee.value (Operand.func 27), args := #[Operand.tmp 22, Operand.tmp 24], argTypes := #[39, 39] }, _, _, _, none⟩ (by kernel_rfl) rfl (by kernel_rfl) (fun KC hK => ?_)
      go_wp2_with fail
      refine (specMergeLatest_l lv lt la mv mt ma _ V TT AA z HA.out HS0.out HS1.out).mono ?_
      intro r W9 hT
      obtain ⟨cs9, lo, hi, rfl, ho, hlo, hlh, hhi, hb⟩ := ansG_out hT
      obtain hev := own_Latest ho
      subst hev
      have hol : w4.heap.size ≤ lo := Nat.le_trans HD.out.2.2.size hlo
      (first | (have HO9 := (show Hid (Own W9 shLatest [.string V, .int .i64 TT, .int .i64 AA] (V, TT, AA, ()) (Btw lo hi) ∧ w4.heap.size ≤ lo ∧ lo ≤ hi ∧ hi ≤ W9.heap.size ∧ (b8 < lo ∨ hi ≤ b8)) from ⟨ho, hol, hlh, hhi, Or.inl (Nat.lt_of_lt_of_le H8.out.1.2 hlo)⟩)) | (have HO9 := (show Hid (Own W9 shLatest [.string V, .int .i64 TT, .int .i64 AA] (V, TT, AA, ()) (Btw lo hi) ∧ w4.heap.size ≤ lo ∧ lo ≤ hi ∧ hi ≤ W9.heap.size) from ⟨ho, hol, hlh, hhi⟩)))
      have HD := (show Hid (Bx W9 w.heap.size [.string lv, .int .i64 lt, .int .i64 la] ∧ Bx W9 (w.heap.size + 1) [.string mv, .int .i64 mt, .int .i64 ma] ∧ Below w4.heap.size w4 W9) from ⟨HD.out.1.next hb, HD.out.2.1.next hb, below_next HD.out.2.2 hb⟩)
      (first | (have H8 := (show Hid (Bx W9 b8 [.string ⟨#[]⟩, .int .i64 0, .int .i64 0] ∧ w4.heap.size ≤ b8) from ⟨H8.out.1.next hb, H8.out.2⟩)) | skip)
      clear ho hlo hlh hhi hol hb hT
      refine hK.out _ _ ⟨HD.out.1, HD.out.2.1⟩ (fun hHeld => ?_)
      clear hK KC
      refine take_v (v := ?_) 5 ⟨some 20, Op.move (Operand.tmp 25), _, _, _, none⟩ rfl (fun _ _ _ h => h) ?_ hHeld ?_
      rotate_left
      · (intro W _; go_simp <;> (try with_reducible rfl))
      refine take_v (v := ?_) 6 ⟨some 26, Op.extract (Operand.tmp 20) 0, _, _, _, none⟩ rfl (fun _ _ _ h => h) ?_ hHeld ?_
      rotate_left
      · (intro W _; go_simp <;> (try with_reducible rfl))
      refine take_v (v := ?_) 7 ⟨some 27, Op.extract (Operand.tmp 20) 1, _, _, _, none⟩ rfl (fun _ _ _ h => h) ?_ hHeld ?_
      rotate_left
      · (intro W _; go_simp <;> (try with_reducible rfl))
      refine ready_call 9 ⟨none, Op.store 39 (Operand.tmp 6) (Operand.tmp 26), _, _, _, none⟩ (by kernel_rfl) rfl (by kernel_rfl) (fun KC hK => ?_)
      have dz := H8.out.1.2
      have d0 := H8.out.1.cell 0 rfl
      have d1 := H8.out.1.cell 1 rfl
      have d2 := H8.out.1.cell 2 rfl
      have f0 := H8.out.1.frz 0 (by simp)
      have f1 := H8.out.1.frz 1 (by simp)
      have f2 := H8.out.1.frz 2 (by simp)
      have h8 := H8.out.2
      go_wp2_with fail
      have HF := Hid.intro (box_own3 (o := w4) H8.out.1 H8.out.2 HO9.out.1 HO9.out.2.2.2.2 HD.out.2.2 (.string V) (.int .i64 TT) (.int .i64 AA))
      clear dz d0 f0 d1 f1 d2 f2
      refine hK.out _ _ ⟨(((HD.out.1.other (by omega)).other (by omega)).other (by omega)), (((HD.out.2.1.other (by omega)).other (by omega)).other (by omega))⟩ (fun hHeld => ?_)
      clear hK KC
      refine take_v (v := ?_) 10 ⟨some 7, Op.assign (Operand.tmp 27), _, _, _, none⟩ rfl (fun _ _ _ h => h) ?_ hHeld ?_
      rotate_left
      · (intro W _; go_simp <;> (try with_reducible rfl))
      refine wpAnyH_done (by kernel_rfl) ?_ _
      refine NoPanic.normal ?_
      clear hHeld
      go_wp2_with fail
      go_meet
      exact ⟨b8, lo, hi, rfl, rfl, HF.out.1, HF.out.2.1, HO9.out.2.1, HO9.out.2.2.1, by rw [HF.out.2.2.2]; exact HO9.out.2.2.2.1, H8.out.2, by rw [HF.out.2.2.2]; exact H8.out.1.2, HO9.out.2.2.2.2, HF.out.2.2.1⟩
  obtain ⟨b5, lo5, hi5, rfl, rfl, hbx, ho, hlo5, hlh5, hhi5, hbo5, hbb5, hbd5, hb⟩ := hcut
  obtain ⟨w5, hwd⟩ : ∃ x, x = wc := ⟨_, rfl⟩
  subst hwd
  have HB5 : Hid (Below w.heap.size w w5) := below_next HB4.out hb
  have sz5 : w4.heap.size ≤ w5.heap.size := hb.size
  have A0_5 : Hid (Bx w5 w.heap.size [.string lv, .int .i64 lt, .int .i64 la]) := A0_4.out.next hb
  have A1_5 : Hid (Bx w5 (w.heap.size + 1) [.string mv, .int .i64 mt, .int .i64 ma]) := A1_4.out.next hb
  have W_5 : Hid (Bx w5 b5 [.string V, .int .i64 TT, .int .i64 AA]) := hbx
  have SP_5 : Hid (Own w5 shLatest [.string V, .int .i64 TT, .int .i64 AA] (V, TT, AA, ()) (Btw lo5 hi5)) := ho
  clear hb hbx ho A0_4 A1_4 HB4
  go_upto_region 9 with fail
  go_cut [8, 9] (fun s8 s9 wx => ∃ (b : Nat)  (lo hi : Nat), s8 = .pointer (some ⟨b, 0, none⟩) ∧ s9 = .bool z ∧ Bx wx b [.string V, .int .i64 TT, .int .i64 AA] ∧ Own wx shLatest [.string V, .int .i64 TT, .int .i64 AA] (V, TT, AA, ()) (Btw lo hi) ∧ w5.heap.size ≤ lo ∧ lo ≤ hi ∧ hi ≤ wx.heap.size ∧ w5.heap.size ≤ b ∧ b < wx.heap.size ∧ (b < lo ∨ hi ≤ b) ∧ Below w5.heap.size w5 wx)
  case first =>
    have hb : Below w5.heap.size w5 w5.drew := below_drew _
    have HD : Hid (Bx w5.drew w.heap.size [.string lv, .int .i64 lt, .int .i64 la] ∧ Bx w5.drew (w.heap.size + 1) [.string mv, .int .i64 mt, .int .i64 ma] ∧ Below w5.heap.size w5 w5.drew) := ⟨A0_5.out.next hb, A1_5.out.next hb, hb⟩
    clear hb
    refine wp_region_noPanic ?_
    refine wp_region_held_drew (S := fun W => Bx W w.heap.size [.string lv, .int .i64 lt, .int .i64 la] ∧ Bx W (w.heap.size + 1) [.string mv, .int .i64 mt, .int .i64 ma]) (by kernel_rfl) ⟨HD.out.1, HD.out.2.1⟩ (fun hHeld => ?_)
    obtain ⟨X0, hX0⟩ : ∃ x, x = w5.drew := ⟨_, rfl⟩
    rw [← hX0] at HD hHeld ⊢
    clear hX0
    refine take_v (v := ?_) 0 ⟨some 29, Op.load 70 (Operand.tmp 2), _, _, _, none⟩ rfl (fun _ _ _ h => h) ?_ hHeld ?_
    rotate_left
    · (intro W hSW; (have s0_0 := hSW.1.cell 0 rfl; have s0_1 := hSW.1.cell 1 rfl; have s0_2 := hSW.1.cell 2 rfl; have s0z := hSW.1.2; have s1_0 := hSW.2.cell 0 rfl; have s1_1 := hSW.2.cell 1 rfl; have s1_2 := hSW.2.cell 2 rfl; have s1z := hSW.2.2); go_simp <;> (try with_reducible rfl))
    refine take_v (v := ?_) 2 ⟨some 31, Op.load 70 (Operand.tmp 3), _, _, _, none⟩ rfl (fun _ _ _ h => h) ?_ hHeld ?_
    rotate_left
    · (intro W hSW; (have s0_0 := hSW.1.cell 0 rfl; have s0_1 := hSW.1.cell 1 rfl; have s0_2 := hSW.1.cell 2 rfl; have s0z := hSW.1.2; have s1_0 := hSW.2.cell 0 rfl; have s1_1 := hSW.2.cell 1 rfl; have s1_2 := hSW.2.cell 2 rfl; have s1z := hSW.2.2); go_simp <;> (try with_reducible rfl))
    refine ready_two 1 8 ⟨some 30, Op.call { callee := Callee.value (Operand.func 48), args := #[Operand.tmp 29], argTypes := #[70] }, _, _, _, none⟩ ⟨some 8, Op.alloc 39, _, _, _, none⟩ (by kernel_rfl) rfl rfl (by kernel_rfl) (by kernel_rfl) (fun KC hK => ?_) (fun KC hK => ?_)
    ·
      go_wp2_with fail
      refine (toLatest_n [.string lv, .int .i64 lt, .int .i64 la] lv lt la _ HS0.out (HL0.out.next (below_next HB5.out HD.out.2.2))).mono ?_
      rintro r W1 ⟨cs9, rfl, ho, hb⟩
      obtain hev := own_Latest ho
      subst hev
      (first | (have HO1 := Hid.intro (HO1.out.next hb)) | skip); (first | (have HO2 := Hid.intro (HO2.out.next hb)) | skip)
      have HO1 := Hid.intro ho.lies
      have HD := (show Hid (Bx W1 w.heap.size [.string lv, .int .i64 lt, .int .i64 la] ∧ Bx W1 (w.heap.size + 1) [.string mv, .int .i64 mt, .int .i64 ma] ∧ Below w5.heap.size w5 W1) from ⟨HD.out.1.next hb, HD.out.2.1.next hb, below_next HD.out.2.2 hb⟩)
      (first | (have H8 := (show Hid (Bx W1 b8 [.string ⟨#[]⟩, .int .i64 0, .int .i64 0] ∧ w5.heap.size ≤ b8) from ⟨H8.out.1.next hb, H8.out.2⟩)) | skip)
      clear ho hb
      refine hK.out _ _ ⟨HD.out.1, HD.out.2.1⟩ (fun hHeld => ?_)
      clear hK KC
      refine ready_two 3 8 ⟨some 32, Op.call { callee := Callee.value (Operand.func 48), args := #[Operand.tmp 31], argTypes := #[70] }, _, _, _, none⟩ ⟨some 8, Op.alloc 39, _, _, _, none⟩ (by kernel_rfl) rfl rfl (by kernel_rfl) (by kernel_rfl) (fun KC hK => ?_) (fun KC hK => ?_)
      ·
        go_wp2_with fail
        refine (toLatest_n [.string mv, .int .i64 mt, .int .i64 ma] mv mt ma _ HS1.out (HL1.out.next (below_next HB5.out HD.out.2.2))).mono ?_
        rintro r W2 ⟨cs9, rfl, ho, hb⟩
        obtain hev := own_Latest ho
        subst hev
        (first | (have HO1 := Hid.intro (HO1.out.next hb)) | skip); (first | (have HO2 := Hid.intro (HO2.out.next hb)) | skip)
        have HO2 := Hid.intro ho.lies
        have HD := (show Hid (Bx W2 w.heap.size [.string lv, .int .i64 lt, .int .i64 la] ∧ Bx W2 (w.heap.size + 1) [.string mv, .int .i64 mt, .int .i64 ma] ∧ Below w5.heap.size w5 W2) from ⟨HD.out.1.next hb, HD.out.2.1.next hb, below_next HD.out.2.2 hb⟩)
        (first | (have H8 := (show Hid (Bx W2 b8 [.string ⟨#[]⟩, .int .i64 0, .int .i64 0] ∧ w5.heap.size ≤ b8) from ⟨H8.out.1.next hb, H8.out.2⟩)) | skip)
        clear ho hb
        refine hK.out _ _ ⟨HD.out.1, HD.out.2.1⟩ (fun hHeld => ?_)
        clear hK KC
        refine ready_two 4 8 ⟨some 33, Op.call { callee := Callee.value (Operand.func 26), args := #[Operand.tmp 30, Operand.tmp 32], argTypes := #[39, 39] }, _, _, _, none⟩ ⟨some 8, Op.alloc 39, _, _, _, none⟩ (by kernel_rfl) rfl rfl (by kernel_rfl) (by kernel_rfl) (fun KC hK => ?_) (fun KC hK => ?_)
        ·
          go_wp2_with fail
          refine (mergeLatest_l lv lt la mv mt ma _ V TT AA z HA.out HS0.out HS1.out).mono ?_
          intro r W9 hT
          obtain ⟨cs9, lo, hi, rfl, ho, hlo, hlh, hhi, hb⟩ := ansG_out hT
          obtain hev := own_Latest ho
          subst hev
          have hol : w5.heap.size ≤ lo := Nat.le_trans HD.out.2.2.size hlo
          (first | (have HO9 := (show Hid (Own W9 shLatest [.string V, .int .i64 TT, .int .i64 AA] (V, TT, AA, ()) (Btw lo hi) ∧ w5.heap.size ≤ lo ∧ lo ≤ hi ∧ hi ≤ W9.heap.size ∧ (b8 < lo ∨ hi ≤ b8)) from ⟨ho, hol, hlh, hhi, Or.inl (Nat.lt_of_lt_of_le H8.out.1.2 hlo)⟩)) | (have HO9 := (show Hid (Own W9 shLatest [.string V, .int .i64 TT, .int .i64 AA] (V, TT, AA, ()) (Btw lo hi) ∧ w5.heap.size ≤ lo ∧ lo ≤ hi ∧ hi ≤ W9.heap.size) from ⟨ho, hol, hlh, hhi⟩)))
          have HD := (show Hid (Bx W9 w.heap.size [.string lv, .int .i64 lt, .int .i64 la] ∧ Bx W9 (w.heap.size + 1) [.string mv, .int .i64 mt, .int .i64 ma] ∧ Below w5.heap.size w5 W9) from ⟨HD.out.1.next hb, HD.out.2.1.next hb, below_next HD.out.2.2 hb⟩)
          (first | (have H8 := (show Hid (Bx W9 b8 [.string ⟨#[]⟩, .int .i64 0, .int .i64 0] ∧ w5.heap.size ≤ b8) from ⟨H8.out.1.next hb, H8.out.2⟩)) | skip)
          clear ho hlo hlh hhi hol hb hT
          refine hK.out _ _ ⟨HD.out.1, HD.out.2.1⟩ (fun hHeld => ?_)
          clear hK KC
          refine take_v (v := ?_) 5 ⟨some 28, Op.move (Operand.tmp 33), _, _, _, none⟩ rfl (fun _ _ _ h => h) ?_ hHeld ?_
          rotate_left
          · (intro W _; go_simp <;> (try with_reducible rfl))
          refine take_v (v := ?_) 6 ⟨some 34, Op.extract (Operand.tmp 28) 0, _, _, _, none⟩ rfl (fun _ _ _ h => h) ?_ hHeld ?_
          rotate_left
          · (intro W _; go_simp <;> (try with_reducible rfl))
          refine take_v (v := ?_) 7 ⟨some 35, Op.extract (Operand.tmp 28) 1, _, _, _, none⟩ rfl (fun _ _ _ h => h) ?_ hHeld ?_
          rotate_left
          · (intro W _; go_simp <;> (try with_reducible rfl))
          refine ready_call 8 ⟨some 8, Op.alloc 39, _, _, _, none⟩ (by kernel_rfl) rfl (by kernel_rfl) (fun KC hK => ?_)
          go_wp2_with fail
          (first | (obtain ⟨W8, hW8⟩ : ∃ x, x = W9.alloc (.cells #[.string ⟨#[]⟩, .int .i64 0, .int .i64 0] 39) := ⟨_, rfl⟩; have hb : Below W9.heap.size W9 W8 := hW8 ▸ Go.Joins.below_alloc1 _ _; obtain ⟨b8, hb8⟩ : ∃ b, b = W9.heap.size := ⟨_, rfl⟩; have H8 : Hid (Bx W8 b8 [.string ⟨#[]⟩, .int .i64 0, .int .i64 0] ∧ w5.heap.size ≤ b8) := ⟨hb8 ▸ hW8 ▸ Bx.new W9 [.string ⟨#[]⟩, .int .i64 0, .int .i64 0] _, by rw [hb8]; exact HD.out.2.2.size⟩; have HO9 := (show Hid (Own W8 shLatest [.string V, .int .i64 TT, .int .i64 AA] (V, TT, AA, ()) (Btw lo hi) ∧ w5.heap.size ≤ lo ∧ lo ≤ hi ∧ hi ≤ W8.heap.size ∧ (b8 < lo ∨ hi ≤ b8)) from ⟨HO9.out.1.next hb, HO9.out.2.1, HO9.out.2.2.1, Nat.le_trans HO9.out.2.2.2 hb.size, Or.inr (by rw [hb8]; exact HO9.out.2.2.2)⟩); have HD := (show Hid (Bx W8 w.heap.size [.string lv, .int .i64 lt, .int .i64 la] ∧ Bx W8 (w.heap.size + 1) [.string mv, .int .i64 mt, .int .i64 ma] ∧ Below w5.heap.size w5 W8) from ⟨HD.out.1.next hb, HD.out.2.1.next hb, below_next HD.out.2.2 hb⟩); rw [← hW8, ← hb8]; clear hW8 hb8 hb) | (obtain ⟨W8, hW8⟩ : ∃ x, x = W2.alloc (.cells #[.string ⟨#[]⟩, .int .i64 0, .int .i64 0] 39) := ⟨_, rfl⟩; have hb : Below W2.heap.size W2 W8 := hW8 ▸ Go.Joins.below_alloc1 _ _; obtain ⟨b8, hb8⟩ : ∃ b, b = W2.heap.size := ⟨_, rfl⟩; have H8 : Hid (Bx W8 b8 [.string ⟨#[]⟩, .int .i64 0, .int .i64 0] ∧ w5.heap.size ≤ b8) := ⟨hb8 ▸ hW8 ▸ Bx.new W2 [.string ⟨#[]⟩, .int .i64 0, .int .i64 0] _, by rw [hb8]; exact HD.out.2.2.size⟩; (first | (have HO1 := Hid.intro (HO1.out.next hb)) | skip); (first | (have HO2 := Hid.intro (HO2.out.next hb)) | skip); have HD := (show Hid (Bx W8 w.heap.size [.string lv, .int .i64 lt, .int .i64 la] ∧ Bx W8 (w.heap.size + 1) [.string mv, .int .i64 mt, .int .i64 ma] ∧ Below w5.heap.size w5 W8) from ⟨HD.out.1.next hb, HD.out.2.1.next hb, below_next HD.out.2.2 hb⟩); rw [← hW8, ← hb8]; clear hW8 hb8 hb) | (obtain ⟨W8, hW8⟩ : ∃ x, x = W1.alloc (.cells #[.string ⟨#[]⟩, .int .i64 0, .int .i64 0] 39) := ⟨_, rfl⟩; have hb : Below W1.heap.size W1 W8 := hW8 ▸ Go.Joins.below_alloc1 _ _; obtain ⟨b8, hb8⟩ : ∃ b, b = W1.heap.size := ⟨_, rfl⟩; have H8 : Hid (Bx W8 b8 [.string ⟨#[]⟩, .int .i64 0, .int .i64 0] ∧ w5.heap.size ≤ b8) := ⟨hb8 ▸ hW8 ▸ Bx.new W1 [.string ⟨#[]⟩, .int .i64 0, .int .i64 0] _, by rw [hb8]; exact HD.out.2.2.size⟩; (first | (have HO1 := Hid.intro (HO1.out.next hb)) | skip); (first | (have HO2 := Hid.intro (HO2.out.next hb)) | skip); have HD := (show Hid (Bx W8 w.heap.size [.string lv, .int .i64 lt, .int .i64 la] ∧ Bx W8 (w.heap.size + 1) [.string mv, .int .i64 mt, .int .i64 ma] ∧ Below w5.heap.size w5 W8) from ⟨HD.out.1.next hb, HD.out.2.1.next hb, below_next HD.out.2.2 hb⟩); rw [← hW8, ← hb8]; clear hW8 hb8 hb) | (obtain ⟨W8, hW8⟩ : ∃ x, x = X0.alloc (.cells #[.string ⟨#[]⟩, .int .i64 0, .int .i64 0] 39) := ⟨_, rfl⟩; have hb : Below X0.heap.size X0 W8 := hW8 ▸ Go.Joins.below_alloc1 _ _; obtain ⟨b8, hb8⟩ : ∃ b, b = X0.heap.size := ⟨_, rfl⟩; have H8 : Hid (Bx W8 b8 [.string ⟨#[]⟩, .int .i64 0, .int .i64 0] ∧ w5.heap.size ≤ b8) := ⟨hb8 ▸ hW8 ▸ Bx.new X0 [.string ⟨#[]⟩, .int .i64 0, .int .i64 0] _, by rw [hb8]; exact HD.out.2.2.size⟩; (first | (have HO1 := Hid.intro (HO1.out.next hb)) | skip); (first | (have HO2 := Hid.intro (HO2.out.next hb)) | skip); have HD := (show Hid (Bx W8 w.heap.size [.string lv, .int .i64 lt, .int .i64 la] ∧ Bx W8 (w.heap.size + 1) [.string mv, .int .i64 mt, .int .i64 ma] ∧ Below w5.heap.size w5 W8) from ⟨HD.out.1.next hb, HD.out.2.1.next hb, below_next HD.out.2.2 hb⟩); rw [← hW8, ← hb8]; clear hW8 hb8 hb))
          refine hK.out _ _ ⟨HD.out.1, HD.out.2.1⟩ (fun hHeld => ?_)
          clear hK KC
          refine ready_call 9 ⟨none, Op.store 39 (Operand.tmp 8) (Operand.tmp 34), _, _, _, none⟩ (by kernel_rfl) rfl (by kernel_rfl) (fun KC hK => ?_)
          have dz := H8.out.1.2
          have d0 := H8.out.1.cell 0 rfl
          have d1 := H8.out.1.cell 1 rfl
          have d2 := H8.out.1.cell 2 rfl
          have f0 := H8.out.1.frz 0 (by simp)
          have f1 := H8.out.1.frz 1 (by simp)
          have f2 := H8.out.1.frz 2 (by simp)
          have h8 := H8.out.2
          go_wp2_with fail
          have HF := Hid.intro (box_own3 (o := w5) H8.out.1 H8.out.2 HO9.out.1 HO9.out.2.2.2.2 HD.out.2.2 (.string V) (.int .i64 TT) (.int .i64 AA))
          clear dz d0 f0 d1 f1 d2 f2
          refine hK.out _ _ ⟨(((HD.out.1.other (by omega)).other (by omega)).other (by omega)), (((HD.out.2.1.other (by omega)).other (by omega)).other (by omega))⟩ (fun hHeld => ?_)
          clear hK KC
          refine take_v (v := ?_) 10 ⟨some 9, Op.assign (Operand.tmp 35), _, _, _, none⟩ rfl (fun _ _ _ h => h) ?_ hHeld ?_
          rotate_left
          · (intro W _; go_simp <;> (try with_reducible rfl))
          refine wpAnyH_done (by kernel_rfl) ?_ _
          refine NoPanic.normal ?_
          clear hHeld
          go_wp2_with fail
          go_meet
          exact ⟨b8, lo, hi, rfl, rfl, HF.out.1, HF.out.2.1, HO9.out.2.1, HO9.out.2.2.1, by rw [HF.out.2.2.2]; exact HO9.out.2.2.2.1, H8.out.2, by rw [HF.out.2.2.2]; exact H8.out.1.2, HO9.out.2.2.2.2, HF.out.2.2.1⟩
        ·
          go_wp2_with fail
          (first | (obtain ⟨W8, hW8⟩ : ∃ x, x = W9.alloc (.cells #[.string ⟨#[]⟩, .int .i64 0, .int .i64 0] 39) := ⟨_, rfl⟩; have hb : Below W9.heap.size W9 W8 := hW8 ▸ Go.Joins.below_alloc1 _ _; obtain ⟨b8, hb8⟩ : ∃ b, b = W9.heap.size := ⟨_, rfl⟩; have H8 : Hid (Bx W8 b8 [.string ⟨#[]⟩, .int .i64 0, .int .i64 0] ∧ w5.heap.size ≤ b8) := ⟨hb8 ▸ hW8 ▸ Bx.new W9 [.string ⟨#[]⟩, .int .i64 0, .int .i64 0] _, by rw [hb8]; exact HD.out.2.2.size⟩; have HO9 := (show Hid (Own W8 shLatest [.string V, .int .i64 TT, .int .i64 AA] (V, TT, AA, ()) (Btw lo hi) ∧ w5.heap.size ≤ lo ∧ lo ≤ hi ∧ hi ≤ W8.heap.size ∧ (b8 < lo ∨ hi ≤ b8)) from ⟨HO9.out.1.next hb, HO9.out.2.1, HO9.out.2.2.1, Nat.le_trans HO9.out.2.2.2 hb.size, Or.inr (by rw [hb8]; exact HO9.out.2.2.2)⟩); have HD := (show Hid (Bx W8 w.heap.size [.string lv, .int .i64 lt, .int .i64 la] ∧ Bx W8 (w.heap.size + 1) [.string mv, .int .i64 mt, .int .i64 ma] ∧ Below w5.heap.size w5 W8) from ⟨HD.out.1.next hb, HD.out.2.1.next hb, below_next HD.out.2.2 hb⟩); rw [← hW8, ← hb8]; clear hW8 hb8 hb) | (obtain ⟨W8, hW8⟩ : ∃ x, x = W2.alloc (.cells #[.string ⟨#[]⟩, .int .i64 0, .int .i64 0] 39) := ⟨_, rfl⟩; have hb : Below W2.heap.size W2 W8 := hW8 ▸ Go.Joins.below_alloc1 _ _; obtain ⟨b8, hb8⟩ : ∃ b, b = W2.heap.size := ⟨_, rfl⟩; have H8 : Hid (Bx W8 b8 [.string ⟨#[]⟩, .int .i64 0, .int .i64 0] ∧ w5.heap.size ≤ b8) := ⟨hb8 ▸ hW8 ▸ Bx.new W2 [.string ⟨#[]⟩, .int .i64 0, .int .i64 0] _, by rw [hb8]; exact HD.out.2.2.size⟩; (first | (have HO1 := Hid.intro (HO1.out.next hb)) | skip); (first | (have HO2 := Hid.intro (HO2.out.next hb)) | skip); have HD := (show Hid (Bx W8 w.heap.size [.string lv, .int .i64 lt, .int .i64 la] ∧ Bx W8 (w.heap.size + 1) [.string mv, .int .i64 mt, .int .i64 ma] ∧ Below w5.heap.size w5 W8) from ⟨HD.out.1.next hb, HD.out.2.1.next hb, below_next HD.out.2.2 hb⟩); rw [← hW8, ← hb8]; clear hW8 hb8 hb) | (obtain ⟨W8, hW8⟩ : ∃ x, x = W1.alloc (.cells #[.string ⟨#[]⟩, .int .i64 0, .int .i64 0] 39) := ⟨_, rfl⟩; have hb : Below W1.heap.size W1 W8 := hW8 ▸ Go.Joins.below_alloc1 _ _; obtain ⟨b8, hb8⟩ : ∃ b, b = W1.heap.size := ⟨_, rfl⟩; have H8 : Hid (Bx W8 b8 [.string ⟨#[]⟩, .int .i64 0, .int .i64 0] ∧ w5.heap.size ≤ b8) := ⟨hb8 ▸ hW8 ▸ Bx.new W1 [.string ⟨#[]⟩, .int .i64 0, .int .i64 0] _, by rw [hb8]; exact HD.out.2.2.size⟩; (first | (have HO1 := Hid.intro (HO1.out.next hb)) | skip); (first | (have HO2 := Hid.intro (HO2.out.next hb)) | skip); have HD := (show Hid (Bx W8 w.heap.size [.string lv, .int .i64 lt, .int .i64 la] ∧ Bx W8 (w.heap.size + 1) [.string mv, .int .i64 mt, .int .i64 ma] ∧ Below w5.heap.size w5 W8) from ⟨HD.out.1.next hb, HD.out.2.1.next hb, below_next HD.out.2.2 hb⟩); rw [← hW8, ← hb8]; clear hW8 hb8 hb) | (obtain ⟨W8, hW8⟩ : ∃ x, x = X0.alloc (.cells #[.string ⟨#[]⟩, .int .i64 0, .int .i64 0] 39) := ⟨_, rfl⟩; have hb : Below X0.heap.size X0 W8 := hW8 ▸ Go.Joins.below_alloc1 _ _; obtain ⟨b8, hb8⟩ : ∃ b, b = X0.heap.size := ⟨_, rfl⟩; have H8 : Hid (Bx W8 b8 [.string ⟨#[]⟩, .int .i64 0, .int .i64 0] ∧ w5.heap.size ≤ b8) := ⟨hb8 ▸ hW8 ▸ Bx.new X0 [.string ⟨#[]⟩, .int .i64 0, .int .i64 0] _, by rw [hb8]; exact HD.out.2.2.size⟩; (first | (have HO1 := Hid.intro (HO1.out.next hb)) | skip); (first | (have HO2 := Hid.intro (HO2.out.next hb)) | skip); have HD := (show Hid (Bx W8 w.heap.size [.string lv, .int .i64 lt, .int .i64 la] ∧ Bx W8 (w.heap.size + 1) [.string mv, .int .i64 mt, .int .i64 ma] ∧ Below w5.heap.size w5 W8) from ⟨HD.out.1.next hb, HD.out.2.1.next hb, below_next HD.out.2.2 hb⟩); rw [← hW8, ← hb8]; clear hW8 hb8 hb))
          refine hK.out _ _ ⟨HD.out.1, HD.out.2.1⟩ (fun hHeld => ?_)
          clear hK KC
          refine ready_call 4 ⟨some 33, Op.call { callee := Callee.value (Operand.func 26), args := #[Operand.tmp 30, Operand.tmp 32], argTypes := #[39, 39] }, _, _, _, none⟩ (by kernel_rfl) rfl (by kernel_rfl) (fun KC hK => ?_)
          go_wp2_with fail
          refine (mergeLatest_l lv lt la mv mt ma _ V TT AA z HA.out HS0.out HS1.out).mono ?_
          intro r W9 hT
          obtain ⟨cs9, lo, hi, rfl, ho, hlo, hlh, hhi, hb⟩ := ansG_out hT
          obtain hev := own_Latest ho
          subst hev
          have hol : w5.heap.size ≤ lo := Nat.le_trans HD.out.2.2.size hlo
          (first | (have HO9 := (show Hid (Own W9 shLatest [.string V, .int .i64 TT, .int .i64 AA] (V, TT, AA, ()) (Btw lo hi) ∧ w5.heap.size ≤ lo ∧ lo ≤ hi ∧ hi ≤ W9.heap.size ∧ (b8 < lo ∨ hi ≤ b8)) from ⟨ho, hol, hlh, hhi, Or.inl (Nat.lt_of_lt_of_le H8.out.1.2 hlo)⟩)) | (have HO9 := (show Hid (Own W9 shLatest [.string V, .int .i64 TT, .int .i64 AA] (V, TT, AA, ()) (Btw lo hi) ∧ w5.heap.size ≤ lo ∧ lo ≤ hi ∧ hi ≤ W9.heap.size) from ⟨ho, hol, hlh, hhi⟩)))
          have HD := (show Hid (Bx W9 w.heap.size [.string lv, .int .i64 lt, .int .i64 la] ∧ Bx W9 (w.heap.size + 1) [.string mv, .int .i64 mt, .int .i64 ma] ∧ Below w5.heap.size w5 W9) from ⟨HD.out.1.next hb, HD.out.2.1.next hb, below_next HD.out.2.2 hb⟩)
          (first | (have H8 := (show Hid (Bx W9 b8 [.string ⟨#[]⟩, .int .i64 0, .int .i64 0] ∧ w5.heap.size ≤ b8) from ⟨H8.out.1.next hb, H8.out.2⟩)) | skip)
          clear ho hlo hlh hhi hol hb hT
          refine hK.out _ _ ⟨HD.out.1, HD.out.2.1⟩ (fun hHeld => ?_)
          clear hK KC
          refine take_v (v := ?_) 5 ⟨some 28, Op.move (Operand.tmp 33), _, _, _, none⟩ rfl (fun _ _ _ h => h) ?_ hHeld ?_
          rotate_left
          · (intro W _; go_simp <;> (try with_reducible rfl))
          refine take_v (v := ?_) 6 ⟨some 34, Op.extract (Operand.tmp 28) 0, _, _, _, none⟩ rfl (fun _ _ _ h => h) ?_ hHeld ?_
          rotate_left
          · (intro W _; go_simp <;> (try with_reducible rfl))
          refine take_v (v := ?_) 7 ⟨some 35, Op.extract (Operand.tmp 28) 1, _, _, _, none⟩ rfl (fun _ _ _ h => h) ?_ hHeld ?_
          rotate_left
          · (intro W _; go_simp <;> (try with_reducible rfl))
          refine ready_call 9 ⟨none, Op.store 39 (Operand.tmp 8) (Operand.tmp 34), _, _, _, none⟩ (by kernel_rfl) rfl (by kernel_rfl) (fun KC hK => ?_)
          have dz := H8.out.1.2
          have d0 := H8.out.1.cell 0 rfl
          have d1 := H8.out.1.cell 1 rfl
          have d2 := H8.out.1.cell 2 rfl
          have f0 := H8.out.1.frz 0 (by simp)
          have f1 := H8.out.1.frz 1 (by simp)
          have f2 := H8.out.1.frz 2 (by simp)
          have h8 := H8.out.2
          go_wp2_with fail
          have HF := Hid.intro (box_own3 (o := w5) H8.out.1 H8.out.2 HO9.out.1 HO9.out.2.2.2.2 HD.out.2.2 (.string V) (.int .i64 TT) (.int .i64 AA))
          clear dz d0 f0 d1 f1 d2 f2
          refine hK.out _ _ ⟨(((HD.out.1.other (by omega)).other (by omega)).other (by omega)), (((HD.out.2.1.other (by omega)).other (by omega)).other (by omega))⟩ (fun hHeld => ?_)
          clear hK KC
          refine take_v (v := ?_) 10 ⟨some 9, Op.assign (Operand.tmp 35), _, _, _, none⟩ rfl (fun _ _ _ h => h) ?_ hHeld ?_
          rotate_left
          · (intro W _; go_simp <;> (try with_reducible rfl))
          refine wpAnyH_done (by kernel_rfl) ?_ _
          refine NoPanic.normal ?_
          clear hHeld
          go_wp2_with fail
          go_meet
          exact ⟨b8, lo, hi, rfl, rfl, HF.out.1, HF.out.2.1, HO9.out.2.1, HO9.out.2.2.1, by rw [HF.out.2.2.2]; exact HO9.out.2.2.2.1, H8.out.2, by rw [HF.out.2.2.2]; exact H8.out.1.2, HO9.out.2.2.2.2, HF.out.2.2.1⟩
      ·
        go_wp2_with fail
        (first | (obtain ⟨W8, hW8⟩ : ∃ x, x = W9.alloc (.cells #[.string ⟨#[]⟩, .int .i64 0, .int .i64 0] 39) := ⟨_, rfl⟩; have hb : Below W9.heap.size W9 W8 := hW8 ▸ Go.Joins.below_alloc1 _ _; obtain ⟨b8, hb8⟩ : ∃ b, b = W9.heap.size := ⟨_, rfl⟩; have H8 : Hid (Bx W8 b8 [.string ⟨#[]⟩, .int .i64 0, .int .i64 0] ∧ w5.heap.size ≤ b8) := ⟨hb8 ▸ hW8 ▸ Bx.new W9 [.string ⟨#[]⟩, .int .i64 0, .int .i64 0] _, by rw [hb8]; exact HD.out.2.2.size⟩; have HO9 := (show Hid (Own W8 shLatest [.string V, .int .i64 TT, .int .i64 AA] (V, TT, AA, ()) (Btw lo hi) ∧ w5.heap.size ≤ lo ∧ lo ≤ hi ∧ hi ≤ W8.heap.size ∧ (b8 < lo ∨ hi ≤ b8)) from ⟨HO9.out.1.next hb, HO9.out.2.1, HO9.out.2.2.1, Nat.le_trans HO9.out.2.2.2 hb.size, Or.inr (by rw [hb8]; exact HO9.out.2.2.2)⟩); have HD := (show Hid (Bx W8 w.heap.size [.string lv, .int .i64 lt, .int .i64 la] ∧ Bx W8 (w.heap.size + 1) [.string mv, .int .i64 mt, .int .i64 ma] ∧ Below w5.heap.size w5 W8) from ⟨HD.out.1.next hb, HD.out.2.1.next hb, below_next HD.out.2.2 hb⟩); rw [← hW8, ← hb8]; clear hW8 hb8 hb) | (obtain ⟨W8, hW8⟩ : ∃ x, x = W2.alloc (.cells #[.string ⟨#[]⟩, .int .i64 0, .int .i64 0] 39) := ⟨_, rfl⟩; have hb : Below W2.heap.size W2 W8 := hW8 ▸ Go.Joins.below_alloc1 _ _; obtain ⟨b8, hb8⟩ : ∃ b, b = W2.heap.size := ⟨_, rfl⟩; have H8 : Hid (Bx W8 b8 [.string ⟨#[]⟩, .int .i64 0, .int .i64 0] ∧ w5.heap.size ≤ b8) := ⟨hb8 ▸ hW8 ▸ Bx.new W2 [.string ⟨#[]⟩, .int .i64 0, .int .i64 0] _, by rw [hb8]; exact HD.out.2.2.size⟩; (first | (have HO1 := Hid.intro (HO1.out.next hb)) | skip); (first | (have HO2 := Hid.intro (HO2.out.next hb)) | skip); have HD := (show Hid (Bx W8 w.heap.size [.string lv, .int .i64 lt, .int .i64 la] ∧ Bx W8 (w.heap.size + 1) [.string mv, .int .i64 mt, .int .i64 ma] ∧ Below w5.heap.size w5 W8) from ⟨HD.out.1.next hb, HD.out.2.1.next hb, below_next HD.out.2.2 hb⟩); rw [← hW8, ← hb8]; clear hW8 hb8 hb) | (obtain ⟨W8, hW8⟩ : ∃ x, x = W1.alloc (.cells #[.string ⟨#[]⟩, .int .i64 0, .int .i64 0] 39) := ⟨_, rfl⟩; have hb : Below W1.heap.size W1 W8 := hW8 ▸ Go.Joins.below_alloc1 _ _; obtain ⟨b8, hb8⟩ : ∃ b, b = W1.heap.size := ⟨_, rfl⟩; have H8 : Hid (Bx W8 b8 [.string ⟨#[]⟩, .int .i64 0, .int .i64 0] ∧ w5.heap.size ≤ b8) := ⟨hb8 ▸ hW8 ▸ Bx.new W1 [.string ⟨#[]⟩, .int .i64 0, .int .i64 0] _, by rw [hb8]; exact HD.out.2.2.size⟩; (first | (have HO1 := Hid.intro (HO1.out.next hb)) | skip); (first | (have HO2 := Hid.intro (HO2.out.next hb)) | skip); have HD := (show Hid (Bx W8 w.heap.size [.string lv, .int .i64 lt, .int .i64 la] ∧ Bx W8 (w.heap.size + 1) [.string mv, .int .i64 mt, .int .i64 ma] ∧ Below w5.heap.size w5 W8) from ⟨HD.out.1.next hb, HD.out.2.1.next hb, below_next HD.out.2.2 hb⟩); rw [← hW8, ← hb8]; clear hW8 hb8 hb) | (obtain ⟨W8, hW8⟩ : ∃ x, x = X0.alloc (.cells #[.string ⟨#[]⟩, .int .i64 0, .int .i64 0] 39) := ⟨_, rfl⟩; have hb : Below X0.heap.size X0 W8 := hW8 ▸ Go.Joins.below_alloc1 _ _; obtain ⟨b8, hb8⟩ : ∃ b, b = X0.heap.size := ⟨_, rfl⟩; have H8 : Hid (Bx W8 b8 [.string ⟨#[]⟩, .int .i64 0, .int .i64 0] ∧ w5.heap.size ≤ b8) := ⟨hb8 ▸ hW8 ▸ Bx.new X0 [.string ⟨#[]⟩, .int .i64 0, .int .i64 0] _, by rw [hb8]; exact HD.out.2.2.size⟩; (first | (have HO1 := Hid.intro (HO1.out.next hb)) | skip); (first | (have HO2 := Hid.intro (HO2.out.next hb)) | skip); have HD := (show Hid (Bx W8 w.heap.size [.string lv, .int .i64 lt, .int .i64 la] ∧ Bx W8 (w.heap.size + 1) [.string mv, .int .i64 mt, .int .i64 ma] ∧ Below w5.heap.size w5 W8) from ⟨HD.out.1.next hb, HD.out.2.1.next hb, below_next HD.out.2.2 hb⟩); rw [← hW8, ← hb8]; clear hW8 hb8 hb))
        refine hK.out _ _ ⟨HD.out.1, HD.out.2.1⟩ (fun hHeld => ?_)
        clear hK KC
        refine ready_call 3 ⟨some 32, Op.call { callee := Callee.value (Operand.func 48), args := #[Operand.tmp 31], argTypes := #[70] }, _, _, _, none⟩ (by kernel_rfl) rfl (by kernel_rfl) (fun KC hK => ?_)
        go_wp2_with fail
        refine (toLatest_n [.string mv, .int .i64 mt, .int .i64 ma] mv mt ma _ HS1.out (HL1.out.next (below_next HB5.out HD.out.2.2))).mono ?_
        rintro r W2 ⟨cs9, rfl, ho, hb⟩
        obtain hev := own_Latest ho
        subst hev
        (first | (have HO1 := Hid.intro (HO1.out.next hb)) | skip); (first | (have HO2 := Hid.intro (HO2.out.next hb)) | skip)
        have HO2 := Hid.intro ho.lies
        have HD := (show Hid (Bx W2 w.heap.size [.string lv, .int .i64 lt, .int .i64 la] ∧ Bx W2 (w.heap.size + 1) [.string mv, .int .i64 mt, .int .i64 ma] ∧ Below w5.heap.size w5 W2) from ⟨HD.out.1.next hb, HD.out.2.1.next hb, below_next HD.out.2.2 hb⟩)
        (first | (have H8 := (show Hid (Bx W2 b8 [.string ⟨#[]⟩, .int .i64 0, .int .i64 0] ∧ w5.heap.size ≤ b8) from ⟨H8.out.1.next hb, H8.out.2⟩)) | skip)
        clear ho hb
        refine hK.out _ _ ⟨HD.out.1, HD.out.2.1⟩ (fun hHeld => ?_)
        clear hK KC
        refine ready_call 4 ⟨some 33, Op.call { callee := Callee.value (Operand.func 26), args := #[Operand.tmp 30, Operand.tmp 32], argTypes := #[39, 39] }, _, _, _, none⟩ (by kernel_rfl) rfl (by kernel_rfl) (fun KC hK => ?_)
        go_wp2_with fail
        refine (mergeLatest_l lv lt la mv mt ma _ V TT AA z HA.out HS0.out HS1.out).mono ?_
        intro r W9 hT
        obtain ⟨cs9, lo, hi, rfl, ho, hlo, hlh, hhi, hb⟩ := ansG_out hT
        obtain hev := own_Latest ho
        subst hev
        have hol : w5.heap.size ≤ lo := Nat.le_trans HD.out.2.2.size hlo
        (first | (have HO9 := (show Hid (Own W9 shLatest [.string V, .int .i64 TT, .int .i64 AA] (V, TT, AA, ()) (Btw lo hi) ∧ w5.heap.size ≤ lo ∧ lo ≤ hi ∧ hi ≤ W9.heap.size ∧ (b8 < lo ∨ hi ≤ b8)) from ⟨ho, hol, hlh, hhi, Or.inl (Nat.lt_of_lt_of_le H8.out.1.2 hlo)⟩)) | (have HO9 := (show Hid (Own W9 shLatest [.string V, .int .i64 TT, .int .i64 AA] (V, TT, AA, ()) (Btw lo hi) ∧ w5.heap.size ≤ lo ∧ lo ≤ hi ∧ hi ≤ W9.heap.size) from ⟨ho, hol, hlh, hhi⟩)))
        have HD := (show Hid (Bx W9 w.heap.size [.string lv, .int .i64 lt, .int .i64 la] ∧ Bx W9 (w.heap.size + 1) [.string mv, .int .i64 mt, .int .i64 ma] ∧ Below w5.heap.size w5 W9) from ⟨HD.out.1.next hb, HD.out.2.1.next hb, below_next HD.out.2.2 hb⟩)
        (first | (have H8 := (show Hid (Bx W9 b8 [.string ⟨#[]⟩, .int .i64 0, .int .i64 0] ∧ w5.heap.size ≤ b8) from ⟨H8.out.1.next hb, H8.out.2⟩)) | skip)
        clear ho hlo hlh hhi hol hb hT
        refine hK.out _ _ ⟨HD.out.1, HD.out.2.1⟩ (fun hHeld => ?_)
        clear hK KC
        refine take_v (v := ?_) 5 ⟨some 28, Op.move (Operand.tmp 33), _, _, _, none⟩ rfl (fun _ _ _ h => h) ?_ hHeld ?_
        rotate_left
        · (intro W _; go_simp <;> (try with_reducible rfl))
        refine take_v (v := ?_) 6 ⟨some 34, Op.extract (Operand.tmp 28) 0, _, _, _, none⟩ rfl (fun _ _ _ h => h) ?_ hHeld ?_
        rotate_left
        · (intro W _; go_simp <;> (try with_reducible rfl))
        refine take_v (v := ?_) 7 ⟨some 35, Op.extract (Operand.tmp 28) 1, _, _, _, none⟩ rfl (fun _ _ _ h => h) ?_ hHeld ?_
        rotate_left
        · (intro W _; go_simp <;> (try with_reducible rfl))
        refine ready_call 9 ⟨none, Op.store 39 (Operand.tmp 8) (Operand.tmp 34), _, _, _, none⟩ (by kernel_rfl) rfl (by kernel_rfl) (fun KC hK => ?_)
        have dz := H8.out.1.2
        have d0 := H8.out.1.cell 0 rfl
        have d1 := H8.out.1.cell 1 rfl
        have d2 := H8.out.1.cell 2 rfl
        have f0 := H8.out.1.frz 0 (by simp)
        have f1 := H8.out.1.frz 1 (by simp)
        have f2 := H8.out.1.frz 2 (by simp)
        have h8 := H8.out.2
        go_wp2_with fail
        have HF := Hid.intro (box_own3 (o := w5) H8.out.1 H8.out.2 HO9.out.1 HO9.out.2.2.2.2 HD.out.2.2 (.string V) (.int .i64 TT) (.int .i64 AA))
        clear dz d0 f0 d1 f1 d2 f2
        refine hK.out _ _ ⟨(((HD.out.1.other (by omega)).other (by omega)).other (by omega)), (((HD.out.2.1.other (by omega)).other (by omega)).other (by omega))⟩ (fun hHeld => ?_)
        clear hK KC
        refine take_v (v := ?_) 10 ⟨some 9, Op.assign (Operand.tmp 35), _, _, _, none⟩ rfl (fun _ _ _ h => h) ?_ hHeld ?_
        rotate_left
        · (intro W _; go_simp <;> (try with_reducible rfl))
        refine wpAnyH_done (by kernel_rfl) ?_ _
        refine NoPanic.normal ?_
        clear hHeld
        go_wp2_with fail
        go_meet
        exact ⟨b8, lo, hi, rfl, rfl, HF.out.1, HF.out.2.1, HO9.out.2.1, HO9.out.2.2.1, by rw [HF.out.2.2.2]; exact HO9.out.2.2.2.1, H8.out.2, by rw [HF.out.2.2.2]; exact H8.out.1.2, HO9.out.2.2.2.2, HF.out.2.2.1⟩
    ·
      go_wp2_with fail
      (first | (obtain ⟨W8, hW8⟩ : ∃ x, x = W9.alloc (.cells #[.string ⟨#[]⟩, .int .i64 0, .int .i64 0] 39) := ⟨_, rfl⟩; have hb : Below W9.heap.size W9 W8 := hW8 ▸ Go.Joins.below_alloc1 _ _; obtain ⟨b8, hb8⟩ : ∃ b, b = W9.heap.size := ⟨_, rfl⟩; have H8 : Hid (Bx W8 b8 [.string ⟨#[]⟩, .int .i64 0, .int .i64 0] ∧ w5.heap.size ≤ b8) := ⟨hb8 ▸ hW8 ▸ Bx.new W9 [.string ⟨#[]⟩, .int .i64 0, .int .i64 0] _, by rw [hb8]; exact HD.out.2.2.size⟩; have HO9 := (show Hid (Own W8 shLatest [.string V, .int .i64 TT, .int .i64 AA] (V, TT, AA, ()) (Btw lo hi) ∧ w5.heap.size ≤ lo ∧ lo ≤ hi ∧ hi ≤ W8.heap.size ∧ (b8 < lo ∨ hi ≤ b8)) from ⟨HO9.out.1.next hb, HO9.out.2.1, HO9.out.2.2.1, Nat.le_trans HO9.out.2.2.2 hb.size, Or.inr (by rw [hb8]; exact HO9.out.2.2.2)⟩); have HD := (show Hid (Bx W8 w.heap.size [.string lv, .int .i64 lt, .int .i64 la] ∧ Bx W8 (w.heap.size + 1) [.string mv, .int .i64 mt, .int .i64 ma] ∧ Below w5.heap.size w5 W8) from ⟨HD.out.1.next hb, HD.out.2.1.next hb, below_next HD.out.2.2 hb⟩); rw [← hW8, ← hb8]; clear hW8 hb8 hb) | (obtain ⟨W8, hW8⟩ : ∃ x, x = W2.alloc (.cells #[.string ⟨#[]⟩, .int .i64 0, .int .i64 0] 39) := ⟨_, rfl⟩; have hb : Below W2.heap.size W2 W8 := hW8 ▸ Go.Joins.below_alloc1 _ _; obtain ⟨b8, hb8⟩ : ∃ b, b = W2.heap.size := ⟨_, rfl⟩; have H8 : Hid (Bx W8 b8 [.string ⟨#[]⟩, .int .i64 0, .int .i64 0] ∧ w5.heap.size ≤ b8) := ⟨hb8 ▸ hW8 ▸ Bx.new W2 [.string ⟨#[]⟩, .int .i64 0, .int .i64 0] _, by rw [hb8]; exact HD.out.2.2.size⟩; (first | (have HO1 := Hid.intro (HO1.out.next hb)) | skip); (first | (have HO2 := Hid.intro (HO2.out.next hb)) | skip); have HD := (show Hid (Bx W8 w.heap.size [.string lv, .int .i64 lt, .int .i64 la] ∧ Bx W8 (w.heap.size + 1) [.string mv, .int .i64 mt, .int .i64 ma] ∧ Below w5.heap.size w5 W8) from ⟨HD.out.1.next hb, HD.out.2.1.next hb, below_next HD.out.2.2 hb⟩); rw [← hW8, ← hb8]; clear hW8 hb8 hb) | (obtain ⟨W8, hW8⟩ : ∃ x, x = W1.alloc (.cells #[.string ⟨#[]⟩, .int .i64 0, .int .i64 0] 39) := ⟨_, rfl⟩; have hb : Below W1.heap.size W1 W8 := hW8 ▸ Go.Joins.below_alloc1 _ _; obtain ⟨b8, hb8⟩ : ∃ b, b = W1.heap.size := ⟨_, rfl⟩; have H8 : Hid (Bx W8 b8 [.string ⟨#[]⟩, .int .i64 0, .int .i64 0] ∧ w5.heap.size ≤ b8) := ⟨hb8 ▸ hW8 ▸ Bx.new W1 [.string ⟨#[]⟩, .int .i64 0, .int .i64 0] _, by rw [hb8]; exact HD.out.2.2.size⟩; (first | (have HO1 := Hid.intro (HO1.out.next hb)) | skip); (first | (have HO2 := Hid.intro (HO2.out.next hb)) | skip); have HD := (show Hid (Bx W8 w.heap.size [.string lv, .int .i64 lt, .int .i64 la] ∧ Bx W8 (w.heap.size + 1) [.string mv, .int .i64 mt, .int .i64 ma] ∧ Below w5.heap.size w5 W8) from ⟨HD.out.1.next hb, HD.out.2.1.next hb, below_next HD.out.2.2 hb⟩); rw [← hW8, ← hb8]; clear hW8 hb8 hb) | (obtain ⟨W8, hW8⟩ : ∃ x, x = X0.alloc (.cells #[.string ⟨#[]⟩, .int .i64 0, .int .i64 0] 39) := ⟨_, rfl⟩; have hb : Below X0.heap.size X0 W8 := hW8 ▸ Go.Joins.below_alloc1 _ _; obtain ⟨b8, hb8⟩ : ∃ b, b = X0.heap.size := ⟨_, rfl⟩; have H8 : Hid (Bx W8 b8 [.string ⟨#[]⟩, .int .i64 0, .int .i64 0] ∧ w5.heap.size ≤ b8) := ⟨hb8 ▸ hW8 ▸ Bx.new X0 [.string ⟨#[]⟩, .int .i64 0, .int .i64 0] _, by rw [hb8]; exact HD.out.2.2.size⟩; (first | (have HO1 := Hid.intro (HO1.out.next hb)) | skip); (first | (have HO2 := Hid.intro (HO2.out.next hb)) | skip); have HD := (show Hid (Bx W8 w.heap.size [.string lv, .int .i64 lt, .int .i64 la] ∧ Bx W8 (w.heap.size + 1) [.string mv, .int .i64 mt, .int .i64 ma] ∧ Below w5.heap.size w5 W8) from ⟨HD.out.1.next hb, HD.out.2.1.next hb, below_next HD.out.2.2 hb⟩); rw [← hW8, ← hb8]; clear hW8 hb8 hb))
      refine hK.out _ _ ⟨HD.out.1, HD.out.2.1⟩ (fun hHeld => ?_)
      clear hK KC
      refine ready_call 1 ⟨some 30, Op.call { callee := Callee.value (Operand.func 48), args := #[Operand.tmp 29], argTypes := #[70] }, _, _, _, none⟩ (by kernel_rfl) rfl (by kernel_rfl) (fun KC hK => ?_)
      go_wp2_with fail
      refine (toLatest_n [.string lv, .int .i64 lt, .int .i64 la] lv lt la _ HS0.out (HL0.out.next (below_next HB5.out HD.out.2.2))).mono ?_
      rintro r W1 ⟨cs9, rfl, ho, hb⟩
      obtain hev := own_Latest ho
      subst hev
      (first | (have HO1 := Hid.intro (HO1.out.next hb)) | skip); (first | (have HO2 := Hid.intro (HO2.out.next hb)) | skip)
      have HO1 := Hid.intro ho.lies
      have HD := (show Hid (Bx W1 w.heap.size [.string lv, .int .i64 lt, .int .i64 la] ∧ Bx W1 (w.heap.size + 1) [.string mv, .int .i64 mt, .int .i64 ma] ∧ Below w5.heap.size w5 W1) from ⟨HD.out.1.next hb, HD.out.2.1.next hb, below_next HD.out.2.2 hb⟩)
      (first | (have H8 := (show Hid (Bx W1 b8 [.string ⟨#[]⟩, .int .i64 0, .int .i64 0] ∧ w5.heap.size ≤ b8) from ⟨H8.out.1.next hb, H8.out.2⟩)) | skip)
      clear ho hb
      refine hK.out _ _ ⟨HD.out.1, HD.out.2.1⟩ (fun hHeld => ?_)
      clear hK KC
      refine ready_call 3 ⟨some 32, Op.call { callee := Callee.value (Operand.func 48), args := #[Operand.tmp 31], argTypes := #[70] }, _, _, _, none⟩ (by kernel_rfl) rfl (by kernel_rfl) (fun KC hK => ?_)
      go_wp2_with fail
      refine (toLatest_n [.string mv, .int .i64 mt, .int .i64 ma] mv mt ma _ HS1.out (HL1.out.next (below_next HB5.out HD.out.2.2))).mono ?_
      rintro r W2 ⟨cs9, rfl, ho, hb⟩
      obtain hev := own_Latest ho
      subst hev
      (first | (have HO1 := Hid.intro (HO1.out.next hb)) | skip); (first | (have HO2 := Hid.intro (HO2.out.next hb)) | skip)
      have HO2 := Hid.intro ho.lies
      have HD := (show Hid (Bx W2 w.heap.size [.string lv, .int .i64 lt, .int .i64 la] ∧ Bx W2 (w.heap.size + 1) [.string mv, .int .i64 mt, .int .i64 ma] ∧ Below w5.heap.size w5 W2) from ⟨HD.out.1.next hb, HD.out.2.1.next hb, below_next HD.out.2.2 hb⟩)
      (first | (have H8 := (show Hid (Bx W2 b8 [.string ⟨#[]⟩, .int .i64 0, .int .i64 0] ∧ w5.heap.size ≤ b8) from ⟨H8.out.1.next hb, H8.out.2⟩)) | skip)
      clear ho hb
      refine hK.out _ _ ⟨HD.out.1, HD.out.2.1⟩ (fun hHeld => ?_)
      clear hK KC
      refine ready_call 4 ⟨some 33, Op.call { callee := Callee.value (Operand.func 26), args := #[Operand.tmp 30, Operand.tmp 32], argTypes := #[39, 39] }, _, _, _, none⟩ (by kernel_rfl) rfl (by kernel_rfl) (fun KC hK => ?_)
      go_wp2_with fail
      refine (mergeLatest_l lv lt la mv mt ma _ V TT AA z HA.out HS0.out HS1.out).mono ?_
      intro r W9 hT
      obtain ⟨cs9, lo, hi, rfl, ho, hlo, hlh, hhi, hb⟩ := ansG_out hT
      obtain hev := own_Latest ho
      subst hev
      have hol : w5.heap.size ≤ lo := Nat.le_trans HD.out.2.2.size hlo
      (first | (have HO9 := (show Hid (Own W9 shLatest [.string V, .int .i64 TT, .int .i64 AA] (V, TT, AA, ()) (Btw lo hi) ∧ w5.heap.size ≤ lo ∧ lo ≤ hi ∧ hi ≤ W9.heap.size ∧ (b8 < lo ∨ hi ≤ b8)) from ⟨ho, hol, hlh, hhi, Or.inl (Nat.lt_of_lt_of_le H8.out.1.2 hlo)⟩)) | (have HO9 := (show Hid (Own W9 shLatest [.string V, .int .i64 TT, .int .i64 AA] (V, TT, AA, ()) (Btw lo hi) ∧ w5.heap.size ≤ lo ∧ lo ≤ hi ∧ hi ≤ W9.heap.size) from ⟨ho, hol, hlh, hhi⟩)))
      have HD := (show Hid (Bx W9 w.heap.size [.string lv, .int .i64 lt, .int .i64 la] ∧ Bx W9 (w.heap.size + 1) [.string mv, .int .i64 mt, .int .i64 ma] ∧ Below w5.heap.size w5 W9) from ⟨HD.out.1.next hb, HD.out.2.1.next hb, below_next HD.out.2.2 hb⟩)
      (first | (have H8 := (show Hid (Bx W9 b8 [.string ⟨#[]⟩, .int .i64 0, .int .i64 0] ∧ w5.heap.size ≤ b8) from ⟨H8.out.1.next hb, H8.out.2⟩)) | skip)
      clear ho hlo hlh hhi hol hb hT
      refine hK.out _ _ ⟨HD.out.1, HD.out.2.1⟩ (fun hHeld => ?_)
      clear hK KC
      refine take_v (v := ?_) 5 ⟨some 28, Op.move (Operand.tmp 33), _, _, _, none⟩ rfl (fun _ _ _ h => h) ?_ hHeld ?_
      rotate_left
      · (intro W _; go_simp <;> (try with_reducible rfl))
      refine take_v (v := ?_) 6 ⟨some 34, Op.extract (Operand.tmp 28) 0, _, _, _, none⟩ rfl (fun _ _ _ h => h) ?_ hHeld ?_
      rotate_left
      · (intro W _; go_simp <;> (try with_reducible rfl))
      refine take_v (v := ?_) 7 ⟨some 35, Op.extract (Operand.tmp 28) 1, _, _, _, none⟩ rfl (fun _ _ _ h => h) ?_ hHeld ?_
      rotate_left
      · (intro W _; go_simp <;> (try with_reducible rfl))
      refine ready_call 9 ⟨none, Op.store 39 (Operand.tmp 8) (Operand.tmp 34), _, _, _, none⟩ (by kernel_rfl) rfl (by kernel_rfl) (fun KC hK => ?_)
      have dz := H8.out.1.2
      have d0 := H8.out.1.cell 0 rfl
      have d1 := H8.out.1.cell 1 rfl
      have d2 := H8.out.1.cell 2 rfl
      have f0 := H8.out.1.frz 0 (by simp)
      have f1 := H8.out.1.frz 1 (by simp)
      have f2 := H8.out.1.frz 2 (by simp)
      have h8 := H8.out.2
      go_wp2_with fail
      have HF := Hid.intro (box_own3 (o := w5) H8.out.1 H8.out.2 HO9.out.1 HO9.out.2.2.2.2 HD.out.2.2 (.string V) (.int .i64 TT) (.int .i64 AA))
      clear dz d0 f0 d1 f1 d2 f2
      refine hK.out _ _ ⟨(((HD.out.1.other (by omega)).other (by omega)).other (by omega)), (((HD.out.2.1.other (by omega)).other (by omega)).other (by omega))⟩ (fun hHeld => ?_)
      clear hK KC
      refine take_v (v := ?_) 10 ⟨some 9, Op.assign (Operand.tmp 35), _, _, _, none⟩ rfl (fun _ _ _ h => h) ?_ hHeld ?_
      rotate_left
      · (intro W _; go_simp <;> (try with_reducible rfl))
      refine wpAnyH_done (by kernel_rfl) ?_ _
      refine NoPanic.normal ?_
      clear hHeld
      go_wp2_with fail
      go_meet
      exact ⟨b8, lo, hi, rfl, rfl, HF.out.1, HF.out.2.1, HO9.out.2.1, HO9.out.2.2.1, by rw [HF.out.2.2.2]; exact HO9.out.2.2.2.1, H8.out.2, by rw [HF.out.2.2.2]; exact H8.out.1.2, HO9.out.2.2.2.2, HF.out.2.2.1⟩
  obtain ⟨b6, lo6, hi6, rfl, rfl, hbx, ho, hlo6, hlh6, hhi6, hbo6, hbb6, hbd6, hb⟩ := hcut
  obtain ⟨w6, hwd⟩ : ∃ x, x = wc := ⟨_, rfl⟩
  subst hwd
  have HB6 : Hid (Below w.heap.size w w6) := below_next HB5.out hb
  have sz6 : w5.heap.size ≤ w6.heap.size := hb.size
  have A0_6 : Hid (Bx w6 w.heap.size [.string lv, .int .i64 lt, .int .i64 la]) := A0_5.out.next hb
  have A1_6 : Hid (Bx w6 (w.heap.size + 1) [.string mv, .int .i64 mt, .int .i64 ma]) := A1_5.out.next hb
  have W_6 : Hid (Bx w6 b5 [.string V, .int .i64 TT, .int .i64 AA]) := W_5.out.next hb
  have SP_6 : Hid (Own w6 shLatest [.string V, .int .i64 TT, .int .i64 AA] (V, TT, AA, ()) (Btw lo5 hi5)) := SP_5.out.next hb
  have G_6 : Hid (Bx w6 b6 [.string V, .int .i64 TT, .int .i64 AA]) := hbx
  have GP_6 : Hid (Own w6 shLatest [.string V, .int .i64 TT, .int .i64 AA] (V, TT, AA, ()) (Btw lo6 hi6)) := ho
  clear hb hbx ho A0_5 A1_5 W_5 SP_5 HB5
  have cW0 := W_6.out.cell 0 rfl
  have cW1 := W_6.out.cell 1 rfl
  have cW2 := W_6.out.cell 2 rfl
  have zW := W_6.out.2
  have cG0 := G_6.out.cell 0 rfl
  have cG1 := G_6.out.cell 1 rfl
  have cG2 := G_6.out.cell 2 rfl
  have zG := G_6.out.2
  go_wp2_with fail
  refine (eqLatest_n [.string V, .int .i64 TT, .int .i64 AA] [.string V, .int .i64 TT, .int .i64 AA] V TT AA _ HT.out GP_6.out.lies SP_6.out.lies).mono ?_
  rintro r w7 ⟨rfl, hb⟩
  have HB7 : Hid (Below w.heap.size w w7) := below_next HB6.out hb
  have sz7 : w6.heap.size ≤ w7.heap.size := hb.size
  have A0_7 : Hid (Bx w7 w.heap.size [.string lv, .int .i64 lt, .int .i64 la]) := A0_6.out.next hb
  have A1_7 : Hid (Bx w7 (w.heap.size + 1) [.string mv, .int .i64 mt, .int .i64 ma]) := A1_6.out.next hb
  have W_7 : Hid (Bx w7 b5 [.string V, .int .i64 TT, .int .i64 AA]) := W_6.out.next hb
  have SP_7 : Hid (Own w7 shLatest [.string V, .int .i64 TT, .int .i64 AA] (V, TT, AA, ()) (Btw lo5 hi5)) := SP_6.out.next hb
  have G_7 : Hid (Bx w7 b6 [.string V, .int .i64 TT, .int .i64 AA]) := G_6.out.next hb
  have GP_7 : Hid (Own w7 shLatest [.string V, .int .i64 TT, .int .i64 AA] (V, TT, AA, ()) (Btw lo6 hi6)) := GP_6.out.next hb
  clear hb cW0 cW1 cW2 zW cG0 cG1 cG2 zG A0_6 A1_6 W_6 SP_6 G_6 GP_6 HB6
  have HE := HB7
  go_wp2
  go_ret
  exact ⟨rfl, HE.out⟩


theorem own : ownKnob Try.prog.godebug = none := by kernel_rfl
theorem laidOut : laidOutB Try.prog = true := by kernel_rfl

set_option maxRecDepth 100000 in
theorem lifted (os : Os) (started : os.Started) (H : Type) (enc : TypeId × Value → H) :
    ReturnsInHanded {} Try.checked os 11 .any (Rows.fnExactMergeLatestSpec.pre6 enc Try.prog Try.f11 Rows.fnExactMergeLatestRow.domain false) (Rows.fnExactMergeLatestSpec.post enc Try.prog Try.f11 false true false false) := by
  refine returnsInHanded_of_change (C := Try.checked) own started (by kernel_rfl) Try.func11
    (ChangeSpec.witness6 (enc := enc) (C := Try.checked) false ⟨#[], #[.agg #[.string ⟨#[]⟩, .int .i64 0, .int .i64 0], .agg #[.string ⟨#[]⟩, .int .i64 0, .int .i64 0]], []⟩ 8 (by kernel_rfl) (by kernel_rfl) (by kernel_rfl) (by kernel_rfl)) ?_
  intro W base args ds gs before hval0 hW hcnd _
  have hval : ∀ (j : Nat) t v, Try.f11.params[j]? = some t → args[j]? = some v → Value.okWide Try.prog W .any base t v := hval0
  have hW' := hW
  obtain ⟨p, q, hA0, hV, rfl, hfz, hnd⟩ := hW
  have hA : DataW.TrodAll enc Try.prog W 0 (fun _ => true) true Try.f11.params.toList args.toList ds p := hA0
  rw [Try.params11] at hA hval
  obtain ⟨v0, vs0, d0, ds0, p0, q0, hargs, rfl, rfl, h0, r0⟩ := trodAll_cons hA
  obtain ⟨v1, vs1, d1, ds1, p1, q1, rfl, rfl, rfl, h1, r1⟩ := trodAll_cons r0
  obtain ⟨rfl, rfl, rfl⟩ := trodAll_nil r1
  obtain rfl : args = #[v0, v1] := by cases args; simp_all
  obtain ⟨rfl, rfl⟩ := trodVars_none hV
  have k0 := h0
  have lt0 : ∀ x ∈ p0, x.block < W.heap.size := by obtain ⟨m, hm⟩ := k0; exact DataW.trod_lt m _ _ _ hm
  obtain ⟨cs0, X0, rfl, li0, fi0⟩ := open_Latest_n (hval 0 70 v0 rfl rfl) h0
  have k1 := h1
  have lt1 : ∀ x ∈ p1, x.block < W.heap.size := by obtain ⟨m, hm⟩ := k1; exact DataW.trod_lt m _ _ _ hm
  obtain ⟨cs1, X1, rfl, li1, fi1⟩ := open_Latest_n (hval 1 70 v1 rfl rfl) h1
  clear hA0 hval0
  refine (walk (w := W) cs0 X0 li0 fi0 cs1 X1 li1 fi1).mono fun e W' ⟨he, bel⟩ => ?_
  subst he
  exact ⟨_, rfl, _, _, _, [], _, [], hW', trodAll_mk1 (shut_bool Try.underlying4 _), (trodAll_cons_mk (Below.trod laidOut (by kernel_rfl) (of_decide_eq_true (by kernel_rfl)) k0 bel lt0) (trodAll_cons_mk (Below.trod laidOut (by kernel_rfl) (of_decide_eq_true (by kernel_rfl)) k1 bel lt1) trodAll_mk0)), rfl, bel.frame _, fun h => by cases h⟩

set_option maxHeartbeats 40000000 in
theorem closed : joinedFacts Try.pinned.checked.prog 11 Try.f11 Rows.fnExactMergeLatestSpec Rows.fnExactMergeLatestRow = true := by
  unfold joinedFacts
  repeat' (first | (with_reducible refine both ?_ ?_) | (with_reducible exact may_enter') | (with_reducible refine lifts_eq ?_) | (with_reducible refine make_eq ?_) | as_aux_lemma => kernel_rfl)
theorem named : Try.pinned.checked.prog.funcNamed Rows.fnExactMergeLatestRow.func = some 11 := by kernel_rfl
theorem over : Rows.fnExactMergeLatestRow.holds Try.pinned (OpenSpec.ofChange Rows.fnExactMergeLatestSpec) :=
  OpenClaim.holds_of_wide 11 Try.f11 rfl rfl rfl rfl rfl rfl rfl ⟨rfl, rfl, rfl, rfl, rfl⟩ rfl rfl rfl rfl rfl named Try.func11 closed
    (of_decide_eq_true (by as_aux_lemma => kernel_rfl)) (by unfold Func.isWrapper; first | (rw [if_pos (by decide +kernel)]; kernel_rfl) | (rw [if_neg (by decide +kernel)]; exact ⟨rfl, rfl⟩))
    (fun os started H enc _ => lifted os started H enc)

end Go.Proofs.Ytnglgndocmkbfaa.xMergeLatest
namespace Go.Proofs.Ytnglgndocmkbfaa
theorem xMergeLatest_holds : Rows.FnExactMergeLatestSaid := xMergeLatest.over
#print axioms xMergeLatest_holds
end Go.Proofs.Ytnglgndocmkbfaa
