/- The latest of all is the same in whatever order they are heard, for drawn ones: the law FnLatest, at every two lists of bytes. No condition. -/
import Derived.Test.YtnglgndocmkbfaaDlT
import Derived.Test.YtnglgndocmkbfaaLtE
import Derived.Test.YtnglgndocmkbfaaOpenBE
import Derived.Test.YtnglgndocmkbfaaWords
import Derived.ProofKit
import Derived.OpenShut
import Derived.ShutString
import Derived.ChangeOld
import Derived.Below
import Derived.Lib.SmallJoins
namespace Go.Proofs.Ytnglgndocmkbfaa.fLatest
open Go.ChangeShapes Go.WideShapes Go.ChangeAt Go.RowKit
open Go.ChangeMaps (open_string shut_string)
set_option linter.unusedVariables false

set_option maxRecDepth 100000 in
set_option maxHeartbeats 16000000 in
theorem walk (a : Option Addr) (n cap : Nat) (X : Nat → Int) (w : World) (hm : n ≤ maxLen) (hs : Sl w a n 1 (byF X)) (hX : ∀ i, i < n → 0 ≤ X i ∧ X i ≤ 255)
    (a' : Option Addr) (n' cap' : Nat) (Y : Nat → Int) (hm' : n' ≤ maxLen) (hs' : Sl w a' n' 1 (byF Y)) (hY : ∀ i, i < n' → 0 ≤ Y i ∧ Y i ≤ 255) :
    Calls Try.prog 4 #[.slice a n cap, .slice a' n' cap'] w fun r w' => r = .returned (.bool true) ∧ Below w.heap.size w w' := by
  unfold maxLen at hm hm'
  have HS : Hid ((Sl w a n 1 (byF X) ∧ ∀ i, i < n → 0 ≤ X i ∧ X i ≤ 255) ∧ Sl w a' n' 1 (byF Y) ∧ ∀ i, i < n' → 0 ≤ Y i ∧ Y i ≤ 255) := ⟨⟨hs, hX⟩, hs', hY⟩
  clear hs hs' hX hY
  by_cases hlt : (1048576 : Int) < wrap64 ((n : Int) + (n' : Int))
  case pos =>
    go_enter Try.func4, Try.ntmps4
    go_wp2
    go_ret
    exact ⟨rfl, Below.refl _ _⟩
  case neg =>
  go_enter Try.func4, Try.ntmps4
  go_wp2_with fail
  refine (drawLatest_any _ _ _ X _ (by omega) HS.out.1.1 HS.out.1.2).mono ?_
  rintro r w1 ⟨⟨x0, x1, x2, y0, y1, y2, hzx, hzy, rfl⟩, hb⟩
  have HB1 : Hid (Below w.heap.size w w1) := below_next (Below.refl _ _) hb
  have sz1 : w.heap.size ≤ w1.heap.size := hb.size
  clear hb 
  have HZx : Hid (x0.size ≤ 1073741824 ∧ y0.size ≤ 1073741824) := ⟨by omega, by omega⟩
  clear hzx hzy
  go_wp2_with fail
  obtain ⟨w2, hw2⟩ : ∃ x, x = w1.alloc (.cells #[.string x0, .int .i64 x1, .int .i64 x2] 39) := ⟨_, rfl⟩
  have hb : Below w1.heap.size w1 w2 := hw2 ▸ Go.Joins.below_alloc1 _ _
  have HB2 : Hid (Below w.heap.size w w2) := below_next HB1.out hb
  have sz2 : w1.heap.size < w2.heap.size := by rw [hw2]; simp
  have A_2 : Hid (Bx w2 w1.heap.size [.string x0, .int .i64 x1, .int .i64 x2]) := hw2 ▸ Bx.new w1 [.string x0, .int .i64 x1, .int .i64 x2] _
  have HZ2 : Hid (w2.heap.size = w1.heap.size + 1) := Hid.intro (by rw [hw2]; simp)
  rw [← hw2]
  clear hb hw2 HB1
  obtain ⟨w3, hw3⟩ : ∃ x, x = w2.alloc (.cells #[.string y0, .int .i64 y1, .int .i64 y2] 39) := ⟨_, rfl⟩
  have hb : Below w2.heap.size w2 w3 := hw3 ▸ Go.Joins.below_alloc1 _ _
  have HB3 : Hid (Below w.heap.size w w3) := below_next HB2.out hb
  have sz3 : w2.heap.size < w3.heap.size := by rw [hw3]; simp
  have A_3 : Hid (Bx w3 w1.heap.size [.string x0, .int .i64 x1, .int .i64 x2]) := A_2.out.next hb
  have B_3 : Hid (Bx w3 (w1.heap.size + 1) [.string y0, .int .i64 y1, .int .i64 y2]) := hw3 ▸ Bx.newAt HZ2.out
  rw [← hw3]
  clear hb hw3 A_2 HB2
  refine (drawLatest_any _ _ _ Y _ (by omega) (HS.out.2.1.kept HB3.out) HS.out.2.2).mono ?_
  rintro r w4 ⟨⟨u0, u1, u2, v0, v1, v2, hzu, hzv, rfl⟩, hb⟩
  have HB4 : Hid (Below w.heap.size w w4) := below_next HB3.out hb
  have sz4 : w3.heap.size ≤ w4.heap.size := hb.size
  have A_4 : Hid (Bx w4 w1.heap.size [.string x0, .int .i64 x1, .int .i64 x2]) := A_3.out.next hb
  have B_4 : Hid (Bx w4 (w1.heap.size + 1) [.string y0, .int .i64 y1, .int .i64 y2]) := B_3.out.next hb
  clear hb A_3 B_3 HB3
  have HZu : Hid (u0.size ≤ 1073741824 ∧ v0.size ≤ 1073741824) := ⟨by omega, by omega⟩
  clear hzu hzv
  have cA0 := A_4.out.cell 0 rfl
  have cA1 := A_4.out.cell 1 rfl
  have cA2 := A_4.out.cell 2 rfl
  have zA := A_4.out.2
  have cB0 := B_4.out.cell 0 rfl
  have cB1 := B_4.out.cell 1 rfl
  have cB2 := B_4.out.cell 2 rfl
  have zB := B_4.out.2
  go_wp2_with fail
  obtain ⟨w5, hw5⟩ : ∃ x, x = w4.alloc (.cells #[.string u0, .int .i64 u1, .int .i64 u2] 39) := ⟨_, rfl⟩
  have hb : Below w4.heap.size w4 w5 := hw5 ▸ Go.Joins.below_alloc1 _ _
  have HB5 : Hid (Below w.heap.size w w5) := below_next HB4.out hb
  have sz5 : w4.heap.size < w5.heap.size := by rw [hw5]; simp
  have A_5 : Hid (Bx w5 w1.heap.size [.string x0, .int .i64 x1, .int .i64 x2]) := A_4.out.next hb
  have B_5 : Hid (Bx w5 (w1.heap.size + 1) [.string y0, .int .i64 y1, .int .i64 y2]) := B_4.out.next hb
  have C_5 : Hid (Bx w5 w4.heap.size [.string u0, .int .i64 u1, .int .i64 u2]) := hw5 ▸ Bx.new w4 [.string u0, .int .i64 u1, .int .i64 u2] _
  have HZ5 : Hid (w5.heap.size = w4.heap.size + 1) := Hid.intro (by rw [hw5]; simp)
  rw [← hw5]
  clear hb hw5 cA0 cA1 cA2 zA cB0 cB1 cB2 zB A_4 B_4 HB4
  obtain ⟨w6, hw6⟩ : ∃ x, x = w5.alloc (.cells #[.string v0, .int .i64 v1, .int .i64 v2] 39) := ⟨_, rfl⟩
  have hb : Below w5.heap.size w5 w6 := hw6 ▸ Go.Joins.below_alloc1 _ _
  have HB6 : Hid (Below w.heap.size w w6) := below_next HB5.out hb
  have sz6 : w5.heap.size < w6.heap.size := by rw [hw6]; simp
  have A_6 : Hid (Bx w6 w1.heap.size [.string x0, .int .i64 x1, .int .i64 x2]) := A_5.out.next hb
  have B_6 : Hid (Bx w6 (w1.heap.size + 1) [.string y0, .int .i64 y1, .int .i64 y2]) := B_5.out.next hb
  have C_6 : Hid (Bx w6 w4.heap.size [.string u0, .int .i64 u1, .int .i64 u2]) := C_5.out.next hb
  have D_6 : Hid (Bx w6 (w4.heap.size + 1) [.string v0, .int .i64 v1, .int .i64 v2]) := hw6 ▸ Bx.newAt HZ5.out
  rw [← hw6]
  clear hb hw6 A_5 B_5 C_5 HB5
  cases e : (ltB x0 x1 x2 && ltB y0 y1 y2)
  case false =>
    have H1 : Hid (mlA x0 x1 x2 y0 y1 y2 = (((⟨#[]⟩ : ByteArray), (0 : Int), (0 : Int)), false)) := Hid.intro (mlA_no e)
    have H2 : Hid (mlA y0 y1 y2 x0 x1 x2 = (((⟨#[]⟩ : ByteArray), (0 : Int), (0 : Int)), false)) := Hid.intro (mlA_no (by rw [Bool.and_comm]; exact e))
    clear e
    have hr1 := fun W => (by have q := run_neLat ⟨#[]⟩ 0 0 ⟨#[]⟩ 0 0 W; rw [latE_yes] at q; exact q : (binOp .neq 39 (.agg #[.string ⟨#[]⟩, .int .i64 0, .int .i64 0]) (.agg #[.string ⟨#[]⟩, .int .i64 0, .int .i64 0])).run Try.prog W = .ok (.bool false) W)
    obtain ⟨e0, e1, e2, ez, hE⟩ : ∃ e0 e1 e2 ez, mlA u0 u1 u2 v0 v1 v2 = ((e0, e1, e2), ez) := ⟨_, _, _, _, rfl⟩
    have HE : Hid (mlA u0 u1 u2 v0 v1 v2 = ((e0, e1, e2), ez)) := hE
    clear hE
    refine ((show Calls _ _ _ _ (MlP (((⟨#[]⟩ : ByteArray), (0 : Int), (0 : Int)), false) _) from H1.out ▸ mergeLatest_n x0 x1 x2 y0 y1 y2 _ HZx.out.1 HZx.out.2)).mono ?_
    rintro r w7 ⟨rfl, hb⟩
    have HB7 : Hid (Below w.heap.size w w7) := below_next HB6.out hb
    have sz7 : w6.heap.size ≤ w7.heap.size := hb.size
    have A_7 : Hid (Bx w7 w1.heap.size [.string x0, .int .i64 x1, .int .i64 x2]) := A_6.out.next hb
    have B_7 : Hid (Bx w7 (w1.heap.size + 1) [.string y0, .int .i64 y1, .int .i64 y2]) := B_6.out.next hb
    have C_7 : Hid (Bx w7 w4.heap.size [.string u0, .int .i64 u1, .int .i64 u2]) := C_6.out.next hb
    have D_7 : Hid (Bx w7 (w4.heap.size + 1) [.string v0, .int .i64 v1, .int .i64 v2]) := D_6.out.next hb
    clear hb A_6 B_6 C_6 D_6 HB6
    have cA0 := A_7.out.cell 0 rfl
    have cA1 := A_7.out.cell 1 rfl
    have cA2 := A_7.out.cell 2 rfl
    have zA := A_7.out.2
    have cB0 := B_7.out.cell 0 rfl
    have cB1 := B_7.out.cell 1 rfl
    have cB2 := B_7.out.cell 2 rfl
    have zB := B_7.out.2
    go_wp2_with fail
    obtain ⟨w8, hw8⟩ : ∃ x, x = w7.alloc (.cells #[.string ⟨#[]⟩, .int .i64 0, .int .i64 0] 39) := ⟨_, rfl⟩
    have hb : Below w7.heap.size w7 w8 := hw8 ▸ Go.Joins.below_alloc1 _ _
    have HB8 : Hid (Below w.heap.size w w8) := below_next HB7.out hb
    have sz8 : w7.heap.size < w8.heap.size := by rw [hw8]; simp
    have A_8 : Hid (Bx w8 w1.heap.size [.string x0, .int .i64 x1, .int .i64 x2]) := A_7.out.next hb
    have B_8 : Hid (Bx w8 (w1.heap.size + 1) [.string y0, .int .i64 y1, .int .i64 y2]) := B_7.out.next hb
    have C_8 : Hid (Bx w8 w4.heap.size [.string u0, .int .i64 u1, .int .i64 u2]) := C_7.out.next hb
    have D_8 : Hid (Bx w8 (w4.heap.size + 1) [.string v0, .int .i64 v1, .int .i64 v2]) := D_7.out.next hb
    have M_8 : Hid (Bx w8 w7.heap.size [.string ⟨#[]⟩, .int .i64 0, .int .i64 0]) := hw8 ▸ Bx.new w7 [.string ⟨#[]⟩, .int .i64 0, .int .i64 0] _
    rw [← hw8]
    clear hb hw8 cA0 cA1 cA2 zA cB0 cB1 cB2 zB A_7 B_7 C_7 D_7 HB7
    refine ((show Calls _ _ _ _ (MlP (((⟨#[]⟩ : ByteArray), (0 : Int), (0 : Int)), false) _) from H1.out ▸ specMergeLatest_n x0 x1 x2 y0 y1 y2 _ HZx.out.1 HZx.out.2)).mono ?_
    rintro r w9 ⟨rfl, hb⟩
    have HB9 : Hid (Below w.heap.size w w9) := below_next HB8.out hb
    have sz9 : w8.heap.size ≤ w9.heap.size := hb.size
    have A_9 : Hid (Bx w9 w1.heap.size [.string x0, .int .i64 x1, .int .i64 x2]) := A_8.out.next hb
    have B_9 : Hid (Bx w9 (w1.heap.size + 1) [.string y0, .int .i64 y1, .int .i64 y2]) := B_8.out.next hb
    have C_9 : Hid (Bx w9 w4.heap.size [.string u0, .int .i64 u1, .int .i64 u2]) := C_8.out.next hb
    have D_9 : Hid (Bx w9 (w4.heap.size + 1) [.string v0, .int .i64 v1, .int .i64 v2]) := D_8.out.next hb
    have M_9 : Hid (Bx w9 w7.heap.size [.string ⟨#[]⟩, .int .i64 0, .int .i64 0]) := M_8.out.next hb
    clear hb A_8 B_8 C_8 D_8 M_8 HB8
    have cA0 := A_9.out.cell 0 rfl
    have cA1 := A_9.out.cell 1 rfl
    have cA2 := A_9.out.cell 2 rfl
    have zA := A_9.out.2
    have cB0 := B_9.out.cell 0 rfl
    have cB1 := B_9.out.cell 1 rfl
    have cB2 := B_9.out.cell 2 rfl
    have zB := B_9.out.2
    go_wp2_with fail
    obtain ⟨w10, hw10⟩ : ∃ x, x = w9.alloc (.cells #[.string ⟨#[]⟩, .int .i64 0, .int .i64 0] 39) := ⟨_, rfl⟩
    have hb : Below w9.heap.size w9 w10 := hw10 ▸ Go.Joins.below_alloc1 _ _
    have HB10 : Hid (Below w.heap.size w w10) := below_next HB9.out hb
    have sz10 : w9.heap.size < w10.heap.size := by rw [hw10]; simp
    have A_10 : Hid (Bx w10 w1.heap.size [.string x0, .int .i64 x1, .int .i64 x2]) := A_9.out.next hb
    have B_10 : Hid (Bx w10 (w1.heap.size + 1) [.string y0, .int .i64 y1, .int .i64 y2]) := B_9.out.next hb
    have C_10 : Hid (Bx w10 w4.heap.size [.string u0, .int .i64 u1, .int .i64 u2]) := C_9.out.next hb
    have D_10 : Hid (Bx w10 (w4.heap.size + 1) [.string v0, .int .i64 v1, .int .i64 v2]) := D_9.out.next hb
    have M_10 : Hid (Bx w10 w7.heap.size [.string ⟨#[]⟩, .int .i64 0, .int .i64 0]) := M_9.out.next hb
    have W_10 : Hid (Bx w10 w9.heap.size [.string ⟨#[]⟩, .int .i64 0, .int .i64 0]) := hw10 ▸ Bx.new w9 [.string ⟨#[]⟩, .int .i64 0, .int .i64 0] _
    rw [← hw10]
    clear hb hw10 cA0 cA1 cA2 zA cB0 cB1 cB2 zB A_9 B_9 C_9 D_9 M_9 HB9
    refine ((show Calls _ _ _ _ (MlP (((⟨#[]⟩ : ByteArray), (0 : Int), (0 : Int)), false) _) from H2.out ▸ mergeLatest_n y0 y1 y2 x0 x1 x2 _ HZx.out.2 HZx.out.1)).mono ?_
    rintro r w11 ⟨rfl, hb⟩
    have HB11 : Hid (Below w.heap.size w w11) := below_next HB10.out hb
    have sz11 : w10.heap.size ≤ w11.heap.size := hb.size
    have A_11 : Hid (Bx w11 w1.heap.size [.string x0, .int .i64 x1, .int .i64 x2]) := A_10.out.next hb
    have B_11 : Hid (Bx w11 (w1.heap.size + 1) [.string y0, .int .i64 y1, .int .i64 y2]) := B_10.out.next hb
    have C_11 : Hid (Bx w11 w4.heap.size [.string u0, .int .i64 u1, .int .i64 u2]) := C_10.out.next hb
    have D_11 : Hid (Bx w11 (w4.heap.size + 1) [.string v0, .int .i64 v1, .int .i64 v2]) := D_10.out.next hb
    have M_11 : Hid (Bx w11 w7.heap.size [.string ⟨#[]⟩, .int .i64 0, .int .i64 0]) := M_10.out.next hb
    have W_11 : Hid (Bx w11 w9.heap.size [.string ⟨#[]⟩, .int .i64 0, .int .i64 0]) := W_10.out.next hb
    clear hb A_10 B_10 C_10 D_10 M_10 W_10 HB10
    have cC0 := C_11.out.cell 0 rfl
    have cC1 := C_11.out.cell 1 rfl
    have cC2 := C_11.out.cell 2 rfl
    have zC := C_11.out.2
    have cD0 := D_11.out.cell 0 rfl
    have cD1 := D_11.out.cell 1 rfl
    have cD2 := D_11.out.cell 2 rfl
    have zD := D_11.out.2
    have cM0 := M_11.out.cell 0 rfl
    have cM1 := M_11.out.cell 1 rfl
    have cM2 := M_11.out.cell 2 rfl
    have zM := M_11.out.2
    have cW0 := W_11.out.cell 0 rfl
    have cW1 := W_11.out.cell 1 rfl
    have cW2 := W_11.out.cell 2 rfl
    have zW := W_11.out.2
    go_wp2_with fail
    obtain ⟨w12, hw12⟩ : ∃ x, x = w11.alloc (.cells #[.string ⟨#[]⟩, .int .i64 0, .int .i64 0] 39) := ⟨_, rfl⟩
    have hb : Below w11.heap.size w11 w12 := hw12 ▸ Go.Joins.below_alloc1 _ _
    have HB12 : Hid (Below w.heap.size w w12) := below_next HB11.out hb
    have sz12 : w11.heap.size < w12.heap.size := by rw [hw12]; simp
    have A_12 : Hid (Bx w12 w1.heap.size [.string x0, .int .i64 x1, .int .i64 x2]) := A_11.out.next hb
    have B_12 : Hid (Bx w12 (w1.heap.size + 1) [.string y0, .int .i64 y1, .int .i64 y2]) := B_11.out.next hb
    have C_12 : Hid (Bx w12 w4.heap.size [.string u0, .int .i64 u1, .int .i64 u2]) := C_11.out.next hb
    have D_12 : Hid (Bx w12 (w4.heap.size + 1) [.string v0, .int .i64 v1, .int .i64 v2]) := D_11.out.next hb
    have M_12 : Hid (Bx w12 w7.heap.size [.string ⟨#[]⟩, .int .i64 0, .int .i64 0]) := M_11.out.next hb
    have W_12 : Hid (Bx w12 w9.heap.size [.string ⟨#[]⟩, .int .i64 0, .int .i64 0]) := W_11.out.next hb
    have N_12 : Hid (Bx w12 w11.heap.size [.string ⟨#[]⟩, .int .i64 0, .int .i64 0]) := hw12 ▸ Bx.new w11 [.string ⟨#[]⟩, .int .i64 0, .int .i64 0] _
    rw [← hw12]
    clear hb hw12 cC0 cC1 cC2 zC cD0 cD1 cD2 zD cM0 cM1 cM2 zM cW0 cW1 cW2 zW A_11 B_11 C_11 D_11 M_11 W_11 HB11
    refine ((show Calls _ _ _ _ (MlP ((e0, e1, e2), ez) _) from HE.out ▸ specMergeLatest_n u0 u1 u2 v0 v1 v2 _ HZu.out.1 HZu.out.2)).mono ?_
    rintro r w13 ⟨rfl, hb⟩
    have HB13 : Hid (Below w.heap.size w w13) := below_next HB12.out hb
    have sz13 : w12.heap.size ≤ w13.heap.size := hb.size
    have A_13 : Hid (Bx w13 w1.heap.size [.string x0, .int .i64 x1, .int .i64 x2]) := A_12.out.next hb
    have B_13 : Hid (Bx w13 (w1.heap.size + 1) [.string y0, .int .i64 y1, .int .i64 y2]) := B_12.out.next hb
    have C_13 : Hid (Bx w13 w4.heap.size [.string u0, .int .i64 u1, .int .i64 u2]) := C_12.out.next hb
    have D_13 : Hid (Bx w13 (w4.heap.size + 1) [.string v0, .int .i64 v1, .int .i64 v2]) := D_12.out.next hb
    have M_13 : Hid (Bx w13 w7.heap.size [.string ⟨#[]⟩, .int .i64 0, .int .i64 0]) := M_12.out.next hb
    have W_13 : Hid (Bx w13 w9.heap.size [.string ⟨#[]⟩, .int .i64 0, .int .i64 0]) := W_12.out.next hb
    have N_13 : Hid (Bx w13 w11.heap.size [.string ⟨#[]⟩, .int .i64 0, .int .i64 0]) := N_12.out.next hb
    clear hb A_12 B_12 C_12 D_12 M_12 W_12 N_12 HB12
    have HF := Hid.intro HB13.out
    go_wp2
    go_ret
    exact ⟨rfl, by first | exact HF.out | exact HF.out.trans (Below.mono (Go.Joins.below_alloc1 _ _) HF.out.size)⟩
  case true =>
    have hgx : ltB x0 x1 x2 = true ∧ ltB y0 y1 y2 = true := by simpa using e
    have HG := Hid.intro hgx
    clear hgx e
    obtain ⟨m0, m1, m2, hm9⟩ : ∃ m0 m1 m2, mxT (x0, x1, x2) (y0, y1, y2) = (m0, m1, m2) := ⟨_, _, _, rfl⟩
    have HM : Hid (mxT (x0, x1, x2) (y0, y1, y2) = (m0, m1, m2)) := hm9
    clear hm9
    have H1 : Hid (mlA x0 x1 x2 y0 y1 y2 = ((m0, m1, m2), true)) := Hid.intro (by rw [← HM.out]; exact mlA_ok (x := (x0, x1, x2)) (y := (y0, y1, y2)) (by simp [HG.out.1, HG.out.2]))
    have H2 : Hid (mlA y0 y1 y2 x0 x1 x2 = ((m0, m1, m2), true)) := Hid.intro (by rw [← HM.out, mxT_comm]; exact mlA_ok (x := (y0, y1, y2)) (y := (x0, x1, x2)) (by simp [HG.out.1, HG.out.2]))
    have HGM : Hid (ltB m0 m1 m2 = true ∧ m0.size ≤ 1073741824) := Hid.intro (by have q := okT_mx (x := (x0, x1, x2)) (y := (y0, y1, y2)) HG.out.1 HG.out.2; rw [HM.out] at q; refine ⟨q, ?_⟩; rcases mxT_or (x0, x1, x2) (y0, y1, y2) with k | k; (· rw [HM.out] at k; cases k; exact HZx.out.1); (· rw [HM.out] at k; cases k; exact HZx.out.2))
    have hr1 := fun W => (by have q := run_neLat m0 m1 m2 m0 m1 m2 W; rw [latE_yes] at q; exact q : (binOp .neq 39 (.agg #[.string m0, .int .i64 m1, .int .i64 m2]) (.agg #[.string m0, .int .i64 m1, .int .i64 m2])).run Try.prog W = .ok (.bool false) W)
    obtain ⟨e0, e1, e2, ez, hE⟩ : ∃ e0 e1 e2 ez, mlA u0 u1 u2 v0 v1 v2 = ((e0, e1, e2), ez) := ⟨_, _, _, _, rfl⟩
    have HE : Hid (mlA u0 u1 u2 v0 v1 v2 = ((e0, e1, e2), ez)) := hE
    clear hE
    refine ((show Calls _ _ _ _ (MlP ((m0, m1, m2), true) _) from H1.out ▸ mergeLatest_n x0 x1 x2 y0 y1 y2 _ HZx.out.1 HZx.out.2)).mono ?_
    rintro r w7 ⟨rfl, hb⟩
    have HB7 : Hid (Below w.heap.size w w7) := below_next HB6.out hb
    have sz7 : w6.heap.size ≤ w7.heap.size := hb.size
    have A_7 : Hid (Bx w7 w1.heap.size [.string x0, .int .i64 x1, .int .i64 x2]) := A_6.out.next hb
    have B_7 : Hid (Bx w7 (w1.heap.size + 1) [.string y0, .int .i64 y1, .int .i64 y2]) := B_6.out.next hb
    have C_7 : Hid (Bx w7 w4.heap.size [.string u0, .int .i64 u1, .int .i64 u2]) := C_6.out.next hb
    have D_7 : Hid (Bx w7 (w4.heap.size + 1) [.string v0, .int .i64 v1, .int .i64 v2]) := D_6.out.next hb
    clear hb A_6 B_6 C_6 D_6 HB6
    have cA0 := A_7.out.cell 0 rfl
    have cA1 := A_7.out.cell 1 rfl
    have cA2 := A_7.out.cell 2 rfl
    have zA := A_7.out.2
    have cB0 := B_7.out.cell 0 rfl
    have cB1 := B_7.out.cell 1 rfl
    have cB2 := B_7.out.cell 2 rfl
    have zB := B_7.out.2
    go_wp2_with fail
    obtain ⟨w8, hw8⟩ : ∃ x, x = w7.alloc (.cells #[.string m0, .int .i64 m1, .int .i64 m2] 39) := ⟨_, rfl⟩
    have hb : Below w7.heap.size w7 w8 := hw8 ▸ Go.Joins.below_alloc1 _ _
    have HB8 : Hid (Below w.heap.size w w8) := below_next HB7.out hb
    have sz8 : w7.heap.size < w8.heap.size := by rw [hw8]; simp
    have A_8 : Hid (Bx w8 w1.heap.size [.string x0, .int .i64 x1, .int .i64 x2]) := A_7.out.next hb
    have B_8 : Hid (Bx w8 (w1.heap.size + 1) [.string y0, .int .i64 y1, .int .i64 y2]) := B_7.out.next hb
    have C_8 : Hid (Bx w8 w4.heap.size [.string u0, .int .i64 u1, .int .i64 u2]) := C_7.out.next hb
    have D_8 : Hid (Bx w8 (w4.heap.size + 1) [.string v0, .int .i64 v1, .int .i64 v2]) := D_7.out.next hb
    have M_8 : Hid (Bx w8 w7.heap.size [.string m0, .int .i64 m1, .int .i64 m2]) := hw8 ▸ Bx.new w7 [.string m0, .int .i64 m1, .int .i64 m2] _
    rw [← hw8]
    clear hb hw8 cA0 cA1 cA2 zA cB0 cB1 cB2 zB A_7 B_7 C_7 D_7 HB7
    refine ((show Calls _ _ _ _ (MlP ((m0, m1, m2), true) _) from H1.out ▸ specMergeLatest_n x0 x1 x2 y0 y1 y2 _ HZx.out.1 HZx.out.2)).mono ?_
    rintro r w9 ⟨rfl, hb⟩
    have HB9 : Hid (Below w.heap.size w w9) := below_next HB8.out hb
    have sz9 : w8.heap.size ≤ w9.heap.size := hb.size
    have A_9 : Hid (Bx w9 w1.heap.size [.string x0, .int .i64 x1, .int .i64 x2]) := A_8.out.next hb
    have B_9 : Hid (Bx w9 (w1.heap.size + 1) [.string y0, .int .i64 y1, .int .i64 y2]) := B_8.out.next hb
    have C_9 : Hid (Bx w9 w4.heap.size [.string u0, .int .i64 u1, .int .i64 u2]) := C_8.out.next hb
    have D_9 : Hid (Bx w9 (w4.heap.size + 1) [.string v0, .int .i64 v1, .int .i64 v2]) := D_8.out.next hb
    have M_9 : Hid (Bx w9 w7.heap.size [.string m0, .int .i64 m1, .int .i64 m2]) := M_8.out.next hb
    clear hb A_8 B_8 C_8 D_8 M_8 HB8
    have cA0 := A_9.out.cell 0 rfl
    have cA1 := A_9.out.cell 1 rfl
    have cA2 := A_9.out.cell 2 rfl
    have zA := A_9.out.2
    have cB0 := B_9.out.cell 0 rfl
    have cB1 := B_9.out.cell 1 rfl
    have cB2 := B_9.out.cell 2 rfl
    have zB := B_9.out.2
    go_wp2_with fail
    obtain ⟨w10, hw10⟩ : ∃ x, x = w9.alloc (.cells #[.string m0, .int .i64 m1, .int .i64 m2] 39) := ⟨_, rfl⟩
    have hb : Below w9.heap.size w9 w10 := hw10 ▸ Go.Joins.below_alloc1 _ _
    have HB10 : Hid (Below w.heap.size w w10) := below_next HB9.out hb
    have sz10 : w9.heap.size < w10.heap.size := by rw [hw10]; simp
    have A_10 : Hid (Bx w10 w1.heap.size [.string x0, .int .i64 x1, .int .i64 x2]) := A_9.out.next hb
    have B_10 : Hid (Bx w10 (w1.heap.size + 1) [.string y0, .int .i64 y1, .int .i64 y2]) := B_9.out.next hb
    have C_10 : Hid (Bx w10 w4.heap.size [.string u0, .int .i64 u1, .int .i64 u2]) := C_9.out.next hb
    have D_10 : Hid (Bx w10 (w4.heap.size + 1) [.string v0, .int .i64 v1, .int .i64 v2]) := D_9.out.next hb
    have M_10 : Hid (Bx w10 w7.heap.size [.string m0, .int .i64 m1, .int .i64 m2]) := M_9.out.next hb
    have W_10 : Hid (Bx w10 w9.heap.size [.string m0, .int .i64 m1, .int .i64 m2]) := hw10 ▸ Bx.new w9 [.string m0, .int .i64 m1, .int .i64 m2] _
    rw [← hw10]
    clear hb hw10 cA0 cA1 cA2 zA cB0 cB1 cB2 zB A_9 B_9 C_9 D_9 M_9 HB9
    refine ((show Calls _ _ _ _ (MlP ((m0, m1, m2), true) _) from H2.out ▸ mergeLatest_n y0 y1 y2 x0 x1 x2 _ HZx.out.2 HZx.out.1)).mono ?_
    rintro r w11 ⟨rfl, hb⟩
    have HB11 : Hid (Below w.heap.size w w11) := below_next HB10.out hb
    have sz11 : w10.heap.size ≤ w11.heap.size := hb.size
    have A_11 : Hid (Bx w11 w1.heap.size [.string x0, .int .i64 x1, .int .i64 x2]) := A_10.out.next hb
    have B_11 : Hid (Bx w11 (w1.heap.size + 1) [.string y0, .int .i64 y1, .int .i64 y2]) := B_10.out.next hb
    have C_11 : Hid (Bx w11 w4.heap.size [.string u0, .int .i64 u1, .int .i64 u2]) := C_10.out.next hb
    have D_11 : Hid (Bx w11 (w4.heap.size + 1) [.string v0, .int .i64 v1, .int .i64 v2]) := D_10.out.next hb
    have M_11 : Hid (Bx w11 w7.heap.size [.string m0, .int .i64 m1, .int .i64 m2]) := M_10.out.next hb
    have W_11 : Hid (Bx w11 w9.heap.size [.string m0, .int .i64 m1, .int .i64 m2]) := W_10.out.next hb
    clear hb A_10 B_10 C_10 D_10 M_10 W_10 HB10
    have cC0 := C_11.out.cell 0 rfl
    have cC1 := C_11.out.cell 1 rfl
    have cC2 := C_11.out.cell 2 rfl
    have zC := C_11.out.2
    have cD0 := D_11.out.cell 0 rfl
    have cD1 := D_11.out.cell 1 rfl
    have cD2 := D_11.out.cell 2 rfl
    have zD := D_11.out.2
    have cM0 := M_11.out.cell 0 rfl
    have cM1 := M_11.out.cell 1 rfl
    have cM2 := M_11.out.cell 2 rfl
    have zM := M_11.out.2
    have cW0 := W_11.out.cell 0 rfl
    have cW1 := W_11.out.cell 1 rfl
    have cW2 := W_11.out.cell 2 rfl
    have zW := W_11.out.2
    go_wp2_with fail
    obtain ⟨w12, hw12⟩ : ∃ x, x = w11.alloc (.cells #[.string m0, .int .i64 m1, .int .i64 m2] 39) := ⟨_, rfl⟩
    have hb : Below w11.heap.size w11 w12 := hw12 ▸ Go.Joins.below_alloc1 _ _
    have HB12 : Hid (Below w.heap.size w w12) := below_next HB11.out hb
    have sz12 : w11.heap.size < w12.heap.size := by rw [hw12]; simp
    have A_12 : Hid (Bx w12 w1.heap.size [.string x0, .int .i64 x1, .int .i64 x2]) := A_11.out.next hb
    have B_12 : Hid (Bx w12 (w1.heap.size + 1) [.string y0, .int .i64 y1, .int .i64 y2]) := B_11.out.next hb
    have C_12 : Hid (Bx w12 w4.heap.size [.string u0, .int .i64 u1, .int .i64 u2]) := C_11.out.next hb
    have D_12 : Hid (Bx w12 (w4.heap.size + 1) [.string v0, .int .i64 v1, .int .i64 v2]) := D_11.out.next hb
    have M_12 : Hid (Bx w12 w7.heap.size [.string m0, .int .i64 m1, .int .i64 m2]) := M_11.out.next hb
    have W_12 : Hid (Bx w12 w9.heap.size [.string m0, .int .i64 m1, .int .i64 m2]) := W_11.out.next hb
    have N_12 : Hid (Bx w12 w11.heap.size [.string m0, .int .i64 m1, .int .i64 m2]) := hw12 ▸ Bx.new w11 [.string m0, .int .i64 m1, .int .i64 m2] _
    rw [← hw12]
    clear hb hw12 cC0 cC1 cC2 zC cD0 cD1 cD2 zD cM0 cM1 cM2 zM cW0 cW1 cW2 zW A_11 B_11 C_11 D_11 M_11 W_11 HB11
    refine ((show Calls _ _ _ _ (MlP ((e0, e1, e2), ez) _) from HE.out ▸ specMergeLatest_n u0 u1 u2 v0 v1 v2 _ HZu.out.1 HZu.out.2)).mono ?_
    rintro r w13 ⟨rfl, hb⟩
    have HB13 : Hid (Below w.heap.size w w13) := below_next HB12.out hb
    have sz13 : w12.heap.size ≤ w13.heap.size := hb.size
    have A_13 : Hid (Bx w13 w1.heap.size [.string x0, .int .i64 x1, .int .i64 x2]) := A_12.out.next hb
    have B_13 : Hid (Bx w13 (w1.heap.size + 1) [.string y0, .int .i64 y1, .int .i64 y2]) := B_12.out.next hb
    have C_13 : Hid (Bx w13 w4.heap.size [.string u0, .int .i64 u1, .int .i64 u2]) := C_12.out.next hb
    have D_13 : Hid (Bx w13 (w4.heap.size + 1) [.string v0, .int .i64 v1, .int .i64 v2]) := D_12.out.next hb
    have M_13 : Hid (Bx w13 w7.heap.size [.string m0, .int .i64 m1, .int .i64 m2]) := M_12.out.next hb
    have W_13 : Hid (Bx w13 w9.heap.size [.string m0, .int .i64 m1, .int .i64 m2]) := W_12.out.next hb
    have N_13 : Hid (Bx w13 w11.heap.size [.string m0, .int .i64 m1, .int .i64 m2]) := N_12.out.next hb
    clear hb A_12 B_12 C_12 D_12 M_12 W_12 N_12 HB12
    clear hr1
    clear W_13
    clear N_13
    clear D_13
    cases ez
    case false =>
      have HF := Hid.intro HB13.out
      go_wp2
      go_ret
      exact ⟨rfl, by first | exact HF.out | exact HF.out.trans (Below.mono (Go.Joins.below_alloc1 _ _) HF.out.size)⟩
    case true =>
      have HGU : Hid (ltB u0 u1 u2 = true) := Hid.intro (by cases q : (ltB u0 u1 u2 && ltB v0 v1 v2); (· have k := HE.out; rw [mlA_no q] at k; cases k); (· simp at q; exact q.1))
      obtain ⟨l0, l1, l2, hm9⟩ : ∃ x0 x1 x2, mxT (m0, m1, m2) (u0, u1, u2) = (x0, x1, x2) := ⟨_, _, _, rfl⟩
      have HMl : Hid (mxT (m0, m1, m2) (u0, u1, u2) = (l0, l1, l2)) := hm9
      clear hm9
      have HCl : Hid (mlA m0 m1 m2 u0 u1 u2 = ((l0, l1, l2), true)) := Hid.intro (by rw [← HMl.out]; exact mlA_ok (x := (m0, m1, m2)) (y := (u0, u1, u2)) (by simp [HGM.out.1, HGU.out]))
      have HGl : Hid (ltB l0 l1 l2 = true ∧ l0.size ≤ 1073741824) := Hid.intro (by have q := okT_mx (x := (m0, m1, m2)) (y := (u0, u1, u2)) HGM.out.1 HGU.out; rw [HMl.out] at q; refine ⟨q, ?_⟩; rcases mxT_or (m0, m1, m2) (u0, u1, u2) with k | k; (· rw [HMl.out] at k; cases k; exact HGM.out.2); (· rw [HMl.out] at k; cases k; exact HZu.out.1))
      obtain ⟨b0, b1, b2, hm9⟩ : ∃ x0 x1 x2, mxT (y0, y1, y2) (u0, u1, u2) = (x0, x1, x2) := ⟨_, _, _, rfl⟩
      have HMb : Hid (mxT (y0, y1, y2) (u0, u1, u2) = (b0, b1, b2)) := hm9
      clear hm9
      have HCb : Hid (mlA y0 y1 y2 u0 u1 u2 = ((b0, b1, b2), true)) := Hid.intro (by rw [← HMb.out]; exact mlA_ok (x := (y0, y1, y2)) (y := (u0, u1, u2)) (by simp [HG.out.2, HGU.out]))
      have HGb : Hid (ltB b0 b1 b2 = true ∧ b0.size ≤ 1073741824) := Hid.intro (by have q := okT_mx (x := (y0, y1, y2)) (y := (u0, u1, u2)) HG.out.2 HGU.out; rw [HMb.out] at q; refine ⟨q, ?_⟩; rcases mxT_or (y0, y1, y2) (u0, u1, u2) with k | k; (· rw [HMb.out] at k; cases k; exact HZx.out.2); (· rw [HMb.out] at k; cases k; exact HZu.out.1))
      have HCR : Hid (mlA x0 x1 x2 b0 b1 b2 = ((l0, l1, l2), true)) := Hid.intro (by rw [← HMl.out, ← HM.out, mxT_assoc, HMb.out]; exact mlA_ok (x := (x0, x1, x2)) (y := (b0, b1, b2)) (by simp [HG.out.1, HGb.out.1]))
      have HCS : Hid (mlA x0 x1 x2 x0 x1 x2 = ((x0, x1, x2), true)) := Hid.intro (by have q := mlA_ok (x := (x0, x1, x2)) (y := (x0, x1, x2)) (by simp [HG.out.1]); rw [mxT_idem] at q; exact q)
      have cA0 := A_13.out.cell 0 rfl
      have cA1 := A_13.out.cell 1 rfl
      have cA2 := A_13.out.cell 2 rfl
      have zA := A_13.out.2
      go_wp2_with fail
      obtain ⟨w14, hw14⟩ : ∃ x, x = w13.alloc (.cells #[.string e0, .int .i64 e1, .int .i64 e2] 39) := ⟨_, rfl⟩
      have hb : Below w13.heap.size w13 w14 := hw14 ▸ Go.Joins.below_alloc1 _ _
      have HB14 : Hid (Below w.heap.size w w14) := below_next HB13.out hb
      have sz14 : w13.heap.size < w14.heap.size := by rw [hw14]; simp
      have A_14 : Hid (Bx w14 w1.heap.size [.string x0, .int .i64 x1, .int .i64 x2]) := A_13.out.next hb
      have B_14 : Hid (Bx w14 (w1.heap.size + 1) [.string y0, .int .i64 y1, .int .i64 y2]) := B_13.out.next hb
      have C_14 : Hid (Bx w14 w4.heap.size [.string u0, .int .i64 u1, .int .i64 u2]) := C_13.out.next hb
      have M_14 : Hid (Bx w14 w7.heap.size [.string m0, .int .i64 m1, .int .i64 m2]) := M_13.out.next hb
      have E_14 : Hid (Bx w14 w13.heap.size [.string e0, .int .i64 e1, .int .i64 e2]) := hw14 ▸ Bx.new w13 [.string e0, .int .i64 e1, .int .i64 e2] _
      rw [← hw14]
      clear hb hw14 cA0 cA1 cA2 zA A_13 B_13 C_13 M_13 HB13
      clear E_14
      refine ((show Calls _ _ _ _ (MlP ((x0, x1, x2), true) _) from HCS.out ▸ mergeLatest_n x0 x1 x2 x0 x1 x2 _ HZx.out.1 HZx.out.1)).mono ?_
      rintro r w15 ⟨rfl, hb⟩
      have HB15 : Hid (Below w.heap.size w w15) := below_next HB14.out hb
      have sz15 : w14.heap.size ≤ w15.heap.size := hb.size
      have A_15 : Hid (Bx w15 w1.heap.size [.string x0, .int .i64 x1, .int .i64 x2]) := A_14.out.next hb
      have B_15 : Hid (Bx w15 (w1.heap.size + 1) [.string y0, .int .i64 y1, .int .i64 y2]) := B_14.out.next hb
      have C_15 : Hid (Bx w15 w4.heap.size [.string u0, .int .i64 u1, .int .i64 u2]) := C_14.out.next hb
      have M_15 : Hid (Bx w15 w7.heap.size [.string m0, .int .i64 m1, .int .i64 m2]) := M_14.out.next hb
      clear hb A_14 B_14 C_14 M_14 HB14
      have cM0 := M_15.out.cell 0 rfl
      have cM1 := M_15.out.cell 1 rfl
      have cM2 := M_15.out.cell 2 rfl
      have zM := M_15.out.2
      have cC0 := C_15.out.cell 0 rfl
      have cC1 := C_15.out.cell 1 rfl
      have cC2 := C_15.out.cell 2 rfl
      have zC := C_15.out.2
      go_wp2_with fail
      obtain ⟨w16, hw16⟩ : ∃ x, x = w15.alloc (.cells #[.string x0, .int .i64 x1, .int .i64 x2] 39) := ⟨_, rfl⟩
      have hb : Below w15.heap.size w15 w16 := hw16 ▸ Go.Joins.below_alloc1 _ _
      have HB16 : Hid (Below w.heap.size w w16) := below_next HB15.out hb
      have sz16 : w15.heap.size < w16.heap.size := by rw [hw16]; simp
      have A_16 : Hid (Bx w16 w1.heap.size [.string x0, .int .i64 x1, .int .i64 x2]) := A_15.out.next hb
      have B_16 : Hid (Bx w16 (w1.heap.size + 1) [.string y0, .int .i64 y1, .int .i64 y2]) := B_15.out.next hb
      have C_16 : Hid (Bx w16 w4.heap.size [.string u0, .int .i64 u1, .int .i64 u2]) := C_15.out.next hb
      have M_16 : Hid (Bx w16 w7.heap.size [.string m0, .int .i64 m1, .int .i64 m2]) := M_15.out.next hb
      have S_16 : Hid (Bx w16 w15.heap.size [.string x0, .int .i64 x1, .int .i64 x2]) := hw16 ▸ Bx.new w15 [.string x0, .int .i64 x1, .int .i64 x2] _
      rw [← hw16]
      clear hb hw16 cM0 cM1 cM2 zM cC0 cC1 cC2 zC A_15 B_15 C_15 M_15 HB15
      refine ((show Calls _ _ _ _ (MlP ((l0, l1, l2), true) _) from HCl.out ▸ mergeLatest_n m0 m1 m2 u0 u1 u2 _ HGM.out.2 HZu.out.1)).mono ?_
      rintro r w17 ⟨rfl, hb⟩
      have HB17 : Hid (Below w.heap.size w w17) := below_next HB16.out hb
      have sz17 : w16.heap.size ≤ w17.heap.size := hb.size
      have A_17 : Hid (Bx w17 w1.heap.size [.string x0, .int .i64 x1, .int .i64 x2]) := A_16.out.next hb
      have B_17 : Hid (Bx w17 (w1.heap.size + 1) [.string y0, .int .i64 y1, .int .i64 y2]) := B_16.out.next hb
      have C_17 : Hid (Bx w17 w4.heap.size [.string u0, .int .i64 u1, .int .i64 u2]) := C_16.out.next hb
      have M_17 : Hid (Bx w17 w7.heap.size [.string m0, .int .i64 m1, .int .i64 m2]) := M_16.out.next hb
      have S_17 : Hid (Bx w17 w15.heap.size [.string x0, .int .i64 x1, .int .i64 x2]) := S_16.out.next hb
      clear hb A_16 B_16 C_16 M_16 S_16 HB16
      have cB0 := B_17.out.cell 0 rfl
      have cB1 := B_17.out.cell 1 rfl
      have cB2 := B_17.out.cell 2 rfl
      have zB := B_17.out.2
      have cC0 := C_17.out.cell 0 rfl
      have cC1 := C_17.out.cell 1 rfl
      have cC2 := C_17.out.cell 2 rfl
      have zC := C_17.out.2
      go_wp2_with fail
      obtain ⟨w18, hw18⟩ : ∃ x, x = w17.alloc (.cells #[.string l0, .int .i64 l1, .int .i64 l2] 39) := ⟨_, rfl⟩
      have hb : Below w17.heap.size w17 w18 := hw18 ▸ Go.Joins.below_alloc1 _ _
      have HB18 : Hid (Below w.heap.size w w18) := below_next HB17.out hb
      have sz18 : w17.heap.size < w18.heap.size := by rw [hw18]; simp
      have A_18 : Hid (Bx w18 w1.heap.size [.string x0, .int .i64 x1, .int .i64 x2]) := A_17.out.next hb
      have B_18 : Hid (Bx w18 (w1.heap.size + 1) [.string y0, .int .i64 y1, .int .i64 y2]) := B_17.out.next hb
      have C_18 : Hid (Bx w18 w4.heap.size [.string u0, .int .i64 u1, .int .i64 u2]) := C_17.out.next hb
      have M_18 : Hid (Bx w18 w7.heap.size [.string m0, .int .i64 m1, .int .i64 m2]) := M_17.out.next hb
      have S_18 : Hid (Bx w18 w15.heap.size [.string x0, .int .i64 x1, .int .i64 x2]) := S_17.out.next hb
      have L_18 : Hid (Bx w18 w17.heap.size [.string l0, .int .i64 l1, .int .i64 l2]) := hw18 ▸ Bx.new w17 [.string l0, .int .i64 l1, .int .i64 l2] _
      rw [← hw18]
      clear hb hw18 cB0 cB1 cB2 zB cC0 cC1 cC2 zC A_17 B_17 C_17 M_17 S_17 HB17
      refine ((show Calls _ _ _ _ (MlP ((b0, b1, b2), true) _) from HCb.out ▸ mergeLatest_n y0 y1 y2 u0 u1 u2 _ HZx.out.2 HZu.out.1)).mono ?_
      rintro r w19 ⟨rfl, hb⟩
      have HB19 : Hid (Below w.heap.size w w19) := below_next HB18.out hb
      have sz19 : w18.heap.size ≤ w19.heap.size := hb.size
      have A_19 : Hid (Bx w19 w1.heap.size [.string x0, .int .i64 x1, .int .i64 x2]) := A_18.out.next hb
      have B_19 : Hid (Bx w19 (w1.heap.size + 1) [.string y0, .int .i64 y1, .int .i64 y2]) := B_18.out.next hb
      have C_19 : Hid (Bx w19 w4.heap.size [.string u0, .int .i64 u1, .int .i64 u2]) := C_18.out.next hb
      have M_19 : Hid (Bx w19 w7.heap.size [.string m0, .int .i64 m1, .int .i64 m2]) := M_18.out.next hb
      have S_19 : Hid (Bx w19 w15.heap.size [.string x0, .int .i64 x1, .int .i64 x2]) := S_18.out.next hb
      have L_19 : Hid (Bx w19 w17.heap.size [.string l0, .int .i64 l1, .int .i64 l2]) := L_18.out.next hb
      clear hb A_18 B_18 C_18 M_18 S_18 L_18 HB18
      have cA0 := A_19.out.cell 0 rfl
      have cA1 := A_19.out.cell 1 rfl
      have cA2 := A_19.out.cell 2 rfl
      have zA := A_19.out.2
      go_wp2_with fail
      obtain ⟨w20, hw20⟩ : ∃ x, x = w19.alloc (.cells #[.string b0, .int .i64 b1, .int .i64 b2] 39) := ⟨_, rfl⟩
      have hb : Below w19.heap.size w19 w20 := hw20 ▸ Go.Joins.below_alloc1 _ _
      have HB20 : Hid (Below w.heap.size w w20) := below_next HB19.out hb
      have sz20 : w19.heap.size < w20.heap.size := by rw [hw20]; simp
      have A_20 : Hid (Bx w20 w1.heap.size [.string x0, .int .i64 x1, .int .i64 x2]) := A_19.out.next hb
      have B_20 : Hid (Bx w20 (w1.heap.size + 1) [.string y0, .int .i64 y1, .int .i64 y2]) := B_19.out.next hb
      have C_20 : Hid (Bx w20 w4.heap.size [.string u0, .int .i64 u1, .int .i64 u2]) := C_19.out.next hb
      have M_20 : Hid (Bx w20 w7.heap.size [.string m0, .int .i64 m1, .int .i64 m2]) := M_19.out.next hb
      have S_20 : Hid (Bx w20 w15.heap.size [.string x0, .int .i64 x1, .int .i64 x2]) := S_19.out.next hb
      have L_20 : Hid (Bx w20 w17.heap.size [.string l0, .int .i64 l1, .int .i64 l2]) := L_19.out.next hb
      have Q_20 : Hid (Bx w20 w19.heap.size [.string b0, .int .i64 b1, .int .i64 b2]) := hw20 ▸ Bx.new w19 [.string b0, .int .i64 b1, .int .i64 b2] _
      rw [← hw20]
      clear hb hw20 cA0 cA1 cA2 zA A_19 B_19 C_19 M_19 S_19 L_19 HB19
      have cQ0 := Q_20.out.cell 0 rfl
      have cQ1 := Q_20.out.cell 1 rfl
      have cQ2 := Q_20.out.cell 2 rfl
      have zQ := Q_20.out.2
      go_wp2_with fail
      clear cQ0 cQ1 cQ2 zQ
      refine ((show Calls _ _ _ _ (MlP ((l0, l1, l2), true) _) from HCR.out ▸ mergeLatest_n x0 x1 x2 b0 b1 b2 _ HZx.out.1 HGb.out.2)).mono ?_
      rintro r w21 ⟨rfl, hb⟩
      have HB21 : Hid (Below w.heap.size w w21) := below_next HB20.out hb
      have sz21 : w20.heap.size ≤ w21.heap.size := hb.size
      have A_21 : Hid (Bx w21 w1.heap.size [.string x0, .int .i64 x1, .int .i64 x2]) := A_20.out.next hb
      have B_21 : Hid (Bx w21 (w1.heap.size + 1) [.string y0, .int .i64 y1, .int .i64 y2]) := B_20.out.next hb
      have C_21 : Hid (Bx w21 w4.heap.size [.string u0, .int .i64 u1, .int .i64 u2]) := C_20.out.next hb
      have M_21 : Hid (Bx w21 w7.heap.size [.string m0, .int .i64 m1, .int .i64 m2]) := M_20.out.next hb
      have S_21 : Hid (Bx w21 w15.heap.size [.string x0, .int .i64 x1, .int .i64 x2]) := S_20.out.next hb
      have L_21 : Hid (Bx w21 w17.heap.size [.string l0, .int .i64 l1, .int .i64 l2]) := L_20.out.next hb
      have Q_21 : Hid (Bx w21 w19.heap.size [.string b0, .int .i64 b1, .int .i64 b2]) := Q_20.out.next hb
      clear hb A_20 B_20 C_20 M_20 S_20 L_20 Q_20 HB20
      have hr2 := fun W => (by have q := run_eqLat x0 x1 x2 x0 x1 x2 W; rw [latE_yes] at q; exact q : (binOp .eql 39 (.agg #[.string x0, .int .i64 x1, .int .i64 x2]) (.agg #[.string x0, .int .i64 x1, .int .i64 x2])).run Try.prog W = .ok (.bool true) W)
      have hr3 := fun W => (by have q := run_eqLat l0 l1 l2 l0 l1 l2 W; rw [latE_yes] at q; exact q : (binOp .eql 39 (.agg #[.string l0, .int .i64 l1, .int .i64 l2]) (.agg #[.string l0, .int .i64 l1, .int .i64 l2])).run Try.prog W = .ok (.bool true) W)
      obtain ⟨q1, hq1⟩ : ∃ q, q = latE m0 m1 m2 x0 x1 x2 := ⟨_, rfl⟩
      obtain ⟨q2, hq2⟩ : ∃ q, q = latE m0 m1 m2 y0 y1 y2 := ⟨_, rfl⟩
      have hq : q1 = true ∨ q2 = true := by rcases mxT_or (x0, x1, x2) (y0, y1, y2) with k | k; (· rw [HM.out] at k; cases k; exact Or.inl (by rw [hq1, latE_yes])); (· rw [HM.out] at k; cases k; exact Or.inr (by rw [hq2, latE_yes]))
      have hr4 := fun W => (by have q := run_eqLat m0 m1 m2 x0 x1 x2 W; rw [← hq1] at q; exact q : (binOp .eql 39 (.agg #[.string m0, .int .i64 m1, .int .i64 m2]) (.agg #[.string x0, .int .i64 x1, .int .i64 x2])).run Try.prog W = .ok (.bool q1) W)
      have hr5 := fun W => (by have q := run_eqLat m0 m1 m2 y0 y1 y2 W; rw [← hq2] at q; exact q : (binOp .eql 39 (.agg #[.string m0, .int .i64 m1, .int .i64 m2]) (.agg #[.string y0, .int .i64 y1, .int .i64 y2])).run Try.prog W = .ok (.bool q2) W)
      clear hq1 hq2
      have HF := Hid.intro HB21.out
      obtain ⟨wz, hwz⟩ : ∃ x, x = w21.alloc (.cells #[.string l0, .int .i64 l1, .int .i64 l2] 39) := ⟨_, rfl⟩
      have hb : Below w21.heap.size w21 wz := hwz ▸ Go.Joins.below_alloc1 _ _
      have HR : Hid (Bx wz w21.heap.size [.string l0, .int .i64 l1, .int .i64 l2] ∧ Below w.heap.size w wz) := ⟨hwz ▸ Bx.new w21 [_, _, _] _, below_next HF.out hb⟩
      have A_z := Hid.intro (A_21.out.next hb)
      have B_z := Hid.intro (B_21.out.next hb)
      have M_z := Hid.intro (M_21.out.next hb)
      have S_z := Hid.intro (S_21.out.next hb)
      have L_z := Hid.intro (L_21.out.next hb)
      go_upto_region 17 with fail
      rw [← hwz]
      clear hwz hb
      have k00 := A_z.out.cell 0 rfl
      have k01 := A_z.out.cell 1 rfl
      have k02 := A_z.out.cell 2 rfl
      have k0z := A_z.out.2
      have k10 := B_z.out.cell 0 rfl
      have k11 := B_z.out.cell 1 rfl
      have k12 := B_z.out.cell 2 rfl
      have k1z := B_z.out.2
      have k20 := M_z.out.cell 0 rfl
      have k21 := M_z.out.cell 1 rfl
      have k22 := M_z.out.cell 2 rfl
      have k2z := M_z.out.2
      have k30 := S_z.out.cell 0 rfl
      have k31 := S_z.out.cell 1 rfl
      have k32 := S_z.out.cell 2 rfl
      have k3z := S_z.out.2
      have k40 := L_z.out.cell 0 rfl
      have k41 := L_z.out.cell 1 rfl
      have k42 := L_z.out.cell 2 rfl
      have k4z := L_z.out.2
      have k50 := HR.out.1.cell 0 rfl
      have k51 := HR.out.1.cell 1 rfl
      have k52 := HR.out.1.cell 2 rfl
      have k5z := HR.out.1.2
      cases q1
      · have hq2 : q2 = true := by rcases hq with k | k; (· cases k); (· exact k)
        subst hq2
        clear hq
        go_wp2
        go_ret
        exact ⟨rfl, HR.out.2⟩
      · clear hq
        go_wp2
        go_ret
        exact ⟨rfl, HR.out.2⟩


theorem own : ownKnob Try.prog.godebug = none := by kernel_rfl
theorem laidOut : laidOutB Try.prog = true := by kernel_rfl

set_option maxRecDepth 100000 in
theorem lifted (os : Os) (started : os.Started) (H : Type) (enc : TypeId × Value → H) :
    ReturnsInHanded {} Try.checked os 4 .any (Rows.fnLatestSpec.pre6 enc Try.prog Try.f4 Rows.fnLatestRow.domain false) (Rows.fnLatestSpec.post enc Try.prog Try.f4 false true false false) := by
  refine returnsInHanded_of_change (C := Try.checked) own started (by kernel_rfl) Try.func4
    (ChangeSpec.witness6 (enc := enc) (C := Try.checked) false ⟨#[], #[.slice none 0 0, .slice none 0 0], []⟩ 8 (by kernel_rfl) (by kernel_rfl) (by kernel_rfl) (by kernel_rfl)) ?_
  intro W base args ds gs before hval0 hW hcnd _
  have hval : ∀ (j : Nat) t v, Try.f4.params[j]? = some t → args[j]? = some v → Value.okWide Try.prog W .any base t v := hval0
  have hW' := hW
  obtain ⟨p, q, hA0, hV, rfl, hfz, hnd⟩ := hW
  have hA : DataW.TrodAll enc Try.prog W 0 (fun _ => true) true Try.f4.params.toList args.toList ds p := hA0
  rw [Try.params4] at hA hval
  obtain ⟨v0, vs0, d0, ds0, p0, q0, hargs, rfl, rfl, h0, r0⟩ := trodAll_cons hA
  obtain ⟨v1, vs1, d1, ds1, p1, q1, rfl, rfl, rfl, h1, r1⟩ := trodAll_cons r0
  obtain ⟨rfl, rfl, rfl⟩ := trodAll_nil r1
  obtain rfl : args = #[v0, v1] := by cases args; simp_all
  obtain ⟨rfl, rfl⟩ := trodVars_none hV
  have k0 := h0
  have lt0 : ∀ x ∈ p0, x.block < W.heap.size := by obtain ⟨m, hm⟩ := k0; exact DataW.trod_lt m _ _ _ hm
  obtain ⟨a0, len0, cap0, rfl⟩ := okWide_slice Try.underlying22 (hval 0 22 v0 rfl rfl)
  obtain ⟨n0, X0, s0, b0⟩ := open_bytes h0
  have k1 := h1
  have lt1 : ∀ x ∈ p1, x.block < W.heap.size := by obtain ⟨m, hm⟩ := k1; exact DataW.trod_lt m _ _ _ hm
  obtain ⟨a1, len1, cap1, rfl⟩ := okWide_slice Try.underlying22 (hval 1 22 v1 rfl rfl)
  obtain ⟨n1, X1, s1, b1⟩ := open_bytes h1
  clear hA0 hval0
  refine (walk (w := W) a0 len0 cap0 X0 n0 s0 b0 a1 len1 cap1 X1 n1 s1 b1).mono fun e W' ⟨he, bel⟩ => ?_
  subst he
  exact ⟨_, rfl, _, _, _, [], _, [], hW', trodAll_mk1 (shut_bool Try.underlying4 _), (trodAll_cons_mk (Below.trod laidOut (by kernel_rfl) (of_decide_eq_true (by kernel_rfl)) k0 bel lt0) (trodAll_cons_mk (Below.trod laidOut (by kernel_rfl) (of_decide_eq_true (by kernel_rfl)) k1 bel lt1) trodAll_mk0)), rfl, bel.frame _, fun h => by cases h⟩

set_option maxHeartbeats 40000000 in
theorem closed : joinedFacts Try.pinned.checked.prog 4 Try.f4 Rows.fnLatestSpec Rows.fnLatestRow = true := by
  unfold joinedFacts
  repeat' (first | (with_reducible refine both ?_ ?_) | (with_reducible exact may_enter') | (with_reducible refine lifts_eq ?_) | (with_reducible refine make_eq ?_) | as_aux_lemma => kernel_rfl)
theorem named : Try.pinned.checked.prog.funcNamed Rows.fnLatestRow.func = some 4 := by kernel_rfl
theorem over : Rows.fnLatestRow.holds Try.pinned (OpenSpec.ofChange Rows.fnLatestSpec) :=
  OpenClaim.holds_of_wide 4 Try.f4 rfl rfl rfl rfl rfl rfl rfl ⟨rfl, rfl, rfl, rfl, rfl⟩ rfl rfl rfl rfl rfl named Try.func4 closed
    (of_decide_eq_true (by as_aux_lemma => kernel_rfl)) (by unfold Func.isWrapper; first | (rw [if_pos (by decide +kernel)]; kernel_rfl) | (rw [if_neg (by decide +kernel)]; exact ⟨rfl, rfl⟩))
    (fun os started H enc _ => lifted os started H enc)

end Go.Proofs.Ytnglgndocmkbfaa.fLatest
namespace Go.Proofs.Ytnglgndocmkbfaa
theorem fLatest_holds : Rows.FnLatestSaid := fLatest.over
#print axioms fLatest_holds
end Go.Proofs.Ytnglgndocmkbfaa
