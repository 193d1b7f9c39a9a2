/- At every two lists of numbers impl.JoinCuts answers as the specification does, writes into no argument, its answer owns its memory, and each argument reads behind the call as it read before. No condition. -/
import Derived.Test.YtodkiojapkalfaaJoin
import Derived.Test.YtodkiojapkalfaaRowS
import Derived.Test.YtodkiojapkalfaaOpenE
import Derived.ProofKit
import Derived.OpenShut
import Derived.ShutString
import Derived.ChangeOld
import Derived.Below
import Derived.Lib.SmallJoins
namespace Go.Proofs.Ytodkiojapkalfaa.xJoinCuts
open Go.ChangeShapes Go.WideShapes Go.ChangeAt Go.RowKit
open Go.ChangeMaps (open_string shut_string)
set_option linter.unusedVariables false

set_option maxHeartbeats 2000000 in
theorem walk (a : Option Addr) (n cap : Nat) (X : Nat → Int) (w : World) (hm : n ≤ maxLen) (hs : Sl w a n 1 (intF X)) (hX : ∀ i, i < n → -9223372036854775808 ≤ X i ∧ X i ≤ 9223372036854775807)
    (a' : Option Addr) (n' cap' : Nat) (Y : Nat → Int) (hm' : n' ≤ maxLen) (hs' : Sl w a' n' 1 (intF Y)) (hY : ∀ i, i < n' → -9223372036854775808 ≤ Y i ∧ Y i ≤ 9223372036854775807) (meet : Bool) :
    Calls Try.prog 14 #[.slice a n cap, .slice a' n' cap', .bool meet] w fun r w' => r = .returned (.bool true) ∧ Below w.heap.size w w' := by
  unfold maxLen at hm hm'
  by_cases hn : n ≤ 1048576
  case neg =>
    have hlt : (1048576 : Int) < (n : Int) := by omega
    clear hs hs' hX hY
    go_enter Try.func14, Try.ntmps14
    go_wp2
    go_ret
    exact ⟨rfl, Below.refl _ _⟩
  case pos =>
  have hlt : ¬ (1048576 : Int) < (n : Int) := by omega
  by_cases hn' : n' ≤ 1048576
  case neg =>
    have hlt' : (1048576 : Int) < (n' : Int) := by omega
    clear hs hs' hX hY
    go_enter Try.func14, Try.ntmps14
    go_wp2
    go_ret
    exact ⟨rfl, Below.refl _ _⟩
  case pos =>
  have hlt' : ¬ (1048576 : Int) < (n' : Int) := by omega
  have HS : Hid (Sl w a n 1 (intF X) ∧ Sl w a' n' 1 (intF Y) ∧ (∀ i, i < n → X i ≤ 9223372036854775807) ∧ (∀ i, i < n' → Y i ≤ 9223372036854775807)) := ⟨hs, hs', fun i hi => (hX i hi).2, fun i hi => (hY i hi).2⟩
  clear hs hs' hX hY
  go_enter Try.func14, Try.ntmps14
  go_wp2_with fail
  refine (toIntS_any _ _ _ X _ hn (HS.out.1.kept (Below.refl _ _))).mono ?_
  rintro r w1 ⟨rfl, hi, hg, hb⟩
  have HB1 : Hid (Below w.heap.size w w1) := below_next (Below.refl _ _) hb
  have sz1 : w.heap.size ≤ w1.heap.size := hb.size
  have A_1 : Hid (RowS w1 w.heap.size (w.heap.size + 1) (some ⟨w.heap.size, 0, none⟩) n X) := ⟨hi, hg⟩
  clear hb hi
  go_wp2_with fail
  refine (toIntS_any _ _ _ Y _ hn' (HS.out.2.1.kept HB1.out)).mono ?_
  rintro r w2 ⟨rfl, hi, hg, hb⟩
  have HB2 : Hid (Below w.heap.size w w2) := below_next HB1.out hb
  have sz2 : w1.heap.size ≤ w2.heap.size := hb.size
  have A_2 : Hid (RowS w2 w.heap.size (w.heap.size + 1) (some ⟨w.heap.size, 0, none⟩) n X) := A_1.out.next hb
  have D_2 : Hid (RowS w2 w1.heap.size (w1.heap.size + 1) (some ⟨w1.heap.size, 0, none⟩) n' Y) := ⟨hi, hg⟩
  clear hb hi A_1 HB1
  go_wp2_with fail
  refine (specJoin_any _ _ _ X _ _ _ Y meet _ hn hn' A_2.out.sl D_2.out.sl HS.out.2.2.1 HS.out.2.2.2).mono ?_
  rintro r w3 ⟨⟨a3, cap3, rfl, hi⟩, hb⟩
  have HB3 : Hid (Below w.heap.size w w3) := below_next HB2.out hb
  have sz3 : w2.heap.size ≤ w3.heap.size := hb.size
  have A_3 : Hid (RowS w3 w.heap.size (w.heap.size + 1) (some ⟨w.heap.size, 0, none⟩) n X) := A_2.out.next hb
  have D_3 : Hid (RowS w3 w1.heap.size (w1.heap.size + 1) (some ⟨w1.heap.size, 0, none⟩) n' Y) := D_2.out.next hb
  have S_3 : Hid (RowS w3 w2.heap.size w3.heap.size a3 (jN X n Y n') (joinV meet X Y)) := RowS.of hi
  clear hb hi A_2 D_2 HB2
  clear A_3
  clear D_3
  have hN : jN X n Y n' ≤ 6 := by unfold jN; split <;> omega
  go_wp2_with fail
  refine (toIntS_any _ _ _ X _ hn (HS.out.1.kept HB3.out)).mono ?_
  rintro r w4 ⟨rfl, hi, hg, hb⟩
  have HB4 : Hid (Below w.heap.size w w4) := below_next HB3.out hb
  have sz4 : w3.heap.size ≤ w4.heap.size := hb.size
  have S_4 : Hid (RowS w4 w2.heap.size w3.heap.size a3 (jN X n Y n') (joinV meet X Y)) := S_3.out.next hb
  have A_4 : Hid (RowS w4 w3.heap.size (w3.heap.size + 1) (some ⟨w3.heap.size, 0, none⟩) n X) := ⟨hi, hg⟩
  clear hb hi S_3 HB3
  go_wp2_with fail
  refine (toIntS_any _ _ _ Y _ hn' (HS.out.2.1.kept HB4.out)).mono ?_
  rintro r w5 ⟨rfl, hi, hg, hb⟩
  have HB5 : Hid (Below w.heap.size w w5) := below_next HB4.out hb
  have sz5 : w4.heap.size ≤ w5.heap.size := hb.size
  have S_5 : Hid (RowS w5 w2.heap.size w3.heap.size a3 (jN X n Y n') (joinV meet X Y)) := S_4.out.next hb
  have A_5 : Hid (RowS w5 w3.heap.size (w3.heap.size + 1) (some ⟨w3.heap.size, 0, none⟩) n X) := A_4.out.next hb
  have D_5 : Hid (RowS w5 w4.heap.size (w4.heap.size + 1) (some ⟨w4.heap.size, 0, none⟩) n' Y) := ⟨hi, hg⟩
  clear hb hi S_4 A_4 HB4
  go_wp2_with fail
  refine (join_any _ _ _ X _ _ _ Y meet _ hn hn' A_5.out.sl D_5.out.sl).mono ?_
  rintro r w6 ⟨⟨a6, cap6, rfl, hi⟩, hb⟩
  have HB6 : Hid (Below w.heap.size w w6) := below_next HB5.out hb
  have sz6 : w5.heap.size ≤ w6.heap.size := hb.size
  have S_6 : Hid (RowS w6 w2.heap.size w3.heap.size a3 (jN X n Y n') (joinV meet X Y)) := S_5.out.next hb
  have A_6 : Hid (RowS w6 w3.heap.size (w3.heap.size + 1) (some ⟨w3.heap.size, 0, none⟩) n X) := A_5.out.next hb
  have D_6 : Hid (RowS w6 w4.heap.size (w4.heap.size + 1) (some ⟨w4.heap.size, 0, none⟩) n' Y) := D_5.out.next hb
  have G_6 : Hid (RowS w6 w5.heap.size w6.heap.size a6 (jN X n Y n') (joinV meet X Y)) := RowS.of hi
  clear hb hi S_5 A_5 D_5 HB5
  have HJ : Hid (jN X n Y n' = jN X n Y n' ∧ joinV meet X Y = joinV meet X Y ∧ jOk X n Y n' = jOk X n Y n') := ⟨rfl, rfl, rfl⟩
  go_wp2_with fail
  refine (eqIntS_same _ _ _ _ _ (joinV meet X Y) _ (by omega) G_6.out.sl S_6.out.sl).mono ?_
  rintro r w7 ⟨rfl, hb⟩
  have HB7 : Hid (Below w.heap.size w w7) := below_next HB6.out hb
  have sz7 : w6.heap.size ≤ w7.heap.size := hb.size
  have S_7 : Hid (RowS w7 w2.heap.size w3.heap.size a3 (jN X n Y n') (joinV meet X Y)) := S_6.out.next hb
  have A_7 : Hid (RowS w7 w3.heap.size (w3.heap.size + 1) (some ⟨w3.heap.size, 0, none⟩) n X) := A_6.out.next hb
  have D_7 : Hid (RowS w7 w4.heap.size (w4.heap.size + 1) (some ⟨w4.heap.size, 0, none⟩) n' Y) := D_6.out.next hb
  have G_7 : Hid (RowS w7 w5.heap.size w6.heap.size a6 (jN X n Y n') (joinV meet X Y)) := G_6.out.next hb
  clear hb S_6 A_6 D_6 G_6 HB6
  go_wp2_with fail
  refine (toIntS_any _ _ _ X _ hn (HS.out.1.kept HB7.out)).mono ?_
  rintro r w8 ⟨rfl, hi, hg, hb⟩
  have HB8 : Hid (Below w.heap.size w w8) := below_next HB7.out hb
  have sz8 : w7.heap.size ≤ w8.heap.size := hb.size
  have S_8 : Hid (RowS w8 w2.heap.size w3.heap.size a3 (jN X n Y n') (joinV meet X Y)) := S_7.out.next hb
  have A_8 : Hid (RowS w8 w3.heap.size (w3.heap.size + 1) (some ⟨w3.heap.size, 0, none⟩) n X) := A_7.out.next hb
  have D_8 : Hid (RowS w8 w4.heap.size (w4.heap.size + 1) (some ⟨w4.heap.size, 0, none⟩) n' Y) := D_7.out.next hb
  have G_8 : Hid (RowS w8 w5.heap.size w6.heap.size a6 (jN X n Y n') (joinV meet X Y)) := G_7.out.next hb
  have T_8 : Hid (RowS w8 w7.heap.size (w7.heap.size + 1) (some ⟨w7.heap.size, 0, none⟩) n X) := ⟨hi, hg⟩
  clear hb hi S_7 A_7 D_7 G_7 HB7
  go_wp2_with fail
  refine (eqIntS_same _ _ _ _ _ X _ hn A_8.out.sl T_8.out.sl).mono ?_
  rintro r w9 ⟨rfl, hb⟩
  have HB9 : Hid (Below w.heap.size w w9) := below_next HB8.out hb
  have sz9 : w8.heap.size ≤ w9.heap.size := hb.size
  have S_9 : Hid (RowS w9 w2.heap.size w3.heap.size a3 (jN X n Y n') (joinV meet X Y)) := S_8.out.next hb
  have A_9 : Hid (RowS w9 w3.heap.size (w3.heap.size + 1) (some ⟨w3.heap.size, 0, none⟩) n X) := A_8.out.next hb
  have D_9 : Hid (RowS w9 w4.heap.size (w4.heap.size + 1) (some ⟨w4.heap.size, 0, none⟩) n' Y) := D_8.out.next hb
  have G_9 : Hid (RowS w9 w5.heap.size w6.heap.size a6 (jN X n Y n') (joinV meet X Y)) := G_8.out.next hb
  have T_9 : Hid (RowS w9 w7.heap.size (w7.heap.size + 1) (some ⟨w7.heap.size, 0, none⟩) n X) := T_8.out.next hb
  clear hb S_8 A_8 D_8 G_8 T_8 HB8
  clear T_9
  go_wp2_with fail
  refine (toIntS_any _ _ _ Y _ hn' (HS.out.2.1.kept HB9.out)).mono ?_
  rintro r w10 ⟨rfl, hi, hg, hb⟩
  have HB10 : Hid (Below w.heap.size w w10) := below_next HB9.out hb
  have sz10 : w9.heap.size ≤ w10.heap.size := hb.size
  have S_10 : Hid (RowS w10 w2.heap.size w3.heap.size a3 (jN X n Y n') (joinV meet X Y)) := S_9.out.next hb
  have A_10 : Hid (RowS w10 w3.heap.size (w3.heap.size + 1) (some ⟨w3.heap.size, 0, none⟩) n X) := A_9.out.next hb
  have D_10 : Hid (RowS w10 w4.heap.size (w4.heap.size + 1) (some ⟨w4.heap.size, 0, none⟩) n' Y) := D_9.out.next hb
  have G_10 : Hid (RowS w10 w5.heap.size w6.heap.size a6 (jN X n Y n') (joinV meet X Y)) := G_9.out.next hb
  have T_10 : Hid (RowS w10 w9.heap.size (w9.heap.size + 1) (some ⟨w9.heap.size, 0, none⟩) n' Y) := ⟨hi, hg⟩
  clear hb hi S_9 A_9 D_9 G_9 HB9
  go_wp2_with fail
  refine (eqIntS_same _ _ _ _ _ Y _ hn' D_10.out.sl T_10.out.sl).mono ?_
  rintro r w11 ⟨rfl, hb⟩
  have HB11 : Hid (Below w.heap.size w w11) := below_next HB10.out hb
  have sz11 : w10.heap.size ≤ w11.heap.size := hb.size
  have S_11 : Hid (RowS w11 w2.heap.size w3.heap.size a3 (jN X n Y n') (joinV meet X Y)) := S_10.out.next hb
  have A_11 : Hid (RowS w11 w3.heap.size (w3.heap.size + 1) (some ⟨w3.heap.size, 0, none⟩) n X) := A_10.out.next hb
  have D_11 : Hid (RowS w11 w4.heap.size (w4.heap.size + 1) (some ⟨w4.heap.size, 0, none⟩) n' Y) := D_10.out.next hb
  have G_11 : Hid (RowS w11 w5.heap.size w6.heap.size a6 (jN X n Y n') (joinV meet X Y)) := G_10.out.next hb
  have T_11 : Hid (RowS w11 w9.heap.size (w9.heap.size + 1) (some ⟨w9.heap.size, 0, none⟩) n' Y) := T_10.out.next hb
  clear hb S_10 A_10 D_10 G_10 T_10 HB10
  clear T_11
  go_wp2_with fail
  refine (markIntS_any _ _ _ X 1 _ _ _ hn (by omega) (by omega) A_11.out.1).mono ?_
  rintro r w12 ⟨rfl, hi, ht⟩
  have HB12 : Hid (Below w.heap.size w w12) := below_turn HB11.out ht (by omega)
  have sz12 : w11.heap.size ≤ w12.heap.size := ht.2.2.2.1
  have S_12 : Hid (RowS w12 w2.heap.size w3.heap.size a3 (jN X n Y n') (joinV meet X Y)) := S_11.out.turn ht (by omega)
  have A_12 : Hid (RowS w12 w3.heap.size (w3.heap.size + 1) (some ⟨w3.heap.size, 0, none⟩) n (fun i => 1 + (i : Int))) := ⟨hi, Nat.le_trans A_11.out.2 sz12⟩
  have D_12 : Hid (RowS w12 w4.heap.size (w4.heap.size + 1) (some ⟨w4.heap.size, 0, none⟩) n' Y) := D_11.out.turn ht (by omega)
  have G_12 : Hid (RowS w12 w5.heap.size w6.heap.size a6 (jN X n Y n') (joinV meet X Y)) := G_11.out.turn ht (by omega)
  clear ht hi S_11 A_11 D_11 G_11 HB11
  go_wp2_with fail
  refine (markIntS_any _ _ _ Y _ _ _ _ hn' (by omega) (by omega) D_12.out.1).mono ?_
  rintro r w13 ⟨rfl, hi, ht⟩
  have HB13 : Hid (Below w.heap.size w w13) := below_turn HB12.out ht (by omega)
  have sz13 : w12.heap.size ≤ w13.heap.size := ht.2.2.2.1
  have S_13 : Hid (RowS w13 w2.heap.size w3.heap.size a3 (jN X n Y n') (joinV meet X Y)) := S_12.out.turn ht (by omega)
  have A_13 : Hid (RowS w13 w3.heap.size (w3.heap.size + 1) (some ⟨w3.heap.size, 0, none⟩) n (fun i => 1 + (i : Int))) := A_12.out.turn ht (by omega)
  have D_13 : Hid (RowS w13 w4.heap.size (w4.heap.size + 1) (some ⟨w4.heap.size, 0, none⟩) n' (fun i => 1 + (n : Int) + (i : Int))) := ⟨hi, Nat.le_trans D_12.out.2 sz13⟩
  have G_13 : Hid (RowS w13 w5.heap.size w6.heap.size a6 (jN X n Y n') (joinV meet X Y)) := G_12.out.turn ht (by omega)
  clear ht hi S_12 A_12 D_12 G_12 HB12
  clear A_13
  clear D_13
  go_wp2_with fail
  refine (eqIntS_same _ _ _ _ _ (joinV meet X Y) _ (by omega) G_13.out.sl S_13.out.sl).mono ?_
  rintro r w14 ⟨rfl, hb⟩
  have HB14 : Hid (Below w.heap.size w w14) := below_next HB13.out hb
  have sz14 : w13.heap.size ≤ w14.heap.size := hb.size
  have S_14 : Hid (RowS w14 w2.heap.size w3.heap.size a3 (jN X n Y n') (joinV meet X Y)) := S_13.out.next hb
  have G_14 : Hid (RowS w14 w5.heap.size w6.heap.size a6 (jN X n Y n') (joinV meet X Y)) := G_13.out.next hb
  clear hb S_13 G_13 HB13
  go_wp2_with fail
  refine (markIntS_any _ _ _ (joinV meet X Y) 1 _ _ _ (by omega) (by omega) (by omega) G_14.out.1).mono ?_
  rintro r w15 ⟨rfl, hi, ht⟩
  have HB15 : Hid (Below w.heap.size w w15) := below_turn HB14.out ht (by omega)
  have sz15 : w14.heap.size ≤ w15.heap.size := ht.2.2.2.1
  have S_15 : Hid (RowS w15 w2.heap.size w3.heap.size a3 (jN X n Y n') (joinV meet X Y)) := S_14.out.turn ht (by omega)
  have G_15 : Hid (RowS w15 w5.heap.size w6.heap.size a6 (jN X n Y n') (fun i => 1 + (i : Int))) := ⟨hi, Nat.le_trans G_14.out.2 sz15⟩
  clear ht hi S_14 G_14 HB14
  go_wp2_with fail
  refine (heldIntS_any _ _ _ 1 _ (by omega) (by omega) (by omega) G_15.out.sl).mono ?_
  rintro r w' ⟨rfl, hw⟩
  have hw := hw.symm
  subst hw
  go_wp2_with fail
  refine (toIntS_any _ _ _ X _ hn (HS.out.1.kept HB15.out)).mono ?_
  rintro r w16 ⟨rfl, hi, hg, hb⟩
  have HB16 : Hid (Below w.heap.size w w16) := below_next HB15.out hb
  have sz16 : w15.heap.size ≤ w16.heap.size := hb.size
  have S_16 : Hid (RowS w16 w2.heap.size w3.heap.size a3 (jN X n Y n') (joinV meet X Y)) := S_15.out.next hb
  have G_16 : Hid (RowS w16 w5.heap.size w6.heap.size a6 (jN X n Y n') (fun i => 1 + (i : Int))) := G_15.out.next hb
  have A_16 : Hid (RowS w16 w15.heap.size (w15.heap.size + 1) (some ⟨w15.heap.size, 0, none⟩) n X) := ⟨hi, hg⟩
  clear hb hi S_15 G_15 HB15
  go_wp2_with fail
  refine (toIntS_any _ _ _ Y _ hn' (HS.out.2.1.kept HB16.out)).mono ?_
  rintro r w17 ⟨rfl, hi, hg, hb⟩
  have HB17 : Hid (Below w.heap.size w w17) := below_next HB16.out hb
  have sz17 : w16.heap.size ≤ w17.heap.size := hb.size
  have S_17 : Hid (RowS w17 w2.heap.size w3.heap.size a3 (jN X n Y n') (joinV meet X Y)) := S_16.out.next hb
  have G_17 : Hid (RowS w17 w5.heap.size w6.heap.size a6 (jN X n Y n') (fun i => 1 + (i : Int))) := G_16.out.next hb
  have A_17 : Hid (RowS w17 w15.heap.size (w15.heap.size + 1) (some ⟨w15.heap.size, 0, none⟩) n X) := A_16.out.next hb
  have D_17 : Hid (RowS w17 w16.heap.size (w16.heap.size + 1) (some ⟨w16.heap.size, 0, none⟩) n' Y) := ⟨hi, hg⟩
  clear hb hi S_16 G_16 A_16 HB16
  go_wp2_with fail
  refine (join_any _ _ _ X _ _ _ Y meet _ hn hn' A_17.out.sl D_17.out.sl).mono ?_
  rintro r w18 ⟨⟨a9, cap9, rfl, hi⟩, hb⟩
  have HB18 : Hid (Below w.heap.size w w18) := below_next HB17.out hb
  have sz18 : w17.heap.size ≤ w18.heap.size := hb.size
  have S_18 : Hid (RowS w18 w2.heap.size w3.heap.size a3 (jN X n Y n') (joinV meet X Y)) := S_17.out.next hb
  have G_18 : Hid (RowS w18 w5.heap.size w6.heap.size a6 (jN X n Y n') (fun i => 1 + (i : Int))) := G_17.out.next hb
  have A_18 : Hid (RowS w18 w15.heap.size (w15.heap.size + 1) (some ⟨w15.heap.size, 0, none⟩) n X) := A_17.out.next hb
  have D_18 : Hid (RowS w18 w16.heap.size (w16.heap.size + 1) (some ⟨w16.heap.size, 0, none⟩) n' Y) := D_17.out.next hb
  have H_18 : Hid (RowS w18 w17.heap.size w18.heap.size a9 (jN X n Y n') (joinV meet X Y)) := RowS.of hi
  clear hb hi S_17 G_17 A_17 D_17 HB17
  clear A_18
  clear D_18
  go_wp2_with fail
  refine (eqIntS_same _ _ _ _ _ (joinV meet X Y) _ (by omega) H_18.out.sl S_18.out.sl).mono ?_
  rintro r w19 ⟨rfl, hb⟩
  have HB19 : Hid (Below w.heap.size w w19) := below_next HB18.out hb
  have sz19 : w18.heap.size ≤ w19.heap.size := hb.size
  have S_19 : Hid (RowS w19 w2.heap.size w3.heap.size a3 (jN X n Y n') (joinV meet X Y)) := S_18.out.next hb
  have G_19 : Hid (RowS w19 w5.heap.size w6.heap.size a6 (jN X n Y n') (fun i => 1 + (i : Int))) := G_18.out.next hb
  have H_19 : Hid (RowS w19 w17.heap.size w18.heap.size a9 (jN X n Y n') (joinV meet X Y)) := H_18.out.next hb
  clear hb S_18 G_18 H_18 HB18
  go_wp2_with fail
  refine (heldIntS_any _ _ _ 1 _ (by omega) (by omega) (by omega) G_19.out.sl).mono ?_
  rintro r w' ⟨rfl, hw⟩
  have hw := hw.symm
  subst hw
  have HE := HB19
  go_wp2
  go_ret
  exact ⟨rfl, HE.out⟩


theorem own : ownKnob Try.prog.godebug = none := by kernel_rfl
theorem laidOut : laidOutB Try.prog = true := by kernel_rfl

set_option maxRecDepth 100000 in
theorem lifted (os : Os) (started : os.Started) (H : Type) (enc : TypeId × Value → H) :
    ReturnsInHanded {} Try.checked os 14 .any (Rows.fnExactJoinCutsSpec.pre6 enc Try.prog Try.f14 Rows.fnExactJoinCutsRow.domain false) (Rows.fnExactJoinCutsSpec.post enc Try.prog Try.f14 false true false false) := by
  refine returnsInHanded_of_change (C := Try.checked) own started (by kernel_rfl) Try.func14
    (ChangeSpec.witness6 (enc := enc) (C := Try.checked) false ⟨#[], #[.slice none 0 0, .slice none 0 0, .bool false], []⟩ 8 (by kernel_rfl) (by kernel_rfl) (by kernel_rfl) (by kernel_rfl)) ?_
  intro W base args ds gs before hval0 hW hcnd _
  have hval : ∀ (j : Nat) t v, Try.f14.params[j]? = some t → args[j]? = some v → Value.okWide Try.prog W .any base t v := hval0
  have hW' := hW
  obtain ⟨p, q, hA0, hV, rfl, hfz, hnd⟩ := hW
  have hA : DataW.TrodAll enc Try.prog W 0 (fun _ => true) true Try.f14.params.toList args.toList ds p := hA0
  rw [Try.params14] at hA hval
  obtain ⟨v0, vs0, d0, ds0, p0, q0, hargs, rfl, rfl, h0, r0⟩ := trodAll_cons hA
  obtain ⟨v1, vs1, d1, ds1, p1, q1, rfl, rfl, rfl, h1, r1⟩ := trodAll_cons r0
  obtain ⟨v2, vs2, d2, ds2, p2, q2, rfl, rfl, rfl, h2, r2⟩ := trodAll_cons r1
  obtain ⟨rfl, rfl, rfl⟩ := trodAll_nil r2
  obtain rfl : args = #[v0, v1, v2] := by cases args; simp_all
  obtain ⟨rfl, rfl⟩ := trodVars_none hV
  have k0 := h0
  have lt0 : ∀ x ∈ p0, x.block < W.heap.size := by obtain ⟨m, hm⟩ := k0; exact DataW.trod_lt m _ _ _ hm
  obtain ⟨a0, len0, cap0, rfl⟩ := okWide_slice Try.underlying25 (hval 0 25 v0 rfl rfl)
  obtain ⟨n0, X0, s0, b0⟩ := open_ints h0
  have k1 := h1
  have lt1 : ∀ x ∈ p1, x.block < W.heap.size := by obtain ⟨m, hm⟩ := k1; exact DataW.trod_lt m _ _ _ hm
  obtain ⟨a1, len1, cap1, rfl⟩ := okWide_slice Try.underlying25 (hval 1 25 v1 rfl rfl)
  obtain ⟨n1, X1, s1, b1⟩ := open_ints h1
  have k2 := h2
  have lt2 : ∀ x ∈ p2, x.block < W.heap.size := by obtain ⟨m, hm⟩ := k2; exact DataW.trod_lt m _ _ _ hm
  obtain ⟨a2, rfl, rfl, rfl⟩ := open_bool Try.underlying4 (hval 2 4 v2 rfl rfl) h2
  clear hA0 hval0
  refine (walk (w := W) a0 len0 cap0 X0 n0 s0 b0 a1 len1 cap1 X1 n1 s1 b1 a2).mono fun e W' ⟨he, bel⟩ => ?_
  subst he
  exact ⟨_, rfl, _, _, _, [], _, [], hW', trodAll_mk1 (shut_bool Try.underlying4 _), (trodAll_cons_mk (Below.trod laidOut (by kernel_rfl) (of_decide_eq_true (by kernel_rfl)) k0 bel lt0) (trodAll_cons_mk (Below.trod laidOut (by kernel_rfl) (of_decide_eq_true (by kernel_rfl)) k1 bel lt1) (trodAll_cons_mk (Below.trod laidOut (by kernel_rfl) (of_decide_eq_true (by kernel_rfl)) k2 bel lt2) trodAll_mk0))), rfl, bel.frame _, fun h => by cases h⟩

theorem over : Rows.fnExactJoinCutsRow.holds Try.pinned (OpenSpec.ofChange Rows.fnExactJoinCutsSpec) :=
  OpenClaim.holds_of_wide 14 Try.f14 rfl rfl rfl rfl rfl rfl rfl ⟨rfl, rfl, rfl, rfl, rfl⟩ rfl rfl rfl rfl rfl (by kernel_rfl) Try.func14 (by kernel_rfl)
    (of_decide_eq_true (by kernel_rfl)) (by unfold Func.isWrapper; first | (rw [if_pos (by decide +kernel)]; kernel_rfl) | (rw [if_neg (by decide +kernel)]; exact ⟨rfl, rfl⟩))
    (fun os started H enc _ => lifted os started H enc)

end Go.Proofs.Ytodkiojapkalfaa.xJoinCuts
namespace Go.Proofs.Ytodkiojapkalfaa
theorem xJoinCuts_holds : Rows.FnExactJoinCutsSaid := xJoinCuts.over
#print axioms xJoinCuts_holds
end Go.Proofs.Ytodkiojapkalfaa
