/- At every argument impl.NewFence answers as the specification does, field by field, writes into no argument, its answer owns its memory, and each argument reads behind the call as it read before. No condition. -/
import Derived.Test.YtcbdlalpnlahcaaFeI
import Derived.Test.YtcbdlalpnlahcaaNtE
import Derived.Test.YtcbdlalpnlahcaaNtM
import Derived.Test.YtcbdlalpnlahcaaNtH
import Derived.Test.YtcbdlalpnlahcaaOpenE
import Derived.Test.YtcbdlalpnlahcaaWords
import Derived.ProofKit
import Derived.OpenShut
import Derived.ShutString
import Derived.ChangeOld
import Derived.Below
import Derived.Lib.SmallJoins
namespace Go.Proofs.Ytcbdlalpnlahcaa.xNewFence
open Go.ChangeShapes Go.WideShapes Go.ChangeAt Go.RowKit
open Go.ChangeMaps (open_string shut_string)
set_option linter.unusedVariables false

set_option maxRecDepth 100000 in
set_option maxHeartbeats 4000000 in
theorem walk (w : World) (m : Int) (wf0 : (Lit.int .i64 m).wf = true) :
    Calls Try.prog 5 #[.int .i64 m] w fun r w' => r = .returned (.bool true) ∧ Below w.heap.size w w' := by
  have H0 : Hid (-9223372036854775808 ≤ m ∧ m ≤ 9223372036854775807) := wf_bounds wf0
  clear wf0
  obtain ⟨EP, DU, MS, EN, z, hA⟩ : ∃ EP DU MS EN z, partsN m EP DU MS EN z := ⟨_, _, _, _, _, rfl, rfl, rfl, rfl, rfl⟩
  have HA : Hid (partsN m EP DU MS EN z) := hA
  clear hA
  have HT : Hid (szD shFence (EP, DU, MS, EN, ()) ≤ 1073741824) := Hid.intro (partsN_sz HA.out)
  obtain ⟨cn, hcn⟩ : ∃ c : Nat, c = cntT shFence (EP, DU, MS, EN, ()) := ⟨_, rfl⟩
  have HCN : Hid (cn = cntT shFence (EP, DU, MS, EN, ())) := hcn
  have hcb : cn ≤ 100000000000 := by rw [hcn]; exact cnt_fe HT.out
  clear hcn
  have hng : ¬ (1 + (cn : Int)) < 0 := by omega
  go_enter Try.func5, Try.ntmps5
  go_wp2_with fail
  refine (specNewFence_l m _ EP DU MS EN z HA.out).mono ?_
  rintro r w1 ⟨cs9, rfl, ho, hb⟩
  obtain ⟨p1_1, q1_1, _, p1_2, q1_2, _, hev, _⟩ := own_Fence ho
  subst hev
  have HB1 : Hid (Below w.heap.size w w1) := below_next (Below.refl _ _) hb
  have sz1 : w.heap.size ≤ w1.heap.size := hb.size
  have SP_1 : Hid (Own w1 shFence [.int .i64 EP, .int .i64 DU, .slice p1_1 MS.length q1_1, .slice p1_2 EN.length q1_2] (EP, DU, MS, EN, ()) (Btw w.heap.size w1.heap.size)) := ho
  clear hb ho
  go_wp2_with fail
  obtain ⟨w2, hw2⟩ : ∃ x, x = w1.alloc (.cells #[.int .i64 EP, .int .i64 DU, .slice p1_1 MS.length q1_1, .slice p1_2 EN.length q1_2] 29) := ⟨_, rfl⟩
  have hb : Below w1.heap.size w1 w2 := hw2 ▸ Go.Joins.below_alloc1 _ _
  have HB2 : Hid (Below w.heap.size w w2) := below_next HB1.out hb
  have sz2 : w1.heap.size < w2.heap.size := by rw [hw2]; simp
  have SP_2 : Hid (Own w2 shFence [.int .i64 EP, .int .i64 DU, .slice p1_1 MS.length q1_1, .slice p1_2 EN.length q1_2] (EP, DU, MS, EN, ()) (Btw w.heap.size w1.heap.size)) := SP_1.out.next hb
  have W_2 : Hid (Bx w2 w1.heap.size [.int .i64 EP, .int .i64 DU, .slice p1_1 MS.length q1_1, .slice p1_2 EN.length q1_2]) := hw2 ▸ Bx.new w1 [.int .i64 EP, .int .i64 DU, .slice p1_1 MS.length q1_1, .slice p1_2 EN.length q1_2] _
  rw [← hw2]
  clear hb hw2 SP_1 HB1
  refine (newFence_l m _ EP DU MS EN z HA.out).mono ?_
  rintro r w3 ⟨cs9, rfl, ho, hb⟩
  obtain ⟨p3_1, q3_1, _, p3_2, q3_2, _, hev, _⟩ := own_Fence ho
  subst hev
  have HB3 : Hid (Below w.heap.size w w3) := below_next HB2.out hb
  have sz3 : w2.heap.size ≤ w3.heap.size := hb.size
  have SP_3 : Hid (Own w3 shFence [.int .i64 EP, .int .i64 DU, .slice p1_1 MS.length q1_1, .slice p1_2 EN.length q1_2] (EP, DU, MS, EN, ()) (Btw w.heap.size w1.heap.size)) := SP_2.out.next hb
  have W_3 : Hid (Bx w3 w1.heap.size [.int .i64 EP, .int .i64 DU, .slice p1_1 MS.length q1_1, .slice p1_2 EN.length q1_2]) := W_2.out.next hb
  have GP_3 : Hid (Own w3 shFence [.int .i64 EP, .int .i64 DU, .slice p3_1 MS.length q3_1, .slice p3_2 EN.length q3_2] (EP, DU, MS, EN, ()) (Btw w2.heap.size w3.heap.size)) := ho
  clear hb ho SP_2 W_2 HB2
  have cW0 := W_3.out.cell 0 rfl
  have cW1 := W_3.out.cell 1 rfl
  have cW2 := W_3.out.cell 2 rfl
  have cW3 := W_3.out.cell 3 rfl
  have zW := W_3.out.2
  go_wp2_with fail
  obtain ⟨w4, hw4⟩ : ∃ x, x = w3.alloc (.cells #[.int .i64 EP, .int .i64 DU, .slice p3_1 MS.length q3_1, .slice p3_2 EN.length q3_2] 29) := ⟨_, rfl⟩
  have hb : Below w3.heap.size w3 w4 := hw4 ▸ Go.Joins.below_alloc1 _ _
  have HB4 : Hid (Below w.heap.size w w4) := below_next HB3.out hb
  have sz4 : w3.heap.size < w4.heap.size := by rw [hw4]; simp
  have SP_4 : Hid (Own w4 shFence [.int .i64 EP, .int .i64 DU, .slice p1_1 MS.length q1_1, .slice p1_2 EN.length q1_2] (EP, DU, MS, EN, ()) (Btw w.heap.size w1.heap.size)) := SP_3.out.next hb
  have W_4 : Hid (Bx w4 w1.heap.size [.int .i64 EP, .int .i64 DU, .slice p1_1 MS.length q1_1, .slice p1_2 EN.length q1_2]) := W_3.out.next hb
  have GP_4 : Hid (Own w4 shFence [.int .i64 EP, .int .i64 DU, .slice p3_1 MS.length q3_1, .slice p3_2 EN.length q3_2] (EP, DU, MS, EN, ()) (Btw w2.heap.size w3.heap.size)) := GP_3.out.next hb
  have G_4 : Hid (Bx w4 w3.heap.size [.int .i64 EP, .int .i64 DU, .slice p3_1 MS.length q3_1, .slice p3_2 EN.length q3_2]) := hw4 ▸ Bx.new w3 [.int .i64 EP, .int .i64 DU, .slice p3_1 MS.length q3_1, .slice p3_2 EN.length q3_2] _
  rw [← hw4]
  clear hb hw4 cW0 cW1 cW2 cW3 zW SP_3 W_3 GP_3 HB3
  refine (eqFence_n [.int .i64 EP, .int .i64 DU, .slice p3_1 MS.length q3_1, .slice p3_2 EN.length q3_2] [.int .i64 EP, .int .i64 DU, .slice p1_1 MS.length q1_1, .slice p1_2 EN.length q1_2] EP DU MS EN _ HT.out GP_4.out.lies SP_4.out.lies).mono ?_
  rintro r w5 ⟨rfl, hb⟩
  have HB5 : Hid (Below w.heap.size w w5) := below_next HB4.out hb
  have sz5 : w4.heap.size ≤ w5.heap.size := hb.size
  have SP_5 : Hid (Own w5 shFence [.int .i64 EP, .int .i64 DU, .slice p1_1 MS.length q1_1, .slice p1_2 EN.length q1_2] (EP, DU, MS, EN, ()) (Btw w.heap.size w1.heap.size)) := SP_4.out.next hb
  have W_5 : Hid (Bx w5 w1.heap.size [.int .i64 EP, .int .i64 DU, .slice p1_1 MS.length q1_1, .slice p1_2 EN.length q1_2]) := W_4.out.next hb
  have GP_5 : Hid (Own w5 shFence [.int .i64 EP, .int .i64 DU, .slice p3_1 MS.length q3_1, .slice p3_2 EN.length q3_2] (EP, DU, MS, EN, ()) (Btw w2.heap.size w3.heap.size)) := GP_4.out.next hb
  have G_5 : Hid (Bx w5 w3.heap.size [.int .i64 EP, .int .i64 DU, .slice p3_1 MS.length q3_1, .slice p3_2 EN.length q3_2]) := G_4.out.next hb
  clear hb SP_4 W_4 GP_4 G_4 HB4
  have cG0 := G_5.out.cell 0 rfl
  have cG1 := G_5.out.cell 1 rfl
  have cG2 := G_5.out.cell 2 rfl
  have cG3 := G_5.out.cell 3 rfl
  have zG := G_5.out.2
  go_wp2_with fail
  refine ((show Calls _ _ _ _ (MkP shFence [.int .i64 EP, .int .i64 DU, .slice p3_1 MS.length q3_1, .slice p3_2 EN.length q3_2] (mkT shFence (EP, DU, MS, EN, ()) 1) (1 + (cn : Int)) (Btw w2.heap.size w3.heap.size) _) from HCN.out ▸ markFence_n [.int .i64 EP, .int .i64 DU, .slice p3_1 MS.length q3_1, .slice p3_2 EN.length q3_2] EP DU MS EN 1 (Btw w2.heap.size w3.heap.size) _ (by decide) (by have h1 := HCN.out; rw [← h1]; omega) HT.out (fun k hk => by have := hk.2; omega) GP_5.out)).mono ?_
  rintro r w6 ⟨rfl, ho, ht⟩
  have HB6 : Hid (Below w.heap.size w w6) := Hid.intro (HB5.out.trans (ht.below (fun k hk => by simp only [Btw] at hk; omega) HB5.out.size))
  have sz6 : w5.heap.size ≤ w6.heap.size := ht.size
  have SP_6 : Hid (Own w6 shFence [.int .i64 EP, .int .i64 DU, .slice p1_1 MS.length q1_1, .slice p1_2 EN.length q1_2] (EP, DU, MS, EN, ()) (Btw w.heap.size w1.heap.size)) := SP_5.out.turn ht (fun k e f => by simp only [Btw] at e f; omega)
  have W_6 : Hid (Bx w6 w1.heap.size [.int .i64 EP, .int .i64 DU, .slice p1_1 MS.length q1_1, .slice p1_2 EN.length q1_2]) := W_5.out.turnS ht (by simp only [Btw]; omega)
  have GP_6 : Hid (Own w6 shFence [.int .i64 EP, .int .i64 DU, .slice p3_1 MS.length q3_1, .slice p3_2 EN.length q3_2] (mkT shFence (EP, DU, MS, EN, ()) 1) (Btw w2.heap.size w3.heap.size)) := ho
  have G_6 : Hid (Bx w6 w3.heap.size [.int .i64 EP, .int .i64 DU, .slice p3_1 MS.length q3_1, .slice p3_2 EN.length q3_2]) := G_5.out.turnS ht (by simp only [Btw]; omega)
  clear ht ho cG0 cG1 cG2 cG3 zG SP_5 W_5 GP_5 G_5 HB5
  have cG0 := G_6.out.cell 0 rfl
  have cG1 := G_6.out.cell 1 rfl
  have cG2 := G_6.out.cell 2 rfl
  have cG3 := G_6.out.cell 3 rfl
  have zG := G_6.out.2
  go_wp2_with fail
  refine ((show Calls _ _ _ _ (fun r w' => r = .returned (.int .i64 (1 + (cn : Int))) ∧ Below _ _ w') from HCN.out ▸ heldFence_n [.int .i64 EP, .int .i64 DU, .slice p3_1 MS.length q3_1, .slice p3_2 EN.length q3_2] EP DU MS EN 1 _ (by decide) (by have h1 := HCN.out; rw [← h1]; omega) HT.out GP_6.out.lies)).mono ?_
  rintro r w7 ⟨rfl, hb⟩
  have HB7 : Hid (Below w.heap.size w w7) := below_next HB6.out hb
  have sz7 : w6.heap.size ≤ w7.heap.size := hb.size
  have SP_7 : Hid (Own w7 shFence [.int .i64 EP, .int .i64 DU, .slice p1_1 MS.length q1_1, .slice p1_2 EN.length q1_2] (EP, DU, MS, EN, ()) (Btw w.heap.size w1.heap.size)) := SP_6.out.next hb
  have W_7 : Hid (Bx w7 w1.heap.size [.int .i64 EP, .int .i64 DU, .slice p1_1 MS.length q1_1, .slice p1_2 EN.length q1_2]) := W_6.out.next hb
  have GP_7 : Hid (Own w7 shFence [.int .i64 EP, .int .i64 DU, .slice p3_1 MS.length q3_1, .slice p3_2 EN.length q3_2] (mkT shFence (EP, DU, MS, EN, ()) 1) (Btw w2.heap.size w3.heap.size)) := GP_6.out.next hb
  have G_7 : Hid (Bx w7 w3.heap.size [.int .i64 EP, .int .i64 DU, .slice p3_1 MS.length q3_1, .slice p3_2 EN.length q3_2]) := G_6.out.next hb
  clear hb cG0 cG1 cG2 cG3 zG SP_6 W_6 GP_6 G_6 HB6
  go_wp2_with fail
  refine (newFence_l m _ EP DU MS EN z HA.out).mono ?_
  rintro r w8 ⟨cs9, rfl, ho, hb⟩
  obtain ⟨p8_1, q8_1, _, p8_2, q8_2, _, hev, _⟩ := own_Fence ho
  subst hev
  have HB8 : Hid (Below w.heap.size w w8) := below_next HB7.out hb
  have sz8 : w7.heap.size ≤ w8.heap.size := hb.size
  have SP_8 : Hid (Own w8 shFence [.int .i64 EP, .int .i64 DU, .slice p1_1 MS.length q1_1, .slice p1_2 EN.length q1_2] (EP, DU, MS, EN, ()) (Btw w.heap.size w1.heap.size)) := SP_7.out.next hb
  have W_8 : Hid (Bx w8 w1.heap.size [.int .i64 EP, .int .i64 DU, .slice p1_1 MS.length q1_1, .slice p1_2 EN.length q1_2]) := W_7.out.next hb
  have GP_8 : Hid (Own w8 shFence [.int .i64 EP, .int .i64 DU, .slice p3_1 MS.length q3_1, .slice p3_2 EN.length q3_2] (mkT shFence (EP, DU, MS, EN, ()) 1) (Btw w2.heap.size w3.heap.size)) := GP_7.out.next hb
  have G_8 : Hid (Bx w8 w3.heap.size [.int .i64 EP, .int .i64 DU, .slice p3_1 MS.length q3_1, .slice p3_2 EN.length q3_2]) := G_7.out.next hb
  have HP_8 : Hid (Own w8 shFence [.int .i64 EP, .int .i64 DU, .slice p8_1 MS.length q8_1, .slice p8_2 EN.length q8_2] (EP, DU, MS, EN, ()) (Btw w7.heap.size w8.heap.size)) := ho
  clear hb ho SP_7 W_7 GP_7 G_7 HB7
  have cW0 := W_8.out.cell 0 rfl
  have cW1 := W_8.out.cell 1 rfl
  have cW2 := W_8.out.cell 2 rfl
  have cW3 := W_8.out.cell 3 rfl
  have zW := W_8.out.2
  go_wp2_with fail
  obtain ⟨w9, hw9⟩ : ∃ x, x = w8.alloc (.cells #[.int .i64 EP, .int .i64 DU, .slice p8_1 MS.length q8_1, .slice p8_2 EN.length q8_2] 29) := ⟨_, rfl⟩
  have hb : Below w8.heap.size w8 w9 := hw9 ▸ Go.Joins.below_alloc1 _ _
  have HB9 : Hid (Below w.heap.size w w9) := below_next HB8.out hb
  have sz9 : w8.heap.size < w9.heap.size := by rw [hw9]; simp
  have SP_9 : Hid (Own w9 shFence [.int .i64 EP, .int .i64 DU, .slice p1_1 MS.length q1_1, .slice p1_2 EN.length q1_2] (EP, DU, MS, EN, ()) (Btw w.heap.size w1.heap.size)) := SP_8.out.next hb
  have W_9 : Hid (Bx w9 w1.heap.size [.int .i64 EP, .int .i64 DU, .slice p1_1 MS.length q1_1, .slice p1_2 EN.length q1_2]) := W_8.out.next hb
  have GP_9 : Hid (Own w9 shFence [.int .i64 EP, .int .i64 DU, .slice p3_1 MS.length q3_1, .slice p3_2 EN.length q3_2] (mkT shFence (EP, DU, MS, EN, ()) 1) (Btw w2.heap.size w3.heap.size)) := GP_8.out.next hb
  have G_9 : Hid (Bx w9 w3.heap.size [.int .i64 EP, .int .i64 DU, .slice p3_1 MS.length q3_1, .slice p3_2 EN.length q3_2]) := G_8.out.next hb
  have HP_9 : Hid (Own w9 shFence [.int .i64 EP, .int .i64 DU, .slice p8_1 MS.length q8_1, .slice p8_2 EN.length q8_2] (EP, DU, MS, EN, ()) (Btw w7.heap.size w8.heap.size)) := HP_8.out.next hb
  have H_9 : Hid (Bx w9 w8.heap.size [.int .i64 EP, .int .i64 DU, .slice p8_1 MS.length q8_1, .slice p8_2 EN.length q8_2]) := hw9 ▸ Bx.new w8 [.int .i64 EP, .int .i64 DU, .slice p8_1 MS.length q8_1, .slice p8_2 EN.length q8_2] _
  rw [← hw9]
  clear hb hw9 cW0 cW1 cW2 cW3 zW SP_8 W_8 GP_8 G_8 HP_8 HB8
  refine (eqFence_n [.int .i64 EP, .int .i64 DU, .slice p8_1 MS.length q8_1, .slice p8_2 EN.length q8_2] [.int .i64 EP, .int .i64 DU, .slice p1_1 MS.length q1_1, .slice p1_2 EN.length q1_2] EP DU MS EN _ HT.out HP_9.out.lies SP_9.out.lies).mono ?_
  rintro r w10 ⟨rfl, hb⟩
  have HB10 : Hid (Below w.heap.size w w10) := below_next HB9.out hb
  have sz10 : w9.heap.size ≤ w10.heap.size := hb.size
  have SP_10 : Hid (Own w10 shFence [.int .i64 EP, .int .i64 DU, .slice p1_1 MS.length q1_1, .slice p1_2 EN.length q1_2] (EP, DU, MS, EN, ()) (Btw w.heap.size w1.heap.size)) := SP_9.out.next hb
  have W_10 : Hid (Bx w10 w1.heap.size [.int .i64 EP, .int .i64 DU, .slice p1_1 MS.length q1_1, .slice p1_2 EN.length q1_2]) := W_9.out.next hb
  have GP_10 : Hid (Own w10 shFence [.int .i64 EP, .int .i64 DU, .slice p3_1 MS.length q3_1, .slice p3_2 EN.length q3_2] (mkT shFence (EP, DU, MS, EN, ()) 1) (Btw w2.heap.size w3.heap.size)) := GP_9.out.next hb
  have G_10 : Hid (Bx w10 w3.heap.size [.int .i64 EP, .int .i64 DU, .slice p3_1 MS.length q3_1, .slice p3_2 EN.length q3_2]) := G_9.out.next hb
  have HP_10 : Hid (Own w10 shFence [.int .i64 EP, .int .i64 DU, .slice p8_1 MS.length q8_1, .slice p8_2 EN.length q8_2] (EP, DU, MS, EN, ()) (Btw w7.heap.size w8.heap.size)) := HP_9.out.next hb
  have H_10 : Hid (Bx w10 w8.heap.size [.int .i64 EP, .int .i64 DU, .slice p8_1 MS.length q8_1, .slice p8_2 EN.length q8_2]) := H_9.out.next hb
  clear hb SP_9 W_9 GP_9 G_9 HP_9 H_9 HB9
  have cG0 := G_10.out.cell 0 rfl
  have cG1 := G_10.out.cell 1 rfl
  have cG2 := G_10.out.cell 2 rfl
  have cG3 := G_10.out.cell 3 rfl
  have zG := G_10.out.2
  go_wp2_with fail
  refine ((show Calls _ _ _ _ (fun r w' => r = .returned (.int .i64 (1 + (cn : Int))) ∧ Below _ _ w') from HCN.out ▸ heldFence_n [.int .i64 EP, .int .i64 DU, .slice p3_1 MS.length q3_1, .slice p3_2 EN.length q3_2] EP DU MS EN 1 _ (by decide) (by have h1 := HCN.out; rw [← h1]; omega) HT.out GP_10.out.lies)).mono ?_
  rintro r w11 ⟨rfl, hb⟩
  have HB11 : Hid (Below w.heap.size w w11) := below_next HB10.out hb
  have sz11 : w10.heap.size ≤ w11.heap.size := hb.size
  have SP_11 : Hid (Own w11 shFence [.int .i64 EP, .int .i64 DU, .slice p1_1 MS.length q1_1, .slice p1_2 EN.length q1_2] (EP, DU, MS, EN, ()) (Btw w.heap.size w1.heap.size)) := SP_10.out.next hb
  have W_11 : Hid (Bx w11 w1.heap.size [.int .i64 EP, .int .i64 DU, .slice p1_1 MS.length q1_1, .slice p1_2 EN.length q1_2]) := W_10.out.next hb
  have GP_11 : Hid (Own w11 shFence [.int .i64 EP, .int .i64 DU, .slice p3_1 MS.length q3_1, .slice p3_2 EN.length q3_2] (mkT shFence (EP, DU, MS, EN, ()) 1) (Btw w2.heap.size w3.heap.size)) := GP_10.out.next hb
  have G_11 : Hid (Bx w11 w3.heap.size [.int .i64 EP, .int .i64 DU, .slice p3_1 MS.length q3_1, .slice p3_2 EN.length q3_2]) := G_10.out.next hb
  have HP_11 : Hid (Own w11 shFence [.int .i64 EP, .int .i64 DU, .slice p8_1 MS.length q8_1, .slice p8_2 EN.length q8_2] (EP, DU, MS, EN, ()) (Btw w7.heap.size w8.heap.size)) := HP_10.out.next hb
  have H_11 : Hid (Bx w11 w8.heap.size [.int .i64 EP, .int .i64 DU, .slice p8_1 MS.length q8_1, .slice p8_2 EN.length q8_2]) := H_10.out.next hb
  clear hb cG0 cG1 cG2 cG3 zG SP_10 W_10 GP_10 G_10 HP_10 H_10 HB10
  have HE := HB11
  go_wp2
  go_ret
  exact ⟨rfl, HE.out⟩


theorem own : ownKnob Try.prog.godebug = none := by kernel_rfl
theorem laidOut : laidOutB Try.prog = true := by kernel_rfl

set_option maxRecDepth 100000 in
theorem lifted (os : Os) (started : os.Started) (H : Type) (enc : TypeId × Value → H) :
    ReturnsInHanded {} Try.checked os 5 .any (Rows.fnExactNewFenceSpec.pre6 enc Try.prog Try.f5 Rows.fnExactNewFenceRow.domain false) (Rows.fnExactNewFenceSpec.post enc Try.prog Try.f5 false true false false) := by
  refine returnsInHanded_of_change (C := Try.checked) own started (by kernel_rfl) Try.func5
    (ChangeSpec.witness6 (enc := enc) (C := Try.checked) false ⟨#[], #[.int .i64 0], []⟩ 8 (by kernel_rfl) (by kernel_rfl) (by kernel_rfl) (by kernel_rfl)) ?_
  intro W base args ds gs before hval0 hW hcnd _
  have hval : ∀ (j : Nat) t v, Try.f5.params[j]? = some t → args[j]? = some v → Value.okWide Try.prog W .any base t v := hval0
  have hW' := hW
  obtain ⟨p, q, hA0, hV, rfl, hfz, hnd⟩ := hW
  have hA : DataW.TrodAll enc Try.prog W 0 (fun _ => true) true Try.f5.params.toList args.toList ds p := hA0
  rw [Try.params5] at hA hval
  obtain ⟨v0, vs0, d0, ds0, p0, q0, hargs, rfl, rfl, h0, r0⟩ := trodAll_cons hA
  obtain ⟨rfl, rfl, rfl⟩ := trodAll_nil r0
  obtain rfl : args = #[v0] := by cases args; simp_all
  obtain ⟨rfl, rfl⟩ := trodVars_none hV
  have k0 := h0
  have lt0 : ∀ x ∈ p0, x.block < W.heap.size := by obtain ⟨m, hm⟩ := k0; exact DataW.trod_lt m _ _ _ hm
  obtain ⟨a0, rfl, rfl, rfl, w0⟩ := open_int Try.underlying3 (hval 0 3 v0 rfl rfl) h0
  clear hA0 hval0
  refine (walk (w := W) a0 w0).mono fun e W' ⟨he, bel⟩ => ?_
  subst he
  exact ⟨_, rfl, _, _, _, [], _, [], hW', trodAll_mk1 (shut_bool Try.underlying4 _), (trodAll_cons_mk (Below.trod laidOut (by kernel_rfl) (of_decide_eq_true (by kernel_rfl)) k0 bel lt0) trodAll_mk0), rfl, bel.frame _, fun h => by cases h⟩

set_option maxHeartbeats 40000000 in
theorem closed : joinedFacts Try.pinned.checked.prog 5 Try.f5 Rows.fnExactNewFenceSpec Rows.fnExactNewFenceRow = true := by
  unfold joinedFacts
  repeat' (first | (with_reducible refine both ?_ ?_) | (with_reducible exact may_enter') | (with_reducible refine lifts_eq ?_) | (with_reducible refine make_eq ?_) | as_aux_lemma => kernel_rfl)
theorem named : Try.pinned.checked.prog.funcNamed Rows.fnExactNewFenceRow.func = some 5 := by kernel_rfl
theorem over : Rows.fnExactNewFenceRow.holds Try.pinned (OpenSpec.ofChange Rows.fnExactNewFenceSpec) :=
  OpenClaim.holds_of_wide 5 Try.f5 rfl rfl rfl rfl rfl rfl rfl ⟨rfl, rfl, rfl, rfl, rfl⟩ rfl rfl rfl rfl rfl named Try.func5 closed
    (of_decide_eq_true (by as_aux_lemma => kernel_rfl)) (by unfold Func.isWrapper; first | (rw [if_pos (by decide +kernel)]; kernel_rfl) | (rw [if_neg (by decide +kernel)]; exact ⟨rfl, rfl⟩))
    (fun os started H enc _ => lifted os started H enc)

end Go.Proofs.Ytcbdlalpnlahcaa.xNewFence
namespace Go.Proofs.Ytcbdlalpnlahcaa
theorem xNewFence_holds : Rows.FnExactNewFenceSaid := xNewFence.over
#print axioms xNewFence_holds
end Go.Proofs.Ytcbdlalpnlahcaa
