/- At every argument impl.NewSynod answers as the specification does, field by field, writes into no argument, its answer owns its memory, and each argument reads behind the call as it read before. No condition. -/
import Derived.Test.YtmhkfangfhanlaaSyM
import Derived.Test.YtmhkfangfhanlaaNtZ
import Derived.Test.YtmhkfangfhanlaaNtT
import Derived.Test.YtmhkfangfhanlaaNtE
import Derived.Test.YtmhkfangfhanlaaNtO
import Derived.Test.YtmhkfangfhanlaaNtM
import Derived.Test.YtmhkfangfhanlaaNtH
import Derived.Test.YtmhkfangfhanlaaWords
import Derived.ProofKit
import Derived.OpenShut
import Derived.ShutString
import Derived.ChangeOld
import Derived.Below
import Derived.Lib.SmallJoins
namespace Go.Proofs.Ytmhkfangfhanlaa.xNewSynod
open Go.ChangeShapes Go.WideShapes Go.ChangeAt Go.RowKit
open Go.ChangeMaps (open_string shut_string)
set_option linter.unusedVariables false

set_option maxRecDepth 100000 in
set_option maxHeartbeats 4000000 in
theorem walk (w : World) (m : Int) (wf0 : (Lit.int .i64 m).wf = true) (a1 : Option Addr) (k1 : Nat) (vs : List (Sh.T .str)) (li1 : Lies w (.list .str) [.slice a1 vs.length k1] vs) (fi1 : Fits (.list .str) vs) :
    Calls Try.prog 5 #[.int .i64 m, .slice a1 vs.length k1] w fun r w' => r = .returned (.bool true) ∧ Below w.heap.size w w' := by
  have H0 : Hid (-9223372036854775808 ≤ m ∧ m ≤ 9223372036854775807) := wf_bounds wf0
  clear wf0
  have HL1 : Hid (Lies w (.list .str) [.slice a1 vs.length k1] vs) := li1
  have HF1 : Hid (Fits (.list .str) vs) := fi1
  clear li1 fi1
  obtain ⟨AC, PS, z, hA⟩ : ∃ AC PS z, nwAc m vs = AC ∧ nwPs m vs = PS ∧ tf (nwP m vs) = z := ⟨_, _, _, rfl, rfl, rfl⟩
  have HA : Hid (nwAc m vs = AC ∧ nwPs m vs = PS ∧ tf (nwP m vs) = z) := hA
  clear hA
  go_enter Try.func5, Try.ntmps5
  go_wp2_with fail
  refine (szStringS_n a1 k1 vs _ _ (by omega) (by omega) HF1.out (HL1.out.next (Below.refl _ _))).mono ?_
  rintro r w1 ⟨⟨y1, rfl, hy1⟩, hb⟩
  have HB1 : Hid (Below w.heap.size w w1) := below_next (Below.refl _ _) hb
  have sz1 : w.heap.size ≤ w1.heap.size := hb.size
  clear hb 
  by_cases ng1 : y1 < 0
  · clear hy1
    go_wp2
    go_ret
    exact ⟨rfl, HB1.out⟩
  have HS1 : Hid (szD (.list .str) vs ≤ 1073741824) := Hid.intro (by rcases hy1 with e | e <;> omega)
  have HX1 : Hid (szD (.list .str) vs ≤ 1048576) := Hid.intro (by rcases hy1 with e | e <;> omega)
  have hb1 : 0 ≤ y1 ∧ y1 ≤ 1048576 := by rcases hy1 with e | e <;> omega
  clear hy1
  have HT : Hid (szD shSynod (AC, PS, ()) ≤ 1073741824) := Hid.intro (by have h1 := sz_nw (m := m) HX1.out; rw [HA.out.1, HA.out.2.1] at h1; exact h1)
  obtain ⟨cn, hcn⟩ : ∃ c : Nat, c = cntT shSynod (AC, PS, ()) := ⟨_, rfl⟩
  have HCN : Hid (cn = cntT shSynod (AC, PS, ())) := hcn
  have hcb : cn ≤ 100000000000 := by rw [hcn]; exact cnt_syn HT.out
  clear hcn
  have hng : ¬ (1 + (cn : Int)) < 0 := by omega
  obtain ⟨cx, hcx⟩ : ∃ c : Nat, c = cntD (.list .str) vs := ⟨_, rfl⟩
  have HCX : Hid (cx = cntD (.list .str) vs) := hcx
  have hcxb : cx ≤ 100000000000 := by rw [hcx]; exact cnt_strs HS1.out
  have hnx : ¬ (1 + (cx : Int)) < 0 := by omega
  clear hcx
  go_wp2_with fail
  refine (toStringS_n a1 k1 vs _ HS1.out (HL1.out.next HB1.out)).mono ?_
  rintro r w2 ⟨p2, rfl, ho, hb⟩
  have HB2 : Hid (Below w.heap.size w w2) := below_next HB1.out hb
  have sz2 : w1.heap.size ≤ w2.heap.size := hb.size
  have D_2 : Hid (Own w2 (.list .str) [.slice (some ⟨p2, 0, none⟩) vs.length vs.length] vs (Btw w1.heap.size w2.heap.size)) := ho
  clear hb ho HB1
  go_wp2_with fail
  refine (specNewSynod_l m (some ⟨p2, 0, none⟩) vs.length vs _ AC PS z HA.out HS1.out D_2.out.lies).mono ?_
  rintro r w3 ⟨cs9, rfl, ho, hb⟩
  obtain ⟨p3_1, q3_1, _, p3_2, q3_2, _, hev, _⟩ := own_Synod ho
  subst hev
  have HB3 : Hid (Below w.heap.size w w3) := below_next HB2.out hb
  have sz3 : w2.heap.size ≤ w3.heap.size := hb.size
  have D_3 : Hid (Own w3 (.list .str) [.slice (some ⟨p2, 0, none⟩) vs.length vs.length] vs (Btw w1.heap.size w2.heap.size)) := D_2.out.next hb
  have SP_3 : Hid (Own w3 shSynod [.slice p3_1 AC.length q3_1, .slice p3_2 PS.length q3_2] (AC, PS, ()) (Btw w2.heap.size w3.heap.size)) := ho
  clear hb ho D_2 HB2
  clear D_3
  go_wp2_with fail
  obtain ⟨w4, hw4⟩ : ∃ x, x = w3.alloc (.cells #[.slice p3_1 AC.length q3_1, .slice p3_2 PS.length q3_2] 30) := ⟨_, rfl⟩
  have hb : Below w3.heap.size w3 w4 := hw4 ▸ Go.Joins.below_alloc1 _ _
  have HB4 : Hid (Below w.heap.size w w4) := below_next HB3.out hb
  have sz4 : w3.heap.size < w4.heap.size := by rw [hw4]; simp
  have SP_4 : Hid (Own w4 shSynod [.slice p3_1 AC.length q3_1, .slice p3_2 PS.length q3_2] (AC, PS, ()) (Btw w2.heap.size w3.heap.size)) := SP_3.out.next hb
  have W_4 : Hid (Bx w4 w3.heap.size [.slice p3_1 AC.length q3_1, .slice p3_2 PS.length q3_2]) := hw4 ▸ Bx.new w3 [.slice p3_1 AC.length q3_1, .slice p3_2 PS.length q3_2] _
  rw [← hw4]
  clear hb hw4 SP_3 HB3
  refine (toStringS_n a1 k1 vs _ HS1.out (HL1.out.next HB4.out)).mono ?_
  rintro r w5 ⟨p5, rfl, ho, hb⟩
  have HB5 : Hid (Below w.heap.size w w5) := below_next HB4.out hb
  have sz5 : w4.heap.size ≤ w5.heap.size := hb.size
  have SP_5 : Hid (Own w5 shSynod [.slice p3_1 AC.length q3_1, .slice p3_2 PS.length q3_2] (AC, PS, ()) (Btw w2.heap.size w3.heap.size)) := SP_4.out.next hb
  have W_5 : Hid (Bx w5 w3.heap.size [.slice p3_1 AC.length q3_1, .slice p3_2 PS.length q3_2]) := W_4.out.next hb
  have P_5 : Hid (Own w5 (.list .str) [.slice (some ⟨p5, 0, none⟩) vs.length vs.length] vs (Btw w4.heap.size w5.heap.size)) := ho
  clear hb ho SP_4 W_4 HB4
  go_wp2_with fail
  refine (newSynod_l m (some ⟨p5, 0, none⟩) vs.length vs _ AC PS z HA.out HS1.out P_5.out.lies).mono ?_
  rintro r w6 ⟨cs9, rfl, ho, hb⟩
  obtain ⟨p6_1, q6_1, _, p6_2, q6_2, _, hev, _⟩ := own_Synod ho
  subst hev
  have HB6 : Hid (Below w.heap.size w w6) := below_next HB5.out hb
  have sz6 : w5.heap.size ≤ w6.heap.size := hb.size
  have SP_6 : Hid (Own w6 shSynod [.slice p3_1 AC.length q3_1, .slice p3_2 PS.length q3_2] (AC, PS, ()) (Btw w2.heap.size w3.heap.size)) := SP_5.out.next hb
  have W_6 : Hid (Bx w6 w3.heap.size [.slice p3_1 AC.length q3_1, .slice p3_2 PS.length q3_2]) := W_5.out.next hb
  have P_6 : Hid (Own w6 (.list .str) [.slice (some ⟨p5, 0, none⟩) vs.length vs.length] vs (Btw w4.heap.size w5.heap.size)) := P_5.out.next hb
  have GP_6 : Hid (Own w6 shSynod [.slice p6_1 AC.length q6_1, .slice p6_2 PS.length q6_2] (AC, PS, ()) (Btw w5.heap.size w6.heap.size)) := ho
  clear hb ho SP_5 W_5 P_5 HB5
  have cW0 := W_6.out.cell 0 rfl
  have cW1 := W_6.out.cell 1 rfl
  have zW := W_6.out.2
  go_wp2_with fail
  obtain ⟨w7, hw7⟩ : ∃ x, x = w6.alloc (.cells #[.slice p6_1 AC.length q6_1, .slice p6_2 PS.length q6_2] 30) := ⟨_, rfl⟩
  have hb : Below w6.heap.size w6 w7 := hw7 ▸ Go.Joins.below_alloc1 _ _
  have HB7 : Hid (Below w.heap.size w w7) := below_next HB6.out hb
  have sz7 : w6.heap.size < w7.heap.size := by rw [hw7]; simp
  have SP_7 : Hid (Own w7 shSynod [.slice p3_1 AC.length q3_1, .slice p3_2 PS.length q3_2] (AC, PS, ()) (Btw w2.heap.size w3.heap.size)) := SP_6.out.next hb
  have W_7 : Hid (Bx w7 w3.heap.size [.slice p3_1 AC.length q3_1, .slice p3_2 PS.length q3_2]) := W_6.out.next hb
  have P_7 : Hid (Own w7 (.list .str) [.slice (some ⟨p5, 0, none⟩) vs.length vs.length] vs (Btw w4.heap.size w5.heap.size)) := P_6.out.next hb
  have GP_7 : Hid (Own w7 shSynod [.slice p6_1 AC.length q6_1, .slice p6_2 PS.length q6_2] (AC, PS, ()) (Btw w5.heap.size w6.heap.size)) := GP_6.out.next hb
  have G_7 : Hid (Bx w7 w6.heap.size [.slice p6_1 AC.length q6_1, .slice p6_2 PS.length q6_2]) := hw7 ▸ Bx.new w6 [.slice p6_1 AC.length q6_1, .slice p6_2 PS.length q6_2] _
  rw [← hw7]
  clear hb hw7 cW0 cW1 zW SP_6 W_6 P_6 GP_6 HB6
  refine (eqSynod_n [.slice p6_1 AC.length q6_1, .slice p6_2 PS.length q6_2] [.slice p3_1 AC.length q3_1, .slice p3_2 PS.length q3_2] AC PS _ HT.out GP_7.out.lies SP_7.out.lies).mono ?_
  rintro r w8 ⟨rfl, hb⟩
  have HB8 : Hid (Below w.heap.size w w8) := below_next HB7.out hb
  have sz8 : w7.heap.size ≤ w8.heap.size := hb.size
  have SP_8 : Hid (Own w8 shSynod [.slice p3_1 AC.length q3_1, .slice p3_2 PS.length q3_2] (AC, PS, ()) (Btw w2.heap.size w3.heap.size)) := SP_7.out.next hb
  have W_8 : Hid (Bx w8 w3.heap.size [.slice p3_1 AC.length q3_1, .slice p3_2 PS.length q3_2]) := W_7.out.next hb
  have P_8 : Hid (Own w8 (.list .str) [.slice (some ⟨p5, 0, none⟩) vs.length vs.length] vs (Btw w4.heap.size w5.heap.size)) := P_7.out.next hb
  have GP_8 : Hid (Own w8 shSynod [.slice p6_1 AC.length q6_1, .slice p6_2 PS.length q6_2] (AC, PS, ()) (Btw w5.heap.size w6.heap.size)) := GP_7.out.next hb
  have G_8 : Hid (Bx w8 w6.heap.size [.slice p6_1 AC.length q6_1, .slice p6_2 PS.length q6_2]) := G_7.out.next hb
  clear hb SP_7 W_7 P_7 GP_7 G_7 HB7
  go_wp2_with fail
  refine (toStringS_n a1 k1 vs _ HS1.out (HL1.out.next HB8.out)).mono ?_
  rintro r w9 ⟨p9, rfl, ho, hb⟩
  have HB9 : Hid (Below w.heap.size w w9) := below_next HB8.out hb
  have sz9 : w8.heap.size ≤ w9.heap.size := hb.size
  have SP_9 : Hid (Own w9 shSynod [.slice p3_1 AC.length q3_1, .slice p3_2 PS.length q3_2] (AC, PS, ()) (Btw w2.heap.size w3.heap.size)) := SP_8.out.next hb
  have W_9 : Hid (Bx w9 w3.heap.size [.slice p3_1 AC.length q3_1, .slice p3_2 PS.length q3_2]) := W_8.out.next hb
  have P_9 : Hid (Own w9 (.list .str) [.slice (some ⟨p5, 0, none⟩) vs.length vs.length] vs (Btw w4.heap.size w5.heap.size)) := P_8.out.next hb
  have GP_9 : Hid (Own w9 shSynod [.slice p6_1 AC.length q6_1, .slice p6_2 PS.length q6_2] (AC, PS, ()) (Btw w5.heap.size w6.heap.size)) := GP_8.out.next hb
  have G_9 : Hid (Bx w9 w6.heap.size [.slice p6_1 AC.length q6_1, .slice p6_2 PS.length q6_2]) := G_8.out.next hb
  have D_9 : Hid (Own w9 (.list .str) [.slice (some ⟨p9, 0, none⟩) vs.length vs.length] vs (Btw w8.heap.size w9.heap.size)) := ho
  clear hb ho SP_8 W_8 P_8 GP_8 G_8 HB8
  go_wp2_with fail
  refine (eqStringS_n (some ⟨p5, 0, none⟩) (some ⟨p9, 0, none⟩) vs.length vs.length vs _ HS1.out P_9.out.lies D_9.out.lies).mono ?_
  rintro r w10 ⟨rfl, hb⟩
  have HB10 : Hid (Below w.heap.size w w10) := below_next HB9.out hb
  have sz10 : w9.heap.size ≤ w10.heap.size := hb.size
  have SP_10 : Hid (Own w10 shSynod [.slice p3_1 AC.length q3_1, .slice p3_2 PS.length q3_2] (AC, PS, ()) (Btw w2.heap.size w3.heap.size)) := SP_9.out.next hb
  have W_10 : Hid (Bx w10 w3.heap.size [.slice p3_1 AC.length q3_1, .slice p3_2 PS.length q3_2]) := W_9.out.next hb
  have P_10 : Hid (Own w10 (.list .str) [.slice (some ⟨p5, 0, none⟩) vs.length vs.length] vs (Btw w4.heap.size w5.heap.size)) := P_9.out.next hb
  have GP_10 : Hid (Own w10 shSynod [.slice p6_1 AC.length q6_1, .slice p6_2 PS.length q6_2] (AC, PS, ()) (Btw w5.heap.size w6.heap.size)) := GP_9.out.next hb
  have G_10 : Hid (Bx w10 w6.heap.size [.slice p6_1 AC.length q6_1, .slice p6_2 PS.length q6_2]) := G_9.out.next hb
  have D_10 : Hid (Own w10 (.list .str) [.slice (some ⟨p9, 0, none⟩) vs.length vs.length] vs (Btw w8.heap.size w9.heap.size)) := D_9.out.next hb
  clear hb SP_9 W_9 P_9 GP_9 G_9 D_9 HB9
  clear D_10
  go_wp2_with fail
  refine ((show Calls _ _ _ _ (MkP (.list .str) [.slice (some ⟨p5, 0, none⟩) vs.length vs.length] (mkD (.list .str) vs 1) (1 + (cx : Int)) (Btw w4.heap.size w5.heap.size) _) from HCX.out ▸ markStringS_n (some ⟨p5, 0, none⟩) vs.length vs 1 (Btw w4.heap.size w5.heap.size) _ (by decide) (by have h1 := HCX.out; rw [← h1]; omega) HS1.out P_10.out)).mono ?_
  rintro r w11 ⟨rfl, ho, ht⟩
  have HB11 : Hid (Below w.heap.size w w11) := Hid.intro (HB10.out.trans (ht.below (fun k hk => by simp only [Btw] at hk; omega) HB10.out.size))
  have sz11 : w10.heap.size ≤ w11.heap.size := ht.size
  have SP_11 : Hid (Own w11 shSynod [.slice p3_1 AC.length q3_1, .slice p3_2 PS.length q3_2] (AC, PS, ()) (Btw w2.heap.size w3.heap.size)) := SP_10.out.turn ht (fun k e f => by simp only [Btw] at e f; omega)
  have W_11 : Hid (Bx w11 w3.heap.size [.slice p3_1 AC.length q3_1, .slice p3_2 PS.length q3_2]) := W_10.out.turnS ht (by simp only [Btw]; omega)
  have P_11 : Hid (Own w11 (.list .str) [.slice (some ⟨p5, 0, none⟩) vs.length vs.length] (mkD (.list .str) vs 1) (Btw w4.heap.size w5.heap.size)) := ho
  have GP_11 : Hid (Own w11 shSynod [.slice p6_1 AC.length q6_1, .slice p6_2 PS.length q6_2] (AC, PS, ()) (Btw w5.heap.size w6.heap.size)) := GP_10.out.turn ht (fun k e f => by simp only [Btw] at e f; omega)
  have G_11 : Hid (Bx w11 w6.heap.size [.slice p6_1 AC.length q6_1, .slice p6_2 PS.length q6_2]) := G_10.out.turnS ht (by simp only [Btw]; omega)
  clear ht ho SP_10 W_10 P_10 GP_10 G_10 HB10
  clear P_11
  have cW0 := W_11.out.cell 0 rfl
  have cW1 := W_11.out.cell 1 rfl
  have zW := W_11.out.2
  have cG0 := G_11.out.cell 0 rfl
  have cG1 := G_11.out.cell 1 rfl
  have zG := G_11.out.2
  go_wp2_with fail
  refine (eqSynod_n [.slice p6_1 AC.length q6_1, .slice p6_2 PS.length q6_2] [.slice p3_1 AC.length q3_1, .slice p3_2 PS.length q3_2] AC PS _ HT.out GP_11.out.lies SP_11.out.lies).mono ?_
  rintro r w12 ⟨rfl, hb⟩
  have HB12 : Hid (Below w.heap.size w w12) := below_next HB11.out hb
  have sz12 : w11.heap.size ≤ w12.heap.size := hb.size
  have SP_12 : Hid (Own w12 shSynod [.slice p3_1 AC.length q3_1, .slice p3_2 PS.length q3_2] (AC, PS, ()) (Btw w2.heap.size w3.heap.size)) := SP_11.out.next hb
  have W_12 : Hid (Bx w12 w3.heap.size [.slice p3_1 AC.length q3_1, .slice p3_2 PS.length q3_2]) := W_11.out.next hb
  have GP_12 : Hid (Own w12 shSynod [.slice p6_1 AC.length q6_1, .slice p6_2 PS.length q6_2] (AC, PS, ()) (Btw w5.heap.size w6.heap.size)) := GP_11.out.next hb
  have G_12 : Hid (Bx w12 w6.heap.size [.slice p6_1 AC.length q6_1, .slice p6_2 PS.length q6_2]) := G_11.out.next hb
  clear hb cW0 cW1 zW cG0 cG1 zG SP_11 W_11 GP_11 G_11 HB11
  have cG0 := G_12.out.cell 0 rfl
  have cG1 := G_12.out.cell 1 rfl
  have zG := G_12.out.2
  go_wp2_with fail
  refine ((show Calls _ _ _ _ (MkP shSynod [.slice p6_1 AC.length q6_1, .slice p6_2 PS.length q6_2] (mkT shSynod (AC, PS, ()) 1) (1 + (cn : Int)) (Btw w5.heap.size w6.heap.size) _) from HCN.out ▸ markSynod_n [.slice p6_1 AC.length q6_1, .slice p6_2 PS.length q6_2] AC PS 1 (Btw w5.heap.size w6.heap.size) _ (by decide) (by have h1 := HCN.out; rw [← h1]; omega) HT.out (fun k hk => by have := hk.2; omega) GP_12.out)).mono ?_
  rintro r w13 ⟨rfl, ho, ht⟩
  have HB13 : Hid (Below w.heap.size w w13) := Hid.intro (HB12.out.trans (ht.below (fun k hk => by simp only [Btw] at hk; omega) HB12.out.size))
  have sz13 : w12.heap.size ≤ w13.heap.size := ht.size
  have SP_13 : Hid (Own w13 shSynod [.slice p3_1 AC.length q3_1, .slice p3_2 PS.length q3_2] (AC, PS, ()) (Btw w2.heap.size w3.heap.size)) := SP_12.out.turn ht (fun k e f => by simp only [Btw] at e f; omega)
  have W_13 : Hid (Bx w13 w3.heap.size [.slice p3_1 AC.length q3_1, .slice p3_2 PS.length q3_2]) := W_12.out.turnS ht (by simp only [Btw]; omega)
  have GP_13 : Hid (Own w13 shSynod [.slice p6_1 AC.length q6_1, .slice p6_2 PS.length q6_2] (mkT shSynod (AC, PS, ()) 1) (Btw w5.heap.size w6.heap.size)) := ho
  have G_13 : Hid (Bx w13 w6.heap.size [.slice p6_1 AC.length q6_1, .slice p6_2 PS.length q6_2]) := G_12.out.turnS ht (by simp only [Btw]; omega)
  clear ht ho cG0 cG1 zG SP_12 W_12 GP_12 G_12 HB12
  have cG0 := G_13.out.cell 0 rfl
  have cG1 := G_13.out.cell 1 rfl
  have zG := G_13.out.2
  go_wp2_with fail
  refine ((show Calls _ _ _ _ (fun r w' => r = .returned (.int .i64 (1 + (cn : Int))) ∧ Below _ _ w') from HCN.out ▸ heldSynod_n [.slice p6_1 AC.length q6_1, .slice p6_2 PS.length q6_2] AC PS 1 _ (by decide) (by have h1 := HCN.out; rw [← h1]; omega) HT.out GP_13.out.lies)).mono ?_
  rintro r w14 ⟨rfl, hb⟩
  have HB14 : Hid (Below w.heap.size w w14) := below_next HB13.out hb
  have sz14 : w13.heap.size ≤ w14.heap.size := hb.size
  have SP_14 : Hid (Own w14 shSynod [.slice p3_1 AC.length q3_1, .slice p3_2 PS.length q3_2] (AC, PS, ()) (Btw w2.heap.size w3.heap.size)) := SP_13.out.next hb
  have W_14 : Hid (Bx w14 w3.heap.size [.slice p3_1 AC.length q3_1, .slice p3_2 PS.length q3_2]) := W_13.out.next hb
  have GP_14 : Hid (Own w14 shSynod [.slice p6_1 AC.length q6_1, .slice p6_2 PS.length q6_2] (mkT shSynod (AC, PS, ()) 1) (Btw w5.heap.size w6.heap.size)) := GP_13.out.next hb
  have G_14 : Hid (Bx w14 w6.heap.size [.slice p6_1 AC.length q6_1, .slice p6_2 PS.length q6_2]) := G_13.out.next hb
  clear hb cG0 cG1 zG SP_13 W_13 GP_13 G_13 HB13
  go_wp2_with fail
  refine (toStringS_n a1 k1 vs _ HS1.out (HL1.out.next HB14.out)).mono ?_
  rintro r w15 ⟨p15, rfl, ho, hb⟩
  have HB15 : Hid (Below w.heap.size w w15) := below_next HB14.out hb
  have sz15 : w14.heap.size ≤ w15.heap.size := hb.size
  have SP_15 : Hid (Own w15 shSynod [.slice p3_1 AC.length q3_1, .slice p3_2 PS.length q3_2] (AC, PS, ()) (Btw w2.heap.size w3.heap.size)) := SP_14.out.next hb
  have W_15 : Hid (Bx w15 w3.heap.size [.slice p3_1 AC.length q3_1, .slice p3_2 PS.length q3_2]) := W_14.out.next hb
  have GP_15 : Hid (Own w15 shSynod [.slice p6_1 AC.length q6_1, .slice p6_2 PS.length q6_2] (mkT shSynod (AC, PS, ()) 1) (Btw w5.heap.size w6.heap.size)) := GP_14.out.next hb
  have G_15 : Hid (Bx w15 w6.heap.size [.slice p6_1 AC.length q6_1, .slice p6_2 PS.length q6_2]) := G_14.out.next hb
  have D_15 : Hid (Own w15 (.list .str) [.slice (some ⟨p15, 0, none⟩) vs.length vs.length] vs (Btw w14.heap.size w15.heap.size)) := ho
  clear hb ho SP_14 W_14 GP_14 G_14 HB14
  go_wp2_with fail
  refine (newSynod_l m (some ⟨p15, 0, none⟩) vs.length vs _ AC PS z HA.out HS1.out D_15.out.lies).mono ?_
  rintro r w16 ⟨cs9, rfl, ho, hb⟩
  obtain ⟨p16_1, q16_1, _, p16_2, q16_2, _, hev, _⟩ := own_Synod ho
  subst hev
  have HB16 : Hid (Below w.heap.size w w16) := below_next HB15.out hb
  have sz16 : w15.heap.size ≤ w16.heap.size := hb.size
  have SP_16 : Hid (Own w16 shSynod [.slice p3_1 AC.length q3_1, .slice p3_2 PS.length q3_2] (AC, PS, ()) (Btw w2.heap.size w3.heap.size)) := SP_15.out.next hb
  have W_16 : Hid (Bx w16 w3.heap.size [.slice p3_1 AC.length q3_1, .slice p3_2 PS.length q3_2]) := W_15.out.next hb
  have GP_16 : Hid (Own w16 shSynod [.slice p6_1 AC.length q6_1, .slice p6_2 PS.length q6_2] (mkT shSynod (AC, PS, ()) 1) (Btw w5.heap.size w6.heap.size)) := GP_15.out.next hb
  have G_16 : Hid (Bx w16 w6.heap.size [.slice p6_1 AC.length q6_1, .slice p6_2 PS.length q6_2]) := G_15.out.next hb
  have D_16 : Hid (Own w16 (.list .str) [.slice (some ⟨p15, 0, none⟩) vs.length vs.length] vs (Btw w14.heap.size w15.heap.size)) := D_15.out.next hb
  have HP_16 : Hid (Own w16 shSynod [.slice p16_1 AC.length q16_1, .slice p16_2 PS.length q16_2] (AC, PS, ()) (Btw w15.heap.size w16.heap.size)) := ho
  clear hb ho SP_15 W_15 GP_15 G_15 D_15 HB15
  clear D_16
  have cW0 := W_16.out.cell 0 rfl
  have cW1 := W_16.out.cell 1 rfl
  have zW := W_16.out.2
  go_wp2_with fail
  obtain ⟨w17, hw17⟩ : ∃ x, x = w16.alloc (.cells #[.slice p16_1 AC.length q16_1, .slice p16_2 PS.length q16_2] 30) := ⟨_, rfl⟩
  have hb : Below w16.heap.size w16 w17 := hw17 ▸ Go.Joins.below_alloc1 _ _
  have HB17 : Hid (Below w.heap.size w w17) := below_next HB16.out hb
  have sz17 : w16.heap.size < w17.heap.size := by rw [hw17]; simp
  have SP_17 : Hid (Own w17 shSynod [.slice p3_1 AC.length q3_1, .slice p3_2 PS.length q3_2] (AC, PS, ()) (Btw w2.heap.size w3.heap.size)) := SP_16.out.next hb
  have W_17 : Hid (Bx w17 w3.heap.size [.slice p3_1 AC.length q3_1, .slice p3_2 PS.length q3_2]) := W_16.out.next hb
  have GP_17 : Hid (Own w17 shSynod [.slice p6_1 AC.length q6_1, .slice p6_2 PS.length q6_2] (mkT shSynod (AC, PS, ()) 1) (Btw w5.heap.size w6.heap.size)) := GP_16.out.next hb
  have G_17 : Hid (Bx w17 w6.heap.size [.slice p6_1 AC.length q6_1, .slice p6_2 PS.length q6_2]) := G_16.out.next hb
  have HP_17 : Hid (Own w17 shSynod [.slice p16_1 AC.length q16_1, .slice p16_2 PS.length q16_2] (AC, PS, ()) (Btw w15.heap.size w16.heap.size)) := HP_16.out.next hb
  have H_17 : Hid (Bx w17 w16.heap.size [.slice p16_1 AC.length q16_1, .slice p16_2 PS.length q16_2]) := hw17 ▸ Bx.new w16 [.slice p16_1 AC.length q16_1, .slice p16_2 PS.length q16_2] _
  rw [← hw17]
  clear hb hw17 cW0 cW1 zW SP_16 W_16 GP_16 G_16 HP_16 HB16
  refine (eqSynod_n [.slice p16_1 AC.length q16_1, .slice p16_2 PS.length q16_2] [.slice p3_1 AC.length q3_1, .slice p3_2 PS.length q3_2] AC PS _ HT.out HP_17.out.lies SP_17.out.lies).mono ?_
  rintro r w18 ⟨rfl, hb⟩
  have HB18 : Hid (Below w.heap.size w w18) := below_next HB17.out hb
  have sz18 : w17.heap.size ≤ w18.heap.size := hb.size
  have SP_18 : Hid (Own w18 shSynod [.slice p3_1 AC.length q3_1, .slice p3_2 PS.length q3_2] (AC, PS, ()) (Btw w2.heap.size w3.heap.size)) := SP_17.out.next hb
  have W_18 : Hid (Bx w18 w3.heap.size [.slice p3_1 AC.length q3_1, .slice p3_2 PS.length q3_2]) := W_17.out.next hb
  have GP_18 : Hid (Own w18 shSynod [.slice p6_1 AC.length q6_1, .slice p6_2 PS.length q6_2] (mkT shSynod (AC, PS, ()) 1) (Btw w5.heap.size w6.heap.size)) := GP_17.out.next hb
  have G_18 : Hid (Bx w18 w6.heap.size [.slice p6_1 AC.length q6_1, .slice p6_2 PS.length q6_2]) := G_17.out.next hb
  have HP_18 : Hid (Own w18 shSynod [.slice p16_1 AC.length q16_1, .slice p16_2 PS.length q16_2] (AC, PS, ()) (Btw w15.heap.size w16.heap.size)) := HP_17.out.next hb
  have H_18 : Hid (Bx w18 w16.heap.size [.slice p16_1 AC.length q16_1, .slice p16_2 PS.length q16_2]) := H_17.out.next hb
  clear hb SP_17 W_17 GP_17 G_17 HP_17 H_17 HB17
  have cG0 := G_18.out.cell 0 rfl
  have cG1 := G_18.out.cell 1 rfl
  have zG := G_18.out.2
  go_wp2_with fail
  refine ((show Calls _ _ _ _ (fun r w' => r = .returned (.int .i64 (1 + (cn : Int))) ∧ Below _ _ w') from HCN.out ▸ heldSynod_n [.slice p6_1 AC.length q6_1, .slice p6_2 PS.length q6_2] AC PS 1 _ (by decide) (by have h1 := HCN.out; rw [← h1]; omega) HT.out GP_18.out.lies)).mono ?_
  rintro r w19 ⟨rfl, hb⟩
  have HB19 : Hid (Below w.heap.size w w19) := below_next HB18.out hb
  have sz19 : w18.heap.size ≤ w19.heap.size := hb.size
  have SP_19 : Hid (Own w19 shSynod [.slice p3_1 AC.length q3_1, .slice p3_2 PS.length q3_2] (AC, PS, ()) (Btw w2.heap.size w3.heap.size)) := SP_18.out.next hb
  have W_19 : Hid (Bx w19 w3.heap.size [.slice p3_1 AC.length q3_1, .slice p3_2 PS.length q3_2]) := W_18.out.next hb
  have GP_19 : Hid (Own w19 shSynod [.slice p6_1 AC.length q6_1, .slice p6_2 PS.length q6_2] (mkT shSynod (AC, PS, ()) 1) (Btw w5.heap.size w6.heap.size)) := GP_18.out.next hb
  have G_19 : Hid (Bx w19 w6.heap.size [.slice p6_1 AC.length q6_1, .slice p6_2 PS.length q6_2]) := G_18.out.next hb
  have HP_19 : Hid (Own w19 shSynod [.slice p16_1 AC.length q16_1, .slice p16_2 PS.length q16_2] (AC, PS, ()) (Btw w15.heap.size w16.heap.size)) := HP_18.out.next hb
  have H_19 : Hid (Bx w19 w16.heap.size [.slice p16_1 AC.length q16_1, .slice p16_2 PS.length q16_2]) := H_18.out.next hb
  clear hb cG0 cG1 zG SP_18 W_18 GP_18 G_18 HP_18 H_18 HB18
  have HE := HB19
  go_wp2
  go_ret
  exact ⟨rfl, HE.out⟩


theorem own : ownKnob Try.prog.godebug = none := by kernel_rfl
theorem laidOut : laidOutB Try.prog = true := by kernel_rfl

set_option maxRecDepth 100000 in
theorem lifted (os : Os) (started : os.Started) (H : Type) (enc : TypeId × Value → H) :
    ReturnsInHanded {} Try.checked os 5 .any (Rows.fnExactNewSynodSpec.pre6 enc Try.prog Try.f5 Rows.fnExactNewSynodRow.domain false) (Rows.fnExactNewSynodSpec.post enc Try.prog Try.f5 false true false false) := by
  refine returnsInHanded_of_change (C := Try.checked) own started (by kernel_rfl) Try.func5
    (ChangeSpec.witness6 (enc := enc) (C := Try.checked) false ⟨#[], #[.int .i64 0, .slice none 0 0], []⟩ 8 (by kernel_rfl) (by kernel_rfl) (by kernel_rfl) (by kernel_rfl)) ?_
  intro W base args ds gs before hval0 hW hcnd _
  have hval : ∀ (j : Nat) t v, Try.f5.params[j]? = some t → args[j]? = some v → Value.okWide Try.prog W .any base t v := hval0
  have hW' := hW
  obtain ⟨p, q, hA0, hV, rfl, hfz, hnd⟩ := hW
  have hA : DataW.TrodAll enc Try.prog W 0 (fun _ => true) true Try.f5.params.toList args.toList ds p := hA0
  rw [Try.params5] at hA hval
  obtain ⟨v0, vs0, d0, ds0, p0, q0, hargs, rfl, rfl, h0, r0⟩ := trodAll_cons hA
  obtain ⟨v1, vs1, d1, ds1, p1, q1, rfl, rfl, rfl, h1, r1⟩ := trodAll_cons r0
  obtain ⟨rfl, rfl, rfl⟩ := trodAll_nil r1
  obtain rfl : args = #[v0, v1] := by cases args; simp_all
  obtain ⟨rfl, rfl⟩ := trodVars_none hV
  have k0 := h0
  have lt0 : ∀ x ∈ p0, x.block < W.heap.size := by obtain ⟨m, hm⟩ := k0; exact DataW.trod_lt m _ _ _ hm
  obtain ⟨a0, rfl, rfl, rfl, w0⟩ := open_int Try.underlying3 (hval 0 3 v0 rfl rfl) h0
  have k1 := h1
  have lt1 : ∀ x ∈ p1, x.block < W.heap.size := by obtain ⟨m, hm⟩ := k1; exact DataW.trod_lt m _ _ _ hm
  obtain ⟨a1, len1, cap1, rfl⟩ := okWide_slice Try.underlying23 (hval 1 23 v1 rfl rfl)
  obtain ⟨X1, rfl, li1, fi1⟩ := open_StringS_n h1
  clear hA0 hval0
  refine (walk (w := W) a0 w0 a1 cap1 X1 li1 fi1).mono fun e W' ⟨he, bel⟩ => ?_
  subst he
  exact ⟨_, rfl, _, _, _, [], _, [], hW', trodAll_mk1 (shut_bool Try.underlying4 _), (trodAll_cons_mk (Below.trod laidOut (by kernel_rfl) (of_decide_eq_true (by kernel_rfl)) k0 bel lt0) (trodAll_cons_mk (Below.trod laidOut (by kernel_rfl) (of_decide_eq_true (by kernel_rfl)) k1 bel lt1) trodAll_mk0)), rfl, bel.frame _, fun h => by cases h⟩

set_option maxHeartbeats 40000000 in
theorem closed : joinedFacts Try.pinned.checked.prog 5 Try.f5 Rows.fnExactNewSynodSpec Rows.fnExactNewSynodRow = true := by
  unfold joinedFacts
  repeat' (first | (with_reducible refine both ?_ ?_) | (with_reducible exact may_enter') | (with_reducible refine lifts_eq ?_) | (with_reducible refine make_eq ?_) | as_aux_lemma => kernel_rfl)
theorem named : Try.pinned.checked.prog.funcNamed Rows.fnExactNewSynodRow.func = some 5 := by kernel_rfl
theorem over : Rows.fnExactNewSynodRow.holds Try.pinned (OpenSpec.ofChange Rows.fnExactNewSynodSpec) :=
  OpenClaim.holds_of_wide 5 Try.f5 rfl rfl rfl rfl rfl rfl rfl ⟨rfl, rfl, rfl, rfl, rfl⟩ rfl rfl rfl rfl rfl named Try.func5 closed
    (of_decide_eq_true (by as_aux_lemma => kernel_rfl)) (by unfold Func.isWrapper; first | (rw [if_pos (by decide +kernel)]; kernel_rfl) | (rw [if_neg (by decide +kernel)]; exact ⟨rfl, rfl⟩))
    (fun os started H enc _ => lifted os started H enc)

end Go.Proofs.Ytmhkfangfhanlaa.xNewSynod
namespace Go.Proofs.Ytmhkfangfhanlaa
theorem xNewSynod_holds : Rows.FnExactNewSynodSaid := xNewSynod.over
#print axioms xNewSynod_holds
end Go.Proofs.Ytmhkfangfhanlaa
