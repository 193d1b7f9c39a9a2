/- At every argument impl.PlaySynod answers as the specification does, field by field, writes into no argument, its answer owns its memory, and each argument reads behind the call as it read before. No condition. -/
import Derived.Test.YtmhkfangfhanlaaPsL
import Derived.Test.YtmhkfangfhanlaaNtZ
import Derived.Test.YtmhkfangfhanlaaNtT
import Derived.Test.YtmhkfangfhanlaaNtE
import Derived.Test.YtmhkfangfhanlaaNtO
import Derived.Test.YtmhkfangfhanlaaNtM
import Derived.Test.YtmhkfangfhanlaaNtH
import Derived.Test.YtmhkfangfhanlaaWords
import Derived.ProofKit
import Derived.OpenShut
import Derived.ShutString
import Derived.ChangeOld
import Derived.Below
import Derived.Lib.SmallJoins
namespace Go.Proofs.Ytmhkfangfhanlaa.xPlaySynod
open Go.ChangeShapes Go.WideShapes Go.ChangeAt Go.RowKit
open Go.ChangeMaps (open_string shut_string)
set_option linter.unusedVariables false

set_option maxRecDepth 100000 in
set_option maxHeartbeats 4000000 in
theorem walk (w : World) (m : Int) (wf0 : (Lit.int .i64 m).wf = true) (a1 : Option Addr) (k1 : Nat) (vs : List (Sh.T .str)) (li1 : Lies w (.list .str) [.slice a1 vs.length k1] vs) (fi1 : Fits (.list .str) vs) (a2 : Option Addr) (k2 : Nat) (l : List (Sh.T shSynodStep)) (li2 : Lies w (.list shSynodStep) [.slice a2 l.length k2] l) (fi2 : Fits (.list shSynodStep) l) :
    Calls Try.prog 8 #[.int .i64 m, .slice a1 vs.length k1, .slice a2 l.length k2] w fun r w' => r = .returned (.bool true) ∧ Below w.heap.size w w' := by
  have H0 : Hid (-9223372036854775808 ≤ m ∧ m ≤ 9223372036854775807) := wf_bounds wf0
  clear wf0
  have HL1 : Hid (Lies w (.list .str) [.slice a1 vs.length k1] vs) := li1
  have HF1 : Hid (Fits (.list .str) vs) := fi1
  clear li1 fi1
  have HL2 : Hid (Lies w (.list shSynodStep) [.slice a2 l.length k2] l) := li2
  have HF2 : Hid (Fits (.list shSynodStep) l) := fi2
  clear li2 fi2
  obtain ⟨AC, PS, DD, z, hA⟩ : ∃ AC PS DD z, PlH m vs l AC PS DD z := ⟨_, _, _, _, rfl, rfl, rfl, rfl⟩
  have HA : Hid (PlH m vs l AC PS DD z) := hA
  have HTD : Hid (szD shSynod (AC, PS, ()) ≤ 1073741824 ∧ szD (.list .bool) DD ≤ 1073741824) := Hid.intro (by have h1 := sz_plA m vs l; rw [hA.1, hA.2.1, hA.2.2.1] at h1; exact h1)
  clear hA
  go_enter Try.func8, Try.ntmps8
  go_wp2_with fail
  refine (szStringS_n a1 k1 vs _ _ (by omega) (by omega) HF1.out (HL1.out.next (Below.refl _ _))).mono ?_
  rintro r w1 ⟨⟨y1, rfl, hy1⟩, hb⟩
  have HB1 : Hid (Below w.heap.size w w1) := below_next (Below.refl _ _) hb
  have sz1 : w.heap.size ≤ w1.heap.size := hb.size
  clear hb 
  by_cases ng1 : y1 < 0
  · clear hy1
    go_wp2
    go_ret
    exact ⟨rfl, HB1.out⟩
  have HS1 : Hid (szD (.list .str) vs ≤ 1073741824) := Hid.intro (by rcases hy1 with e | e <;> omega)
  have HX1 : Hid (szD (.list .str) vs ≤ 1048576) := Hid.intro (by rcases hy1 with e | e <;> omega)
  have hb1 : 0 ≤ y1 ∧ y1 ≤ 1048576 := by rcases hy1 with e | e <;> omega
  clear hy1
  go_wp2_with fail
  refine (szSynodStepS_n a2 k2 l _ _ (by omega) (by omega) HF2.out (HL2.out.next HB1.out)).mono ?_
  rintro r w2 ⟨⟨y2, rfl, hy2⟩, hb⟩
  have HB2 : Hid (Below w.heap.size w w2) := below_next HB1.out hb
  have sz2 : w1.heap.size ≤ w2.heap.size := hb.size
  clear hb HB1
  by_cases ng2 : y2 < 0
  · clear hy2
    go_wp2
    go_ret
    exact ⟨rfl, HB2.out⟩
  have HS2 : Hid (szD (.list shSynodStep) l ≤ 1073741824) := Hid.intro (by rcases hy2 with e | e <;> omega)
  have HX2 : Hid (szD (.list shSynodStep) l ≤ 1048576) := Hid.intro (by rcases hy2 with e | e <;> omega)
  have hb2 : 0 ≤ y2 ∧ y2 ≤ 1048576 := by rcases hy2 with e | e <;> omega
  clear hy2
  obtain ⟨cn, hcn⟩ : ∃ c : Nat, c = cntT shSynod (AC, PS, ()) := ⟨_, rfl⟩
  have HCN : Hid (cn = cntT shSynod (AC, PS, ())) := hcn
  have hcnb : cn ≤ 100000000000 := by rw [hcn]; exact cnt_syn HTD.out.1
  clear hcn
  obtain ⟨cd, hcd⟩ : ∃ c : Nat, c = cntD (.list .bool) DD := ⟨_, rfl⟩
  have HCD : Hid (cd = cntD (.list .bool) DD) := hcd
  have hcdb : cd ≤ 100000000000 := by rw [hcd]; exact cnt_bools HTD.out.2
  clear hcd
  obtain ⟨cx, hcx⟩ : ∃ c : Nat, c = cntD (.list .str) vs := ⟨_, rfl⟩
  have HCX : Hid (cx = cntD (.list .str) vs) := hcx
  have hcxb : cx ≤ 100000000000 := by rw [hcx]; exact cnt_strs HS1.out
  clear hcx
  obtain ⟨cy, hcy⟩ : ∃ c : Nat, c = cntD (.list shSynodStep) l := ⟨_, rfl⟩
  have HCY : Hid (cy = cntD (.list shSynodStep) l) := hcy
  have hcyb : cy ≤ 100000000000 := by rw [hcy]; exact cnt_steps HS2.out
  clear hcy
  have hng0 : ¬ (1 + (cn : Int)) < 0 := by omega
  have hng1 : ¬ (1 + (cn : Int) + (cd : Int)) < 0 := by omega
  have hng2 : ¬ (1 + (cx : Int)) < 0 := by omega
  have hng3 : ¬ (1 + (cx : Int) + (cy : Int)) < 0 := by omega
  go_wp2_with fail
  refine (toStringS_n a1 k1 vs _ HS1.out (HL1.out.next HB2.out)).mono ?_
  rintro r w3 ⟨p3, rfl, ho, hb⟩
  have HB3 : Hid (Below w.heap.size w w3) := below_next HB2.out hb
  have sz3 : w2.heap.size ≤ w3.heap.size := hb.size
  have D1_3 : Hid (Own w3 (.list .str) [.slice (some ⟨p3, 0, none⟩) vs.length vs.length] vs (Btw w2.heap.size w3.heap.size)) := ho
  clear hb ho HB2
  go_wp2_with fail
  refine (toSynodStepS_n a2 k2 l _ HS2.out (HL2.out.next HB3.out)).mono ?_
  rintro r w4 ⟨p4, rfl, ho, hb⟩
  have HB4 : Hid (Below w.heap.size w w4) := below_next HB3.out hb
  have sz4 : w3.heap.size ≤ w4.heap.size := hb.size
  have D1_4 : Hid (Own w4 (.list .str) [.slice (some ⟨p3, 0, none⟩) vs.length vs.length] vs (Btw w2.heap.size w3.heap.size)) := D1_3.out.next hb
  have D2_4 : Hid (Own w4 (.list shSynodStep) [.slice (some ⟨p4, 0, none⟩) l.length l.length] l (Btw w3.heap.size w4.heap.size)) := ho
  clear hb ho D1_3 HB3
  go_wp2_with fail
  refine (specPlaySynod_l m (some ⟨p3, 0, none⟩) vs.length vs (some ⟨p4, 0, none⟩) l.length l _ AC PS DD z HA.out HS1.out HS2.out D1_4.out.lies D2_4.out.lies).mono ?_
  rintro r w5 hT
  obtain ⟨p5_1, q5_1, p5_2, q5_2, p5_3, q5_3, S5a, S5b, rfl, ho, hod, hss, hb⟩ := plp_out hT
  have HSS5 : Hid ((∀ k, S5a k → w4.heap.size ≤ k ∧ k < w5.heap.size) ∧ (∀ k, S5b k → w4.heap.size ≤ k ∧ k < w5.heap.size) ∧ (∀ k, S5a k → ¬ S5b k)) := hss
  clear hss
  have HB5 : Hid (Below w.heap.size w w5) := below_next HB4.out hb
  have sz5 : w4.heap.size ≤ w5.heap.size := hb.size
  have D1_5 : Hid (Own w5 (.list .str) [.slice (some ⟨p3, 0, none⟩) vs.length vs.length] vs (Btw w2.heap.size w3.heap.size)) := D1_4.out.next hb
  have D2_5 : Hid (Own w5 (.list shSynodStep) [.slice (some ⟨p4, 0, none⟩) l.length l.length] l (Btw w3.heap.size w4.heap.size)) := D2_4.out.next hb
  have SP_5 : Hid (Own w5 shSynod [.slice p5_1 AC.length q5_1, .slice p5_2 PS.length q5_2] (AC, PS, ()) S5a) := ho
  have SD_5 : Hid (Own w5 (.list .bool) [.slice p5_3 DD.length q5_3] DD S5b) := hod
  clear hb ho hod hT D1_4 D2_4 HB4
  clear D1_5
  clear D2_5
  go_wp2_with fail
  obtain ⟨w6, hw6⟩ : ∃ x, x = w5.alloc (.cells #[.slice p5_1 AC.length q5_1, .slice p5_2 PS.length q5_2] 30) := ⟨_, rfl⟩
  have hb : Below w5.heap.size w5 w6 := hw6 ▸ Go.Joins.below_alloc1 _ _
  have HB6 : Hid (Below w.heap.size w w6) := below_next HB5.out hb
  have sz6 : w5.heap.size < w6.heap.size := by rw [hw6]; simp
  have SP_6 : Hid (Own w6 shSynod [.slice p5_1 AC.length q5_1, .slice p5_2 PS.length q5_2] (AC, PS, ()) S5a) := SP_5.out.next hb
  have SD_6 : Hid (Own w6 (.list .bool) [.slice p5_3 DD.length q5_3] DD S5b) := SD_5.out.next hb
  have W_6 : Hid (Bx w6 w5.heap.size [.slice p5_1 AC.length q5_1, .slice p5_2 PS.length q5_2]) := hw6 ▸ Bx.new w5 [.slice p5_1 AC.length q5_1, .slice p5_2 PS.length q5_2] _
  rw [← hw6]
  clear hb hw6 SP_5 SD_5 HB5
  refine (toStringS_n a1 k1 vs _ HS1.out (HL1.out.next HB6.out)).mono ?_
  rintro r w7 ⟨p7, rfl, ho, hb⟩
  have HB7 : Hid (Below w.heap.size w w7) := below_next HB6.out hb
  have sz7 : w6.heap.size ≤ w7.heap.size := hb.size
  have SP_7 : Hid (Own w7 shSynod [.slice p5_1 AC.length q5_1, .slice p5_2 PS.length q5_2] (AC, PS, ()) S5a) := SP_6.out.next hb
  have SD_7 : Hid (Own w7 (.list .bool) [.slice p5_3 DD.length q5_3] DD S5b) := SD_6.out.next hb
  have W_7 : Hid (Bx w7 w5.heap.size [.slice p5_1 AC.length q5_1, .slice p5_2 PS.length q5_2]) := W_6.out.next hb
  have P1_7 : Hid (Own w7 (.list .str) [.slice (some ⟨p7, 0, none⟩) vs.length vs.length] vs (Btw w6.heap.size w7.heap.size)) := ho
  clear hb ho SP_6 SD_6 W_6 HB6
  go_wp2_with fail
  refine (toSynodStepS_n a2 k2 l _ HS2.out (HL2.out.next HB7.out)).mono ?_
  rintro r w8 ⟨p8, rfl, ho, hb⟩
  have HB8 : Hid (Below w.heap.size w w8) := below_next HB7.out hb
  have sz8 : w7.heap.size ≤ w8.heap.size := hb.size
  have SP_8 : Hid (Own w8 shSynod [.slice p5_1 AC.length q5_1, .slice p5_2 PS.length q5_2] (AC, PS, ()) S5a) := SP_7.out.next hb
  have SD_8 : Hid (Own w8 (.list .bool) [.slice p5_3 DD.length q5_3] DD S5b) := SD_7.out.next hb
  have W_8 : Hid (Bx w8 w5.heap.size [.slice p5_1 AC.length q5_1, .slice p5_2 PS.length q5_2]) := W_7.out.next hb
  have P1_8 : Hid (Own w8 (.list .str) [.slice (some ⟨p7, 0, none⟩) vs.length vs.length] vs (Btw w6.heap.size w7.heap.size)) := P1_7.out.next hb
  have P2_8 : Hid (Own w8 (.list shSynodStep) [.slice (some ⟨p8, 0, none⟩) l.length l.length] l (Btw w7.heap.size w8.heap.size)) := ho
  clear hb ho SP_7 SD_7 W_7 P1_7 HB7
  go_wp2_with fail
  refine (playSynod_l m (some ⟨p7, 0, none⟩) vs.length vs (some ⟨p8, 0, none⟩) l.length l _ AC PS DD z HA.out HS1.out HS2.out P1_8.out.lies P2_8.out.lies).mono ?_
  rintro r w9 hT
  obtain ⟨p9_1, q9_1, p9_2, q9_2, p9_3, q9_3, S9a, S9b, rfl, ho, hod, hss, hb⟩ := plp_out hT
  have HSS9 : Hid ((∀ k, S9a k → w8.heap.size ≤ k ∧ k < w9.heap.size) ∧ (∀ k, S9b k → w8.heap.size ≤ k ∧ k < w9.heap.size) ∧ (∀ k, S9a k → ¬ S9b k)) := hss
  clear hss
  have HB9 : Hid (Below w.heap.size w w9) := below_next HB8.out hb
  have sz9 : w8.heap.size ≤ w9.heap.size := hb.size
  have SP_9 : Hid (Own w9 shSynod [.slice p5_1 AC.length q5_1, .slice p5_2 PS.length q5_2] (AC, PS, ()) S5a) := SP_8.out.next hb
  have SD_9 : Hid (Own w9 (.list .bool) [.slice p5_3 DD.length q5_3] DD S5b) := SD_8.out.next hb
  have W_9 : Hid (Bx w9 w5.heap.size [.slice p5_1 AC.length q5_1, .slice p5_2 PS.length q5_2]) := W_8.out.next hb
  have P1_9 : Hid (Own w9 (.list .str) [.slice (some ⟨p7, 0, none⟩) vs.length vs.length] vs (Btw w6.heap.size w7.heap.size)) := P1_8.out.next hb
  have P2_9 : Hid (Own w9 (.list shSynodStep) [.slice (some ⟨p8, 0, none⟩) l.length l.length] l (Btw w7.heap.size w8.heap.size)) := P2_8.out.next hb
  have GP_9 : Hid (Own w9 shSynod [.slice p9_1 AC.length q9_1, .slice p9_2 PS.length q9_2] (AC, PS, ()) S9a) := ho
  have GD_9 : Hid (Own w9 (.list .bool) [.slice p9_3 DD.length q9_3] DD S9b) := hod
  clear hb ho hod hT SP_8 SD_8 W_8 P1_8 P2_8 HB8
  have cW0 := W_9.out.cell 0 rfl
  have cW1 := W_9.out.cell 1 rfl
  have zW := W_9.out.2
  go_wp2_with fail
  obtain ⟨w10, hw10⟩ : ∃ x, x = w9.alloc (.cells #[.slice p9_1 AC.length q9_1, .slice p9_2 PS.length q9_2] 30) := ⟨_, rfl⟩
  have hb : Below w9.heap.size w9 w10 := hw10 ▸ Go.Joins.below_alloc1 _ _
  have HB10 : Hid (Below w.heap.size w w10) := below_next HB9.out hb
  have sz10 : w9.heap.size < w10.heap.size := by rw [hw10]; simp
  have SP_10 : Hid (Own w10 shSynod [.slice p5_1 AC.length q5_1, .slice p5_2 PS.length q5_2] (AC, PS, ()) S5a) := SP_9.out.next hb
  have SD_10 : Hid (Own w10 (.list .bool) [.slice p5_3 DD.length q5_3] DD S5b) := SD_9.out.next hb
  have W_10 : Hid (Bx w10 w5.heap.size [.slice p5_1 AC.length q5_1, .slice p5_2 PS.length q5_2]) := W_9.out.next hb
  have P1_10 : Hid (Own w10 (.list .str) [.slice (some ⟨p7, 0, none⟩) vs.length vs.length] vs (Btw w6.heap.size w7.heap.size)) := P1_9.out.next hb
  have P2_10 : Hid (Own w10 (.list shSynodStep) [.slice (some ⟨p8, 0, none⟩) l.length l.length] l (Btw w7.heap.size w8.heap.size)) := P2_9.out.next hb
  have GP_10 : Hid (Own w10 shSynod [.slice p9_1 AC.length q9_1, .slice p9_2 PS.length q9_2] (AC, PS, ()) S9a) := GP_9.out.next hb
  have GD_10 : Hid (Own w10 (.list .bool) [.slice p9_3 DD.length q9_3] DD S9b) := GD_9.out.next hb
  have G_10 : Hid (Bx w10 w9.heap.size [.slice p9_1 AC.length q9_1, .slice p9_2 PS.length q9_2]) := hw10 ▸ Bx.new w9 [.slice p9_1 AC.length q9_1, .slice p9_2 PS.length q9_2] _
  rw [← hw10]
  clear hb hw10 cW0 cW1 zW SP_9 SD_9 W_9 P1_9 P2_9 GP_9 GD_9 HB9
  refine (eqSynod_n [.slice p9_1 AC.length q9_1, .slice p9_2 PS.length q9_2] [.slice p5_1 AC.length q5_1, .slice p5_2 PS.length q5_2] AC PS _ HTD.out.1 GP_10.out.lies SP_10.out.lies).mono ?_
  rintro r w11 ⟨rfl, hb⟩
  have HB11 : Hid (Below w.heap.size w w11) := below_next HB10.out hb
  have sz11 : w10.heap.size ≤ w11.heap.size := hb.size
  have SP_11 : Hid (Own w11 shSynod [.slice p5_1 AC.length q5_1, .slice p5_2 PS.length q5_2] (AC, PS, ()) S5a) := SP_10.out.next hb
  have SD_11 : Hid (Own w11 (.list .bool) [.slice p5_3 DD.length q5_3] DD S5b) := SD_10.out.next hb
  have W_11 : Hid (Bx w11 w5.heap.size [.slice p5_1 AC.length q5_1, .slice p5_2 PS.length q5_2]) := W_10.out.next hb
  have P1_11 : Hid (Own w11 (.list .str) [.slice (some ⟨p7, 0, none⟩) vs.length vs.length] vs (Btw w6.heap.size w7.heap.size)) := P1_10.out.next hb
  have P2_11 : Hid (Own w11 (.list shSynodStep) [.slice (some ⟨p8, 0, none⟩) l.length l.length] l (Btw w7.heap.size w8.heap.size)) := P2_10.out.next hb
  have GP_11 : Hid (Own w11 shSynod [.slice p9_1 AC.length q9_1, .slice p9_2 PS.length q9_2] (AC, PS, ()) S9a) := GP_10.out.next hb
  have GD_11 : Hid (Own w11 (.list .bool) [.slice p9_3 DD.length q9_3] DD S9b) := GD_10.out.next hb
  have G_11 : Hid (Bx w11 w9.heap.size [.slice p9_1 AC.length q9_1, .slice p9_2 PS.length q9_2]) := G_10.out.next hb
  clear hb SP_10 SD_10 W_10 P1_10 P2_10 GP_10 GD_10 G_10 HB10
  go_wp2_with fail
  refine (eqBoolS_n p9_3 p5_3 q9_3 q5_3 DD _ HTD.out.2 GD_11.out.lies SD_11.out.lies).mono ?_
  rintro r w12 ⟨rfl, hb⟩
  have HB12 : Hid (Below w.heap.size w w12) := below_next HB11.out hb
  have sz12 : w11.heap.size ≤ w12.heap.size := hb.size
  have SP_12 : Hid (Own w12 shSynod [.slice p5_1 AC.length q5_1, .slice p5_2 PS.length q5_2] (AC, PS, ()) S5a) := SP_11.out.next hb
  have SD_12 : Hid (Own w12 (.list .bool) [.slice p5_3 DD.length q5_3] DD S5b) := SD_11.out.next hb
  have W_12 : Hid (Bx w12 w5.heap.size [.slice p5_1 AC.length q5_1, .slice p5_2 PS.length q5_2]) := W_11.out.next hb
  have P1_12 : Hid (Own w12 (.list .str) [.slice (some ⟨p7, 0, none⟩) vs.length vs.length] vs (Btw w6.heap.size w7.heap.size)) := P1_11.out.next hb
  have P2_12 : Hid (Own w12 (.list shSynodStep) [.slice (some ⟨p8, 0, none⟩) l.length l.length] l (Btw w7.heap.size w8.heap.size)) := P2_11.out.next hb
  have GP_12 : Hid (Own w12 shSynod [.slice p9_1 AC.length q9_1, .slice p9_2 PS.length q9_2] (AC, PS, ()) S9a) := GP_11.out.next hb
  have GD_12 : Hid (Own w12 (.list .bool) [.slice p9_3 DD.length q9_3] DD S9b) := GD_11.out.next hb
  have G_12 : Hid (Bx w12 w9.heap.size [.slice p9_1 AC.length q9_1, .slice p9_2 PS.length q9_2]) := G_11.out.next hb
  clear hb SP_11 SD_11 W_11 P1_11 P2_11 GP_11 GD_11 G_11 HB11
  go_wp2_with fail
  refine (toStringS_n a1 k1 vs _ HS1.out (HL1.out.next HB12.out)).mono ?_
  rintro r w13 ⟨p13, rfl, ho, hb⟩
  have HB13 : Hid (Below w.heap.size w w13) := below_next HB12.out hb
  have sz13 : w12.heap.size ≤ w13.heap.size := hb.size
  have SP_13 : Hid (Own w13 shSynod [.slice p5_1 AC.length q5_1, .slice p5_2 PS.length q5_2] (AC, PS, ()) S5a) := SP_12.out.next hb
  have SD_13 : Hid (Own w13 (.list .bool) [.slice p5_3 DD.length q5_3] DD S5b) := SD_12.out.next hb
  have W_13 : Hid (Bx w13 w5.heap.size [.slice p5_1 AC.length q5_1, .slice p5_2 PS.length q5_2]) := W_12.out.next hb
  have P1_13 : Hid (Own w13 (.list .str) [.slice (some ⟨p7, 0, none⟩) vs.length vs.length] vs (Btw w6.heap.size w7.heap.size)) := P1_12.out.next hb
  have P2_13 : Hid (Own w13 (.list shSynodStep) [.slice (some ⟨p8, 0, none⟩) l.length l.length] l (Btw w7.heap.size w8.heap.size)) := P2_12.out.next hb
  have GP_13 : Hid (Own w13 shSynod [.slice p9_1 AC.length q9_1, .slice p9_2 PS.length q9_2] (AC, PS, ()) S9a) := GP_12.out.next hb
  have GD_13 : Hid (Own w13 (.list .bool) [.slice p9_3 DD.length q9_3] DD S9b) := GD_12.out.next hb
  have G_13 : Hid (Bx w13 w9.heap.size [.slice p9_1 AC.length q9_1, .slice p9_2 PS.length q9_2]) := G_12.out.next hb
  have D_13 : Hid (Own w13 (.list .str) [.slice (some ⟨p13, 0, none⟩) vs.length vs.length] vs (Btw w12.heap.size w13.heap.size)) := ho
  clear hb ho SP_12 SD_12 W_12 P1_12 P2_12 GP_12 GD_12 G_12 HB12
  go_wp2_with fail
  refine (eqStringS_n (some ⟨p7, 0, none⟩) (some ⟨p13, 0, none⟩) vs.length vs.length vs _ HS1.out P1_13.out.lies D_13.out.lies).mono ?_
  rintro r w14 ⟨rfl, hb⟩
  have HB14 : Hid (Below w.heap.size w w14) := below_next HB13.out hb
  have sz14 : w13.heap.size ≤ w14.heap.size := hb.size
  have SP_14 : Hid (Own w14 shSynod [.slice p5_1 AC.length q5_1, .slice p5_2 PS.length q5_2] (AC, PS, ()) S5a) := SP_13.out.next hb
  have SD_14 : Hid (Own w14 (.list .bool) [.slice p5_3 DD.length q5_3] DD S5b) := SD_13.out.next hb
  have W_14 : Hid (Bx w14 w5.heap.size [.slice p5_1 AC.length q5_1, .slice p5_2 PS.length q5_2]) := W_13.out.next hb
  have P1_14 : Hid (Own w14 (.list .str) [.slice (some ⟨p7, 0, none⟩) vs.length vs.length] vs (Btw w6.heap.size w7.heap.size)) := P1_13.out.next hb
  have P2_14 : Hid (Own w14 (.list shSynodStep) [.slice (some ⟨p8, 0, none⟩) l.length l.length] l (Btw w7.heap.size w8.heap.size)) := P2_13.out.next hb
  have GP_14 : Hid (Own w14 shSynod [.slice p9_1 AC.length q9_1, .slice p9_2 PS.length q9_2] (AC, PS, ()) S9a) := GP_13.out.next hb
  have GD_14 : Hid (Own w14 (.list .bool) [.slice p9_3 DD.length q9_3] DD S9b) := GD_13.out.next hb
  have G_14 : Hid (Bx w14 w9.heap.size [.slice p9_1 AC.length q9_1, .slice p9_2 PS.length q9_2]) := G_13.out.next hb
  have D_14 : Hid (Own w14 (.list .str) [.slice (some ⟨p13, 0, none⟩) vs.length vs.length] vs (Btw w12.heap.size w13.heap.size)) := D_13.out.next hb
  clear hb SP_13 SD_13 W_13 P1_13 P2_13 GP_13 GD_13 G_13 D_13 HB13
  clear D_14
  go_wp2_with fail
  refine (toSynodStepS_n a2 k2 l _ HS2.out (HL2.out.next HB14.out)).mono ?_
  rintro r w15 ⟨p15, rfl, ho, hb⟩
  have HB15 : Hid (Below w.heap.size w w15) := below_next HB14.out hb
  have sz15 : w14.heap.size ≤ w15.heap.size := hb.size
  have SP_15 : Hid (Own w15 shSynod [.slice p5_1 AC.length q5_1, .slice p5_2 PS.length q5_2] (AC, PS, ()) S5a) := SP_14.out.next hb
  have SD_15 : Hid (Own w15 (.list .bool) [.slice p5_3 DD.length q5_3] DD S5b) := SD_14.out.next hb
  have W_15 : Hid (Bx w15 w5.heap.size [.slice p5_1 AC.length q5_1, .slice p5_2 PS.length q5_2]) := W_14.out.next hb
  have P1_15 : Hid (Own w15 (.list .str) [.slice (some ⟨p7, 0, none⟩) vs.length vs.length] vs (Btw w6.heap.size w7.heap.size)) := P1_14.out.next hb
  have P2_15 : Hid (Own w15 (.list shSynodStep) [.slice (some ⟨p8, 0, none⟩) l.length l.length] l (Btw w7.heap.size w8.heap.size)) := P2_14.out.next hb
  have GP_15 : Hid (Own w15 shSynod [.slice p9_1 AC.length q9_1, .slice p9_2 PS.length q9_2] (AC, PS, ()) S9a) := GP_14.out.next hb
  have GD_15 : Hid (Own w15 (.list .bool) [.slice p9_3 DD.length q9_3] DD S9b) := GD_14.out.next hb
  have G_15 : Hid (Bx w15 w9.heap.size [.slice p9_1 AC.length q9_1, .slice p9_2 PS.length q9_2]) := G_14.out.next hb
  have D_15 : Hid (Own w15 (.list shSynodStep) [.slice (some ⟨p15, 0, none⟩) l.length l.length] l (Btw w14.heap.size w15.heap.size)) := ho
  clear hb ho SP_14 SD_14 W_14 P1_14 P2_14 GP_14 GD_14 G_14 HB14
  go_wp2_with fail
  refine (eqSynodStepS_n (some ⟨p8, 0, none⟩) (some ⟨p15, 0, none⟩) l.length l.length l _ HS2.out P2_15.out.lies D_15.out.lies).mono ?_
  rintro r w16 ⟨rfl, hb⟩
  have HB16 : Hid (Below w.heap.size w w16) := below_next HB15.out hb
  have sz16 : w15.heap.size ≤ w16.heap.size := hb.size
  have SP_16 : Hid (Own w16 shSynod [.slice p5_1 AC.length q5_1, .slice p5_2 PS.length q5_2] (AC, PS, ()) S5a) := SP_15.out.next hb
  have SD_16 : Hid (Own w16 (.list .bool) [.slice p5_3 DD.length q5_3] DD S5b) := SD_15.out.next hb
  have W_16 : Hid (Bx w16 w5.heap.size [.slice p5_1 AC.length q5_1, .slice p5_2 PS.length q5_2]) := W_15.out.next hb
  have P1_16 : Hid (Own w16 (.list .str) [.slice (some ⟨p7, 0, none⟩) vs.length vs.length] vs (Btw w6.heap.size w7.heap.size)) := P1_15.out.next hb
  have P2_16 : Hid (Own w16 (.list shSynodStep) [.slice (some ⟨p8, 0, none⟩) l.length l.length] l (Btw w7.heap.size w8.heap.size)) := P2_15.out.next hb
  have GP_16 : Hid (Own w16 shSynod [.slice p9_1 AC.length q9_1, .slice p9_2 PS.length q9_2] (AC, PS, ()) S9a) := GP_15.out.next hb
  have GD_16 : Hid (Own w16 (.list .bool) [.slice p9_3 DD.length q9_3] DD S9b) := GD_15.out.next hb
  have G_16 : Hid (Bx w16 w9.heap.size [.slice p9_1 AC.length q9_1, .slice p9_2 PS.length q9_2]) := G_15.out.next hb
  have D_16 : Hid (Own w16 (.list shSynodStep) [.slice (some ⟨p15, 0, none⟩) l.length l.length] l (Btw w14.heap.size w15.heap.size)) := D_15.out.next hb
  clear hb SP_15 SD_15 W_15 P1_15 P2_15 GP_15 GD_15 G_15 D_15 HB15
  clear D_16
  go_wp2_with fail
  refine ((show Calls _ _ _ _ (MkP (.list .str) [.slice (some ⟨p7, 0, none⟩) vs.length vs.length] (mkD (.list .str) vs (1)) (1 + (cx : Int)) (Btw w6.heap.size w7.heap.size) _) from HCX.out ▸ markStringS_n (some ⟨p7, 0, none⟩) vs.length vs (1) (Btw w6.heap.size w7.heap.size) _ (by omega) (by have h1 := HCX.out; rw [← h1]; omega) HS1.out P1_16.out)).mono ?_
  rintro r w17 ⟨rfl, ho, ht⟩
  have HB17 : Hid (Below w.heap.size w w17) := Hid.intro (HB16.out.trans (ht.below (fun k hk => by simp only [Btw] at hk; omega) HB16.out.size))
  have sz17 : w16.heap.size ≤ w17.heap.size := ht.size
  have SP_17 : Hid (Own w17 shSynod [.slice p5_1 AC.length q5_1, .slice p5_2 PS.length q5_2] (AC, PS, ()) S5a) := SP_16.out.turn ht (fun k e f => by have be := HSS5.out.1 k e; simp only [Btw] at f; omega)
  have SD_17 : Hid (Own w17 (.list .bool) [.slice p5_3 DD.length q5_3] DD S5b) := SD_16.out.turn ht (fun k e f => by have be := HSS5.out.2.1 k e; simp only [Btw] at f; omega)
  have W_17 : Hid (Bx w17 w5.heap.size [.slice p5_1 AC.length q5_1, .slice p5_2 PS.length q5_2]) := W_16.out.turnS ht (fun hk => by simp only [Btw] at hk; omega)
  have P1_17 : Hid (Own w17 (.list .str) [.slice (some ⟨p7, 0, none⟩) vs.length vs.length] (mkD (.list .str) vs (1)) (Btw w6.heap.size w7.heap.size)) := ho
  have P2_17 : Hid (Own w17 (.list shSynodStep) [.slice (some ⟨p8, 0, none⟩) l.length l.length] l (Btw w7.heap.size w8.heap.size)) := P2_16.out.turn ht (fun k e f => by simp only [Btw] at e; simp only [Btw] at f; omega)
  have GP_17 : Hid (Own w17 shSynod [.slice p9_1 AC.length q9_1, .slice p9_2 PS.length q9_2] (AC, PS, ()) S9a) := GP_16.out.turn ht (fun k e f => by have be := HSS9.out.1 k e; simp only [Btw] at f; omega)
  have GD_17 : Hid (Own w17 (.list .bool) [.slice p9_3 DD.length q9_3] DD S9b) := GD_16.out.turn ht (fun k e f => by have be := HSS9.out.2.1 k e; simp only [Btw] at f; omega)
  have G_17 : Hid (Bx w17 w9.heap.size [.slice p9_1 AC.length q9_1, .slice p9_2 PS.length q9_2]) := G_16.out.turnS ht (fun hk => by simp only [Btw] at hk; omega)
  clear ht ho SP_16 SD_16 W_16 P1_16 P2_16 GP_16 GD_16 G_16 HB16
  clear P1_17
  go_wp2_with fail
  refine ((show Calls _ _ _ _ (MkP (.list shSynodStep) [.slice (some ⟨p8, 0, none⟩) l.length l.length] (mkD (.list shSynodStep) l (1 + (cx : Int))) (1 + (cx : Int) + (cy : Int)) (Btw w7.heap.size w8.heap.size) _) from HCY.out ▸ markSynodStepS_n (some ⟨p8, 0, none⟩) l.length l (1 + (cx : Int)) (Btw w7.heap.size w8.heap.size) _ (by omega) (by have h1 := HCY.out; rw [← h1]; omega) HS2.out P2_17.out)).mono ?_
  rintro r w18 ⟨rfl, ho, ht⟩
  have HB18 : Hid (Below w.heap.size w w18) := Hid.intro (HB17.out.trans (ht.below (fun k hk => by simp only [Btw] at hk; omega) HB17.out.size))
  have sz18 : w17.heap.size ≤ w18.heap.size := ht.size
  have SP_18 : Hid (Own w18 shSynod [.slice p5_1 AC.length q5_1, .slice p5_2 PS.length q5_2] (AC, PS, ()) S5a) := SP_17.out.turn ht (fun k e f => by have be := HSS5.out.1 k e; simp only [Btw] at f; omega)
  have SD_18 : Hid (Own w18 (.list .bool) [.slice p5_3 DD.length q5_3] DD S5b) := SD_17.out.turn ht (fun k e f => by have be := HSS5.out.2.1 k e; simp only [Btw] at f; omega)
  have W_18 : Hid (Bx w18 w5.heap.size [.slice p5_1 AC.length q5_1, .slice p5_2 PS.length q5_2]) := W_17.out.turnS ht (fun hk => by simp only [Btw] at hk; omega)
  have P2_18 : Hid (Own w18 (.list shSynodStep) [.slice (some ⟨p8, 0, none⟩) l.length l.length] (mkD (.list shSynodStep) l (1 + (cx : Int))) (Btw w7.heap.size w8.heap.size)) := ho
  have GP_18 : Hid (Own w18 shSynod [.slice p9_1 AC.length q9_1, .slice p9_2 PS.length q9_2] (AC, PS, ()) S9a) := GP_17.out.turn ht (fun k e f => by have be := HSS9.out.1 k e; simp only [Btw] at f; omega)
  have GD_18 : Hid (Own w18 (.list .bool) [.slice p9_3 DD.length q9_3] DD S9b) := GD_17.out.turn ht (fun k e f => by have be := HSS9.out.2.1 k e; simp only [Btw] at f; omega)
  have G_18 : Hid (Bx w18 w9.heap.size [.slice p9_1 AC.length q9_1, .slice p9_2 PS.length q9_2]) := G_17.out.turnS ht (fun hk => by simp only [Btw] at hk; omega)
  clear ht ho SP_17 SD_17 W_17 P2_17 GP_17 GD_17 G_17 HB17
  clear P2_18
  have cW0 := W_18.out.cell 0 rfl
  have cW1 := W_18.out.cell 1 rfl
  have zW := W_18.out.2
  have cG0 := G_18.out.cell 0 rfl
  have cG1 := G_18.out.cell 1 rfl
  have zG := G_18.out.2
  go_wp2_with fail
  refine (eqSynod_n [.slice p9_1 AC.length q9_1, .slice p9_2 PS.length q9_2] [.slice p5_1 AC.length q5_1, .slice p5_2 PS.length q5_2] AC PS _ HTD.out.1 GP_18.out.lies SP_18.out.lies).mono ?_
  rintro r w19 ⟨rfl, hb⟩
  have HB19 : Hid (Below w.heap.size w w19) := below_next HB18.out hb
  have sz19 : w18.heap.size ≤ w19.heap.size := hb.size
  have SP_19 : Hid (Own w19 shSynod [.slice p5_1 AC.length q5_1, .slice p5_2 PS.length q5_2] (AC, PS, ()) S5a) := SP_18.out.next hb
  have SD_19 : Hid (Own w19 (.list .bool) [.slice p5_3 DD.length q5_3] DD S5b) := SD_18.out.next hb
  have W_19 : Hid (Bx w19 w5.heap.size [.slice p5_1 AC.length q5_1, .slice p5_2 PS.length q5_2]) := W_18.out.next hb
  have GP_19 : Hid (Own w19 shSynod [.slice p9_1 AC.length q9_1, .slice p9_2 PS.length q9_2] (AC, PS, ()) S9a) := GP_18.out.next hb
  have GD_19 : Hid (Own w19 (.list .bool) [.slice p9_3 DD.length q9_3] DD S9b) := GD_18.out.next hb
  have G_19 : Hid (Bx w19 w9.heap.size [.slice p9_1 AC.length q9_1, .slice p9_2 PS.length q9_2]) := G_18.out.next hb
  clear hb cW0 cW1 zW cG0 cG1 zG SP_18 SD_18 W_18 GP_18 GD_18 G_18 HB18
  go_wp2_with fail
  refine (eqBoolS_n p9_3 p5_3 q9_3 q5_3 DD _ HTD.out.2 GD_19.out.lies SD_19.out.lies).mono ?_
  rintro r w20 ⟨rfl, hb⟩
  have HB20 : Hid (Below w.heap.size w w20) := below_next HB19.out hb
  have sz20 : w19.heap.size ≤ w20.heap.size := hb.size
  have SP_20 : Hid (Own w20 shSynod [.slice p5_1 AC.length q5_1, .slice p5_2 PS.length q5_2] (AC, PS, ()) S5a) := SP_19.out.next hb
  have SD_20 : Hid (Own w20 (.list .bool) [.slice p5_3 DD.length q5_3] DD S5b) := SD_19.out.next hb
  have W_20 : Hid (Bx w20 w5.heap.size [.slice p5_1 AC.length q5_1, .slice p5_2 PS.length q5_2]) := W_19.out.next hb
  have GP_20 : Hid (Own w20 shSynod [.slice p9_1 AC.length q9_1, .slice p9_2 PS.length q9_2] (AC, PS, ()) S9a) := GP_19.out.next hb
  have GD_20 : Hid (Own w20 (.list .bool) [.slice p9_3 DD.length q9_3] DD S9b) := GD_19.out.next hb
  have G_20 : Hid (Bx w20 w9.heap.size [.slice p9_1 AC.length q9_1, .slice p9_2 PS.length q9_2]) := G_19.out.next hb
  clear hb SP_19 SD_19 W_19 GP_19 GD_19 G_19 HB19
  have cG0 := G_20.out.cell 0 rfl
  have cG1 := G_20.out.cell 1 rfl
  have zG := G_20.out.2
  go_wp2_with fail
  refine ((show Calls _ _ _ _ (MkP shSynod [.slice p9_1 AC.length q9_1, .slice p9_2 PS.length q9_2] (mkT shSynod (AC, PS, ()) 1) (1 + (cn : Int)) S9a _) from HCN.out ▸ markSynod_n [.slice p9_1 AC.length q9_1, .slice p9_2 PS.length q9_2] AC PS 1 S9a _ (by decide) (by have h1 := HCN.out; rw [← h1]; omega) HTD.out.1 (fun k hk => by have := HSS9.out.1 k hk; omega) GP_20.out)).mono ?_
  rintro r w21 ⟨rfl, ho, ht⟩
  have HB21 : Hid (Below w.heap.size w w21) := Hid.intro (HB20.out.trans (ht.below (fun k hk => by have bhk := HSS9.out.1 k hk; omega) HB20.out.size))
  have sz21 : w20.heap.size ≤ w21.heap.size := ht.size
  have SP_21 : Hid (Own w21 shSynod [.slice p5_1 AC.length q5_1, .slice p5_2 PS.length q5_2] (AC, PS, ()) S5a) := SP_20.out.turn ht (fun k e f => by have be := HSS5.out.1 k e; have bf := HSS9.out.1 k f; omega)
  have SD_21 : Hid (Own w21 (.list .bool) [.slice p5_3 DD.length q5_3] DD S5b) := SD_20.out.turn ht (fun k e f => by have be := HSS5.out.2.1 k e; have bf := HSS9.out.1 k f; omega)
  have W_21 : Hid (Bx w21 w5.heap.size [.slice p5_1 AC.length q5_1, .slice p5_2 PS.length q5_2]) := W_20.out.turnS ht (fun hk => by have bhk := HSS9.out.1 _ hk; omega)
  have GP_21 : Hid (Own w21 shSynod [.slice p9_1 AC.length q9_1, .slice p9_2 PS.length q9_2] (mkT shSynod (AC, PS, ()) 1) S9a) := ho
  have GD_21 : Hid (Own w21 (.list .bool) [.slice p9_3 DD.length q9_3] DD S9b) := GD_20.out.turn ht (fun k e f => HSS9.out.2.2 k f e)
  have G_21 : Hid (Bx w21 w9.heap.size [.slice p9_1 AC.length q9_1, .slice p9_2 PS.length q9_2]) := G_20.out.turnS ht (fun hk => by have bhk := HSS9.out.1 _ hk; omega)
  clear ht ho cG0 cG1 zG SP_20 SD_20 W_20 GP_20 GD_20 G_20 HB20
  go_wp2_with fail
  refine ((show Calls _ _ _ _ (MkP (.list .bool) [.slice p9_3 DD.length q9_3] (mkD (.list .bool) DD (1 + (cn : Int))) (1 + (cn : Int) + (cd : Int)) S9b _) from HCD.out ▸ markBoolS_n p9_3 q9_3 DD (1 + (cn : Int)) S9b _ (by omega) (by have h1 := HCD.out; rw [← h1]; omega) HTD.out.2 GD_21.out)).mono ?_
  rintro r w22 ⟨rfl, ho, ht⟩
  have HB22 : Hid (Below w.heap.size w w22) := Hid.intro (HB21.out.trans (ht.below (fun k hk => by have bhk := HSS9.out.2.1 k hk; omega) HB21.out.size))
  have sz22 : w21.heap.size ≤ w22.heap.size := ht.size
  have SP_22 : Hid (Own w22 shSynod [.slice p5_1 AC.length q5_1, .slice p5_2 PS.length q5_2] (AC, PS, ()) S5a) := SP_21.out.turn ht (fun k e f => by have be := HSS5.out.1 k e; have bf := HSS9.out.2.1 k f; omega)
  have SD_22 : Hid (Own w22 (.list .bool) [.slice p5_3 DD.length q5_3] DD S5b) := SD_21.out.turn ht (fun k e f => by have be := HSS5.out.2.1 k e; have bf := HSS9.out.2.1 k f; omega)
  have W_22 : Hid (Bx w22 w5.heap.size [.slice p5_1 AC.length q5_1, .slice p5_2 PS.length q5_2]) := W_21.out.turnS ht (fun hk => by have bhk := HSS9.out.2.1 _ hk; omega)
  have GP_22 : Hid (Own w22 shSynod [.slice p9_1 AC.length q9_1, .slice p9_2 PS.length q9_2] (mkT shSynod (AC, PS, ()) 1) S9a) := GP_21.out.turn ht (fun k e f => HSS9.out.2.2 k e f)
  have GD_22 : Hid (Own w22 (.list .bool) [.slice p9_3 DD.length q9_3] (mkD (.list .bool) DD (1 + (cn : Int))) S9b) := ho
  have G_22 : Hid (Bx w22 w9.heap.size [.slice p9_1 AC.length q9_1, .slice p9_2 PS.length q9_2]) := G_21.out.turnS ht (fun hk => by have bhk := HSS9.out.2.1 _ hk; omega)
  clear ht ho SP_21 SD_21 W_21 GP_21 GD_21 G_21 HB21
  have cG0 := G_22.out.cell 0 rfl
  have cG1 := G_22.out.cell 1 rfl
  have zG := G_22.out.2
  go_wp2_with fail
  refine ((show Calls _ _ _ _ (fun r w' => r = .returned (.int .i64 (1 + (cn : Int))) ∧ Below _ _ w') from HCN.out ▸ heldSynod_n [.slice p9_1 AC.length q9_1, .slice p9_2 PS.length q9_2] AC PS 1 _ (by decide) (by have h1 := HCN.out; rw [← h1]; omega) HTD.out.1 GP_22.out.lies)).mono ?_
  rintro r w23 ⟨rfl, hb⟩
  have HB23 : Hid (Below w.heap.size w w23) := below_next HB22.out hb
  have sz23 : w22.heap.size ≤ w23.heap.size := hb.size
  have SP_23 : Hid (Own w23 shSynod [.slice p5_1 AC.length q5_1, .slice p5_2 PS.length q5_2] (AC, PS, ()) S5a) := SP_22.out.next hb
  have SD_23 : Hid (Own w23 (.list .bool) [.slice p5_3 DD.length q5_3] DD S5b) := SD_22.out.next hb
  have W_23 : Hid (Bx w23 w5.heap.size [.slice p5_1 AC.length q5_1, .slice p5_2 PS.length q5_2]) := W_22.out.next hb
  have GP_23 : Hid (Own w23 shSynod [.slice p9_1 AC.length q9_1, .slice p9_2 PS.length q9_2] (mkT shSynod (AC, PS, ()) 1) S9a) := GP_22.out.next hb
  have GD_23 : Hid (Own w23 (.list .bool) [.slice p9_3 DD.length q9_3] (mkD (.list .bool) DD (1 + (cn : Int))) S9b) := GD_22.out.next hb
  have G_23 : Hid (Bx w23 w9.heap.size [.slice p9_1 AC.length q9_1, .slice p9_2 PS.length q9_2]) := G_22.out.next hb
  clear hb cG0 cG1 zG SP_22 SD_22 W_22 GP_22 GD_22 G_22 HB22
  go_wp2_with fail
  refine ((show Calls _ _ _ _ (fun r w' => r = .returned (.int .i64 (1 + (cn : Int) + (cd : Int))) ∧ Below _ _ w') from HCD.out ▸ heldBoolS_n p9_3 q9_3 DD (1 + (cn : Int)) _ (by omega) (by have h1 := HCD.out; rw [← h1]; omega) HTD.out.2 GD_23.out.lies)).mono ?_
  rintro r w24 ⟨rfl, hb⟩
  have HB24 : Hid (Below w.heap.size w w24) := below_next HB23.out hb
  have sz24 : w23.heap.size ≤ w24.heap.size := hb.size
  have SP_24 : Hid (Own w24 shSynod [.slice p5_1 AC.length q5_1, .slice p5_2 PS.length q5_2] (AC, PS, ()) S5a) := SP_23.out.next hb
  have SD_24 : Hid (Own w24 (.list .bool) [.slice p5_3 DD.length q5_3] DD S5b) := SD_23.out.next hb
  have W_24 : Hid (Bx w24 w5.heap.size [.slice p5_1 AC.length q5_1, .slice p5_2 PS.length q5_2]) := W_23.out.next hb
  have GP_24 : Hid (Own w24 shSynod [.slice p9_1 AC.length q9_1, .slice p9_2 PS.length q9_2] (mkT shSynod (AC, PS, ()) 1) S9a) := GP_23.out.next hb
  have GD_24 : Hid (Own w24 (.list .bool) [.slice p9_3 DD.length q9_3] (mkD (.list .bool) DD (1 + (cn : Int))) S9b) := GD_23.out.next hb
  have G_24 : Hid (Bx w24 w9.heap.size [.slice p9_1 AC.length q9_1, .slice p9_2 PS.length q9_2]) := G_23.out.next hb
  clear hb SP_23 SD_23 W_23 GP_23 GD_23 G_23 HB23
  go_wp2_with fail
  refine (toStringS_n a1 k1 vs _ HS1.out (HL1.out.next HB24.out)).mono ?_
  rintro r w25 ⟨p25, rfl, ho, hb⟩
  have HB25 : Hid (Below w.heap.size w w25) := below_next HB24.out hb
  have sz25 : w24.heap.size ≤ w25.heap.size := hb.size
  have SP_25 : Hid (Own w25 shSynod [.slice p5_1 AC.length q5_1, .slice p5_2 PS.length q5_2] (AC, PS, ()) S5a) := SP_24.out.next hb
  have SD_25 : Hid (Own w25 (.list .bool) [.slice p5_3 DD.length q5_3] DD S5b) := SD_24.out.next hb
  have W_25 : Hid (Bx w25 w5.heap.size [.slice p5_1 AC.length q5_1, .slice p5_2 PS.length q5_2]) := W_24.out.next hb
  have GP_25 : Hid (Own w25 shSynod [.slice p9_1 AC.length q9_1, .slice p9_2 PS.length q9_2] (mkT shSynod (AC, PS, ()) 1) S9a) := GP_24.out.next hb
  have GD_25 : Hid (Own w25 (.list .bool) [.slice p9_3 DD.length q9_3] (mkD (.list .bool) DD (1 + (cn : Int))) S9b) := GD_24.out.next hb
  have G_25 : Hid (Bx w25 w9.heap.size [.slice p9_1 AC.length q9_1, .slice p9_2 PS.length q9_2]) := G_24.out.next hb
  have D1_25 : Hid (Own w25 (.list .str) [.slice (some ⟨p25, 0, none⟩) vs.length vs.length] vs (Btw w24.heap.size w25.heap.size)) := ho
  clear hb ho SP_24 SD_24 W_24 GP_24 GD_24 G_24 HB24
  go_wp2_with fail
  refine (toSynodStepS_n a2 k2 l _ HS2.out (HL2.out.next HB25.out)).mono ?_
  rintro r w26 ⟨p26, rfl, ho, hb⟩
  have HB26 : Hid (Below w.heap.size w w26) := below_next HB25.out hb
  have sz26 : w25.heap.size ≤ w26.heap.size := hb.size
  have SP_26 : Hid (Own w26 shSynod [.slice p5_1 AC.length q5_1, .slice p5_2 PS.length q5_2] (AC, PS, ()) S5a) := SP_25.out.next hb
  have SD_26 : Hid (Own w26 (.list .bool) [.slice p5_3 DD.length q5_3] DD S5b) := SD_25.out.next hb
  have W_26 : Hid (Bx w26 w5.heap.size [.slice p5_1 AC.length q5_1, .slice p5_2 PS.length q5_2]) := W_25.out.next hb
  have GP_26 : Hid (Own w26 shSynod [.slice p9_1 AC.length q9_1, .slice p9_2 PS.length q9_2] (mkT shSynod (AC, PS, ()) 1) S9a) := GP_25.out.next hb
  have GD_26 : Hid (Own w26 (.list .bool) [.slice p9_3 DD.length q9_3] (mkD (.list .bool) DD (1 + (cn : Int))) S9b) := GD_25.out.next hb
  have G_26 : Hid (Bx w26 w9.heap.size [.slice p9_1 AC.length q9_1, .slice p9_2 PS.length q9_2]) := G_25.out.next hb
  have D1_26 : Hid (Own w26 (.list .str) [.slice (some ⟨p25, 0, none⟩) vs.length vs.length] vs (Btw w24.heap.size w25.heap.size)) := D1_25.out.next hb
  have D2_26 : Hid (Own w26 (.list shSynodStep) [.slice (some ⟨p26, 0, none⟩) l.length l.length] l (Btw w25.heap.size w26.heap.size)) := ho
  clear hb ho SP_25 SD_25 W_25 GP_25 GD_25 G_25 D1_25 HB25
  go_wp2_with fail
  refine (playSynod_l m (some ⟨p25, 0, none⟩) vs.length vs (some ⟨p26, 0, none⟩) l.length l _ AC PS DD z HA.out HS1.out HS2.out D1_26.out.lies D2_26.out.lies).mono ?_
  rintro r w27 hT
  obtain ⟨p27_1, q27_1, p27_2, q27_2, p27_3, q27_3, S27a, S27b, rfl, ho, hod, hss, hb⟩ := plp_out hT
  have HSS27 : Hid ((∀ k, S27a k → w26.heap.size ≤ k ∧ k < w27.heap.size) ∧ (∀ k, S27b k → w26.heap.size ≤ k ∧ k < w27.heap.size) ∧ (∀ k, S27a k → ¬ S27b k)) := hss
  clear hss
  have HB27 : Hid (Below w.heap.size w w27) := below_next HB26.out hb
  have sz27 : w26.heap.size ≤ w27.heap.size := hb.size
  have SP_27 : Hid (Own w27 shSynod [.slice p5_1 AC.length q5_1, .slice p5_2 PS.length q5_2] (AC, PS, ()) S5a) := SP_26.out.next hb
  have SD_27 : Hid (Own w27 (.list .bool) [.slice p5_3 DD.length q5_3] DD S5b) := SD_26.out.next hb
  have W_27 : Hid (Bx w27 w5.heap.size [.slice p5_1 AC.length q5_1, .slice p5_2 PS.length q5_2]) := W_26.out.next hb
  have GP_27 : Hid (Own w27 shSynod [.slice p9_1 AC.length q9_1, .slice p9_2 PS.length q9_2] (mkT shSynod (AC, PS, ()) 1) S9a) := GP_26.out.next hb
  have GD_27 : Hid (Own w27 (.list .bool) [.slice p9_3 DD.length q9_3] (mkD (.list .bool) DD (1 + (cn : Int))) S9b) := GD_26.out.next hb
  have G_27 : Hid (Bx w27 w9.heap.size [.slice p9_1 AC.length q9_1, .slice p9_2 PS.length q9_2]) := G_26.out.next hb
  have D1_27 : Hid (Own w27 (.list .str) [.slice (some ⟨p25, 0, none⟩) vs.length vs.length] vs (Btw w24.heap.size w25.heap.size)) := D1_26.out.next hb
  have D2_27 : Hid (Own w27 (.list shSynodStep) [.slice (some ⟨p26, 0, none⟩) l.length l.length] l (Btw w25.heap.size w26.heap.size)) := D2_26.out.next hb
  have HP_27 : Hid (Own w27 shSynod [.slice p27_1 AC.length q27_1, .slice p27_2 PS.length q27_2] (AC, PS, ()) S27a) := ho
  have HD_27 : Hid (Own w27 (.list .bool) [.slice p27_3 DD.length q27_3] DD S27b) := hod
  clear hb ho hod hT SP_26 SD_26 W_26 GP_26 GD_26 G_26 D1_26 D2_26 HB26
  clear D1_27
  clear D2_27
  have cW0 := W_27.out.cell 0 rfl
  have cW1 := W_27.out.cell 1 rfl
  have zW := W_27.out.2
  go_wp2_with fail
  obtain ⟨w28, hw28⟩ : ∃ x, x = w27.alloc (.cells #[.slice p27_1 AC.length q27_1, .slice p27_2 PS.length q27_2] 30) := ⟨_, rfl⟩
  have hb : Below w27.heap.size w27 w28 := hw28 ▸ Go.Joins.below_alloc1 _ _
  have HB28 : Hid (Below w.heap.size w w28) := below_next HB27.out hb
  have sz28 : w27.heap.size < w28.heap.size := by rw [hw28]; simp
  have SP_28 : Hid (Own w28 shSynod [.slice p5_1 AC.length q5_1, .slice p5_2 PS.length q5_2] (AC, PS, ()) S5a) := SP_27.out.next hb
  have SD_28 : Hid (Own w28 (.list .bool) [.slice p5_3 DD.length q5_3] DD S5b) := SD_27.out.next hb
  have W_28 : Hid (Bx w28 w5.heap.size [.slice p5_1 AC.length q5_1, .slice p5_2 PS.length q5_2]) := W_27.out.next hb
  have GP_28 : Hid (Own w28 shSynod [.slice p9_1 AC.length q9_1, .slice p9_2 PS.length q9_2] (mkT shSynod (AC, PS, ()) 1) S9a) := GP_27.out.next hb
  have GD_28 : Hid (Own w28 (.list .bool) [.slice p9_3 DD.length q9_3] (mkD (.list .bool) DD (1 + (cn : Int))) S9b) := GD_27.out.next hb
  have G_28 : Hid (Bx w28 w9.heap.size [.slice p9_1 AC.length q9_1, .slice p9_2 PS.length q9_2]) := G_27.out.next hb
  have HP_28 : Hid (Own w28 shSynod [.slice p27_1 AC.length q27_1, .slice p27_2 PS.length q27_2] (AC, PS, ()) S27a) := HP_27.out.next hb
  have HD_28 : Hid (Own w28 (.list .bool) [.slice p27_3 DD.length q27_3] DD S27b) := HD_27.out.next hb
  have H_28 : Hid (Bx w28 w27.heap.size [.slice p27_1 AC.length q27_1, .slice p27_2 PS.length q27_2]) := hw28 ▸ Bx.new w27 [.slice p27_1 AC.length q27_1, .slice p27_2 PS.length q27_2] _
  rw [← hw28]
  clear hb hw28 cW0 cW1 zW SP_27 SD_27 W_27 GP_27 GD_27 G_27 HP_27 HD_27 HB27
  refine (eqSynod_n [.slice p27_1 AC.length q27_1, .slice p27_2 PS.length q27_2] [.slice p5_1 AC.length q5_1, .slice p5_2 PS.length q5_2] AC PS _ HTD.out.1 HP_28.out.lies SP_28.out.lies).mono ?_
  rintro r w29 ⟨rfl, hb⟩
  have HB29 : Hid (Below w.heap.size w w29) := below_next HB28.out hb
  have sz29 : w28.heap.size ≤ w29.heap.size := hb.size
  have SP_29 : Hid (Own w29 shSynod [.slice p5_1 AC.length q5_1, .slice p5_2 PS.length q5_2] (AC, PS, ()) S5a) := SP_28.out.next hb
  have SD_29 : Hid (Own w29 (.list .bool) [.slice p5_3 DD.length q5_3] DD S5b) := SD_28.out.next hb
  have W_29 : Hid (Bx w29 w5.heap.size [.slice p5_1 AC.length q5_1, .slice p5_2 PS.length q5_2]) := W_28.out.next hb
  have GP_29 : Hid (Own w29 shSynod [.slice p9_1 AC.length q9_1, .slice p9_2 PS.length q9_2] (mkT shSynod (AC, PS, ()) 1) S9a) := GP_28.out.next hb
  have GD_29 : Hid (Own w29 (.list .bool) [.slice p9_3 DD.length q9_3] (mkD (.list .bool) DD (1 + (cn : Int))) S9b) := GD_28.out.next hb
  have G_29 : Hid (Bx w29 w9.heap.size [.slice p9_1 AC.length q9_1, .slice p9_2 PS.length q9_2]) := G_28.out.next hb
  have HP_29 : Hid (Own w29 shSynod [.slice p27_1 AC.length q27_1, .slice p27_2 PS.length q27_2] (AC, PS, ()) S27a) := HP_28.out.next hb
  have HD_29 : Hid (Own w29 (.list .bool) [.slice p27_3 DD.length q27_3] DD S27b) := HD_28.out.next hb
  have H_29 : Hid (Bx w29 w27.heap.size [.slice p27_1 AC.length q27_1, .slice p27_2 PS.length q27_2]) := H_28.out.next hb
  clear hb SP_28 SD_28 W_28 GP_28 GD_28 G_28 HP_28 HD_28 H_28 HB28
  go_wp2_with fail
  refine (eqBoolS_n p27_3 p5_3 q27_3 q5_3 DD _ HTD.out.2 HD_29.out.lies SD_29.out.lies).mono ?_
  rintro r w30 ⟨rfl, hb⟩
  have HB30 : Hid (Below w.heap.size w w30) := below_next HB29.out hb
  have sz30 : w29.heap.size ≤ w30.heap.size := hb.size
  have SP_30 : Hid (Own w30 shSynod [.slice p5_1 AC.length q5_1, .slice p5_2 PS.length q5_2] (AC, PS, ()) S5a) := SP_29.out.next hb
  have SD_30 : Hid (Own w30 (.list .bool) [.slice p5_3 DD.length q5_3] DD S5b) := SD_29.out.next hb
  have W_30 : Hid (Bx w30 w5.heap.size [.slice p5_1 AC.length q5_1, .slice p5_2 PS.length q5_2]) := W_29.out.next hb
  have GP_30 : Hid (Own w30 shSynod [.slice p9_1 AC.length q9_1, .slice p9_2 PS.length q9_2] (mkT shSynod (AC, PS, ()) 1) S9a) := GP_29.out.next hb
  have GD_30 : Hid (Own w30 (.list .bool) [.slice p9_3 DD.length q9_3] (mkD (.list .bool) DD (1 + (cn : Int))) S9b) := GD_29.out.next hb
  have G_30 : Hid (Bx w30 w9.heap.size [.slice p9_1 AC.length q9_1, .slice p9_2 PS.length q9_2]) := G_29.out.next hb
  have HP_30 : Hid (Own w30 shSynod [.slice p27_1 AC.length q27_1, .slice p27_2 PS.length q27_2] (AC, PS, ()) S27a) := HP_29.out.next hb
  have HD_30 : Hid (Own w30 (.list .bool) [.slice p27_3 DD.length q27_3] DD S27b) := HD_29.out.next hb
  have H_30 : Hid (Bx w30 w27.heap.size [.slice p27_1 AC.length q27_1, .slice p27_2 PS.length q27_2]) := H_29.out.next hb
  clear hb SP_29 SD_29 W_29 GP_29 GD_29 G_29 HP_29 HD_29 H_29 HB29
  have cG0 := G_30.out.cell 0 rfl
  have cG1 := G_30.out.cell 1 rfl
  have zG := G_30.out.2
  go_wp2_with fail
  refine ((show Calls _ _ _ _ (fun r w' => r = .returned (.int .i64 (1 + (cn : Int))) ∧ Below _ _ w') from HCN.out ▸ heldSynod_n [.slice p9_1 AC.length q9_1, .slice p9_2 PS.length q9_2] AC PS 1 _ (by decide) (by have h1 := HCN.out; rw [← h1]; omega) HTD.out.1 GP_30.out.lies)).mono ?_
  rintro r w31 ⟨rfl, hb⟩
  have HB31 : Hid (Below w.heap.size w w31) := below_next HB30.out hb
  have sz31 : w30.heap.size ≤ w31.heap.size := hb.size
  have SP_31 : Hid (Own w31 shSynod [.slice p5_1 AC.length q5_1, .slice p5_2 PS.length q5_2] (AC, PS, ()) S5a) := SP_30.out.next hb
  have SD_31 : Hid (Own w31 (.list .bool) [.slice p5_3 DD.length q5_3] DD S5b) := SD_30.out.next hb
  have W_31 : Hid (Bx w31 w5.heap.size [.slice p5_1 AC.length q5_1, .slice p5_2 PS.length q5_2]) := W_30.out.next hb
  have GP_31 : Hid (Own w31 shSynod [.slice p9_1 AC.length q9_1, .slice p9_2 PS.length q9_2] (mkT shSynod (AC, PS, ()) 1) S9a) := GP_30.out.next hb
  have GD_31 : Hid (Own w31 (.list .bool) [.slice p9_3 DD.length q9_3] (mkD (.list .bool) DD (1 + (cn : Int))) S9b) := GD_30.out.next hb
  have G_31 : Hid (Bx w31 w9.heap.size [.slice p9_1 AC.length q9_1, .slice p9_2 PS.length q9_2]) := G_30.out.next hb
  have HP_31 : Hid (Own w31 shSynod [.slice p27_1 AC.length q27_1, .slice p27_2 PS.length q27_2] (AC, PS, ()) S27a) := HP_30.out.next hb
  have HD_31 : Hid (Own w31 (.list .bool) [.slice p27_3 DD.length q27_3] DD S27b) := HD_30.out.next hb
  have H_31 : Hid (Bx w31 w27.heap.size [.slice p27_1 AC.length q27_1, .slice p27_2 PS.length q27_2]) := H_30.out.next hb
  clear hb cG0 cG1 zG SP_30 SD_30 W_30 GP_30 GD_30 G_30 HP_30 HD_30 H_30 HB30
  go_wp2_with fail
  refine ((show Calls _ _ _ _ (fun r w' => r = .returned (.int .i64 (1 + (cn : Int) + (cd : Int))) ∧ Below _ _ w') from HCD.out ▸ heldBoolS_n p9_3 q9_3 DD (1 + (cn : Int)) _ (by omega) (by have h1 := HCD.out; rw [← h1]; omega) HTD.out.2 GD_31.out.lies)).mono ?_
  rintro r w32 ⟨rfl, hb⟩
  have HB32 : Hid (Below w.heap.size w w32) := below_next HB31.out hb
  have sz32 : w31.heap.size ≤ w32.heap.size := hb.size
  have SP_32 : Hid (Own w32 shSynod [.slice p5_1 AC.length q5_1, .slice p5_2 PS.length q5_2] (AC, PS, ()) S5a) := SP_31.out.next hb
  have SD_32 : Hid (Own w32 (.list .bool) [.slice p5_3 DD.length q5_3] DD S5b) := SD_31.out.next hb
  have W_32 : Hid (Bx w32 w5.heap.size [.slice p5_1 AC.length q5_1, .slice p5_2 PS.length q5_2]) := W_31.out.next hb
  have GP_32 : Hid (Own w32 shSynod [.slice p9_1 AC.length q9_1, .slice p9_2 PS.length q9_2] (mkT shSynod (AC, PS, ()) 1) S9a) := GP_31.out.next hb
  have GD_32 : Hid (Own w32 (.list .bool) [.slice p9_3 DD.length q9_3] (mkD (.list .bool) DD (1 + (cn : Int))) S9b) := GD_31.out.next hb
  have G_32 : Hid (Bx w32 w9.heap.size [.slice p9_1 AC.length q9_1, .slice p9_2 PS.length q9_2]) := G_31.out.next hb
  have HP_32 : Hid (Own w32 shSynod [.slice p27_1 AC.length q27_1, .slice p27_2 PS.length q27_2] (AC, PS, ()) S27a) := HP_31.out.next hb
  have HD_32 : Hid (Own w32 (.list .bool) [.slice p27_3 DD.length q27_3] DD S27b) := HD_31.out.next hb
  have H_32 : Hid (Bx w32 w27.heap.size [.slice p27_1 AC.length q27_1, .slice p27_2 PS.length q27_2]) := H_31.out.next hb
  clear hb SP_31 SD_31 W_31 GP_31 GD_31 G_31 HP_31 HD_31 H_31 HB31
  have HE := HB32
  go_wp2
  go_ret
  exact ⟨rfl, HE.out⟩


theorem own : ownKnob Try.prog.godebug = none := by kernel_rfl
theorem laidOut : laidOutB Try.prog = true := by kernel_rfl

set_option maxRecDepth 100000 in
theorem lifted (os : Os) (started : os.Started) (H : Type) (enc : TypeId × Value → H) :
    ReturnsInHanded {} Try.checked os 8 .any (Rows.fnExactPlaySynodSpec.pre6 enc Try.prog Try.f8 Rows.fnExactPlaySynodRow.domain false) (Rows.fnExactPlaySynodSpec.post enc Try.prog Try.f8 false true false false) := by
  refine returnsInHanded_of_change (C := Try.checked) own started (by kernel_rfl) Try.func8
    (ChangeSpec.witness6 (enc := enc) (C := Try.checked) false ⟨#[], #[.int .i64 0, .slice none 0 0, .slice none 0 0], []⟩ 8 (by kernel_rfl) (by kernel_rfl) (by kernel_rfl) (by kernel_rfl)) ?_
  intro W base args ds gs before hval0 hW hcnd _
  have hval : ∀ (j : Nat) t v, Try.f8.params[j]? = some t → args[j]? = some v → Value.okWide Try.prog W .any base t v := hval0
  have hW' := hW
  obtain ⟨p, q, hA0, hV, rfl, hfz, hnd⟩ := hW
  have hA : DataW.TrodAll enc Try.prog W 0 (fun _ => true) true Try.f8.params.toList args.toList ds p := hA0
  rw [Try.params8] at hA hval
  obtain ⟨v0, vs0, d0, ds0, p0, q0, hargs, rfl, rfl, h0, r0⟩ := trodAll_cons hA
  obtain ⟨v1, vs1, d1, ds1, p1, q1, rfl, rfl, rfl, h1, r1⟩ := trodAll_cons r0
  obtain ⟨v2, vs2, d2, ds2, p2, q2, rfl, rfl, rfl, h2, r2⟩ := trodAll_cons r1
  obtain ⟨rfl, rfl, rfl⟩ := trodAll_nil r2
  obtain rfl : args = #[v0, v1, v2] := by cases args; simp_all
  obtain ⟨rfl, rfl⟩ := trodVars_none hV
  have k0 := h0
  have lt0 : ∀ x ∈ p0, x.block < W.heap.size := by obtain ⟨m, hm⟩ := k0; exact DataW.trod_lt m _ _ _ hm
  obtain ⟨a0, rfl, rfl, rfl, w0⟩ := open_int Try.underlying3 (hval 0 3 v0 rfl rfl) h0
  have k1 := h1
  have lt1 : ∀ x ∈ p1, x.block < W.heap.size := by obtain ⟨m, hm⟩ := k1; exact DataW.trod_lt m _ _ _ hm
  obtain ⟨a1, len1, cap1, rfl⟩ := okWide_slice Try.underlying23 (hval 1 23 v1 rfl rfl)
  obtain ⟨X1, rfl, li1, fi1⟩ := open_StringS_n h1
  have k2 := h2
  have lt2 : ∀ x ∈ p2, x.block < W.heap.size := by obtain ⟨m, hm⟩ := k2; exact DataW.trod_lt m _ _ _ hm
  obtain ⟨a2, len2, cap2, rfl⟩ := okWide_slice Try.underlying68 (hval 2 68 v2 rfl rfl)
  obtain ⟨X2, rfl, li2, fi2⟩ := open_SynodStepS_n h2
  clear hA0 hval0
  refine (walk (w := W) a0 w0 a1 cap1 X1 li1 fi1 a2 cap2 X2 li2 fi2).mono fun e W' ⟨he, bel⟩ => ?_
  subst he
  exact ⟨_, rfl, _, _, _, [], _, [], hW', trodAll_mk1 (shut_bool Try.underlying4 _), (trodAll_cons_mk (Below.trod laidOut (by kernel_rfl) (of_decide_eq_true (by kernel_rfl)) k0 bel lt0) (trodAll_cons_mk (Below.trod laidOut (by kernel_rfl) (of_decide_eq_true (by kernel_rfl)) k1 bel lt1) (trodAll_cons_mk (Below.trod laidOut (by kernel_rfl) (of_decide_eq_true (by kernel_rfl)) k2 bel lt2) trodAll_mk0))), rfl, bel.frame _, fun h => by cases h⟩

set_option maxHeartbeats 40000000 in
theorem closed : joinedFacts Try.pinned.checked.prog 8 Try.f8 Rows.fnExactPlaySynodSpec Rows.fnExactPlaySynodRow = true := by
  unfold joinedFacts
  repeat' (first | (with_reducible refine both ?_ ?_) | (with_reducible exact may_enter') | (with_reducible refine lifts_eq ?_) | (with_reducible refine make_eq ?_) | as_aux_lemma => kernel_rfl)
theorem named : Try.pinned.checked.prog.funcNamed Rows.fnExactPlaySynodRow.func = some 8 := by kernel_rfl
theorem over : Rows.fnExactPlaySynodRow.holds Try.pinned (OpenSpec.ofChange Rows.fnExactPlaySynodSpec) :=
  OpenClaim.holds_of_wide 8 Try.f8 rfl rfl rfl rfl rfl rfl rfl ⟨rfl, rfl, rfl, rfl, rfl⟩ rfl rfl rfl rfl rfl named Try.func8 closed
    (of_decide_eq_true (by as_aux_lemma => kernel_rfl)) (by unfold Func.isWrapper; first | (rw [if_pos (by decide +kernel)]; kernel_rfl) | (rw [if_neg (by decide +kernel)]; exact ⟨rfl, rfl⟩))
    (fun os started H enc _ => lifted os started H enc)

end Go.Proofs.Ytmhkfangfhanlaa.xPlaySynod
namespace Go.Proofs.Ytmhkfangfhanlaa
theorem xPlaySynod_holds : Rows.FnExactPlaySynodSaid := xPlaySynod.over
#print axioms xPlaySynod_holds
end Go.Proofs.Ytmhkfangfhanlaa
