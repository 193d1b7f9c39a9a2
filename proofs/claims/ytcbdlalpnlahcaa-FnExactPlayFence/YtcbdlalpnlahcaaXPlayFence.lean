/- At every argument impl.PlayFence answers as the specification does, field by field, writes into no argument, its answer owns its memory, and each argument reads behind the call as it read before. No condition. -/
import Derived.Test.YtcbdlalpnlahcaaFpL
import Derived.Test.YtcbdlalpnlahcaaNtZ
import Derived.Test.YtcbdlalpnlahcaaNtT
import Derived.Test.YtcbdlalpnlahcaaNtE
import Derived.Test.YtcbdlalpnlahcaaNtO
import Derived.Test.YtcbdlalpnlahcaaNtM
import Derived.Test.YtcbdlalpnlahcaaNtH
import Derived.Test.YtcbdlalpnlahcaaWords
import Derived.ProofKit
import Derived.OpenShut
import Derived.ShutString
import Derived.ChangeOld
import Derived.Below
import Derived.Lib.SmallJoins
namespace Go.Proofs.Ytcbdlalpnlahcaa.xPlayFence
open Go.ChangeShapes Go.WideShapes Go.ChangeAt Go.RowKit
open Go.ChangeMaps (open_string shut_string)
set_option linter.unusedVariables false

set_option maxRecDepth 100000 in
set_option maxHeartbeats 4000000 in
theorem walk (w : World) (m : Int) (wf0 : (Lit.int .i64 m).wf = true) (a1 : Option Addr) (k1 : Nat) (l : List (Sh.T shFenceStep)) (li1 : Lies w (.list shFenceStep) [.slice a1 l.length k1] l) (fi1 : Fits (.list shFenceStep) l) :
    Calls Try.prog 8 #[.int .i64 m, .slice a1 l.length k1] w fun r w' => r = .returned (.bool true) ∧ Below w.heap.size w w' := by
  have H0 : Hid (-9223372036854775808 ≤ m ∧ m ≤ 9223372036854775807) := wf_bounds wf0
  clear wf0
  have HL1 : Hid (Lies w (.list shFenceStep) [.slice a1 l.length k1] l) := li1
  have HF1 : Hid (Fits (.list shFenceStep) l) := fi1
  clear li1 fi1
  obtain ⟨EP, DU, MS, EN, DD, z, hA⟩ : ∃ EP DU MS EN DD z, FpH m l EP DU MS EN DD z := ⟨_, _, _, _, _, _, rfl, rfl, rfl, rfl, rfl, rfl⟩
  have HA : Hid (FpH m l EP DU MS EN DD z) := hA
  have HTD : Hid (szD shFence (EP, DU, MS, EN, ()) ≤ 1073741824 ∧ szD (.list .int) DD ≤ 1073741824) := Hid.intro (fph_sz hA)
  clear hA
  go_enter Try.func8, Try.ntmps8
  go_wp2_with fail
  refine (szFenceStepS_n a1 k1 l _ _ (by omega) (by omega) HF1.out (HL1.out.next (Below.refl _ _))).mono ?_
  rintro r w1 ⟨⟨y1, rfl, hy1⟩, hb⟩
  have HB1 : Hid (Below w.heap.size w w1) := below_next (Below.refl _ _) hb
  have sz1 : w.heap.size ≤ w1.heap.size := hb.size
  clear hb 
  by_cases ng1 : y1 < 0
  · clear hy1
    go_wp2
    go_ret
    exact ⟨rfl, HB1.out⟩
  have HS1 : Hid (szD (.list shFenceStep) l ≤ 1073741824) := Hid.intro (by rcases hy1 with e | e <;> omega)
  have HX1 : Hid (szD (.list shFenceStep) l ≤ 1048576) := Hid.intro (by rcases hy1 with e | e <;> omega)
  have hb1 : 0 ≤ y1 ∧ y1 ≤ 1048576 := by rcases hy1 with e | e <;> omega
  clear hy1
  obtain ⟨cn, hcn⟩ : ∃ c : Nat, c = cntT shFence (EP, DU, MS, EN, ()) := ⟨_, rfl⟩
  have HCN : Hid (cn = cntT shFence (EP, DU, MS, EN, ())) := hcn
  have hcnb : cn ≤ 100000000000 := by rw [hcn]; exact cnt_fe HTD.out.1
  clear hcn
  obtain ⟨cd, hcd⟩ : ∃ c : Nat, c = cntD (.list .int) DD := ⟨_, rfl⟩
  have HCD : Hid (cd = cntD (.list .int) DD) := hcd
  have hcdb : cd ≤ 100000000000 := by rw [hcd]; exact cnt_intsF HTD.out.2
  clear hcd
  obtain ⟨cy, hcy⟩ : ∃ c : Nat, c = cntD (.list shFenceStep) l := ⟨_, rfl⟩
  have HCY : Hid (cy = cntD (.list shFenceStep) l) := hcy
  have hcyb : cy ≤ 100000000000 := by rw [hcy]; exact cnt_fsteps HS1.out
  clear hcy
  have hng0 : ¬ (1 + (cn : Int)) < 0 := by omega
  have hng1 : ¬ (1 + (cn : Int) + (cd : Int)) < 0 := by omega
  have hng2 : ¬ (1 + (cy : Int)) < 0 := by omega
  go_wp2_with fail
  refine (toFenceStepS_n a1 k1 l _ HS1.out (HL1.out.next HB1.out)).mono ?_
  rintro r w2 ⟨p2, rfl, ho, hb⟩
  have HB2 : Hid (Below w.heap.size w w2) := below_next HB1.out hb
  have sz2 : w1.heap.size ≤ w2.heap.size := hb.size
  have D2_2 : Hid (Own w2 (.list shFenceStep) [.slice (some ⟨p2, 0, none⟩) l.length l.length] l (Btw w1.heap.size w2.heap.size)) := ho
  clear hb ho HB1
  go_wp2_with fail
  refine (specPlayFence_l m (some ⟨p2, 0, none⟩) l.length l _ EP DU MS EN DD z HA.out HS1.out D2_2.out.lies).mono ?_
  rintro r w3 hT
  obtain ⟨cs9, v9, S3a, S3b, rfl, ho, hod, hs1, hs2, hb⟩ := hT
  obtain ⟨p3_1, q3_1, _, p3_2, q3_2, _, hev, _⟩ := own_Fence ho
  subst hev
  obtain ⟨p3_d, q3_d, hvd⟩ := own_form hod
  simp only [List.cons.injEq, and_true] at hvd
  subst hvd
  have HSS3 : Hid ((∀ k, S3a k → w2.heap.size ≤ k ∧ k < w3.heap.size) ∧ (∀ k, S3b k → w2.heap.size ≤ k ∧ k < w3.heap.size) ∧ (∀ k, S3a k → ¬ S3b k)) := ⟨fun k hk => (hs1 k hk).1, hs2, fun k hk => (hs1 k hk).2⟩
  have hT := trivial
  have HB3 : Hid (Below w.heap.size w w3) := below_next HB2.out hb
  have sz3 : w2.heap.size ≤ w3.heap.size := hb.size
  have D2_3 : Hid (Own w3 (.list shFenceStep) [.slice (some ⟨p2, 0, none⟩) l.length l.length] l (Btw w1.heap.size w2.heap.size)) := D2_2.out.next hb
  have SP_3 : Hid (Own w3 shFence [.int .i64 EP, .int .i64 DU, .slice p3_1 MS.length q3_1, .slice p3_2 EN.length q3_2] (EP, DU, MS, EN, ()) S3a) := ho
  have SD_3 : Hid (Own w3 (.list .int) [.slice p3_d DD.length q3_d] DD S3b) := hod
  clear hb ho hod hT hs1 hs2 D2_2 HB2
  clear D2_3
  go_wp2_with fail
  obtain ⟨w4, hw4⟩ : ∃ x, x = w3.alloc (.cells #[.int .i64 EP, .int .i64 DU, .slice p3_1 MS.length q3_1, .slice p3_2 EN.length q3_2] 29) := ⟨_, rfl⟩
  have hb : Below w3.heap.size w3 w4 := hw4 ▸ Go.Joins.below_alloc1 _ _
  have HB4 : Hid (Below w.heap.size w w4) := below_next HB3.out hb
  have sz4 : w3.heap.size < w4.heap.size := by rw [hw4]; simp
  have SP_4 : Hid (Own w4 shFence [.int .i64 EP, .int .i64 DU, .slice p3_1 MS.length q3_1, .slice p3_2 EN.length q3_2] (EP, DU, MS, EN, ()) S3a) := SP_3.out.next hb
  have SD_4 : Hid (Own w4 (.list .int) [.slice p3_d DD.length q3_d] DD S3b) := SD_3.out.next hb
  have W_4 : Hid (Bx w4 w3.heap.size [.int .i64 EP, .int .i64 DU, .slice p3_1 MS.length q3_1, .slice p3_2 EN.length q3_2]) := hw4 ▸ Bx.new w3 [.int .i64 EP, .int .i64 DU, .slice p3_1 MS.length q3_1, .slice p3_2 EN.length q3_2] _
  rw [← hw4]
  clear hb hw4 SP_3 SD_3 HB3
  refine (toFenceStepS_n a1 k1 l _ HS1.out (HL1.out.next HB4.out)).mono ?_
  rintro r w5 ⟨p5, rfl, ho, hb⟩
  have HB5 : Hid (Below w.heap.size w w5) := below_next HB4.out hb
  have sz5 : w4.heap.size ≤ w5.heap.size := hb.size
  have SP_5 : Hid (Own w5 shFence [.int .i64 EP, .int .i64 DU, .slice p3_1 MS.length q3_1, .slice p3_2 EN.length q3_2] (EP, DU, MS, EN, ()) S3a) := SP_4.out.next hb
  have SD_5 : Hid (Own w5 (.list .int) [.slice p3_d DD.length q3_d] DD S3b) := SD_4.out.next hb
  have W_5 : Hid (Bx w5 w3.heap.size [.int .i64 EP, .int .i64 DU, .slice p3_1 MS.length q3_1, .slice p3_2 EN.length q3_2]) := W_4.out.next hb
  have P2_5 : Hid (Own w5 (.list shFenceStep) [.slice (some ⟨p5, 0, none⟩) l.length l.length] l (Btw w4.heap.size w5.heap.size)) := ho
  clear hb ho SP_4 SD_4 W_4 HB4
  go_wp2_with fail
  refine (playFence_l m (some ⟨p5, 0, none⟩) l.length l _ EP DU MS EN DD z HA.out HS1.out P2_5.out.lies).mono ?_
  rintro r w6 hT
  obtain ⟨cs9, v9, S6a, S6b, rfl, ho, hod, hs1, hs2, hb⟩ := hT
  obtain ⟨p6_1, q6_1, _, p6_2, q6_2, _, hev, _⟩ := own_Fence ho
  subst hev
  obtain ⟨p6_d, q6_d, hvd⟩ := own_form hod
  simp only [List.cons.injEq, and_true] at hvd
  subst hvd
  have HSS6 : Hid ((∀ k, S6a k → w5.heap.size ≤ k ∧ k < w6.heap.size) ∧ (∀ k, S6b k → w5.heap.size ≤ k ∧ k < w6.heap.size) ∧ (∀ k, S6a k → ¬ S6b k)) := ⟨fun k hk => (hs1 k hk).1, hs2, fun k hk => (hs1 k hk).2⟩
  have hT := trivial
  have HB6 : Hid (Below w.heap.size w w6) := below_next HB5.out hb
  have sz6 : w5.heap.size ≤ w6.heap.size := hb.size
  have SP_6 : Hid (Own w6 shFence [.int .i64 EP, .int .i64 DU, .slice p3_1 MS.length q3_1, .slice p3_2 EN.length q3_2] (EP, DU, MS, EN, ()) S3a) := SP_5.out.next hb
  have SD_6 : Hid (Own w6 (.list .int) [.slice p3_d DD.length q3_d] DD S3b) := SD_5.out.next hb
  have W_6 : Hid (Bx w6 w3.heap.size [.int .i64 EP, .int .i64 DU, .slice p3_1 MS.length q3_1, .slice p3_2 EN.length q3_2]) := W_5.out.next hb
  have P2_6 : Hid (Own w6 (.list shFenceStep) [.slice (some ⟨p5, 0, none⟩) l.length l.length] l (Btw w4.heap.size w5.heap.size)) := P2_5.out.next hb
  have GP_6 : Hid (Own w6 shFence [.int .i64 EP, .int .i64 DU, .slice p6_1 MS.length q6_1, .slice p6_2 EN.length q6_2] (EP, DU, MS, EN, ()) S6a) := ho
  have GD_6 : Hid (Own w6 (.list .int) [.slice p6_d DD.length q6_d] DD S6b) := hod
  clear hb ho hod hT hs1 hs2 SP_5 SD_5 W_5 P2_5 HB5
  have cW0 := W_6.out.cell 0 rfl
  have cW1 := W_6.out.cell 1 rfl
  have cW2 := W_6.out.cell 2 rfl
  have cW3 := W_6.out.cell 3 rfl
  have zW := W_6.out.2
  go_wp2_with fail
  obtain ⟨w7, hw7⟩ : ∃ x, x = w6.alloc (.cells #[.int .i64 EP, .int .i64 DU, .slice p6_1 MS.length q6_1, .slice p6_2 EN.length q6_2] 29) := ⟨_, rfl⟩
  have hb : Below w6.heap.size w6 w7 := hw7 ▸ Go.Joins.below_alloc1 _ _
  have HB7 : Hid (Below w.heap.size w w7) := below_next HB6.out hb
  have sz7 : w6.heap.size < w7.heap.size := by rw [hw7]; simp
  have SP_7 : Hid (Own w7 shFence [.int .i64 EP, .int .i64 DU, .slice p3_1 MS.length q3_1, .slice p3_2 EN.length q3_2] (EP, DU, MS, EN, ()) S3a) := SP_6.out.next hb
  have SD_7 : Hid (Own w7 (.list .int) [.slice p3_d DD.length q3_d] DD S3b) := SD_6.out.next hb
  have W_7 : Hid (Bx w7 w3.heap.size [.int .i64 EP, .int .i64 DU, .slice p3_1 MS.length q3_1, .slice p3_2 EN.length q3_2]) := W_6.out.next hb
  have P2_7 : Hid (Own w7 (.list shFenceStep) [.slice (some ⟨p5, 0, none⟩) l.length l.length] l (Btw w4.heap.size w5.heap.size)) := P2_6.out.next hb
  have GP_7 : Hid (Own w7 shFence [.int .i64 EP, .int .i64 DU, .slice p6_1 MS.length q6_1, .slice p6_2 EN.length q6_2] (EP, DU, MS, EN, ()) S6a) := GP_6.out.next hb
  have GD_7 : Hid (Own w7 (.list .int) [.slice p6_d DD.length q6_d] DD S6b) := GD_6.out.next hb
  have G_7 : Hid (Bx w7 w6.heap.size [.int .i64 EP, .int .i64 DU, .slice p6_1 MS.length q6_1, .slice p6_2 EN.length q6_2]) := hw7 ▸ Bx.new w6 [.int .i64 EP, .int .i64 DU, .slice p6_1 MS.length q6_1, .slice p6_2 EN.length q6_2] _
  rw [← hw7]
  clear hb hw7 cW0 cW1 cW2 cW3 zW SP_6 SD_6 W_6 P2_6 GP_6 GD_6 HB6
  refine (eqFence_n [.int .i64 EP, .int .i64 DU, .slice p6_1 MS.length q6_1, .slice p6_2 EN.length q6_2] [.int .i64 EP, .int .i64 DU, .slice p3_1 MS.length q3_1, .slice p3_2 EN.length q3_2] EP DU MS EN _ HTD.out.1 GP_7.out.lies SP_7.out.lies).mono ?_
  rintro r w8 ⟨rfl, hb⟩
  have HB8 : Hid (Below w.heap.size w w8) := below_next HB7.out hb
  have sz8 : w7.heap.size ≤ w8.heap.size := hb.size
  have SP_8 : Hid (Own w8 shFence [.int .i64 EP, .int .i64 DU, .slice p3_1 MS.length q3_1, .slice p3_2 EN.length q3_2] (EP, DU, MS, EN, ()) S3a) := SP_7.out.next hb
  have SD_8 : Hid (Own w8 (.list .int) [.slice p3_d DD.length q3_d] DD S3b) := SD_7.out.next hb
  have W_8 : Hid (Bx w8 w3.heap.size [.int .i64 EP, .int .i64 DU, .slice p3_1 MS.length q3_1, .slice p3_2 EN.length q3_2]) := W_7.out.next hb
  have P2_8 : Hid (Own w8 (.list shFenceStep) [.slice (some ⟨p5, 0, none⟩) l.length l.length] l (Btw w4.heap.size w5.heap.size)) := P2_7.out.next hb
  have GP_8 : Hid (Own w8 shFence [.int .i64 EP, .int .i64 DU, .slice p6_1 MS.length q6_1, .slice p6_2 EN.length q6_2] (EP, DU, MS, EN, ()) S6a) := GP_7.out.next hb
  have GD_8 : Hid (Own w8 (.list .int) [.slice p6_d DD.length q6_d] DD S6b) := GD_7.out.next hb
  have G_8 : Hid (Bx w8 w6.heap.size [.int .i64 EP, .int .i64 DU, .slice p6_1 MS.length q6_1, .slice p6_2 EN.length q6_2]) := G_7.out.next hb
  clear hb SP_7 SD_7 W_7 P2_7 GP_7 GD_7 G_7 HB7
  go_wp2_with fail
  refine (eqIntS_n p6_d p3_d q6_d q3_d DD _ HTD.out.2 GD_8.out.lies SD_8.out.lies).mono ?_
  rintro r w9 ⟨rfl, hb⟩
  have HB9 : Hid (Below w.heap.size w w9) := below_next HB8.out hb
  have sz9 : w8.heap.size ≤ w9.heap.size := hb.size
  have SP_9 : Hid (Own w9 shFence [.int .i64 EP, .int .i64 DU, .slice p3_1 MS.length q3_1, .slice p3_2 EN.length q3_2] (EP, DU, MS, EN, ()) S3a) := SP_8.out.next hb
  have SD_9 : Hid (Own w9 (.list .int) [.slice p3_d DD.length q3_d] DD S3b) := SD_8.out.next hb
  have W_9 : Hid (Bx w9 w3.heap.size [.int .i64 EP, .int .i64 DU, .slice p3_1 MS.length q3_1, .slice p3_2 EN.length q3_2]) := W_8.out.next hb
  have P2_9 : Hid (Own w9 (.list shFenceStep) [.slice (some ⟨p5, 0, none⟩) l.length l.length] l (Btw w4.heap.size w5.heap.size)) := P2_8.out.next hb
  have GP_9 : Hid (Own w9 shFence [.int .i64 EP, .int .i64 DU, .slice p6_1 MS.length q6_1, .slice p6_2 EN.length q6_2] (EP, DU, MS, EN, ()) S6a) := GP_8.out.next hb
  have GD_9 : Hid (Own w9 (.list .int) [.slice p6_d DD.length q6_d] DD S6b) := GD_8.out.next hb
  have G_9 : Hid (Bx w9 w6.heap.size [.int .i64 EP, .int .i64 DU, .slice p6_1 MS.length q6_1, .slice p6_2 EN.length q6_2]) := G_8.out.next hb
  clear hb SP_8 SD_8 W_8 P2_8 GP_8 GD_8 G_8 HB8
  go_wp2_with fail
  refine (toFenceStepS_n a1 k1 l _ HS1.out (HL1.out.next HB9.out)).mono ?_
  rintro r w10 ⟨p10, rfl, ho, hb⟩
  have HB10 : Hid (Below w.heap.size w w10) := below_next HB9.out hb
  have sz10 : w9.heap.size ≤ w10.heap.size := hb.size
  have SP_10 : Hid (Own w10 shFence [.int .i64 EP, .int .i64 DU, .slice p3_1 MS.length q3_1, .slice p3_2 EN.length q3_2] (EP, DU, MS, EN, ()) S3a) := SP_9.out.next hb
  have SD_10 : Hid (Own w10 (.list .int) [.slice p3_d DD.length q3_d] DD S3b) := SD_9.out.next hb
  have W_10 : Hid (Bx w10 w3.heap.size [.int .i64 EP, .int .i64 DU, .slice p3_1 MS.length q3_1, .slice p3_2 EN.length q3_2]) := W_9.out.next hb
  have P2_10 : Hid (Own w10 (.list shFenceStep) [.slice (some ⟨p5, 0, none⟩) l.length l.length] l (Btw w4.heap.size w5.heap.size)) := P2_9.out.next hb
  have GP_10 : Hid (Own w10 shFence [.int .i64 EP, .int .i64 DU, .slice p6_1 MS.length q6_1, .slice p6_2 EN.length q6_2] (EP, DU, MS, EN, ()) S6a) := GP_9.out.next hb
  have GD_10 : Hid (Own w10 (.list .int) [.slice p6_d DD.length q6_d] DD S6b) := GD_9.out.next hb
  have G_10 : Hid (Bx w10 w6.heap.size [.int .i64 EP, .int .i64 DU, .slice p6_1 MS.length q6_1, .slice p6_2 EN.length q6_2]) := G_9.out.next hb
  have D_10 : Hid (Own w10 (.list shFenceStep) [.slice (some ⟨p10, 0, none⟩) l.length l.length] l (Btw w9.heap.size w10.heap.size)) := ho
  clear hb ho SP_9 SD_9 W_9 P2_9 GP_9 GD_9 G_9 HB9
  go_wp2_with fail
  refine (eqFenceStepS_n (some ⟨p5, 0, none⟩) (some ⟨p10, 0, none⟩) l.length l.length l _ HS1.out P2_10.out.lies D_10.out.lies).mono ?_
  rintro r w11 ⟨rfl, hb⟩
  have HB11 : Hid (Below w.heap.size w w11) := below_next HB10.out hb
  have sz11 : w10.heap.size ≤ w11.heap.size := hb.size
  have SP_11 : Hid (Own w11 shFence [.int .i64 EP, .int .i64 DU, .slice p3_1 MS.length q3_1, .slice p3_2 EN.length q3_2] (EP, DU, MS, EN, ()) S3a) := SP_10.out.next hb
  have SD_11 : Hid (Own w11 (.list .int) [.slice p3_d DD.length q3_d] DD S3b) := SD_10.out.next hb
  have W_11 : Hid (Bx w11 w3.heap.size [.int .i64 EP, .int .i64 DU, .slice p3_1 MS.length q3_1, .slice p3_2 EN.length q3_2]) := W_10.out.next hb
  have P2_11 : Hid (Own w11 (.list shFenceStep) [.slice (some ⟨p5, 0, none⟩) l.length l.length] l (Btw w4.heap.size w5.heap.size)) := P2_10.out.next hb
  have GP_11 : Hid (Own w11 shFence [.int .i64 EP, .int .i64 DU, .slice p6_1 MS.length q6_1, .slice p6_2 EN.length q6_2] (EP, DU, MS, EN, ()) S6a) := GP_10.out.next hb
  have GD_11 : Hid (Own w11 (.list .int) [.slice p6_d DD.length q6_d] DD S6b) := GD_10.out.next hb
  have G_11 : Hid (Bx w11 w6.heap.size [.int .i64 EP, .int .i64 DU, .slice p6_1 MS.length q6_1, .slice p6_2 EN.length q6_2]) := G_10.out.next hb
  have D_11 : Hid (Own w11 (.list shFenceStep) [.slice (some ⟨p10, 0, none⟩) l.length l.length] l (Btw w9.heap.size w10.heap.size)) := D_10.out.next hb
  clear hb SP_10 SD_10 W_10 P2_10 GP_10 GD_10 G_10 D_10 HB10
  clear D_11
  go_wp2_with fail
  refine ((show Calls _ _ _ _ (MkP (.list shFenceStep) [.slice (some ⟨p5, 0, none⟩) l.length l.length] (mkD (.list shFenceStep) l 1) (1 + (cy : Int)) (Btw w4.heap.size w5.heap.size) _) from HCY.out ▸ markFenceStepS_n (some ⟨p5, 0, none⟩) l.length l 1 (Btw w4.heap.size w5.heap.size) _ (by omega) (by have h1 := HCY.out; rw [← h1]; omega) HS1.out P2_11.out)).mono ?_
  rintro r w12 ⟨rfl, ho, ht⟩
  have HB12 : Hid (Below w.heap.size w w12) := Hid.intro (HB11.out.trans (ht.below (fun k hk => by simp only [Btw] at hk; omega) HB11.out.size))
  have sz12 : w11.heap.size ≤ w12.heap.size := ht.size
  have SP_12 : Hid (Own w12 shFence [.int .i64 EP, .int .i64 DU, .slice p3_1 MS.length q3_1, .slice p3_2 EN.length q3_2] (EP, DU, MS, EN, ()) S3a) := SP_11.out.turn ht (fun k e f => by have be := HSS3.out.1 k e; simp only [Btw] at f; omega)
  have SD_12 : Hid (Own w12 (.list .int) [.slice p3_d DD.length q3_d] DD S3b) := SD_11.out.turn ht (fun k e f => by have be := HSS3.out.2.1 k e; simp only [Btw] at f; omega)
  have W_12 : Hid (Bx w12 w3.heap.size [.int .i64 EP, .int .i64 DU, .slice p3_1 MS.length q3_1, .slice p3_2 EN.length q3_2]) := W_11.out.turnS ht (fun hk => by simp only [Btw] at hk; omega)
  have P2_12 : Hid (Own w12 (.list shFenceStep) [.slice (some ⟨p5, 0, none⟩) l.length l.length] (mkD (.list shFenceStep) l 1) (Btw w4.heap.size w5.heap.size)) := ho
  have GP_12 : Hid (Own w12 shFence [.int .i64 EP, .int .i64 DU, .slice p6_1 MS.length q6_1, .slice p6_2 EN.length q6_2] (EP, DU, MS, EN, ()) S6a) := GP_11.out.turn ht (fun k e f => by have be := HSS6.out.1 k e; simp only [Btw] at f; omega)
  have GD_12 : Hid (Own w12 (.list .int) [.slice p6_d DD.length q6_d] DD S6b) := GD_11.out.turn ht (fun k e f => by have be := HSS6.out.2.1 k e; simp only [Btw] at f; omega)
  have G_12 : Hid (Bx w12 w6.heap.size [.int .i64 EP, .int .i64 DU, .slice p6_1 MS.length q6_1, .slice p6_2 EN.length q6_2]) := G_11.out.turnS ht (fun hk => by simp only [Btw] at hk; omega)
  clear ht ho SP_11 SD_11 W_11 P2_11 GP_11 GD_11 G_11 HB11
  clear P2_12
  have cW0 := W_12.out.cell 0 rfl
  have cW1 := W_12.out.cell 1 rfl
  have cW2 := W_12.out.cell 2 rfl
  have cW3 := W_12.out.cell 3 rfl
  have zW := W_12.out.2
  have cG0 := G_12.out.cell 0 rfl
  have cG1 := G_12.out.cell 1 rfl
  have cG2 := G_12.out.cell 2 rfl
  have cG3 := G_12.out.cell 3 rfl
  have zG := G_12.out.2
  go_wp2_with fail
  refine (eqFence_n [.int .i64 EP, .int .i64 DU, .slice p6_1 MS.length q6_1, .slice p6_2 EN.length q6_2] [.int .i64 EP, .int .i64 DU, .slice p3_1 MS.length q3_1, .slice p3_2 EN.length q3_2] EP DU MS EN _ HTD.out.1 GP_12.out.lies SP_12.out.lies).mono ?_
  rintro r w13 ⟨rfl, hb⟩
  have HB13 : Hid (Below w.heap.size w w13) := below_next HB12.out hb
  have sz13 : w12.heap.size ≤ w13.heap.size := hb.size
  have SP_13 : Hid (Own w13 shFence [.int .i64 EP, .int .i64 DU, .slice p3_1 MS.length q3_1, .slice p3_2 EN.length q3_2] (EP, DU, MS, EN, ()) S3a) := SP_12.out.next hb
  have SD_13 : Hid (Own w13 (.list .int) [.slice p3_d DD.length q3_d] DD S3b) := SD_12.out.next hb
  have W_13 : Hid (Bx w13 w3.heap.size [.int .i64 EP, .int .i64 DU, .slice p3_1 MS.length q3_1, .slice p3_2 EN.length q3_2]) := W_12.out.next hb
  have GP_13 : Hid (Own w13 shFence [.int .i64 EP, .int .i64 DU, .slice p6_1 MS.length q6_1, .slice p6_2 EN.length q6_2] (EP, DU, MS, EN, ()) S6a) := GP_12.out.next hb
  have GD_13 : Hid (Own w13 (.list .int) [.slice p6_d DD.length q6_d] DD S6b) := GD_12.out.next hb
  have G_13 : Hid (Bx w13 w6.heap.size [.int .i64 EP, .int .i64 DU, .slice p6_1 MS.length q6_1, .slice p6_2 EN.length q6_2]) := G_12.out.next hb
  clear hb cW0 cW1 cW2 cW3 zW cG0 cG1 cG2 cG3 zG SP_12 SD_12 W_12 GP_12 GD_12 G_12 HB12
  go_wp2_with fail
  refine (eqIntS_n p6_d p3_d q6_d q3_d DD _ HTD.out.2 GD_13.out.lies SD_13.out.lies).mono ?_
  rintro r w14 ⟨rfl, hb⟩
  have HB14 : Hid (Below w.heap.size w w14) := below_next HB13.out hb
  have sz14 : w13.heap.size ≤ w14.heap.size := hb.size
  have SP_14 : Hid (Own w14 shFence [.int .i64 EP, .int .i64 DU, .slice p3_1 MS.length q3_1, .slice p3_2 EN.length q3_2] (EP, DU, MS, EN, ()) S3a) := SP_13.out.next hb
  have SD_14 : Hid (Own w14 (.list .int) [.slice p3_d DD.length q3_d] DD S3b) := SD_13.out.next hb
  have W_14 : Hid (Bx w14 w3.heap.size [.int .i64 EP, .int .i64 DU, .slice p3_1 MS.length q3_1, .slice p3_2 EN.length q3_2]) := W_13.out.next hb
  have GP_14 : Hid (Own w14 shFence [.int .i64 EP, .int .i64 DU, .slice p6_1 MS.length q6_1, .slice p6_2 EN.length q6_2] (EP, DU, MS, EN, ()) S6a) := GP_13.out.next hb
  have GD_14 : Hid (Own w14 (.list .int) [.slice p6_d DD.length q6_d] DD S6b) := GD_13.out.next hb
  have G_14 : Hid (Bx w14 w6.heap.size [.int .i64 EP, .int .i64 DU, .slice p6_1 MS.length q6_1, .slice p6_2 EN.length q6_2]) := G_13.out.next hb
  clear hb SP_13 SD_13 W_13 GP_13 GD_13 G_13 HB13
  have cG0 := G_14.out.cell 0 rfl
  have cG1 := G_14.out.cell 1 rfl
  have cG2 := G_14.out.cell 2 rfl
  have cG3 := G_14.out.cell 3 rfl
  have zG := G_14.out.2
  go_wp2_with fail
  refine ((show Calls _ _ _ _ (MkP shFence [.int .i64 EP, .int .i64 DU, .slice p6_1 MS.length q6_1, .slice p6_2 EN.length q6_2] (mkT shFence (EP, DU, MS, EN, ()) 1) (1 + (cn : Int)) S6a _) from HCN.out ▸ markFence_n [.int .i64 EP, .int .i64 DU, .slice p6_1 MS.length q6_1, .slice p6_2 EN.length q6_2] EP DU MS EN 1 S6a _ (by decide) (by have h1 := HCN.out; rw [← h1]; omega) HTD.out.1 (fun k hk => by have := HSS6.out.1 k hk; omega) GP_14.out)).mono ?_
  rintro r w15 ⟨rfl, ho, ht⟩
  have HB15 : Hid (Below w.heap.size w w15) := Hid.intro (HB14.out.trans (ht.below (fun k hk => by have bhk := HSS6.out.1 k hk; omega) HB14.out.size))
  have sz15 : w14.heap.size ≤ w15.heap.size := ht.size
  have SP_15 : Hid (Own w15 shFence [.int .i64 EP, .int .i64 DU, .slice p3_1 MS.length q3_1, .slice p3_2 EN.length q3_2] (EP, DU, MS, EN, ()) S3a) := SP_14.out.turn ht (fun k e f => by have be := HSS3.out.1 k e; have bf := HSS6.out.1 k f; omega)
  have SD_15 : Hid (Own w15 (.list .int) [.slice p3_d DD.length q3_d] DD S3b) := SD_14.out.turn ht (fun k e f => by have be := HSS3.out.2.1 k e; have bf := HSS6.out.1 k f; omega)
  have W_15 : Hid (Bx w15 w3.heap.size [.int .i64 EP, .int .i64 DU, .slice p3_1 MS.length q3_1, .slice p3_2 EN.length q3_2]) := W_14.out.turnS ht (fun hk => by have bhk := HSS6.out.1 _ hk; omega)
  have GP_15 : Hid (Own w15 shFence [.int .i64 EP, .int .i64 DU, .slice p6_1 MS.length q6_1, .slice p6_2 EN.length q6_2] (mkT shFence (EP, DU, MS, EN, ()) 1) S6a) := ho
  have GD_15 : Hid (Own w15 (.list .int) [.slice p6_d DD.length q6_d] DD S6b) := GD_14.out.turn ht (fun k e f => HSS6.out.2.2 k f e)
  have G_15 : Hid (Bx w15 w6.heap.size [.int .i64 EP, .int .i64 DU, .slice p6_1 MS.length q6_1, .slice p6_2 EN.length q6_2]) := G_14.out.turnS ht (fun hk => by have bhk := HSS6.out.1 _ hk; omega)
  clear ht ho cG0 cG1 cG2 cG3 zG SP_14 SD_14 W_14 GP_14 GD_14 G_14 HB14
  go_wp2_with fail
  refine ((show Calls _ _ _ _ (MkP (.list .int) [.slice p6_d DD.length q6_d] (mkD (.list .int) DD (1 + (cn : Int))) (1 + (cn : Int) + (cd : Int)) S6b _) from HCD.out ▸ markIntS_n p6_d q6_d DD (1 + (cn : Int)) S6b _ (by omega) (by have h1 := HCD.out; rw [← h1]; omega) HTD.out.2 GD_15.out)).mono ?_
  rintro r w16 ⟨rfl, ho, ht⟩
  have HB16 : Hid (Below w.heap.size w w16) := Hid.intro (HB15.out.trans (ht.below (fun k hk => by have bhk := HSS6.out.2.1 k hk; omega) HB15.out.size))
  have sz16 : w15.heap.size ≤ w16.heap.size := ht.size
  have SP_16 : Hid (Own w16 shFence [.int .i64 EP, .int .i64 DU, .slice p3_1 MS.length q3_1, .slice p3_2 EN.length q3_2] (EP, DU, MS, EN, ()) S3a) := SP_15.out.turn ht (fun k e f => by have be := HSS3.out.1 k e; have bf := HSS6.out.2.1 k f; omega)
  have SD_16 : Hid (Own w16 (.list .int) [.slice p3_d DD.length q3_d] DD S3b) := SD_15.out.turn ht (fun k e f => by have be := HSS3.out.2.1 k e; have bf := HSS6.out.2.1 k f; omega)
  have W_16 : Hid (Bx w16 w3.heap.size [.int .i64 EP, .int .i64 DU, .slice p3_1 MS.length q3_1, .slice p3_2 EN.length q3_2]) := W_15.out.turnS ht (fun hk => by have bhk := HSS6.out.2.1 _ hk; omega)
  have GP_16 : Hid (Own w16 shFence [.int .i64 EP, .int .i64 DU, .slice p6_1 MS.length q6_1, .slice p6_2 EN.length q6_2] (mkT shFence (EP, DU, MS, EN, ()) 1) S6a) := GP_15.out.turn ht (fun k e f => HSS6.out.2.2 k e f)
  have GD_16 : Hid (Own w16 (.list .int) [.slice p6_d DD.length q6_d] (mkD (.list .int) DD (1 + (cn : Int))) S6b) := ho
  have G_16 : Hid (Bx w16 w6.heap.size [.int .i64 EP, .int .i64 DU, .slice p6_1 MS.length q6_1, .slice p6_2 EN.length q6_2]) := G_15.out.turnS ht (fun hk => by have bhk := HSS6.out.2.1 _ hk; omega)
  clear ht ho SP_15 SD_15 W_15 GP_15 GD_15 G_15 HB15
  have cG0 := G_16.out.cell 0 rfl
  have cG1 := G_16.out.cell 1 rfl
  have cG2 := G_16.out.cell 2 rfl
  have cG3 := G_16.out.cell 3 rfl
  have zG := G_16.out.2
  go_wp2_with fail
  refine ((show Calls _ _ _ _ (fun r w' => r = .returned (.int .i64 (1 + (cn : Int))) ∧ Below _ _ w') from HCN.out ▸ heldFence_n [.int .i64 EP, .int .i64 DU, .slice p6_1 MS.length q6_1, .slice p6_2 EN.length q6_2] EP DU MS EN 1 _ (by decide) (by have h1 := HCN.out; rw [← h1]; omega) HTD.out.1 GP_16.out.lies)).mono ?_
  rintro r w17 ⟨rfl, hb⟩
  have HB17 : Hid (Below w.heap.size w w17) := below_next HB16.out hb
  have sz17 : w16.heap.size ≤ w17.heap.size := hb.size
  have SP_17 : Hid (Own w17 shFence [.int .i64 EP, .int .i64 DU, .slice p3_1 MS.length q3_1, .slice p3_2 EN.length q3_2] (EP, DU, MS, EN, ()) S3a) := SP_16.out.next hb
  have SD_17 : Hid (Own w17 (.list .int) [.slice p3_d DD.length q3_d] DD S3b) := SD_16.out.next hb
  have W_17 : Hid (Bx w17 w3.heap.size [.int .i64 EP, .int .i64 DU, .slice p3_1 MS.length q3_1, .slice p3_2 EN.length q3_2]) := W_16.out.next hb
  have GP_17 : Hid (Own w17 shFence [.int .i64 EP, .int .i64 DU, .slice p6_1 MS.length q6_1, .slice p6_2 EN.length q6_2] (mkT shFence (EP, DU, MS, EN, ()) 1) S6a) := GP_16.out.next hb
  have GD_17 : Hid (Own w17 (.list .int) [.slice p6_d DD.length q6_d] (mkD (.list .int) DD (1 + (cn : Int))) S6b) := GD_16.out.next hb
  have G_17 : Hid (Bx w17 w6.heap.size [.int .i64 EP, .int .i64 DU, .slice p6_1 MS.length q6_1, .slice p6_2 EN.length q6_2]) := G_16.out.next hb
  clear hb cG0 cG1 cG2 cG3 zG SP_16 SD_16 W_16 GP_16 GD_16 G_16 HB16
  go_wp2_with fail
  refine ((show Calls _ _ _ _ (fun r w' => r = .returned (.int .i64 (1 + (cn : Int) + (cd : Int))) ∧ Below _ _ w') from HCD.out ▸ heldIntS_n p6_d q6_d DD (1 + (cn : Int)) _ (by omega) (by have h1 := HCD.out; rw [← h1]; omega) HTD.out.2 GD_17.out.lies)).mono ?_
  rintro r w18 ⟨rfl, hb⟩
  have HB18 : Hid (Below w.heap.size w w18) := below_next HB17.out hb
  have sz18 : w17.heap.size ≤ w18.heap.size := hb.size
  have SP_18 : Hid (Own w18 shFence [.int .i64 EP, .int .i64 DU, .slice p3_1 MS.length q3_1, .slice p3_2 EN.length q3_2] (EP, DU, MS, EN, ()) S3a) := SP_17.out.next hb
  have SD_18 : Hid (Own w18 (.list .int) [.slice p3_d DD.length q3_d] DD S3b) := SD_17.out.next hb
  have W_18 : Hid (Bx w18 w3.heap.size [.int .i64 EP, .int .i64 DU, .slice p3_1 MS.length q3_1, .slice p3_2 EN.length q3_2]) := W_17.out.next hb
  have GP_18 : Hid (Own w18 shFence [.int .i64 EP, .int .i64 DU, .slice p6_1 MS.length q6_1, .slice p6_2 EN.length q6_2] (mkT shFence (EP, DU, MS, EN, ()) 1) S6a) := GP_17.out.next hb
  have GD_18 : Hid (Own w18 (.list .int) [.slice p6_d DD.length q6_d] (mkD (.list .int) DD (1 + (cn : Int))) S6b) := GD_17.out.next hb
  have G_18 : Hid (Bx w18 w6.heap.size [.int .i64 EP, .int .i64 DU, .slice p6_1 MS.length q6_1, .slice p6_2 EN.length q6_2]) := G_17.out.next hb
  clear hb SP_17 SD_17 W_17 GP_17 GD_17 G_17 HB17
  go_wp2_with fail
  refine (toFenceStepS_n a1 k1 l _ HS1.out (HL1.out.next HB18.out)).mono ?_
  rintro r w19 ⟨p19, rfl, ho, hb⟩
  have HB19 : Hid (Below w.heap.size w w19) := below_next HB18.out hb
  have sz19 : w18.heap.size ≤ w19.heap.size := hb.size
  have SP_19 : Hid (Own w19 shFence [.int .i64 EP, .int .i64 DU, .slice p3_1 MS.length q3_1, .slice p3_2 EN.length q3_2] (EP, DU, MS, EN, ()) S3a) := SP_18.out.next hb
  have SD_19 : Hid (Own w19 (.list .int) [.slice p3_d DD.length q3_d] DD S3b) := SD_18.out.next hb
  have W_19 : Hid (Bx w19 w3.heap.size [.int .i64 EP, .int .i64 DU, .slice p3_1 MS.length q3_1, .slice p3_2 EN.length q3_2]) := W_18.out.next hb
  have GP_19 : Hid (Own w19 shFence [.int .i64 EP, .int .i64 DU, .slice p6_1 MS.length q6_1, .slice p6_2 EN.length q6_2] (mkT shFence (EP, DU, MS, EN, ()) 1) S6a) := GP_18.out.next hb
  have GD_19 : Hid (Own w19 (.list .int) [.slice p6_d DD.length q6_d] (mkD (.list .int) DD (1 + (cn : Int))) S6b) := GD_18.out.next hb
  have G_19 : Hid (Bx w19 w6.heap.size [.int .i64 EP, .int .i64 DU, .slice p6_1 MS.length q6_1, .slice p6_2 EN.length q6_2]) := G_18.out.next hb
  have D2_19 : Hid (Own w19 (.list shFenceStep) [.slice (some ⟨p19, 0, none⟩) l.length l.length] l (Btw w18.heap.size w19.heap.size)) := ho
  clear hb ho SP_18 SD_18 W_18 GP_18 GD_18 G_18 HB18
  go_wp2_with fail
  refine (playFence_l m (some ⟨p19, 0, none⟩) l.length l _ EP DU MS EN DD z HA.out HS1.out D2_19.out.lies).mono ?_
  rintro r w20 hT
  obtain ⟨cs9, v9, S20a, S20b, rfl, ho, hod, hs1, hs2, hb⟩ := hT
  obtain ⟨p20_1, q20_1, _, p20_2, q20_2, _, hev, _⟩ := own_Fence ho
  subst hev
  obtain ⟨p20_d, q20_d, hvd⟩ := own_form hod
  simp only [List.cons.injEq, and_true] at hvd
  subst hvd
  have HSS20 : Hid ((∀ k, S20a k → w19.heap.size ≤ k ∧ k < w20.heap.size) ∧ (∀ k, S20b k → w19.heap.size ≤ k ∧ k < w20.heap.size) ∧ (∀ k, S20a k → ¬ S20b k)) := ⟨fun k hk => (hs1 k hk).1, hs2, fun k hk => (hs1 k hk).2⟩
  have hT := trivial
  have HB20 : Hid (Below w.heap.size w w20) := below_next HB19.out hb
  have sz20 : w19.heap.size ≤ w20.heap.size := hb.size
  have SP_20 : Hid (Own w20 shFence [.int .i64 EP, .int .i64 DU, .slice p3_1 MS.length q3_1, .slice p3_2 EN.length q3_2] (EP, DU, MS, EN, ()) S3a) := SP_19.out.next hb
  have SD_20 : Hid (Own w20 (.list .int) [.slice p3_d DD.length q3_d] DD S3b) := SD_19.out.next hb
  have W_20 : Hid (Bx w20 w3.heap.size [.int .i64 EP, .int .i64 DU, .slice p3_1 MS.length q3_1, .slice p3_2 EN.length q3_2]) := W_19.out.next hb
  have GP_20 : Hid (Own w20 shFence [.int .i64 EP, .int .i64 DU, .slice p6_1 MS.length q6_1, .slice p6_2 EN.length q6_2] (mkT shFence (EP, DU, MS, EN, ()) 1) S6a) := GP_19.out.next hb
  have GD_20 : Hid (Own w20 (.list .int) [.slice p6_d DD.length q6_d] (mkD (.list .int) DD (1 + (cn : Int))) S6b) := GD_19.out.next hb
  have G_20 : Hid (Bx w20 w6.heap.size [.int .i64 EP, .int .i64 DU, .slice p6_1 MS.length q6_1, .slice p6_2 EN.length q6_2]) := G_19.out.next hb
  have D2_20 : Hid (Own w20 (.list shFenceStep) [.slice (some ⟨p19, 0, none⟩) l.length l.length] l (Btw w18.heap.size w19.heap.size)) := D2_19.out.next hb
  have HP_20 : Hid (Own w20 shFence [.int .i64 EP, .int .i64 DU, .slice p20_1 MS.length q20_1, .slice p20_2 EN.length q20_2] (EP, DU, MS, EN, ()) S20a) := ho
  have HD_20 : Hid (Own w20 (.list .int) [.slice p20_d DD.length q20_d] DD S20b) := hod
  clear hb ho hod hT hs1 hs2 SP_19 SD_19 W_19 GP_19 GD_19 G_19 D2_19 HB19
  clear D2_20
  have cW0 := W_20.out.cell 0 rfl
  have cW1 := W_20.out.cell 1 rfl
  have cW2 := W_20.out.cell 2 rfl
  have cW3 := W_20.out.cell 3 rfl
  have zW := W_20.out.2
  go_wp2_with fail
  obtain ⟨w21, hw21⟩ : ∃ x, x = w20.alloc (.cells #[.int .i64 EP, .int .i64 DU, .slice p20_1 MS.length q20_1, .slice p20_2 EN.length q20_2] 29) := ⟨_, rfl⟩
  have hb : Below w20.heap.size w20 w21 := hw21 ▸ Go.Joins.below_alloc1 _ _
  have HB21 : Hid (Below w.heap.size w w21) := below_next HB20.out hb
  have sz21 : w20.heap.size < w21.heap.size := by rw [hw21]; simp
  have SP_21 : Hid (Own w21 shFence [.int .i64 EP, .int .i64 DU, .slice p3_1 MS.length q3_1, .slice p3_2 EN.length q3_2] (EP, DU, MS, EN, ()) S3a) := SP_20.out.next hb
  have SD_21 : Hid (Own w21 (.list .int) [.slice p3_d DD.length q3_d] DD S3b) := SD_20.out.next hb
  have W_21 : Hid (Bx w21 w3.heap.size [.int .i64 EP, .int .i64 DU, .slice p3_1 MS.length q3_1, .slice p3_2 EN.length q3_2]) := W_20.out.next hb
  have GP_21 : Hid (Own w21 shFence [.int .i64 EP, .int .i64 DU, .slice p6_1 MS.length q6_1, .slice p6_2 EN.length q6_2] (mkT shFence (EP, DU, MS, EN, ()) 1) S6a) := GP_20.out.next hb
  have GD_21 : Hid (Own w21 (.list .int) [.slice p6_d DD.length q6_d] (mkD (.list .int) DD (1 + (cn : Int))) S6b) := GD_20.out.next hb
  have G_21 : Hid (Bx w21 w6.heap.size [.int .i64 EP, .int .i64 DU, .slice p6_1 MS.length q6_1, .slice p6_2 EN.length q6_2]) := G_20.out.next hb
  have HP_21 : Hid (Own w21 shFence [.int .i64 EP, .int .i64 DU, .slice p20_1 MS.length q20_1, .slice p20_2 EN.length q20_2] (EP, DU, MS, EN, ()) S20a) := HP_20.out.next hb
  have HD_21 : Hid (Own w21 (.list .int) [.slice p20_d DD.length q20_d] DD S20b) := HD_20.out.next hb
  have H_21 : Hid (Bx w21 w20.heap.size [.int .i64 EP, .int .i64 DU, .slice p20_1 MS.length q20_1, .slice p20_2 EN.length q20_2]) := hw21 ▸ Bx.new w20 [.int .i64 EP, .int .i64 DU, .slice p20_1 MS.length q20_1, .slice p20_2 EN.length q20_2] _
  rw [← hw21]
  clear hb hw21 cW0 cW1 cW2 cW3 zW SP_20 SD_20 W_20 GP_20 GD_20 G_20 HP_20 HD_20 HB20
  refine (eqFence_n [.int .i64 EP, .int .i64 DU, .slice p20_1 MS.length q20_1, .slice p20_2 EN.length q20_2] [.int .i64 EP, .int .i64 DU, .slice p3_1 MS.length q3_1, .slice p3_2 EN.length q3_2] EP DU MS EN _ HTD.out.1 HP_21.out.lies SP_21.out.lies).mono ?_
  rintro r w22 ⟨rfl, hb⟩
  have HB22 : Hid (Below w.heap.size w w22) := below_next HB21.out hb
  have sz22 : w21.heap.size ≤ w22.heap.size := hb.size
  have SP_22 : Hid (Own w22 shFence [.int .i64 EP, .int .i64 DU, .slice p3_1 MS.length q3_1, .slice p3_2 EN.length q3_2] (EP, DU, MS, EN, ()) S3a) := SP_21.out.next hb
  have SD_22 : Hid (Own w22 (.list .int) [.slice p3_d DD.length q3_d] DD S3b) := SD_21.out.next hb
  have W_22 : Hid (Bx w22 w3.heap.size [.int .i64 EP, .int .i64 DU, .slice p3_1 MS.length q3_1, .slice p3_2 EN.length q3_2]) := W_21.out.next hb
  have GP_22 : Hid (Own w22 shFence [.int .i64 EP, .int .i64 DU, .slice p6_1 MS.length q6_1, .slice p6_2 EN.length q6_2] (mkT shFence (EP, DU, MS, EN, ()) 1) S6a) := GP_21.out.next hb
  have GD_22 : Hid (Own w22 (.list .int) [.slice p6_d DD.length q6_d] (mkD (.list .int) DD (1 + (cn : Int))) S6b) := GD_21.out.next hb
  have G_22 : Hid (Bx w22 w6.heap.size [.int .i64 EP, .int .i64 DU, .slice p6_1 MS.length q6_1, .slice p6_2 EN.length q6_2]) := G_21.out.next hb
  have HP_22 : Hid (Own w22 shFence [.int .i64 EP, .int .i64 DU, .slice p20_1 MS.length q20_1, .slice p20_2 EN.length q20_2] (EP, DU, MS, EN, ()) S20a) := HP_21.out.next hb
  have HD_22 : Hid (Own w22 (.list .int) [.slice p20_d DD.length q20_d] DD S20b) := HD_21.out.next hb
  have H_22 : Hid (Bx w22 w20.heap.size [.int .i64 EP, .int .i64 DU, .slice p20_1 MS.length q20_1, .slice p20_2 EN.length q20_2]) := H_21.out.next hb
  clear hb SP_21 SD_21 W_21 GP_21 GD_21 G_21 HP_21 HD_21 H_21 HB21
  go_wp2_with fail
  refine (eqIntS_n p20_d p3_d q20_d q3_d DD _ HTD.out.2 HD_22.out.lies SD_22.out.lies).mono ?_
  rintro r w23 ⟨rfl, hb⟩
  have HB23 : Hid (Below w.heap.size w w23) := below_next HB22.out hb
  have sz23 : w22.heap.size ≤ w23.heap.size := hb.size
  have SP_23 : Hid (Own w23 shFence [.int .i64 EP, .int .i64 DU, .slice p3_1 MS.length q3_1, .slice p3_2 EN.length q3_2] (EP, DU, MS, EN, ()) S3a) := SP_22.out.next hb
  have SD_23 : Hid (Own w23 (.list .int) [.slice p3_d DD.length q3_d] DD S3b) := SD_22.out.next hb
  have W_23 : Hid (Bx w23 w3.heap.size [.int .i64 EP, .int .i64 DU, .slice p3_1 MS.length q3_1, .slice p3_2 EN.length q3_2]) := W_22.out.next hb
  have GP_23 : Hid (Own w23 shFence [.int .i64 EP, .int .i64 DU, .slice p6_1 MS.length q6_1, .slice p6_2 EN.length q6_2] (mkT shFence (EP, DU, MS, EN, ()) 1) S6a) := GP_22.out.next hb
  have GD_23 : Hid (Own w23 (.list .int) [.slice p6_d DD.length q6_d] (mkD (.list .int) DD (1 + (cn : Int))) S6b) := GD_22.out.next hb
  have G_23 : Hid (Bx w23 w6.heap.size [.int .i64 EP, .int .i64 DU, .slice p6_1 MS.length q6_1, .slice p6_2 EN.length q6_2]) := G_22.out.next hb
  have HP_23 : Hid (Own w23 shFence [.int .i64 EP, .int .i64 DU, .slice p20_1 MS.length q20_1, .slice p20_2 EN.length q20_2] (EP, DU, MS, EN, ()) S20a) := HP_22.out.next hb
  have HD_23 : Hid (Own w23 (.list .int) [.slice p20_d DD.length q20_d] DD S20b) := HD_22.out.next hb
  have H_23 : Hid (Bx w23 w20.heap.size [.int .i64 EP, .int .i64 DU, .slice p20_1 MS.length q20_1, .slice p20_2 EN.length q20_2]) := H_22.out.next hb
  clear hb SP_22 SD_22 W_22 GP_22 GD_22 G_22 HP_22 HD_22 H_22 HB22
  have cG0 := G_23.out.cell 0 rfl
  have cG1 := G_23.out.cell 1 rfl
  have cG2 := G_23.out.cell 2 rfl
  have cG3 := G_23.out.cell 3 rfl
  have zG := G_23.out.2
  go_wp2_with fail
  refine ((show Calls _ _ _ _ (fun r w' => r = .returned (.int .i64 (1 + (cn : Int))) ∧ Below _ _ w') from HCN.out ▸ heldFence_n [.int .i64 EP, .int .i64 DU, .slice p6_1 MS.length q6_1, .slice p6_2 EN.length q6_2] EP DU MS EN 1 _ (by decide) (by have h1 := HCN.out; rw [← h1]; omega) HTD.out.1 GP_23.out.lies)).mono ?_
  rintro r w24 ⟨rfl, hb⟩
  have HB24 : Hid (Below w.heap.size w w24) := below_next HB23.out hb
  have sz24 : w23.heap.size ≤ w24.heap.size := hb.size
  have SP_24 : Hid (Own w24 shFence [.int .i64 EP, .int .i64 DU, .slice p3_1 MS.length q3_1, .slice p3_2 EN.length q3_2] (EP, DU, MS, EN, ()) S3a) := SP_23.out.next hb
  have SD_24 : Hid (Own w24 (.list .int) [.slice p3_d DD.length q3_d] DD S3b) := SD_23.out.next hb
  have W_24 : Hid (Bx w24 w3.heap.size [.int .i64 EP, .int .i64 DU, .slice p3_1 MS.length q3_1, .slice p3_2 EN.length q3_2]) := W_23.out.next hb
  have GP_24 : Hid (Own w24 shFence [.int .i64 EP, .int .i64 DU, .slice p6_1 MS.length q6_1, .slice p6_2 EN.length q6_2] (mkT shFence (EP, DU, MS, EN, ()) 1) S6a) := GP_23.out.next hb
  have GD_24 : Hid (Own w24 (.list .int) [.slice p6_d DD.length q6_d] (mkD (.list .int) DD (1 + (cn : Int))) S6b) := GD_23.out.next hb
  have G_24 : Hid (Bx w24 w6.heap.size [.int .i64 EP, .int .i64 DU, .slice p6_1 MS.length q6_1, .slice p6_2 EN.length q6_2]) := G_23.out.next hb
  have HP_24 : Hid (Own w24 shFence [.int .i64 EP, .int .i64 DU, .slice p20_1 MS.length q20_1, .slice p20_2 EN.length q20_2] (EP, DU, MS, EN, ()) S20a) := HP_23.out.next hb
  have HD_24 : Hid (Own w24 (.list .int) [.slice p20_d DD.length q20_d] DD S20b) := HD_23.out.next hb
  have H_24 : Hid (Bx w24 w20.heap.size [.int .i64 EP, .int .i64 DU, .slice p20_1 MS.length q20_1, .slice p20_2 EN.length q20_2]) := H_23.out.next hb
  clear hb cG0 cG1 cG2 cG3 zG SP_23 SD_23 W_23 GP_23 GD_23 G_23 HP_23 HD_23 H_23 HB23
  go_wp2_with fail
  refine ((show Calls _ _ _ _ (fun r w' => r = .returned (.int .i64 (1 + (cn : Int) + (cd : Int))) ∧ Below _ _ w') from HCD.out ▸ heldIntS_n p6_d q6_d DD (1 + (cn : Int)) _ (by omega) (by have h1 := HCD.out; rw [← h1]; omega) HTD.out.2 GD_24.out.lies)).mono ?_
  rintro r w25 ⟨rfl, hb⟩
  have HB25 : Hid (Below w.heap.size w w25) := below_next HB24.out hb
  have sz25 : w24.heap.size ≤ w25.heap.size := hb.size
  have SP_25 : Hid (Own w25 shFence [.int .i64 EP, .int .i64 DU, .slice p3_1 MS.length q3_1, .slice p3_2 EN.length q3_2] (EP, DU, MS, EN, ()) S3a) := SP_24.out.next hb
  have SD_25 : Hid (Own w25 (.list .int) [.slice p3_d DD.length q3_d] DD S3b) := SD_24.out.next hb
  have W_25 : Hid (Bx w25 w3.heap.size [.int .i64 EP, .int .i64 DU, .slice p3_1 MS.length q3_1, .slice p3_2 EN.length q3_2]) := W_24.out.next hb
  have GP_25 : Hid (Own w25 shFence [.int .i64 EP, .int .i64 DU, .slice p6_1 MS.length q6_1, .slice p6_2 EN.length q6_2] (mkT shFence (EP, DU, MS, EN, ()) 1) S6a) := GP_24.out.next hb
  have GD_25 : Hid (Own w25 (.list .int) [.slice p6_d DD.length q6_d] (mkD (.list .int) DD (1 + (cn : Int))) S6b) := GD_24.out.next hb
  have G_25 : Hid (Bx w25 w6.heap.size [.int .i64 EP, .int .i64 DU, .slice p6_1 MS.length q6_1, .slice p6_2 EN.length q6_2]) := G_24.out.next hb
  have HP_25 : Hid (Own w25 shFence [.int .i64 EP, .int .i64 DU, .slice p20_1 MS.length q20_1, .slice p20_2 EN.length q20_2] (EP, DU, MS, EN, ()) S20a) := HP_24.out.next hb
  have HD_25 : Hid (Own w25 (.list .int) [.slice p20_d DD.length q20_d] DD S20b) := HD_24.out.next hb
  have H_25 : Hid (Bx w25 w20.heap.size [.int .i64 EP, .int .i64 DU, .slice p20_1 MS.length q20_1, .slice p20_2 EN.length q20_2]) := H_24.out.next hb
  clear hb SP_24 SD_24 W_24 GP_24 GD_24 G_24 HP_24 HD_24 H_24 HB24
  have HE := HB25
  go_wp2
  go_ret
  exact ⟨rfl, HE.out⟩


theorem own : ownKnob Try.prog.godebug = none := by kernel_rfl
theorem laidOut : laidOutB Try.prog = true := by kernel_rfl

set_option maxRecDepth 100000 in
theorem lifted (os : Os) (started : os.Started) (H : Type) (enc : TypeId × Value → H) :
    ReturnsInHanded {} Try.checked os 8 .any (Rows.fnExactPlayFenceSpec.pre6 enc Try.prog Try.f8 Rows.fnExactPlayFenceRow.domain false) (Rows.fnExactPlayFenceSpec.post enc Try.prog Try.f8 false true false false) := by
  refine returnsInHanded_of_change (C := Try.checked) own started (by kernel_rfl) Try.func8
    (ChangeSpec.witness6 (enc := enc) (C := Try.checked) false ⟨#[], #[.int .i64 0, .slice none 0 0], []⟩ 8 (by kernel_rfl) (by kernel_rfl) (by kernel_rfl) (by kernel_rfl)) ?_
  intro W base args ds gs before hval0 hW hcnd _
  have hval : ∀ (j : Nat) t v, Try.f8.params[j]? = some t → args[j]? = some v → Value.okWide Try.prog W .any base t v := hval0
  have hW' := hW
  obtain ⟨p, q, hA0, hV, rfl, hfz, hnd⟩ := hW
  have hA : DataW.TrodAll enc Try.prog W 0 (fun _ => true) true Try.f8.params.toList args.toList ds p := hA0
  rw [Try.params8] at hA hval
  obtain ⟨v0, vs0, d0, ds0, p0, q0, hargs, rfl, rfl, h0, r0⟩ := trodAll_cons hA
  obtain ⟨v1, vs1, d1, ds1, p1, q1, rfl, rfl, rfl, h1, r1⟩ := trodAll_cons r0
  obtain ⟨rfl, rfl, rfl⟩ := trodAll_nil r1
  obtain rfl : args = #[v0, v1] := by cases args; simp_all
  obtain ⟨rfl, rfl⟩ := trodVars_none hV
  have k0 := h0
  have lt0 : ∀ x ∈ p0, x.block < W.heap.size := by obtain ⟨m, hm⟩ := k0; exact DataW.trod_lt m _ _ _ hm
  obtain ⟨a0, rfl, rfl, rfl, w0⟩ := open_int Try.underlying3 (hval 0 3 v0 rfl rfl) h0
  have k1 := h1
  have lt1 : ∀ x ∈ p1, x.block < W.heap.size := by obtain ⟨m, hm⟩ := k1; exact DataW.trod_lt m _ _ _ hm
  obtain ⟨a1, len1, cap1, rfl⟩ := okWide_slice Try.underlying58 (hval 1 58 v1 rfl rfl)
  obtain ⟨X1, rfl, li1, fi1⟩ := open_FenceStepS_n h1
  clear hA0 hval0
  refine (walk (w := W) a0 w0 a1 cap1 X1 li1 fi1).mono fun e W' ⟨he, bel⟩ => ?_
  subst he
  exact ⟨_, rfl, _, _, _, [], _, [], hW', trodAll_mk1 (shut_bool Try.underlying4 _), (trodAll_cons_mk (Below.trod laidOut (by kernel_rfl) (of_decide_eq_true (by kernel_rfl)) k0 bel lt0) (trodAll_cons_mk (Below.trod laidOut (by kernel_rfl) (of_decide_eq_true (by kernel_rfl)) k1 bel lt1) trodAll_mk0)), rfl, bel.frame _, fun h => by cases h⟩

set_option maxHeartbeats 40000000 in
theorem closed : joinedFacts Try.pinned.checked.prog 8 Try.f8 Rows.fnExactPlayFenceSpec Rows.fnExactPlayFenceRow = true := by
  unfold joinedFacts
  repeat' (first | (with_reducible refine both ?_ ?_) | (with_reducible exact may_enter') | (with_reducible refine lifts_eq ?_) | (with_reducible refine make_eq ?_) | as_aux_lemma => kernel_rfl)
theorem named : Try.pinned.checked.prog.funcNamed Rows.fnExactPlayFenceRow.func = some 8 := by kernel_rfl
theorem over : Rows.fnExactPlayFenceRow.holds Try.pinned (OpenSpec.ofChange Rows.fnExactPlayFenceSpec) :=
  OpenClaim.holds_of_wide 8 Try.f8 rfl rfl rfl rfl rfl rfl rfl ⟨rfl, rfl, rfl, rfl, rfl⟩ rfl rfl rfl rfl rfl named Try.func8 closed
    (of_decide_eq_true (by as_aux_lemma => kernel_rfl)) (by unfold Func.isWrapper; first | (rw [if_pos (by decide +kernel)]; kernel_rfl) | (rw [if_neg (by decide +kernel)]; exact ⟨rfl, rfl⟩))
    (fun os started H enc _ => lifted os started H enc)

end Go.Proofs.Ytcbdlalpnlahcaa.xPlayFence
namespace Go.Proofs.Ytcbdlalpnlahcaa
theorem xPlayFence_holds : Rows.FnExactPlayFenceSaid := xPlayFence.over
#print axioms xPlayFence_holds
end Go.Proofs.Ytcbdlalpnlahcaa
