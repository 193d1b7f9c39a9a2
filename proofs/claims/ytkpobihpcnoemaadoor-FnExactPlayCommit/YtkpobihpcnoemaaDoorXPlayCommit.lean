/- At every argument impl.PlayCommit answers as the specification does, field by field, writes into no argument, its answer owns its memory, and each argument reads behind the call as it read before. No condition. -/
import Derived.Test.YtkpobihpcnoemaaDoorGaM
import Derived.Test.YtkpobihpcnoemaaDoorNtZ
import Derived.Test.YtkpobihpcnoemaaDoorNtT
import Derived.Test.YtkpobihpcnoemaaDoorNtE
import Derived.Test.YtkpobihpcnoemaaDoorNtO
import Derived.Test.YtkpobihpcnoemaaDoorNtM
import Derived.Test.YtkpobihpcnoemaaDoorNtH
import Derived.LaidLaws
import Derived.RowKitTokens
import Derived.ChangeVars
import Derived.ChangeSame
import Derived.JoinedOf
import Derived.Stop.LaidErr
import Derived.SevenTiedAt
import Derived.Test.YtkpobihpcnoemaaDoorTie
import Derived.Test.YtkpobihpcnoemaaDoorCards
import Derived.Test.YtkpobihpcnoemaaDoorWords
import Derived.ProofKit
import Derived.OpenShut
import Derived.ShutString
import Derived.ChangeOld
import Derived.Below
import Derived.Lib.SmallJoins
namespace Go.Proofs.YtkpobihpcnoemaaDoor.xPlayCommit
open Go.ChangeShapes Go.WideShapes Go.ChangeAt Go.RowKit
open Go.ChangeMaps (open_string shut_string)
set_option linter.unusedVariables false

set_option maxRecDepth 100000 in
set_option maxHeartbeats 4000000 in
theorem walk (w : World) (hfl : Flt w) (a0 : Option Addr) (k0 : Nat) (am : List (Sh.T .int)) (li0 : Lies w (.list .int) [.slice a0 am.length k0] am) (fi0 : Fits (.list .int) am) (a1 : Option Addr) (k1 : Nat) (l : List (Sh.T shCommitStep)) (li1 : Lies w (.list shCommitStep) [.slice a1 l.length k1] l) (fi1 : Fits (.list shCommitStep) l) :
    Calls Tryd.prog 6 #[.slice a0 am.length k0, .slice a1 l.length k1] w fun r w' => r = .returned (.bool true) ∧ Below w.heap.size w w' := by
  have HFL := Hid.intro hfl
  clear hfl
  have HL0 : Hid (Lies w (.list .int) [.slice a0 am.length k0] am) := li0
  have HF0 : Hid (Fits (.list .int) am) := fi0
  clear li0 fi0
  have HL1 : Hid (Lies w (.list shCommitStep) [.slice a1 l.length k1] l) := li1
  have HF1 : Hid (Fits (.list shCommitStep) l) := fi1
  clear li1 fi1
  obtain ⟨NS, nd, nr, DD, z, hA⟩ : ∃ NS nd nr DD z, PcH am l NS nd nr DD z := ⟨_, _, _, _, _, rfl, rfl, rfl, rfl, rfl⟩
  have HA : Hid (PcH am l NS nd nr DD z) := hA
  have HTD : Hid (szD shCommit (NS, nd, nr, ()) ≤ 1073741824 ∧ szD (.list .bool) DD ≤ 1073741824) := Hid.intro (pch_sz hA)
  clear hA
  go_enter Tryd.func6, Tryd.ntmps6
  by_cases ln0 : (1048576 : Int) < (am.length : Int)
  · go_wp2
    go_ret
    exact ⟨rfl, Below.refl _ _⟩
  have HS0 : Hid (szD (.list .int) am ≤ 1073741824) := Hid.intro (by rw [sz_ints]; omega)
  have HX0 : Hid (szD (.list .int) am ≤ 1048576) := Hid.intro (by rw [sz_ints]; omega)
  go_wp2_with fail
  refine (szCommitStepS_n a1 k1 l _ _ (by omega) (by omega) HF1.out (HL1.out.next (Below.refl _ _))).mono ?_
  rintro r w1 ⟨⟨y1, rfl, hy1⟩, hb⟩
  have HB1 : Hid (Below w.heap.size w w1) := below_next (Below.refl _ _) hb
  have sz1 : w.heap.size ≤ w1.heap.size := hb.size
  clear hb 
  by_cases ng1 : y1 < 0
  · clear hy1
    go_wp2
    go_ret
    exact ⟨rfl, HB1.out⟩
  have HS1 : Hid (szD (.list shCommitStep) l ≤ 1073741824) := Hid.intro (by rcases hy1 with e | e <;> omega)
  have HX1 : Hid (szD (.list shCommitStep) l ≤ 1048576) := Hid.intro (by rcases hy1 with e | e <;> omega)
  have hb1 : 0 ≤ y1 ∧ y1 ≤ 1048576 := by rcases hy1 with e | e <;> omega
  clear hy1
  obtain ⟨cn, hcn⟩ : ∃ c : Nat, c = cntT shCommit (NS, nd, nr, ()) := ⟨_, rfl⟩
  have HCN : Hid (cn = cntT shCommit (NS, nd, nr, ())) := hcn
  have hcnb : cn ≤ 100000000000 := by rw [hcn]; exact cnt_cm HTD.out.1
  clear hcn
  obtain ⟨cd, hcd⟩ : ∃ c : Nat, c = cntD (.list .bool) DD := ⟨_, rfl⟩
  have HCD : Hid (cd = cntD (.list .bool) DD) := hcd
  have hcdb : cd ≤ 100000000000 := by rw [hcd]; exact cnt_boolsC HTD.out.2
  clear hcd
  obtain ⟨cx, hcx⟩ : ∃ c : Nat, c = cntD (.list .int) am := ⟨_, rfl⟩
  have HCX : Hid (cx = cntD (.list .int) am) := hcx
  have hcxb : cx ≤ 100000000000 := by rw [hcx]; exact cnt_intsC HS0.out
  clear hcx
  obtain ⟨cy, hcy⟩ : ∃ c : Nat, c = cntD (.list shCommitStep) l := ⟨_, rfl⟩
  have HCY : Hid (cy = cntD (.list shCommitStep) l) := hcy
  have hcyb : cy ≤ 100000000000 := by rw [hcy]; exact cnt_csteps HS1.out
  clear hcy
  have hng0 : ¬ (1 + (cn : Int)) < 0 := by omega
  have hng1 : ¬ (1 + (cn : Int) + (cd : Int)) < 0 := by omega
  have hng2 : ¬ (1 + (cx : Int) + (cy : Int)) < 0 := by omega
  go_wp2_with fail
  refine (toIntS_n a0 k0 am _ HS0.out (HL0.out.next HB1.out)).mono ?_
  rintro r w2 ⟨p2, rfl, ho, hb⟩
  have HB2 : Hid (Below w.heap.size w w2) := below_next HB1.out hb
  have sz2 : w1.heap.size ≤ w2.heap.size := hb.size
  have D1_2 : Hid (Own w2 (.list .int) [.slice (some ⟨p2, 0, none⟩) am.length am.length] am (Btw w1.heap.size w2.heap.size)) := ho
  clear hb ho HB1
  go_wp2_with fail
  refine (toCommitStepS_n a1 k1 l _ HS1.out (HL1.out.next HB2.out)).mono ?_
  rintro r w3 ⟨p3, rfl, ho, hb⟩
  have HB3 : Hid (Below w.heap.size w w3) := below_next HB2.out hb
  have sz3 : w2.heap.size ≤ w3.heap.size := hb.size
  have D1_3 : Hid (Own w3 (.list .int) [.slice (some ⟨p2, 0, none⟩) am.length am.length] am (Btw w1.heap.size w2.heap.size)) := D1_2.out.next hb
  have D2_3 : Hid (Own w3 (.list shCommitStep) [.slice (some ⟨p3, 0, none⟩) l.length l.length] l (Btw w2.heap.size w3.heap.size)) := ho
  clear hb ho D1_2 HB2
  go_wp2_with fail
  refine (specPlayCommit_l (some ⟨p2, 0, none⟩) am.length am (some ⟨p3, 0, none⟩) l.length l _ NS nd nr DD z HA.out HS0.out HS1.out D1_3.out.lies D2_3.out.lies).mono ?_
  rintro r w4 hT
  obtain ⟨cs9, v9, S4a, S4b, rfl, ho, hod, hs1, hs2, hb⟩ := hT
  obtain ⟨p4_1, q4_1, _, hev, _⟩ := own_Commit ho
  subst hev
  obtain ⟨p4_d, q4_d, hvd⟩ := own_form hod
  simp only [List.cons.injEq, and_true] at hvd
  subst hvd
  have HSS4 : Hid ((∀ k, S4a k → w3.heap.size ≤ k ∧ k < w4.heap.size) ∧ (∀ k, S4b k → w3.heap.size ≤ k ∧ k < w4.heap.size) ∧ (∀ k, S4a k → ¬ S4b k)) := ⟨fun k hk => (hs1 k hk).1, hs2, fun k hk => (hs1 k hk).2⟩
  have hT := trivial
  have HB4 : Hid (Below w.heap.size w w4) := below_next HB3.out hb
  have sz4 : w3.heap.size ≤ w4.heap.size := hb.size
  have D1_4 : Hid (Own w4 (.list .int) [.slice (some ⟨p2, 0, none⟩) am.length am.length] am (Btw w1.heap.size w2.heap.size)) := D1_3.out.next hb
  have D2_4 : Hid (Own w4 (.list shCommitStep) [.slice (some ⟨p3, 0, none⟩) l.length l.length] l (Btw w2.heap.size w3.heap.size)) := D2_3.out.next hb
  have SP_4 : Hid (Own w4 shCommit [.slice p4_1 NS.length q4_1, .int .i64 nd, .int .i64 nr] (NS, nd, nr, ()) S4a) := ho
  have SD_4 : Hid (Own w4 (.list .bool) [.slice p4_d DD.length q4_d] DD S4b) := hod
  clear hb ho hod hT hs1 hs2 D1_3 D2_3 HB3
  clear D1_4
  clear D2_4
  go_wp2_with fail
  obtain ⟨w5, hw5⟩ : ∃ x, x = w4.alloc (.cells #[.slice p4_1 NS.length q4_1, .int .i64 nd, .int .i64 nr] 29) := ⟨_, rfl⟩
  have hb : Below w4.heap.size w4 w5 := hw5 ▸ Go.Joins.below_alloc1 _ _
  have HB5 : Hid (Below w.heap.size w w5) := below_next HB4.out hb
  have sz5 : w4.heap.size < w5.heap.size := by rw [hw5]; simp
  have SP_5 : Hid (Own w5 shCommit [.slice p4_1 NS.length q4_1, .int .i64 nd, .int .i64 nr] (NS, nd, nr, ()) S4a) := SP_4.out.next hb
  have SD_5 : Hid (Own w5 (.list .bool) [.slice p4_d DD.length q4_d] DD S4b) := SD_4.out.next hb
  have W_5 : Hid (Bx w5 w4.heap.size [.slice p4_1 NS.length q4_1, .int .i64 nd, .int .i64 nr]) := hw5 ▸ Bx.new w4 [.slice p4_1 NS.length q4_1, .int .i64 nd, .int .i64 nr] _
  rw [← hw5]
  clear hb hw5 SP_4 SD_4 HB4
  refine (toIntS_n a0 k0 am _ HS0.out (HL0.out.next HB5.out)).mono ?_
  rintro r w6 ⟨p6, rfl, ho, hb⟩
  have HB6 : Hid (Below w.heap.size w w6) := below_next HB5.out hb
  have sz6 : w5.heap.size ≤ w6.heap.size := hb.size
  have SP_6 : Hid (Own w6 shCommit [.slice p4_1 NS.length q4_1, .int .i64 nd, .int .i64 nr] (NS, nd, nr, ()) S4a) := SP_5.out.next hb
  have SD_6 : Hid (Own w6 (.list .bool) [.slice p4_d DD.length q4_d] DD S4b) := SD_5.out.next hb
  have W_6 : Hid (Bx w6 w4.heap.size [.slice p4_1 NS.length q4_1, .int .i64 nd, .int .i64 nr]) := W_5.out.next hb
  have P1_6 : Hid (Own w6 (.list .int) [.slice (some ⟨p6, 0, none⟩) am.length am.length] am (Btw w5.heap.size w6.heap.size)) := ho
  clear hb ho SP_5 SD_5 W_5 HB5
  go_wp2_with fail
  refine (toCommitStepS_n a1 k1 l _ HS1.out (HL1.out.next HB6.out)).mono ?_
  rintro r w7 ⟨p7, rfl, ho, hb⟩
  have HB7 : Hid (Below w.heap.size w w7) := below_next HB6.out hb
  have sz7 : w6.heap.size ≤ w7.heap.size := hb.size
  have SP_7 : Hid (Own w7 shCommit [.slice p4_1 NS.length q4_1, .int .i64 nd, .int .i64 nr] (NS, nd, nr, ()) S4a) := SP_6.out.next hb
  have SD_7 : Hid (Own w7 (.list .bool) [.slice p4_d DD.length q4_d] DD S4b) := SD_6.out.next hb
  have W_7 : Hid (Bx w7 w4.heap.size [.slice p4_1 NS.length q4_1, .int .i64 nd, .int .i64 nr]) := W_6.out.next hb
  have P1_7 : Hid (Own w7 (.list .int) [.slice (some ⟨p6, 0, none⟩) am.length am.length] am (Btw w5.heap.size w6.heap.size)) := P1_6.out.next hb
  have P2_7 : Hid (Own w7 (.list shCommitStep) [.slice (some ⟨p7, 0, none⟩) l.length l.length] l (Btw w6.heap.size w7.heap.size)) := ho
  clear hb ho SP_6 SD_6 W_6 P1_6 HB6
  go_wp2_with fail
  refine (playCommit_l (some ⟨p6, 0, none⟩) am.length am (some ⟨p7, 0, none⟩) l.length l _ NS nd nr DD z HA.out HS0.out HS1.out (HFL.out.next HB7.out HFL.out.lt) P1_7.out.lies P2_7.out.lies).mono ?_
  rintro r w8 hT
  obtain ⟨cs9, v9, S8a, S8b, rfl, ho, hod, hs1, hs2, hb⟩ := hT
  obtain ⟨p8_1, q8_1, _, hev, _⟩ := own_Commit ho
  subst hev
  obtain ⟨p8_d, q8_d, hvd⟩ := own_form hod
  simp only [List.cons.injEq, and_true] at hvd
  subst hvd
  have HSS8 : Hid ((∀ k, S8a k → w7.heap.size ≤ k ∧ k < w8.heap.size) ∧ (∀ k, S8b k → w7.heap.size ≤ k ∧ k < w8.heap.size) ∧ (∀ k, S8a k → ¬ S8b k)) := ⟨fun k hk => (hs1 k hk).1, hs2, fun k hk => (hs1 k hk).2⟩
  have hT := trivial
  have HB8 : Hid (Below w.heap.size w w8) := below_next HB7.out hb
  have sz8 : w7.heap.size ≤ w8.heap.size := hb.size
  have SP_8 : Hid (Own w8 shCommit [.slice p4_1 NS.length q4_1, .int .i64 nd, .int .i64 nr] (NS, nd, nr, ()) S4a) := SP_7.out.next hb
  have SD_8 : Hid (Own w8 (.list .bool) [.slice p4_d DD.length q4_d] DD S4b) := SD_7.out.next hb
  have W_8 : Hid (Bx w8 w4.heap.size [.slice p4_1 NS.length q4_1, .int .i64 nd, .int .i64 nr]) := W_7.out.next hb
  have P1_8 : Hid (Own w8 (.list .int) [.slice (some ⟨p6, 0, none⟩) am.length am.length] am (Btw w5.heap.size w6.heap.size)) := P1_7.out.next hb
  have P2_8 : Hid (Own w8 (.list shCommitStep) [.slice (some ⟨p7, 0, none⟩) l.length l.length] l (Btw w6.heap.size w7.heap.size)) := P2_7.out.next hb
  have GP_8 : Hid (Own w8 shCommit [.slice p8_1 NS.length q8_1, .int .i64 nd, .int .i64 nr] (NS, nd, nr, ()) S8a) := ho
  have GD_8 : Hid (Own w8 (.list .bool) [.slice p8_d DD.length q8_d] DD S8b) := hod
  clear hb ho hod hT hs1 hs2 SP_7 SD_7 W_7 P1_7 P2_7 HB7
  have cW0 := W_8.out.cell 0 rfl
  have cW1 := W_8.out.cell 1 rfl
  have cW2 := W_8.out.cell 2 rfl
  have zW := W_8.out.2
  go_wp2_with fail
  obtain ⟨w9, hw9⟩ : ∃ x, x = w8.alloc (.cells #[.slice p8_1 NS.length q8_1, .int .i64 nd, .int .i64 nr] 29) := ⟨_, rfl⟩
  have hb : Below w8.heap.size w8 w9 := hw9 ▸ Go.Joins.below_alloc1 _ _
  have HB9 : Hid (Below w.heap.size w w9) := below_next HB8.out hb
  have sz9 : w8.heap.size < w9.heap.size := by rw [hw9]; simp
  have SP_9 : Hid (Own w9 shCommit [.slice p4_1 NS.length q4_1, .int .i64 nd, .int .i64 nr] (NS, nd, nr, ()) S4a) := SP_8.out.next hb
  have SD_9 : Hid (Own w9 (.list .bool) [.slice p4_d DD.length q4_d] DD S4b) := SD_8.out.next hb
  have W_9 : Hid (Bx w9 w4.heap.size [.slice p4_1 NS.length q4_1, .int .i64 nd, .int .i64 nr]) := W_8.out.next hb
  have P1_9 : Hid (Own w9 (.list .int) [.slice (some ⟨p6, 0, none⟩) am.length am.length] am (Btw w5.heap.size w6.heap.size)) := P1_8.out.next hb
  have P2_9 : Hid (Own w9 (.list shCommitStep) [.slice (some ⟨p7, 0, none⟩) l.length l.length] l (Btw w6.heap.size w7.heap.size)) := P2_8.out.next hb
  have GP_9 : Hid (Own w9 shCommit [.slice p8_1 NS.length q8_1, .int .i64 nd, .int .i64 nr] (NS, nd, nr, ()) S8a) := GP_8.out.next hb
  have GD_9 : Hid (Own w9 (.list .bool) [.slice p8_d DD.length q8_d] DD S8b) := GD_8.out.next hb
  have G_9 : Hid (Bx w9 w8.heap.size [.slice p8_1 NS.length q8_1, .int .i64 nd, .int .i64 nr]) := hw9 ▸ Bx.new w8 [.slice p8_1 NS.length q8_1, .int .i64 nd, .int .i64 nr] _
  rw [← hw9]
  clear hb hw9 cW0 cW1 cW2 zW SP_8 SD_8 W_8 P1_8 P2_8 GP_8 GD_8 HB8
  refine (eqCommit_n [.slice p8_1 NS.length q8_1, .int .i64 nd, .int .i64 nr] [.slice p4_1 NS.length q4_1, .int .i64 nd, .int .i64 nr] NS nd nr _ HTD.out.1 GP_9.out.lies SP_9.out.lies).mono ?_
  rintro r w10 ⟨rfl, hb⟩
  have HB10 : Hid (Below w.heap.size w w10) := below_next HB9.out hb
  have sz10 : w9.heap.size ≤ w10.heap.size := hb.size
  have SP_10 : Hid (Own w10 shCommit [.slice p4_1 NS.length q4_1, .int .i64 nd, .int .i64 nr] (NS, nd, nr, ()) S4a) := SP_9.out.next hb
  have SD_10 : Hid (Own w10 (.list .bool) [.slice p4_d DD.length q4_d] DD S4b) := SD_9.out.next hb
  have W_10 : Hid (Bx w10 w4.heap.size [.slice p4_1 NS.length q4_1, .int .i64 nd, .int .i64 nr]) := W_9.out.next hb
  have P1_10 : Hid (Own w10 (.list .int) [.slice (some ⟨p6, 0, none⟩) am.length am.length] am (Btw w5.heap.size w6.heap.size)) := P1_9.out.next hb
  have P2_10 : Hid (Own w10 (.list shCommitStep) [.slice (some ⟨p7, 0, none⟩) l.length l.length] l (Btw w6.heap.size w7.heap.size)) := P2_9.out.next hb
  have GP_10 : Hid (Own w10 shCommit [.slice p8_1 NS.length q8_1, .int .i64 nd, .int .i64 nr] (NS, nd, nr, ()) S8a) := GP_9.out.next hb
  have GD_10 : Hid (Own w10 (.list .bool) [.slice p8_d DD.length q8_d] DD S8b) := GD_9.out.next hb
  have G_10 : Hid (Bx w10 w8.heap.size [.slice p8_1 NS.length q8_1, .int .i64 nd, .int .i64 nr]) := G_9.out.next hb
  clear hb SP_9 SD_9 W_9 P1_9 P2_9 GP_9 GD_9 G_9 HB9
  go_wp2_with fail
  refine (eqBoolS_n p8_d p4_d q8_d q4_d DD _ HTD.out.2 GD_10.out.lies SD_10.out.lies).mono ?_
  rintro r w11 ⟨rfl, hb⟩
  have HB11 : Hid (Below w.heap.size w w11) := below_next HB10.out hb
  have sz11 : w10.heap.size ≤ w11.heap.size := hb.size
  have SP_11 : Hid (Own w11 shCommit [.slice p4_1 NS.length q4_1, .int .i64 nd, .int .i64 nr] (NS, nd, nr, ()) S4a) := SP_10.out.next hb
  have SD_11 : Hid (Own w11 (.list .bool) [.slice p4_d DD.length q4_d] DD S4b) := SD_10.out.next hb
  have W_11 : Hid (Bx w11 w4.heap.size [.slice p4_1 NS.length q4_1, .int .i64 nd, .int .i64 nr]) := W_10.out.next hb
  have P1_11 : Hid (Own w11 (.list .int) [.slice (some ⟨p6, 0, none⟩) am.length am.length] am (Btw w5.heap.size w6.heap.size)) := P1_10.out.next hb
  have P2_11 : Hid (Own w11 (.list shCommitStep) [.slice (some ⟨p7, 0, none⟩) l.length l.length] l (Btw w6.heap.size w7.heap.size)) := P2_10.out.next hb
  have GP_11 : Hid (Own w11 shCommit [.slice p8_1 NS.length q8_1, .int .i64 nd, .int .i64 nr] (NS, nd, nr, ()) S8a) := GP_10.out.next hb
  have GD_11 : Hid (Own w11 (.list .bool) [.slice p8_d DD.length q8_d] DD S8b) := GD_10.out.next hb
  have G_11 : Hid (Bx w11 w8.heap.size [.slice p8_1 NS.length q8_1, .int .i64 nd, .int .i64 nr]) := G_10.out.next hb
  clear hb SP_10 SD_10 W_10 P1_10 P2_10 GP_10 GD_10 G_10 HB10
  go_wp2_with fail
  refine (toIntS_n a0 k0 am _ HS0.out (HL0.out.next HB11.out)).mono ?_
  rintro r w12 ⟨p12, rfl, ho, hb⟩
  have HB12 : Hid (Below w.heap.size w w12) := below_next HB11.out hb
  have sz12 : w11.heap.size ≤ w12.heap.size := hb.size
  have SP_12 : Hid (Own w12 shCommit [.slice p4_1 NS.length q4_1, .int .i64 nd, .int .i64 nr] (NS, nd, nr, ()) S4a) := SP_11.out.next hb
  have SD_12 : Hid (Own w12 (.list .bool) [.slice p4_d DD.length q4_d] DD S4b) := SD_11.out.next hb
  have W_12 : Hid (Bx w12 w4.heap.size [.slice p4_1 NS.length q4_1, .int .i64 nd, .int .i64 nr]) := W_11.out.next hb
  have P1_12 : Hid (Own w12 (.list .int) [.slice (some ⟨p6, 0, none⟩) am.length am.length] am (Btw w5.heap.size w6.heap.size)) := P1_11.out.next hb
  have P2_12 : Hid (Own w12 (.list shCommitStep) [.slice (some ⟨p7, 0, none⟩) l.length l.length] l (Btw w6.heap.size w7.heap.size)) := P2_11.out.next hb
  have GP_12 : Hid (Own w12 shCommit [.slice p8_1 NS.length q8_1, .int .i64 nd, .int .i64 nr] (NS, nd, nr, ()) S8a) := GP_11.out.next hb
  have GD_12 : Hid (Own w12 (.list .bool) [.slice p8_d DD.length q8_d] DD S8b) := GD_11.out.next hb
  have G_12 : Hid (Bx w12 w8.heap.size [.slice p8_1 NS.length q8_1, .int .i64 nd, .int .i64 nr]) := G_11.out.next hb
  have D_12 : Hid (Own w12 (.list .int) [.slice (some ⟨p12, 0, none⟩) am.length am.length] am (Btw w11.heap.size w12.heap.size)) := ho
  clear hb ho SP_11 SD_11 W_11 P1_11 P2_11 GP_11 GD_11 G_11 HB11
  go_wp2_with fail
  refine (eqIntS_n (some ⟨p6, 0, none⟩) (some ⟨p12, 0, none⟩) am.length am.length am _ HS0.out P1_12.out.lies D_12.out.lies).mono ?_
  rintro r w13 ⟨rfl, hb⟩
  have HB13 : Hid (Below w.heap.size w w13) := below_next HB12.out hb
  have sz13 : w12.heap.size ≤ w13.heap.size := hb.size
  have SP_13 : Hid (Own w13 shCommit [.slice p4_1 NS.length q4_1, .int .i64 nd, .int .i64 nr] (NS, nd, nr, ()) S4a) := SP_12.out.next hb
  have SD_13 : Hid (Own w13 (.list .bool) [.slice p4_d DD.length q4_d] DD S4b) := SD_12.out.next hb
  have W_13 : Hid (Bx w13 w4.heap.size [.slice p4_1 NS.length q4_1, .int .i64 nd, .int .i64 nr]) := W_12.out.next hb
  have P1_13 : Hid (Own w13 (.list .int) [.slice (some ⟨p6, 0, none⟩) am.length am.length] am (Btw w5.heap.size w6.heap.size)) := P1_12.out.next hb
  have P2_13 : Hid (Own w13 (.list shCommitStep) [.slice (some ⟨p7, 0, none⟩) l.length l.length] l (Btw w6.heap.size w7.heap.size)) := P2_12.out.next hb
  have GP_13 : Hid (Own w13 shCommit [.slice p8_1 NS.length q8_1, .int .i64 nd, .int .i64 nr] (NS, nd, nr, ()) S8a) := GP_12.out.next hb
  have GD_13 : Hid (Own w13 (.list .bool) [.slice p8_d DD.length q8_d] DD S8b) := GD_12.out.next hb
  have G_13 : Hid (Bx w13 w8.heap.size [.slice p8_1 NS.length q8_1, .int .i64 nd, .int .i64 nr]) := G_12.out.next hb
  have D_13 : Hid (Own w13 (.list .int) [.slice (some ⟨p12, 0, none⟩) am.length am.length] am (Btw w11.heap.size w12.heap.size)) := D_12.out.next hb
  clear hb SP_12 SD_12 W_12 P1_12 P2_12 GP_12 GD_12 G_12 D_12 HB12
  clear D_13
  go_wp2_with fail
  refine (toCommitStepS_n a1 k1 l _ HS1.out (HL1.out.next HB13.out)).mono ?_
  rintro r w14 ⟨p14, rfl, ho, hb⟩
  have HB14 : Hid (Below w.heap.size w w14) := below_next HB13.out hb
  have sz14 : w13.heap.size ≤ w14.heap.size := hb.size
  have SP_14 : Hid (Own w14 shCommit [.slice p4_1 NS.length q4_1, .int .i64 nd, .int .i64 nr] (NS, nd, nr, ()) S4a) := SP_13.out.next hb
  have SD_14 : Hid (Own w14 (.list .bool) [.slice p4_d DD.length q4_d] DD S4b) := SD_13.out.next hb
  have W_14 : Hid (Bx w14 w4.heap.size [.slice p4_1 NS.length q4_1, .int .i64 nd, .int .i64 nr]) := W_13.out.next hb
  have P1_14 : Hid (Own w14 (.list .int) [.slice (some ⟨p6, 0, none⟩) am.length am.length] am (Btw w5.heap.size w6.heap.size)) := P1_13.out.next hb
  have P2_14 : Hid (Own w14 (.list shCommitStep) [.slice (some ⟨p7, 0, none⟩) l.length l.length] l (Btw w6.heap.size w7.heap.size)) := P2_13.out.next hb
  have GP_14 : Hid (Own w14 shCommit [.slice p8_1 NS.length q8_1, .int .i64 nd, .int .i64 nr] (NS, nd, nr, ()) S8a) := GP_13.out.next hb
  have GD_14 : Hid (Own w14 (.list .bool) [.slice p8_d DD.length q8_d] DD S8b) := GD_13.out.next hb
  have G_14 : Hid (Bx w14 w8.heap.size [.slice p8_1 NS.length q8_1, .int .i64 nd, .int .i64 nr]) := G_13.out.next hb
  have D_14 : Hid (Own w14 (.list shCommitStep) [.slice (some ⟨p14, 0, none⟩) l.length l.length] l (Btw w13.heap.size w14.heap.size)) := ho
  clear hb ho SP_13 SD_13 W_13 P1_13 P2_13 GP_13 GD_13 G_13 HB13
  go_wp2_with fail
  refine (eqCommitStepS_n (some ⟨p7, 0, none⟩) (some ⟨p14, 0, none⟩) l.length l.length l _ HS1.out P2_14.out.lies D_14.out.lies).mono ?_
  rintro r w15 ⟨rfl, hb⟩
  have HB15 : Hid (Below w.heap.size w w15) := below_next HB14.out hb
  have sz15 : w14.heap.size ≤ w15.heap.size := hb.size
  have SP_15 : Hid (Own w15 shCommit [.slice p4_1 NS.length q4_1, .int .i64 nd, .int .i64 nr] (NS, nd, nr, ()) S4a) := SP_14.out.next hb
  have SD_15 : Hid (Own w15 (.list .bool) [.slice p4_d DD.length q4_d] DD S4b) := SD_14.out.next hb
  have W_15 : Hid (Bx w15 w4.heap.size [.slice p4_1 NS.length q4_1, .int .i64 nd, .int .i64 nr]) := W_14.out.next hb
  have P1_15 : Hid (Own w15 (.list .int) [.slice (some ⟨p6, 0, none⟩) am.length am.length] am (Btw w5.heap.size w6.heap.size)) := P1_14.out.next hb
  have P2_15 : Hid (Own w15 (.list shCommitStep) [.slice (some ⟨p7, 0, none⟩) l.length l.length] l (Btw w6.heap.size w7.heap.size)) := P2_14.out.next hb
  have GP_15 : Hid (Own w15 shCommit [.slice p8_1 NS.length q8_1, .int .i64 nd, .int .i64 nr] (NS, nd, nr, ()) S8a) := GP_14.out.next hb
  have GD_15 : Hid (Own w15 (.list .bool) [.slice p8_d DD.length q8_d] DD S8b) := GD_14.out.next hb
  have G_15 : Hid (Bx w15 w8.heap.size [.slice p8_1 NS.length q8_1, .int .i64 nd, .int .i64 nr]) := G_14.out.next hb
  have D_15 : Hid (Own w15 (.list shCommitStep) [.slice (some ⟨p14, 0, none⟩) l.length l.length] l (Btw w13.heap.size w14.heap.size)) := D_14.out.next hb
  clear hb SP_14 SD_14 W_14 P1_14 P2_14 GP_14 GD_14 G_14 D_14 HB14
  clear D_15
  go_wp2_with fail
  refine ((show Calls _ _ _ _ (MkP (.list .int) [.slice (some ⟨p6, 0, none⟩) am.length am.length] (mkD (.list .int) am 1) (1 + (cx : Int)) (Btw w5.heap.size w6.heap.size) _) from HCX.out ▸ markIntS_n (some ⟨p6, 0, none⟩) am.length am 1 (Btw w5.heap.size w6.heap.size) _ (by omega) (by have h1 := HCX.out; rw [← h1]; omega) HS0.out P1_15.out)).mono ?_
  rintro r w16 ⟨rfl, ho, ht⟩
  have HB16 : Hid (Below w.heap.size w w16) := Hid.intro (HB15.out.trans (ht.below (fun k hk => by simp only [Btw] at hk; omega) HB15.out.size))
  have sz16 : w15.heap.size ≤ w16.heap.size := ht.size
  have SP_16 : Hid (Own w16 shCommit [.slice p4_1 NS.length q4_1, .int .i64 nd, .int .i64 nr] (NS, nd, nr, ()) S4a) := SP_15.out.turn ht (fun k e f => by have be := HSS4.out.1 k e; simp only [Btw] at f; omega)
  have SD_16 : Hid (Own w16 (.list .bool) [.slice p4_d DD.length q4_d] DD S4b) := SD_15.out.turn ht (fun k e f => by have be := HSS4.out.2.1 k e; simp only [Btw] at f; omega)
  have W_16 : Hid (Bx w16 w4.heap.size [.slice p4_1 NS.length q4_1, .int .i64 nd, .int .i64 nr]) := W_15.out.turnS ht (fun hk => by simp only [Btw] at hk; omega)
  have P1_16 : Hid (Own w16 (.list .int) [.slice (some ⟨p6, 0, none⟩) am.length am.length] (mkD (.list .int) am 1) (Btw w5.heap.size w6.heap.size)) := ho
  have P2_16 : Hid (Own w16 (.list shCommitStep) [.slice (some ⟨p7, 0, none⟩) l.length l.length] l (Btw w6.heap.size w7.heap.size)) := P2_15.out.turn ht (fun k e f => by simp only [Btw] at e; simp only [Btw] at f; omega)
  have GP_16 : Hid (Own w16 shCommit [.slice p8_1 NS.length q8_1, .int .i64 nd, .int .i64 nr] (NS, nd, nr, ()) S8a) := GP_15.out.turn ht (fun k e f => by have be := HSS8.out.1 k e; simp only [Btw] at f; omega)
  have GD_16 : Hid (Own w16 (.list .bool) [.slice p8_d DD.length q8_d] DD S8b) := GD_15.out.turn ht (fun k e f => by have be := HSS8.out.2.1 k e; simp only [Btw] at f; omega)
  have G_16 : Hid (Bx w16 w8.heap.size [.slice p8_1 NS.length q8_1, .int .i64 nd, .int .i64 nr]) := G_15.out.turnS ht (fun hk => by simp only [Btw] at hk; omega)
  clear ht ho SP_15 SD_15 W_15 P1_15 P2_15 GP_15 GD_15 G_15 HB15
  go_wp2_with fail
  refine ((show Calls _ _ _ _ (MkP (.list shCommitStep) [.slice (some ⟨p7, 0, none⟩) l.length l.length] (mkD (.list shCommitStep) l (1 + (cx : Int))) (1 + (cx : Int) + (cy : Int)) (Btw w6.heap.size w7.heap.size) _) from HCY.out ▸ markCommitStepS_n (some ⟨p7, 0, none⟩) l.length l (1 + (cx : Int)) (Btw w6.heap.size w7.heap.size) _ (by omega) (by have h1 := HCY.out; rw [← h1]; omega) HS1.out P2_16.out)).mono ?_
  rintro r w17 ⟨rfl, ho, ht⟩
  have HB17 : Hid (Below w.heap.size w w17) := Hid.intro (HB16.out.trans (ht.below (fun k hk => by simp only [Btw] at hk; omega) HB16.out.size))
  have sz17 : w16.heap.size ≤ w17.heap.size := ht.size
  have SP_17 : Hid (Own w17 shCommit [.slice p4_1 NS.length q4_1, .int .i64 nd, .int .i64 nr] (NS, nd, nr, ()) S4a) := SP_16.out.turn ht (fun k e f => by have be := HSS4.out.1 k e; simp only [Btw] at f; omega)
  have SD_17 : Hid (Own w17 (.list .bool) [.slice p4_d DD.length q4_d] DD S4b) := SD_16.out.turn ht (fun k e f => by have be := HSS4.out.2.1 k e; simp only [Btw] at f; omega)
  have W_17 : Hid (Bx w17 w4.heap.size [.slice p4_1 NS.length q4_1, .int .i64 nd, .int .i64 nr]) := W_16.out.turnS ht (fun hk => by simp only [Btw] at hk; omega)
  have P1_17 : Hid (Own w17 (.list .int) [.slice (some ⟨p6, 0, none⟩) am.length am.length] (mkD (.list .int) am 1) (Btw w5.heap.size w6.heap.size)) := P1_16.out.turn ht (fun k e f => by simp only [Btw] at e; simp only [Btw] at f; omega)
  have P2_17 : Hid (Own w17 (.list shCommitStep) [.slice (some ⟨p7, 0, none⟩) l.length l.length] (mkD (.list shCommitStep) l (1 + (cx : Int))) (Btw w6.heap.size w7.heap.size)) := ho
  have GP_17 : Hid (Own w17 shCommit [.slice p8_1 NS.length q8_1, .int .i64 nd, .int .i64 nr] (NS, nd, nr, ()) S8a) := GP_16.out.turn ht (fun k e f => by have be := HSS8.out.1 k e; simp only [Btw] at f; omega)
  have GD_17 : Hid (Own w17 (.list .bool) [.slice p8_d DD.length q8_d] DD S8b) := GD_16.out.turn ht (fun k e f => by have be := HSS8.out.2.1 k e; simp only [Btw] at f; omega)
  have G_17 : Hid (Bx w17 w8.heap.size [.slice p8_1 NS.length q8_1, .int .i64 nd, .int .i64 nr]) := G_16.out.turnS ht (fun hk => by simp only [Btw] at hk; omega)
  clear ht ho SP_16 SD_16 W_16 P1_16 P2_16 GP_16 GD_16 G_16 HB16
  clear P1_17
  clear P2_17
  have cW0 := W_17.out.cell 0 rfl
  have cW1 := W_17.out.cell 1 rfl
  have cW2 := W_17.out.cell 2 rfl
  have zW := W_17.out.2
  have cG0 := G_17.out.cell 0 rfl
  have cG1 := G_17.out.cell 1 rfl
  have cG2 := G_17.out.cell 2 rfl
  have zG := G_17.out.2
  go_wp2_with fail
  refine (eqCommit_n [.slice p8_1 NS.length q8_1, .int .i64 nd, .int .i64 nr] [.slice p4_1 NS.length q4_1, .int .i64 nd, .int .i64 nr] NS nd nr _ HTD.out.1 GP_17.out.lies SP_17.out.lies).mono ?_
  rintro r w18 ⟨rfl, hb⟩
  have HB18 : Hid (Below w.heap.size w w18) := below_next HB17.out hb
  have sz18 : w17.heap.size ≤ w18.heap.size := hb.size
  have SP_18 : Hid (Own w18 shCommit [.slice p4_1 NS.length q4_1, .int .i64 nd, .int .i64 nr] (NS, nd, nr, ()) S4a) := SP_17.out.next hb
  have SD_18 : Hid (Own w18 (.list .bool) [.slice p4_d DD.length q4_d] DD S4b) := SD_17.out.next hb
  have W_18 : Hid (Bx w18 w4.heap.size [.slice p4_1 NS.length q4_1, .int .i64 nd, .int .i64 nr]) := W_17.out.next hb
  have GP_18 : Hid (Own w18 shCommit [.slice p8_1 NS.length q8_1, .int .i64 nd, .int .i64 nr] (NS, nd, nr, ()) S8a) := GP_17.out.next hb
  have GD_18 : Hid (Own w18 (.list .bool) [.slice p8_d DD.length q8_d] DD S8b) := GD_17.out.next hb
  have G_18 : Hid (Bx w18 w8.heap.size [.slice p8_1 NS.length q8_1, .int .i64 nd, .int .i64 nr]) := G_17.out.next hb
  clear hb cW0 cW1 cW2 zW cG0 cG1 cG2 zG SP_17 SD_17 W_17 GP_17 GD_17 G_17 HB17
  go_wp2_with fail
  refine (eqBoolS_n p8_d p4_d q8_d q4_d DD _ HTD.out.2 GD_18.out.lies SD_18.out.lies).mono ?_
  rintro r w19 ⟨rfl, hb⟩
  have HB19 : Hid (Below w.heap.size w w19) := below_next HB18.out hb
  have sz19 : w18.heap.size ≤ w19.heap.size := hb.size
  have SP_19 : Hid (Own w19 shCommit [.slice p4_1 NS.length q4_1, .int .i64 nd, .int .i64 nr] (NS, nd, nr, ()) S4a) := SP_18.out.next hb
  have SD_19 : Hid (Own w19 (.list .bool) [.slice p4_d DD.length q4_d] DD S4b) := SD_18.out.next hb
  have W_19 : Hid (Bx w19 w4.heap.size [.slice p4_1 NS.length q4_1, .int .i64 nd, .int .i64 nr]) := W_18.out.next hb
  have GP_19 : Hid (Own w19 shCommit [.slice p8_1 NS.length q8_1, .int .i64 nd, .int .i64 nr] (NS, nd, nr, ()) S8a) := GP_18.out.next hb
  have GD_19 : Hid (Own w19 (.list .bool) [.slice p8_d DD.length q8_d] DD S8b) := GD_18.out.next hb
  have G_19 : Hid (Bx w19 w8.heap.size [.slice p8_1 NS.length q8_1, .int .i64 nd, .int .i64 nr]) := G_18.out.next hb
  clear hb SP_18 SD_18 W_18 GP_18 GD_18 G_18 HB18
  have cG0 := G_19.out.cell 0 rfl
  have cG1 := G_19.out.cell 1 rfl
  have cG2 := G_19.out.cell 2 rfl
  have zG := G_19.out.2
  go_wp2_with fail
  refine ((show Calls _ _ _ _ (MkP shCommit [.slice p8_1 NS.length q8_1, .int .i64 nd, .int .i64 nr] (mkT shCommit (NS, nd, nr, ()) 1) (1 + (cn : Int)) S8a _) from HCN.out ▸ markCommit_n [.slice p8_1 NS.length q8_1, .int .i64 nd, .int .i64 nr] NS nd nr 1 S8a _ (by decide) (by have h1 := HCN.out; rw [← h1]; omega) HTD.out.1 (fun k hk => by have := HSS8.out.1 k hk; omega) GP_19.out)).mono ?_
  rintro r w20 ⟨rfl, ho, ht⟩
  have HB20 : Hid (Below w.heap.size w w20) := Hid.intro (HB19.out.trans (ht.below (fun k hk => by have bhk := HSS8.out.1 k hk; omega) HB19.out.size))
  have sz20 : w19.heap.size ≤ w20.heap.size := ht.size
  have SP_20 : Hid (Own w20 shCommit [.slice p4_1 NS.length q4_1, .int .i64 nd, .int .i64 nr] (NS, nd, nr, ()) S4a) := SP_19.out.turn ht (fun k e f => by have be := HSS4.out.1 k e; have bf := HSS8.out.1 k f; omega)
  have SD_20 : Hid (Own w20 (.list .bool) [.slice p4_d DD.length q4_d] DD S4b) := SD_19.out.turn ht (fun k e f => by have be := HSS4.out.2.1 k e; have bf := HSS8.out.1 k f; omega)
  have W_20 : Hid (Bx w20 w4.heap.size [.slice p4_1 NS.length q4_1, .int .i64 nd, .int .i64 nr]) := W_19.out.turnS ht (fun hk => by have bhk := HSS8.out.1 _ hk; omega)
  have GP_20 : Hid (Own w20 shCommit [.slice p8_1 NS.length q8_1, .int .i64 nd, .int .i64 nr] (mkT shCommit (NS, nd, nr, ()) 1) S8a) := ho
  have GD_20 : Hid (Own w20 (.list .bool) [.slice p8_d DD.length q8_d] DD S8b) := GD_19.out.turn ht (fun k e f => HSS8.out.2.2 k f e)
  have G_20 : Hid (Bx w20 w8.heap.size [.slice p8_1 NS.length q8_1, .int .i64 nd, .int .i64 nr]) := G_19.out.turnS ht (fun hk => by have bhk := HSS8.out.1 _ hk; omega)
  clear ht ho cG0 cG1 cG2 zG SP_19 SD_19 W_19 GP_19 GD_19 G_19 HB19
  go_wp2_with fail
  refine ((show Calls _ _ _ _ (MkP (.list .bool) [.slice p8_d DD.length q8_d] (mkD (.list .bool) DD (1 + (cn : Int))) (1 + (cn : Int) + (cd : Int)) S8b _) from HCD.out ▸ markBoolS_n p8_d q8_d DD (1 + (cn : Int)) S8b _ (by omega) (by have h1 := HCD.out; rw [← h1]; omega) HTD.out.2 GD_20.out)).mono ?_
  rintro r w21 ⟨rfl, ho, ht⟩
  have HB21 : Hid (Below w.heap.size w w21) := Hid.intro (HB20.out.trans (ht.below (fun k hk => by have bhk := HSS8.out.2.1 k hk; omega) HB20.out.size))
  have sz21 : w20.heap.size ≤ w21.heap.size := ht.size
  have SP_21 : Hid (Own w21 shCommit [.slice p4_1 NS.length q4_1, .int .i64 nd, .int .i64 nr] (NS, nd, nr, ()) S4a) := SP_20.out.turn ht (fun k e f => by have be := HSS4.out.1 k e; have bf := HSS8.out.2.1 k f; omega)
  have SD_21 : Hid (Own w21 (.list .bool) [.slice p4_d DD.length q4_d] DD S4b) := SD_20.out.turn ht (fun k e f => by have be := HSS4.out.2.1 k e; have bf := HSS8.out.2.1 k f; omega)
  have W_21 : Hid (Bx w21 w4.heap.size [.slice p4_1 NS.length q4_1, .int .i64 nd, .int .i64 nr]) := W_20.out.turnS ht (fun hk => by have bhk := HSS8.out.2.1 _ hk; omega)
  have GP_21 : Hid (Own w21 shCommit [.slice p8_1 NS.length q8_1, .int .i64 nd, .int .i64 nr] (mkT shCommit (NS, nd, nr, ()) 1) S8a) := GP_20.out.turn ht (fun k e f => HSS8.out.2.2 k e f)
  have GD_21 : Hid (Own w21 (.list .bool) [.slice p8_d DD.length q8_d] (mkD (.list .bool) DD (1 + (cn : Int))) S8b) := ho
  have G_21 : Hid (Bx w21 w8.heap.size [.slice p8_1 NS.length q8_1, .int .i64 nd, .int .i64 nr]) := G_20.out.turnS ht (fun hk => by have bhk := HSS8.out.2.1 _ hk; omega)
  clear ht ho SP_20 SD_20 W_20 GP_20 GD_20 G_20 HB20
  have cG0 := G_21.out.cell 0 rfl
  have cG1 := G_21.out.cell 1 rfl
  have cG2 := G_21.out.cell 2 rfl
  have zG := G_21.out.2
  go_wp2_with fail
  refine ((show Calls _ _ _ _ (fun r w' => r = .returned (.int .i64 (1 + (cn : Int))) ∧ Below _ _ w') from HCN.out ▸ heldCommit_n [.slice p8_1 NS.length q8_1, .int .i64 nd, .int .i64 nr] NS nd nr 1 _ (by decide) (by have h1 := HCN.out; rw [← h1]; omega) HTD.out.1 GP_21.out.lies)).mono ?_
  rintro r w22 ⟨rfl, hb⟩
  have HB22 : Hid (Below w.heap.size w w22) := below_next HB21.out hb
  have sz22 : w21.heap.size ≤ w22.heap.size := hb.size
  have SP_22 : Hid (Own w22 shCommit [.slice p4_1 NS.length q4_1, .int .i64 nd, .int .i64 nr] (NS, nd, nr, ()) S4a) := SP_21.out.next hb
  have SD_22 : Hid (Own w22 (.list .bool) [.slice p4_d DD.length q4_d] DD S4b) := SD_21.out.next hb
  have W_22 : Hid (Bx w22 w4.heap.size [.slice p4_1 NS.length q4_1, .int .i64 nd, .int .i64 nr]) := W_21.out.next hb
  have GP_22 : Hid (Own w22 shCommit [.slice p8_1 NS.length q8_1, .int .i64 nd, .int .i64 nr] (mkT shCommit (NS, nd, nr, ()) 1) S8a) := GP_21.out.next hb
  have GD_22 : Hid (Own w22 (.list .bool) [.slice p8_d DD.length q8_d] (mkD (.list .bool) DD (1 + (cn : Int))) S8b) := GD_21.out.next hb
  have G_22 : Hid (Bx w22 w8.heap.size [.slice p8_1 NS.length q8_1, .int .i64 nd, .int .i64 nr]) := G_21.out.next hb
  clear hb cG0 cG1 cG2 zG SP_21 SD_21 W_21 GP_21 GD_21 G_21 HB21
  go_wp2_with fail
  refine ((show Calls _ _ _ _ (fun r w' => r = .returned (.int .i64 (1 + (cn : Int) + (cd : Int))) ∧ Below _ _ w') from HCD.out ▸ heldBoolS_n p8_d q8_d DD (1 + (cn : Int)) _ (by omega) (by have h1 := HCD.out; rw [← h1]; omega) HTD.out.2 GD_22.out.lies)).mono ?_
  rintro r w23 ⟨rfl, hb⟩
  have HB23 : Hid (Below w.heap.size w w23) := below_next HB22.out hb
  have sz23 : w22.heap.size ≤ w23.heap.size := hb.size
  have SP_23 : Hid (Own w23 shCommit [.slice p4_1 NS.length q4_1, .int .i64 nd, .int .i64 nr] (NS, nd, nr, ()) S4a) := SP_22.out.next hb
  have SD_23 : Hid (Own w23 (.list .bool) [.slice p4_d DD.length q4_d] DD S4b) := SD_22.out.next hb
  have W_23 : Hid (Bx w23 w4.heap.size [.slice p4_1 NS.length q4_1, .int .i64 nd, .int .i64 nr]) := W_22.out.next hb
  have GP_23 : Hid (Own w23 shCommit [.slice p8_1 NS.length q8_1, .int .i64 nd, .int .i64 nr] (mkT shCommit (NS, nd, nr, ()) 1) S8a) := GP_22.out.next hb
  have GD_23 : Hid (Own w23 (.list .bool) [.slice p8_d DD.length q8_d] (mkD (.list .bool) DD (1 + (cn : Int))) S8b) := GD_22.out.next hb
  have G_23 : Hid (Bx w23 w8.heap.size [.slice p8_1 NS.length q8_1, .int .i64 nd, .int .i64 nr]) := G_22.out.next hb
  clear hb SP_22 SD_22 W_22 GP_22 GD_22 G_22 HB22
  go_wp2_with fail
  refine (toIntS_n a0 k0 am _ HS0.out (HL0.out.next HB23.out)).mono ?_
  rintro r w24 ⟨p24, rfl, ho, hb⟩
  have HB24 : Hid (Below w.heap.size w w24) := below_next HB23.out hb
  have sz24 : w23.heap.size ≤ w24.heap.size := hb.size
  have SP_24 : Hid (Own w24 shCommit [.slice p4_1 NS.length q4_1, .int .i64 nd, .int .i64 nr] (NS, nd, nr, ()) S4a) := SP_23.out.next hb
  have SD_24 : Hid (Own w24 (.list .bool) [.slice p4_d DD.length q4_d] DD S4b) := SD_23.out.next hb
  have W_24 : Hid (Bx w24 w4.heap.size [.slice p4_1 NS.length q4_1, .int .i64 nd, .int .i64 nr]) := W_23.out.next hb
  have GP_24 : Hid (Own w24 shCommit [.slice p8_1 NS.length q8_1, .int .i64 nd, .int .i64 nr] (mkT shCommit (NS, nd, nr, ()) 1) S8a) := GP_23.out.next hb
  have GD_24 : Hid (Own w24 (.list .bool) [.slice p8_d DD.length q8_d] (mkD (.list .bool) DD (1 + (cn : Int))) S8b) := GD_23.out.next hb
  have G_24 : Hid (Bx w24 w8.heap.size [.slice p8_1 NS.length q8_1, .int .i64 nd, .int .i64 nr]) := G_23.out.next hb
  have D1_24 : Hid (Own w24 (.list .int) [.slice (some ⟨p24, 0, none⟩) am.length am.length] am (Btw w23.heap.size w24.heap.size)) := ho
  clear hb ho SP_23 SD_23 W_23 GP_23 GD_23 G_23 HB23
  go_wp2_with fail
  refine (toCommitStepS_n a1 k1 l _ HS1.out (HL1.out.next HB24.out)).mono ?_
  rintro r w25 ⟨p25, rfl, ho, hb⟩
  have HB25 : Hid (Below w.heap.size w w25) := below_next HB24.out hb
  have sz25 : w24.heap.size ≤ w25.heap.size := hb.size
  have SP_25 : Hid (Own w25 shCommit [.slice p4_1 NS.length q4_1, .int .i64 nd, .int .i64 nr] (NS, nd, nr, ()) S4a) := SP_24.out.next hb
  have SD_25 : Hid (Own w25 (.list .bool) [.slice p4_d DD.length q4_d] DD S4b) := SD_24.out.next hb
  have W_25 : Hid (Bx w25 w4.heap.size [.slice p4_1 NS.length q4_1, .int .i64 nd, .int .i64 nr]) := W_24.out.next hb
  have GP_25 : Hid (Own w25 shCommit [.slice p8_1 NS.length q8_1, .int .i64 nd, .int .i64 nr] (mkT shCommit (NS, nd, nr, ()) 1) S8a) := GP_24.out.next hb
  have GD_25 : Hid (Own w25 (.list .bool) [.slice p8_d DD.length q8_d] (mkD (.list .bool) DD (1 + (cn : Int))) S8b) := GD_24.out.next hb
  have G_25 : Hid (Bx w25 w8.heap.size [.slice p8_1 NS.length q8_1, .int .i64 nd, .int .i64 nr]) := G_24.out.next hb
  have D1_25 : Hid (Own w25 (.list .int) [.slice (some ⟨p24, 0, none⟩) am.length am.length] am (Btw w23.heap.size w24.heap.size)) := D1_24.out.next hb
  have D2_25 : Hid (Own w25 (.list shCommitStep) [.slice (some ⟨p25, 0, none⟩) l.length l.length] l (Btw w24.heap.size w25.heap.size)) := ho
  clear hb ho SP_24 SD_24 W_24 GP_24 GD_24 G_24 D1_24 HB24
  go_wp2_with fail
  refine (playCommit_l (some ⟨p24, 0, none⟩) am.length am (some ⟨p25, 0, none⟩) l.length l _ NS nd nr DD z HA.out HS0.out HS1.out (HFL.out.next HB25.out HFL.out.lt) D1_25.out.lies D2_25.out.lies).mono ?_
  rintro r w26 hT
  obtain ⟨cs9, v9, S26a, S26b, rfl, ho, hod, hs1, hs2, hb⟩ := hT
  obtain ⟨p26_1, q26_1, _, hev, _⟩ := own_Commit ho
  subst hev
  obtain ⟨p26_d, q26_d, hvd⟩ := own_form hod
  simp only [List.cons.injEq, and_true] at hvd
  subst hvd
  have HSS26 : Hid ((∀ k, S26a k → w25.heap.size ≤ k ∧ k < w26.heap.size) ∧ (∀ k, S26b k → w25.heap.size ≤ k ∧ k < w26.heap.size) ∧ (∀ k, S26a k → ¬ S26b k)) := ⟨fun k hk => (hs1 k hk).1, hs2, fun k hk => (hs1 k hk).2⟩
  have hT := trivial
  have HB26 : Hid (Below w.heap.size w w26) := below_next HB25.out hb
  have sz26 : w25.heap.size ≤ w26.heap.size := hb.size
  have SP_26 : Hid (Own w26 shCommit [.slice p4_1 NS.length q4_1, .int .i64 nd, .int .i64 nr] (NS, nd, nr, ()) S4a) := SP_25.out.next hb
  have SD_26 : Hid (Own w26 (.list .bool) [.slice p4_d DD.length q4_d] DD S4b) := SD_25.out.next hb
  have W_26 : Hid (Bx w26 w4.heap.size [.slice p4_1 NS.length q4_1, .int .i64 nd, .int .i64 nr]) := W_25.out.next hb
  have GP_26 : Hid (Own w26 shCommit [.slice p8_1 NS.length q8_1, .int .i64 nd, .int .i64 nr] (mkT shCommit (NS, nd, nr, ()) 1) S8a) := GP_25.out.next hb
  have GD_26 : Hid (Own w26 (.list .bool) [.slice p8_d DD.length q8_d] (mkD (.list .bool) DD (1 + (cn : Int))) S8b) := GD_25.out.next hb
  have G_26 : Hid (Bx w26 w8.heap.size [.slice p8_1 NS.length q8_1, .int .i64 nd, .int .i64 nr]) := G_25.out.next hb
  have D1_26 : Hid (Own w26 (.list .int) [.slice (some ⟨p24, 0, none⟩) am.length am.length] am (Btw w23.heap.size w24.heap.size)) := D1_25.out.next hb
  have D2_26 : Hid (Own w26 (.list shCommitStep) [.slice (some ⟨p25, 0, none⟩) l.length l.length] l (Btw w24.heap.size w25.heap.size)) := D2_25.out.next hb
  have HP_26 : Hid (Own w26 shCommit [.slice p26_1 NS.length q26_1, .int .i64 nd, .int .i64 nr] (NS, nd, nr, ()) S26a) := ho
  have HD_26 : Hid (Own w26 (.list .bool) [.slice p26_d DD.length q26_d] DD S26b) := hod
  clear hb ho hod hT hs1 hs2 SP_25 SD_25 W_25 GP_25 GD_25 G_25 D1_25 D2_25 HB25
  clear D1_26
  clear D2_26
  have cW0 := W_26.out.cell 0 rfl
  have cW1 := W_26.out.cell 1 rfl
  have cW2 := W_26.out.cell 2 rfl
  have zW := W_26.out.2
  go_wp2_with fail
  obtain ⟨w27, hw27⟩ : ∃ x, x = w26.alloc (.cells #[.slice p26_1 NS.length q26_1, .int .i64 nd, .int .i64 nr] 29) := ⟨_, rfl⟩
  have hb : Below w26.heap.size w26 w27 := hw27 ▸ Go.Joins.below_alloc1 _ _
  have HB27 : Hid (Below w.heap.size w w27) := below_next HB26.out hb
  have sz27 : w26.heap.size < w27.heap.size := by rw [hw27]; simp
  have SP_27 : Hid (Own w27 shCommit [.slice p4_1 NS.length q4_1, .int .i64 nd, .int .i64 nr] (NS, nd, nr, ()) S4a) := SP_26.out.next hb
  have SD_27 : Hid (Own w27 (.list .bool) [.slice p4_d DD.length q4_d] DD S4b) := SD_26.out.next hb
  have W_27 : Hid (Bx w27 w4.heap.size [.slice p4_1 NS.length q4_1, .int .i64 nd, .int .i64 nr]) := W_26.out.next hb
  have GP_27 : Hid (Own w27 shCommit [.slice p8_1 NS.length q8_1, .int .i64 nd, .int .i64 nr] (mkT shCommit (NS, nd, nr, ()) 1) S8a) := GP_26.out.next hb
  have GD_27 : Hid (Own w27 (.list .bool) [.slice p8_d DD.length q8_d] (mkD (.list .bool) DD (1 + (cn : Int))) S8b) := GD_26.out.next hb
  have G_27 : Hid (Bx w27 w8.heap.size [.slice p8_1 NS.length q8_1, .int .i64 nd, .int .i64 nr]) := G_26.out.next hb
  have HP_27 : Hid (Own w27 shCommit [.slice p26_1 NS.length q26_1, .int .i64 nd, .int .i64 nr] (NS, nd, nr, ()) S26a) := HP_26.out.next hb
  have HD_27 : Hid (Own w27 (.list .bool) [.slice p26_d DD.length q26_d] DD S26b) := HD_26.out.next hb
  have H_27 : Hid (Bx w27 w26.heap.size [.slice p26_1 NS.length q26_1, .int .i64 nd, .int .i64 nr]) := hw27 ▸ Bx.new w26 [.slice p26_1 NS.length q26_1, .int .i64 nd, .int .i64 nr] _
  rw [← hw27]
  clear hb hw27 cW0 cW1 cW2 zW SP_26 SD_26 W_26 GP_26 GD_26 G_26 HP_26 HD_26 HB26
  refine (eqCommit_n [.slice p26_1 NS.length q26_1, .int .i64 nd, .int .i64 nr] [.slice p4_1 NS.length q4_1, .int .i64 nd, .int .i64 nr] NS nd nr _ HTD.out.1 HP_27.out.lies SP_27.out.lies).mono ?_
  rintro r w28 ⟨rfl, hb⟩
  have HB28 : Hid (Below w.heap.size w w28) := below_next HB27.out hb
  have sz28 : w27.heap.size ≤ w28.heap.size := hb.size
  have SP_28 : Hid (Own w28 shCommit [.slice p4_1 NS.length q4_1, .int .i64 nd, .int .i64 nr] (NS, nd, nr, ()) S4a) := SP_27.out.next hb
  have SD_28 : Hid (Own w28 (.list .bool) [.slice p4_d DD.length q4_d] DD S4b) := SD_27.out.next hb
  have W_28 : Hid (Bx w28 w4.heap.size [.slice p4_1 NS.length q4_1, .int .i64 nd, .int .i64 nr]) := W_27.out.next hb
  have GP_28 : Hid (Own w28 shCommit [.slice p8_1 NS.length q8_1, .int .i64 nd, .int .i64 nr] (mkT shCommit (NS, nd, nr, ()) 1) S8a) := GP_27.out.next hb
  have GD_28 : Hid (Own w28 (.list .bool) [.slice p8_d DD.length q8_d] (mkD (.list .bool) DD (1 + (cn : Int))) S8b) := GD_27.out.next hb
  have G_28 : Hid (Bx w28 w8.heap.size [.slice p8_1 NS.length q8_1, .int .i64 nd, .int .i64 nr]) := G_27.out.next hb
  have HP_28 : Hid (Own w28 shCommit [.slice p26_1 NS.length q26_1, .int .i64 nd, .int .i64 nr] (NS, nd, nr, ()) S26a) := HP_27.out.next hb
  have HD_28 : Hid (Own w28 (.list .bool) [.slice p26_d DD.length q26_d] DD S26b) := HD_27.out.next hb
  have H_28 : Hid (Bx w28 w26.heap.size [.slice p26_1 NS.length q26_1, .int .i64 nd, .int .i64 nr]) := H_27.out.next hb
  clear hb SP_27 SD_27 W_27 GP_27 GD_27 G_27 HP_27 HD_27 H_27 HB27
  go_wp2_with fail
  refine (eqBoolS_n p26_d p4_d q26_d q4_d DD _ HTD.out.2 HD_28.out.lies SD_28.out.lies).mono ?_
  rintro r w29 ⟨rfl, hb⟩
  have HB29 : Hid (Below w.heap.size w w29) := below_next HB28.out hb
  have sz29 : w28.heap.size ≤ w29.heap.size := hb.size
  have SP_29 : Hid (Own w29 shCommit [.slice p4_1 NS.length q4_1, .int .i64 nd, .int .i64 nr] (NS, nd, nr, ()) S4a) := SP_28.out.next hb
  have SD_29 : Hid (Own w29 (.list .bool) [.slice p4_d DD.length q4_d] DD S4b) := SD_28.out.next hb
  have W_29 : Hid (Bx w29 w4.heap.size [.slice p4_1 NS.length q4_1, .int .i64 nd, .int .i64 nr]) := W_28.out.next hb
  have GP_29 : Hid (Own w29 shCommit [.slice p8_1 NS.length q8_1, .int .i64 nd, .int .i64 nr] (mkT shCommit (NS, nd, nr, ()) 1) S8a) := GP_28.out.next hb
  have GD_29 : Hid (Own w29 (.list .bool) [.slice p8_d DD.length q8_d] (mkD (.list .bool) DD (1 + (cn : Int))) S8b) := GD_28.out.next hb
  have G_29 : Hid (Bx w29 w8.heap.size [.slice p8_1 NS.length q8_1, .int .i64 nd, .int .i64 nr]) := G_28.out.next hb
  have HP_29 : Hid (Own w29 shCommit [.slice p26_1 NS.length q26_1, .int .i64 nd, .int .i64 nr] (NS, nd, nr, ()) S26a) := HP_28.out.next hb
  have HD_29 : Hid (Own w29 (.list .bool) [.slice p26_d DD.length q26_d] DD S26b) := HD_28.out.next hb
  have H_29 : Hid (Bx w29 w26.heap.size [.slice p26_1 NS.length q26_1, .int .i64 nd, .int .i64 nr]) := H_28.out.next hb
  clear hb SP_28 SD_28 W_28 GP_28 GD_28 G_28 HP_28 HD_28 H_28 HB28
  have cG0 := G_29.out.cell 0 rfl
  have cG1 := G_29.out.cell 1 rfl
  have cG2 := G_29.out.cell 2 rfl
  have zG := G_29.out.2
  go_wp2_with fail
  refine ((show Calls _ _ _ _ (fun r w' => r = .returned (.int .i64 (1 + (cn : Int))) ∧ Below _ _ w') from HCN.out ▸ heldCommit_n [.slice p8_1 NS.length q8_1, .int .i64 nd, .int .i64 nr] NS nd nr 1 _ (by decide) (by have h1 := HCN.out; rw [← h1]; omega) HTD.out.1 GP_29.out.lies)).mono ?_
  rintro r w30 ⟨rfl, hb⟩
  have HB30 : Hid (Below w.heap.size w w30) := below_next HB29.out hb
  have sz30 : w29.heap.size ≤ w30.heap.size := hb.size
  have SP_30 : Hid (Own w30 shCommit [.slice p4_1 NS.length q4_1, .int .i64 nd, .int .i64 nr] (NS, nd, nr, ()) S4a) := SP_29.out.next hb
  have SD_30 : Hid (Own w30 (.list .bool) [.slice p4_d DD.length q4_d] DD S4b) := SD_29.out.next hb
  have W_30 : Hid (Bx w30 w4.heap.size [.slice p4_1 NS.length q4_1, .int .i64 nd, .int .i64 nr]) := W_29.out.next hb
  have GP_30 : Hid (Own w30 shCommit [.slice p8_1 NS.length q8_1, .int .i64 nd, .int .i64 nr] (mkT shCommit (NS, nd, nr, ()) 1) S8a) := GP_29.out.next hb
  have GD_30 : Hid (Own w30 (.list .bool) [.slice p8_d DD.length q8_d] (mkD (.list .bool) DD (1 + (cn : Int))) S8b) := GD_29.out.next hb
  have G_30 : Hid (Bx w30 w8.heap.size [.slice p8_1 NS.length q8_1, .int .i64 nd, .int .i64 nr]) := G_29.out.next hb
  have HP_30 : Hid (Own w30 shCommit [.slice p26_1 NS.length q26_1, .int .i64 nd, .int .i64 nr] (NS, nd, nr, ()) S26a) := HP_29.out.next hb
  have HD_30 : Hid (Own w30 (.list .bool) [.slice p26_d DD.length q26_d] DD S26b) := HD_29.out.next hb
  have H_30 : Hid (Bx w30 w26.heap.size [.slice p26_1 NS.length q26_1, .int .i64 nd, .int .i64 nr]) := H_29.out.next hb
  clear hb cG0 cG1 cG2 zG SP_29 SD_29 W_29 GP_29 GD_29 G_29 HP_29 HD_29 H_29 HB29
  go_wp2_with fail
  refine ((show Calls _ _ _ _ (fun r w' => r = .returned (.int .i64 (1 + (cn : Int) + (cd : Int))) ∧ Below _ _ w') from HCD.out ▸ heldBoolS_n p8_d q8_d DD (1 + (cn : Int)) _ (by omega) (by have h1 := HCD.out; rw [← h1]; omega) HTD.out.2 GD_30.out.lies)).mono ?_
  rintro r w31 ⟨rfl, hb⟩
  have HB31 : Hid (Below w.heap.size w w31) := below_next HB30.out hb
  have sz31 : w30.heap.size ≤ w31.heap.size := hb.size
  have SP_31 : Hid (Own w31 shCommit [.slice p4_1 NS.length q4_1, .int .i64 nd, .int .i64 nr] (NS, nd, nr, ()) S4a) := SP_30.out.next hb
  have SD_31 : Hid (Own w31 (.list .bool) [.slice p4_d DD.length q4_d] DD S4b) := SD_30.out.next hb
  have W_31 : Hid (Bx w31 w4.heap.size [.slice p4_1 NS.length q4_1, .int .i64 nd, .int .i64 nr]) := W_30.out.next hb
  have GP_31 : Hid (Own w31 shCommit [.slice p8_1 NS.length q8_1, .int .i64 nd, .int .i64 nr] (mkT shCommit (NS, nd, nr, ()) 1) S8a) := GP_30.out.next hb
  have GD_31 : Hid (Own w31 (.list .bool) [.slice p8_d DD.length q8_d] (mkD (.list .bool) DD (1 + (cn : Int))) S8b) := GD_30.out.next hb
  have G_31 : Hid (Bx w31 w8.heap.size [.slice p8_1 NS.length q8_1, .int .i64 nd, .int .i64 nr]) := G_30.out.next hb
  have HP_31 : Hid (Own w31 shCommit [.slice p26_1 NS.length q26_1, .int .i64 nd, .int .i64 nr] (NS, nd, nr, ()) S26a) := HP_30.out.next hb
  have HD_31 : Hid (Own w31 (.list .bool) [.slice p26_d DD.length q26_d] DD S26b) := HD_30.out.next hb
  have H_31 : Hid (Bx w31 w26.heap.size [.slice p26_1 NS.length q26_1, .int .i64 nd, .int .i64 nr]) := H_30.out.next hb
  clear hb SP_30 SD_30 W_30 GP_30 GD_30 G_30 HP_30 HD_30 H_30 HB30
  have HE := HB31
  go_wp2
  go_ret
  exact ⟨rfl, HE.out⟩


theorem own : ownKnob Tryd.prog.godebug = none := by kernel_rfl
theorem laidOut : laidOutB Tryd.prog = true := by kernel_rfl

theorem gO : Tryd.prog.globalNamed "loop.example/g00218/impl.errCommitFault" = some 0 := by kernel_rfl
theorem gOType : (Tryd.prog.globals[0]?).map (·.type) = some 119 := by kernel_rfl
theorem underE : ∃ ms, Tryd.prog.underlying 119 = some (.interface ms) := by
  have h : (match Tryd.prog.underlying 119 with | some (.interface _) => true | _ => false) = true := by kernel_rfl
  generalize Tryd.prog.underlying 119 = u at h ⊢
  cases u with
  | none => simp at h
  | some d => cases d <;> first | exact ⟨_, rfl⟩ | simp at h
theorem underP : Tryd.prog.underlying 123 = some (.pointer 140) := by kernel_rfl
theorem underS : ∃ f : Field, Tryd.prog.underlying 140 = some (.struct #[f]) ∧ f.type = 9 ∧ f.offset = 0 := by
  have h : (match Tryd.prog.underlying 140 with | some (.struct fs) => fs.toList.map (fun f => (f.type, f.offset)) == [(9, 0)] | _ => false) = true := by kernel_rfl
  generalize Tryd.prog.underlying 140 = u at h ⊢
  cases u with
  | none => simp at h
  | some d =>
    cases d <;> try (simp at h; done)
    rename_i fs
    obtain ⟨l⟩ := fs
    match l, h with
    | [], h => simp at h
    | [f], h => exact ⟨f, rfl, by simpa using h⟩
    | f :: g :: t, h => simp at h
theorem underT : Tryd.prog.underlying 9 = some .string := by kernel_rfl
theorem cellsS : Tryd.prog.cellsOf 140 = 1 := by kernel_rfl
theorem cellsT : Tryd.prog.cellsOf 9 = 1 := by kernel_rfl
theorem star : "*" ++ "errors.errorString" = "*errors.errorString" := by decide
theorem rowP (u : TypeId) (h : Tryd.prog.typeName? 3 u = some "*errors.errorString") : u = 123 :=
  typeName_ptr_named (nm := "errors.errorString") (by rw [star]; kernel_rfl) (by kernel_rfl) (by decide) u (by rw [star]; exact h)
abbrev faultS : ByteArray := { data := ⟨[99, 111, 109, 109, 105, 116, 58, 32, 116, 104, 101, 32, 115, 116, 101, 112, 32, 108, 97, 99, 107, 115, 32, 119, 104, 97, 116, 32, 105, 116, 32, 97, 115, 107, 115, 32, 102, 111, 114]⟩ }
noncomputable def lowW : Nat := (World.holding Tryd.prog default ⟨#[], #[], []⟩).heap.size
noncomputable def laidWorld (os : Os) : World :=
  let w0 := World.holding Tryd.prog os ⟨#[.cells #[.string faultS] 140], #[], []⟩
  { w0 with heap := w0.heap.modify 0 fun
      | .cells _ t frozen => .cells #[.iface 123 (.pointer (some ⟨lowW, 0, none⟩))] t frozen
      | o => o }
theorem laidWorld_met (os : Os) (args : Array Value) : laidMet Tryd.prog Rows.fnExactPlayCommitRow.laid ((laidWorld os).forCall (fun _ _ => 0) ⟨#[], args, []⟩).memory :=
  laidMet_of_run (ps := [.cell 0 0, .cell lowW 0]) 8 (by kernel_rfl) (by kernel_rfl) (by kernel_rfl)
theorem var_kept {W W' : World} {cs : Array Value} (h : W.var? Tryd.prog "loop.example/g00218/impl.errCommitFault" = some cs) (hb : W'.heap[0]? = W.heap[0]?) : W'.var? Tryd.prog "loop.example/g00218/impl.errCommitFault" = some cs := by
  unfold World.var? at h ⊢
  simp only [gO, Option.bind_some] at h ⊢
  rw [hb]
  exact h

set_option maxRecDepth 100000 in
theorem lifted (os : Os) (started : os.Started) (H : Type) (enc : TypeId × Value → H) :
    ReturnsInHanded {} Tryd.checked os 6 .any (fun w args => (Rows.fnExactPlayCommitSpec.pre enc Tryd.prog Tryd.f6 [] false w args ∧ laidMet Tryd.prog Rows.fnExactPlayCommitRow.laid w) ∧ sizedMet enc Tryd.prog Tryd.f6 (OpenSpec.ofChange Rows.fnExactPlayCommitSpec) false w args)
      (Rows.fnExactPlayCommitSpec.post enc Tryd.prog Tryd.f6 false true false false) := by
  refine returnsInHanded_of_change_and (C := Tryd.checked) (X := fun w _ => laidMet Tryd.prog Rows.fnExactPlayCommitRow.laid w) (fun _ _ _ hh h => h.of_heap hh) own started (by kernel_rfl) Tryd.func6
    (ChangeSpec.witness_at (enc := enc) (C := Tryd.checked) (os := os) (X := fun w _ => laidMet Tryd.prog Rows.fnExactPlayCommitRow.laid w) false (laidWorld os) #[.slice none 0 0, .slice none 0 0] 8 rfl (by kernel_rfl) (by kernel_rfl) (by kernel_rfl) (by kernel_rfl) (by kernel_rfl) (laidWorld_met os _)) ?_
  intro W base args ds gs before hval0 hW _ _ hL _
  have hval : ∀ (j : Nat) t v, Tryd.f6.params[j]? = some t → args[j]? = some v → Value.okWide Tryd.prog W .any base t v := hval0
  have hW' := hW
  obtain ⟨p, q, hA0, hV0, rfl, hfz, hnd⟩ := hW
  have hV : DataW.TrodVars enc Tryd.prog W (fun _ => true) ["loop.example/g00218/impl.errCommitFault"] gs q := hV0
  have hA : DataW.TrodAll enc Tryd.prog W 0 (fun _ => true) true Tryd.f6.params.toList args.toList ds p := hA0
  rw [Tryd.params6] at hA hval
  obtain ⟨v0, vs0, d0, ds0, p0, q0, hargs, rfl, rfl, h0, r0⟩ := trodAll_cons hA
  obtain ⟨v1, vs1, d1, ds1, p1, q1, rfl, rfl, rfl, h1, r1⟩ := trodAll_cons r0
  obtain ⟨rfl, rfl, rfl⟩ := trodAll_nil r1
  obtain rfl : args = #[v0, v1] := by cases args; simp_all
  obtain ⟨ms, hms⟩ := underE
  obtain ⟨fS, hfS, hfT, hfO⟩ := underS
  obtain ⟨aE, sE, hv1, hc1, hs1, hz1⟩ := laid_sentinel hL gO gOType hms rowP underP hfS hfT hfO underT cellsS cellsT
  obtain ⟨rfl, rfl⟩ := hV.unique (vars_read1 enc gO gOType hms hv1 trivial _)
  clear hV0
  have hg1 : W.cell? ⟨0, 0, none⟩ = some (.iface 123 (.pointer (some aE))) := by simpa using World.var?_cell gO hv1 0
  have hfl : Flt W := ⟨_, hg1⟩
  have k0 := h0
  have lt0 : ∀ x ∈ p0, x.block < W.heap.size := by obtain ⟨m, hm⟩ := k0; exact DataW.trod_lt m _ _ _ hm
  obtain ⟨a0, len0, cap0, rfl⟩ := okWide_slice Tryd.underlying23 (hval 0 23 v0 rfl rfl)
  obtain ⟨X0, rfl, li0, fi0⟩ := open_IntS_n h0
  have k1 := h1
  have lt1 : ∀ x ∈ p1, x.block < W.heap.size := by obtain ⟨m, hm⟩ := k1; exact DataW.trod_lt m _ _ _ hm
  obtain ⟨a1, len1, cap1, rfl⟩ := okWide_slice Tryd.underlying62 (hval 1 62 v1 rfl rfl)
  obtain ⟨X1, rfl, li1, fi1⟩ := open_CommitStepS_n h1
  clear hA0 hval0
  refine (walk (w := W) hfl a0 cap0 X0 li0 fi0 a1 cap1 X1 li1 fi1).mono fun e W' ⟨he, bel⟩ => ?_
  subst he
  have hv2 := var_kept hv1 (bel.block 0 hfl.lt)
  refine ⟨_, rfl, _, _, _, [], _, [.cell 0 0], hW', trodAll_mk1 (shut_bool Tryd.underlying4 _), (trodAll_cons_mk (Below.trod laidOut (by kernel_rfl) (of_decide_eq_true (by kernel_rfl)) k0 bel lt0) (trodAll_cons_mk (Below.trod laidOut (by kernel_rfl) (of_decide_eq_true (by kernel_rfl)) k1 bel lt1) trodAll_mk0)), vars_read1 enc gO gOType hms hv2 trivial _, bel.frame _, fun h => by cases h⟩

set_option maxHeartbeats 40000000 in
theorem closed : joinedFacts Tryd.pinned.checked.prog 6 Tryd.f6 Rows.fnExactPlayCommitSpec Rows.fnExactPlayCommitRow = true := by
  unfold joinedFacts
  repeat' (first | (with_reducible refine both ?_ ?_) | (with_reducible exact may_enter') | (with_reducible refine lifts_eq ?_) | (with_reducible refine make_eq ?_) | as_aux_lemma => kernel_rfl)
theorem named : Tryd.pinned.checked.prog.funcNamed Rows.fnExactPlayCommitRow.func = some 6 := by kernel_rfl
theorem over : Rows.fnExactPlayCommitRow.holds Tryd.pinned (OpenSpec.ofChange Rows.fnExactPlayCommitSpec) :=
  OpenClaim.holds_of_wide 6 Tryd.f6 rfl rfl rfl rfl rfl rfl rfl ⟨rfl, rfl, rfl, rfl, rfl⟩ rfl rfl rfl rfl rfl named Tryd.func6 closed
    (of_decide_eq_true (by as_aux_lemma => kernel_rfl)) (by unfold Func.isWrapper; first | (rw [if_pos (by decide +kernel)]; kernel_rfl) | (rw [if_neg (by decide +kernel)]; exact ⟨rfl, rfl⟩))
    (fun os started H enc _ => lifted os started H enc)

theorem card : Rows.FnExactPlayCommitCardSaid :=
  Claim7.holds_tied_plain_at .later [] [.sentinel] true _ false
    over (fun _ h => by cases h) (by kernel_rfl) (fun _ h => by cases h) fnExactPlayCommit_row_tie rfl ⟨rfl, rfl⟩ (by kernel_rfl) rfl
    (fun f fn hf hfn => by
      obtain rfl : f = 6 := Option.some.inj (named.symm.trans hf) |>.symm
      obtain rfl : fn = Tryd.f6 := (Option.some.inj (Tryd.func6.symm.trans hfn)).symm
      refine ⟨by kernel_rfl, fun j t ht => ?_⟩
      have hall : (Tryd.f6.params.toList.all fun t => !Tryd.prog.wantsStandIn t) = true := by kernel_rfl
      have := List.all_eq_true.1 hall t (List.mem_of_getElem? (i := j) (by rw [Array.getElem?_toList]; exact ht))
      have h2 : Tryd.prog.wantsStandIn t = false := by simpa using this
      exact h2)
    (by kernel_rfl)

end Go.Proofs.YtkpobihpcnoemaaDoor.xPlayCommit
namespace Go.Proofs.YtkpobihpcnoemaaDoor
theorem xPlayCommit_holds : Rows.FnExactPlayCommitCardSaid := xPlayCommit.card
#print axioms xPlayCommit_holds
end Go.Proofs.YtkpobihpcnoemaaDoor
