/- At every argument impl.NewCommit answers as the specification does, field by field, writes into no argument, its answer owns its memory, and each argument reads behind the call as it read before. No condition. -/
import Derived.Test.YtkpobihpcnoemaaCmC
import Derived.Test.YtkpobihpcnoemaaNtZ
import Derived.Test.YtkpobihpcnoemaaNtT
import Derived.Test.YtkpobihpcnoemaaNtE
import Derived.Test.YtkpobihpcnoemaaNtO
import Derived.Test.YtkpobihpcnoemaaNtM
import Derived.Test.YtkpobihpcnoemaaNtH
import Derived.Test.YtkpobihpcnoemaaWords
import Derived.ProofKit
import Derived.OpenShut
import Derived.ShutString
import Derived.ChangeOld
import Derived.Below
import Derived.Lib.SmallJoins
namespace Go.Proofs.Ytkpobihpcnoemaa.xNewCommit
open Go.ChangeShapes Go.WideShapes Go.ChangeAt Go.RowKit
open Go.ChangeMaps (open_string shut_string)
set_option linter.unusedVariables false

set_option maxRecDepth 100000 in
set_option maxHeartbeats 4000000 in
theorem walk (w : World) (a0 : Option Addr) (k0 : Nat) (am : List (Sh.T .int)) (li0 : Lies w (.list .int) [.slice a0 am.length k0] am) (fi0 : Fits (.list .int) am) :
    Calls Try.prog 3 #[.slice a0 am.length k0] w fun r w' => r = .returned (.bool true) ∧ Below w.heap.size w w' := by
  have HL0 : Hid (Lies w (.list .int) [.slice a0 am.length k0] am) := li0
  have HF0 : Hid (Fits (.list .int) am) := fi0
  clear li0 fi0
  obtain ⟨NS, z, hA⟩ : ∃ NS z, nwC am = NS ∧ nwOk am = z := ⟨_, _, rfl, rfl⟩
  have HA : Hid (nwC am = NS ∧ nwOk am = z) := hA
  clear hA
  go_enter Try.func3, Try.ntmps3
  by_cases ln0 : (1048576 : Int) < (am.length : Int)
  · go_wp2
    go_ret
    exact ⟨rfl, Below.refl _ _⟩
  have HS0 : Hid (szD (.list .int) am ≤ 1073741824) := Hid.intro (by rw [sz_ints]; omega)
  have HX0 : Hid (szD (.list .int) am ≤ 1048576) := Hid.intro (by rw [sz_ints]; omega)
  have HT : Hid (szD shCommit (NS, 0, 0, ()) ≤ 1073741824) := Hid.intro (by have h1 := sz_nwC am; rw [HA.out.1] at h1; exact h1)
  obtain ⟨cn, hcn⟩ : ∃ c : Nat, c = cntT shCommit (NS, 0, 0, ()) := ⟨_, rfl⟩
  have HCN : Hid (cn = cntT shCommit (NS, 0, 0, ())) := hcn
  have hcb : cn ≤ 100000000000 := by rw [hcn]; exact cnt_cm HT.out
  clear hcn
  have hng : ¬ (1 + (cn : Int)) < 0 := by omega
  obtain ⟨cx, hcx⟩ : ∃ c : Nat, c = cntD (.list .int) am := ⟨_, rfl⟩
  have HCX : Hid (cx = cntD (.list .int) am) := hcx
  have hcxb : cx ≤ 100000000000 := by rw [hcx]; exact cnt_intsC HS0.out
  have hnx : ¬ (1 + (cx : Int)) < 0 := by omega
  clear hcx
  go_wp2_with fail
  refine (toIntS_n a0 k0 am _ HS0.out (HL0.out.next (Below.refl _ _))).mono ?_
  rintro r w1 ⟨p1, rfl, ho, hb⟩
  have HB1 : Hid (Below w.heap.size w w1) := below_next (Below.refl _ _) hb
  have sz1 : w.heap.size ≤ w1.heap.size := hb.size
  have D_1 : Hid (Own w1 (.list .int) [.slice (some ⟨p1, 0, none⟩) am.length am.length] am (Btw w.heap.size w1.heap.size)) := ho
  clear hb ho
  go_wp2_with fail
  refine (specNewCommit_l (some ⟨p1, 0, none⟩) am.length am _ NS z HA.out HS0.out D_1.out.lies).mono ?_
  rintro r w2 ⟨cs9, rfl, ho, hb⟩
  obtain ⟨p2_1, q2_1, _, hev, _⟩ := own_Commit ho
  subst hev
  have HB2 : Hid (Below w.heap.size w w2) := below_next HB1.out hb
  have sz2 : w1.heap.size ≤ w2.heap.size := hb.size
  have D_2 : Hid (Own w2 (.list .int) [.slice (some ⟨p1, 0, none⟩) am.length am.length] am (Btw w.heap.size w1.heap.size)) := D_1.out.next hb
  have SP_2 : Hid (Own w2 shCommit [.slice p2_1 NS.length q2_1, .int .i64 (0 : Int), .int .i64 (0 : Int)] (NS, 0, 0, ()) (Btw w1.heap.size w2.heap.size)) := ho
  clear hb ho D_1 HB1
  clear D_2
  go_wp2_with fail
  obtain ⟨w3, hw3⟩ : ∃ x, x = w2.alloc (.cells #[.slice p2_1 NS.length q2_1, .int .i64 (0 : Int), .int .i64 (0 : Int)] 25) := ⟨_, rfl⟩
  have hb : Below w2.heap.size w2 w3 := hw3 ▸ Go.Joins.below_alloc1 _ _
  have HB3 : Hid (Below w.heap.size w w3) := below_next HB2.out hb
  have sz3 : w2.heap.size < w3.heap.size := by rw [hw3]; simp
  have SP_3 : Hid (Own w3 shCommit [.slice p2_1 NS.length q2_1, .int .i64 (0 : Int), .int .i64 (0 : Int)] (NS, 0, 0, ()) (Btw w1.heap.size w2.heap.size)) := SP_2.out.next hb
  have W_3 : Hid (Bx w3 w2.heap.size [.slice p2_1 NS.length q2_1, .int .i64 (0 : Int), .int .i64 (0 : Int)]) := hw3 ▸ Bx.new w2 [.slice p2_1 NS.length q2_1, .int .i64 (0 : Int), .int .i64 (0 : Int)] _
  rw [← hw3]
  clear hb hw3 SP_2 HB2
  refine (toIntS_n a0 k0 am _ HS0.out (HL0.out.next HB3.out)).mono ?_
  rintro r w4 ⟨p4, rfl, ho, hb⟩
  have HB4 : Hid (Below w.heap.size w w4) := below_next HB3.out hb
  have sz4 : w3.heap.size ≤ w4.heap.size := hb.size
  have SP_4 : Hid (Own w4 shCommit [.slice p2_1 NS.length q2_1, .int .i64 (0 : Int), .int .i64 (0 : Int)] (NS, 0, 0, ()) (Btw w1.heap.size w2.heap.size)) := SP_3.out.next hb
  have W_4 : Hid (Bx w4 w2.heap.size [.slice p2_1 NS.length q2_1, .int .i64 (0 : Int), .int .i64 (0 : Int)]) := W_3.out.next hb
  have P_4 : Hid (Own w4 (.list .int) [.slice (some ⟨p4, 0, none⟩) am.length am.length] am (Btw w3.heap.size w4.heap.size)) := ho
  clear hb ho SP_3 W_3 HB3
  go_wp2_with fail
  refine (newCommit_l (some ⟨p4, 0, none⟩) am.length am _ NS z HA.out HS0.out P_4.out.lies).mono ?_
  rintro r w5 ⟨cs9, rfl, ho, hb⟩
  obtain ⟨p5_1, q5_1, _, hev, _⟩ := own_Commit ho
  subst hev
  have HB5 : Hid (Below w.heap.size w w5) := below_next HB4.out hb
  have sz5 : w4.heap.size ≤ w5.heap.size := hb.size
  have SP_5 : Hid (Own w5 shCommit [.slice p2_1 NS.length q2_1, .int .i64 (0 : Int), .int .i64 (0 : Int)] (NS, 0, 0, ()) (Btw w1.heap.size w2.heap.size)) := SP_4.out.next hb
  have W_5 : Hid (Bx w5 w2.heap.size [.slice p2_1 NS.length q2_1, .int .i64 (0 : Int), .int .i64 (0 : Int)]) := W_4.out.next hb
  have P_5 : Hid (Own w5 (.list .int) [.slice (some ⟨p4, 0, none⟩) am.length am.length] am (Btw w3.heap.size w4.heap.size)) := P_4.out.next hb
  have GP_5 : Hid (Own w5 shCommit [.slice p5_1 NS.length q5_1, .int .i64 (0 : Int), .int .i64 (0 : Int)] (NS, 0, 0, ()) (Btw w4.heap.size w5.heap.size)) := ho
  clear hb ho SP_4 W_4 P_4 HB4
  have cW0 := W_5.out.cell 0 rfl
  have cW1 := W_5.out.cell 1 rfl
  have cW2 := W_5.out.cell 2 rfl
  have zW := W_5.out.2
  go_wp2_with fail
  obtain ⟨w6, hw6⟩ : ∃ x, x = w5.alloc (.cells #[.slice p5_1 NS.length q5_1, .int .i64 (0 : Int), .int .i64 (0 : Int)] 25) := ⟨_, rfl⟩
  have hb : Below w5.heap.size w5 w6 := hw6 ▸ Go.Joins.below_alloc1 _ _
  have HB6 : Hid (Below w.heap.size w w6) := below_next HB5.out hb
  have sz6 : w5.heap.size < w6.heap.size := by rw [hw6]; simp
  have SP_6 : Hid (Own w6 shCommit [.slice p2_1 NS.length q2_1, .int .i64 (0 : Int), .int .i64 (0 : Int)] (NS, 0, 0, ()) (Btw w1.heap.size w2.heap.size)) := SP_5.out.next hb
  have W_6 : Hid (Bx w6 w2.heap.size [.slice p2_1 NS.length q2_1, .int .i64 (0 : Int), .int .i64 (0 : Int)]) := W_5.out.next hb
  have P_6 : Hid (Own w6 (.list .int) [.slice (some ⟨p4, 0, none⟩) am.length am.length] am (Btw w3.heap.size w4.heap.size)) := P_5.out.next hb
  have GP_6 : Hid (Own w6 shCommit [.slice p5_1 NS.length q5_1, .int .i64 (0 : Int), .int .i64 (0 : Int)] (NS, 0, 0, ()) (Btw w4.heap.size w5.heap.size)) := GP_5.out.next hb
  have G_6 : Hid (Bx w6 w5.heap.size [.slice p5_1 NS.length q5_1, .int .i64 (0 : Int), .int .i64 (0 : Int)]) := hw6 ▸ Bx.new w5 [.slice p5_1 NS.length q5_1, .int .i64 (0 : Int), .int .i64 (0 : Int)] _
  rw [← hw6]
  clear hb hw6 cW0 cW1 cW2 zW SP_5 W_5 P_5 GP_5 HB5
  refine (eqCommit_n [.slice p5_1 NS.length q5_1, .int .i64 (0 : Int), .int .i64 (0 : Int)] [.slice p2_1 NS.length q2_1, .int .i64 (0 : Int), .int .i64 (0 : Int)] NS (0 : Int) (0 : Int) _ HT.out GP_6.out.lies SP_6.out.lies).mono ?_
  rintro r w7 ⟨rfl, hb⟩
  have HB7 : Hid (Below w.heap.size w w7) := below_next HB6.out hb
  have sz7 : w6.heap.size ≤ w7.heap.size := hb.size
  have SP_7 : Hid (Own w7 shCommit [.slice p2_1 NS.length q2_1, .int .i64 (0 : Int), .int .i64 (0 : Int)] (NS, 0, 0, ()) (Btw w1.heap.size w2.heap.size)) := SP_6.out.next hb
  have W_7 : Hid (Bx w7 w2.heap.size [.slice p2_1 NS.length q2_1, .int .i64 (0 : Int), .int .i64 (0 : Int)]) := W_6.out.next hb
  have P_7 : Hid (Own w7 (.list .int) [.slice (some ⟨p4, 0, none⟩) am.length am.length] am (Btw w3.heap.size w4.heap.size)) := P_6.out.next hb
  have GP_7 : Hid (Own w7 shCommit [.slice p5_1 NS.length q5_1, .int .i64 (0 : Int), .int .i64 (0 : Int)] (NS, 0, 0, ()) (Btw w4.heap.size w5.heap.size)) := GP_6.out.next hb
  have G_7 : Hid (Bx w7 w5.heap.size [.slice p5_1 NS.length q5_1, .int .i64 (0 : Int), .int .i64 (0 : Int)]) := G_6.out.next hb
  clear hb SP_6 W_6 P_6 GP_6 G_6 HB6
  go_wp2_with fail
  refine (toIntS_n a0 k0 am _ HS0.out (HL0.out.next HB7.out)).mono ?_
  rintro r w8 ⟨p8, rfl, ho, hb⟩
  have HB8 : Hid (Below w.heap.size w w8) := below_next HB7.out hb
  have sz8 : w7.heap.size ≤ w8.heap.size := hb.size
  have SP_8 : Hid (Own w8 shCommit [.slice p2_1 NS.length q2_1, .int .i64 (0 : Int), .int .i64 (0 : Int)] (NS, 0, 0, ()) (Btw w1.heap.size w2.heap.size)) := SP_7.out.next hb
  have W_8 : Hid (Bx w8 w2.heap.size [.slice p2_1 NS.length q2_1, .int .i64 (0 : Int), .int .i64 (0 : Int)]) := W_7.out.next hb
  have P_8 : Hid (Own w8 (.list .int) [.slice (some ⟨p4, 0, none⟩) am.length am.length] am (Btw w3.heap.size w4.heap.size)) := P_7.out.next hb
  have GP_8 : Hid (Own w8 shCommit [.slice p5_1 NS.length q5_1, .int .i64 (0 : Int), .int .i64 (0 : Int)] (NS, 0, 0, ()) (Btw w4.heap.size w5.heap.size)) := GP_7.out.next hb
  have G_8 : Hid (Bx w8 w5.heap.size [.slice p5_1 NS.length q5_1, .int .i64 (0 : Int), .int .i64 (0 : Int)]) := G_7.out.next hb
  have D_8 : Hid (Own w8 (.list .int) [.slice (some ⟨p8, 0, none⟩) am.length am.length] am (Btw w7.heap.size w8.heap.size)) := ho
  clear hb ho SP_7 W_7 P_7 GP_7 G_7 HB7
  go_wp2_with fail
  refine (eqIntS_n (some ⟨p4, 0, none⟩) (some ⟨p8, 0, none⟩) am.length am.length am _ HS0.out P_8.out.lies D_8.out.lies).mono ?_
  rintro r w9 ⟨rfl, hb⟩
  have HB9 : Hid (Below w.heap.size w w9) := below_next HB8.out hb
  have sz9 : w8.heap.size ≤ w9.heap.size := hb.size
  have SP_9 : Hid (Own w9 shCommit [.slice p2_1 NS.length q2_1, .int .i64 (0 : Int), .int .i64 (0 : Int)] (NS, 0, 0, ()) (Btw w1.heap.size w2.heap.size)) := SP_8.out.next hb
  have W_9 : Hid (Bx w9 w2.heap.size [.slice p2_1 NS.length q2_1, .int .i64 (0 : Int), .int .i64 (0 : Int)]) := W_8.out.next hb
  have P_9 : Hid (Own w9 (.list .int) [.slice (some ⟨p4, 0, none⟩) am.length am.length] am (Btw w3.heap.size w4.heap.size)) := P_8.out.next hb
  have GP_9 : Hid (Own w9 shCommit [.slice p5_1 NS.length q5_1, .int .i64 (0 : Int), .int .i64 (0 : Int)] (NS, 0, 0, ()) (Btw w4.heap.size w5.heap.size)) := GP_8.out.next hb
  have G_9 : Hid (Bx w9 w5.heap.size [.slice p5_1 NS.length q5_1, .int .i64 (0 : Int), .int .i64 (0 : Int)]) := G_8.out.next hb
  have D_9 : Hid (Own w9 (.list .int) [.slice (some ⟨p8, 0, none⟩) am.length am.length] am (Btw w7.heap.size w8.heap.size)) := D_8.out.next hb
  clear hb SP_8 W_8 P_8 GP_8 G_8 D_8 HB8
  clear D_9
  go_wp2_with fail
  refine ((show Calls _ _ _ _ (MkP (.list .int) [.slice (some ⟨p4, 0, none⟩) am.length am.length] (mkD (.list .int) am 1) (1 + (cx : Int)) (Btw w3.heap.size w4.heap.size) _) from HCX.out ▸ markIntS_n (some ⟨p4, 0, none⟩) am.length am 1 (Btw w3.heap.size w4.heap.size) _ (by decide) (by have h1 := HCX.out; rw [← h1]; omega) HS0.out P_9.out)).mono ?_
  rintro r w10 ⟨rfl, ho, ht⟩
  have HB10 : Hid (Below w.heap.size w w10) := Hid.intro (HB9.out.trans (ht.below (fun k hk => by simp only [Btw] at hk; omega) HB9.out.size))
  have sz10 : w9.heap.size ≤ w10.heap.size := ht.size
  have SP_10 : Hid (Own w10 shCommit [.slice p2_1 NS.length q2_1, .int .i64 (0 : Int), .int .i64 (0 : Int)] (NS, 0, 0, ()) (Btw w1.heap.size w2.heap.size)) := SP_9.out.turn ht (fun k e f => by simp only [Btw] at e f; omega)
  have W_10 : Hid (Bx w10 w2.heap.size [.slice p2_1 NS.length q2_1, .int .i64 (0 : Int), .int .i64 (0 : Int)]) := W_9.out.turnS ht (by simp only [Btw]; omega)
  have P_10 : Hid (Own w10 (.list .int) [.slice (some ⟨p4, 0, none⟩) am.length am.length] (mkD (.list .int) am 1) (Btw w3.heap.size w4.heap.size)) := ho
  have GP_10 : Hid (Own w10 shCommit [.slice p5_1 NS.length q5_1, .int .i64 (0 : Int), .int .i64 (0 : Int)] (NS, 0, 0, ()) (Btw w4.heap.size w5.heap.size)) := GP_9.out.turn ht (fun k e f => by simp only [Btw] at e f; omega)
  have G_10 : Hid (Bx w10 w5.heap.size [.slice p5_1 NS.length q5_1, .int .i64 (0 : Int), .int .i64 (0 : Int)]) := G_9.out.turnS ht (by simp only [Btw]; omega)
  clear ht ho SP_9 W_9 P_9 GP_9 G_9 HB9
  clear P_10
  have cW0 := W_10.out.cell 0 rfl
  have cW1 := W_10.out.cell 1 rfl
  have cW2 := W_10.out.cell 2 rfl
  have zW := W_10.out.2
  have cG0 := G_10.out.cell 0 rfl
  have cG1 := G_10.out.cell 1 rfl
  have cG2 := G_10.out.cell 2 rfl
  have zG := G_10.out.2
  go_wp2_with fail
  refine (eqCommit_n [.slice p5_1 NS.length q5_1, .int .i64 (0 : Int), .int .i64 (0 : Int)] [.slice p2_1 NS.length q2_1, .int .i64 (0 : Int), .int .i64 (0 : Int)] NS (0 : Int) (0 : Int) _ HT.out GP_10.out.lies SP_10.out.lies).mono ?_
  rintro r w11 ⟨rfl, hb⟩
  have HB11 : Hid (Below w.heap.size w w11) := below_next HB10.out hb
  have sz11 : w10.heap.size ≤ w11.heap.size := hb.size
  have SP_11 : Hid (Own w11 shCommit [.slice p2_1 NS.length q2_1, .int .i64 (0 : Int), .int .i64 (0 : Int)] (NS, 0, 0, ()) (Btw w1.heap.size w2.heap.size)) := SP_10.out.next hb
  have W_11 : Hid (Bx w11 w2.heap.size [.slice p2_1 NS.length q2_1, .int .i64 (0 : Int), .int .i64 (0 : Int)]) := W_10.out.next hb
  have GP_11 : Hid (Own w11 shCommit [.slice p5_1 NS.length q5_1, .int .i64 (0 : Int), .int .i64 (0 : Int)] (NS, 0, 0, ()) (Btw w4.heap.size w5.heap.size)) := GP_10.out.next hb
  have G_11 : Hid (Bx w11 w5.heap.size [.slice p5_1 NS.length q5_1, .int .i64 (0 : Int), .int .i64 (0 : Int)]) := G_10.out.next hb
  clear hb cW0 cW1 cW2 zW cG0 cG1 cG2 zG SP_10 W_10 GP_10 G_10 HB10
  have cG0 := G_11.out.cell 0 rfl
  have cG1 := G_11.out.cell 1 rfl
  have cG2 := G_11.out.cell 2 rfl
  have zG := G_11.out.2
  go_wp2_with fail
  refine ((show Calls _ _ _ _ (MkP shCommit [.slice p5_1 NS.length q5_1, .int .i64 (0 : Int), .int .i64 (0 : Int)] (mkT shCommit (NS, 0, 0, ()) 1) (1 + (cn : Int)) (Btw w4.heap.size w5.heap.size) _) from HCN.out ▸ markCommit_n [.slice p5_1 NS.length q5_1, .int .i64 (0 : Int), .int .i64 (0 : Int)] NS (0 : Int) (0 : Int) 1 (Btw w4.heap.size w5.heap.size) _ (by decide) (by have h1 := HCN.out; rw [← h1]; omega) HT.out (fun k hk => by have := hk.2; omega) GP_11.out)).mono ?_
  rintro r w12 ⟨rfl, ho, ht⟩
  have HB12 : Hid (Below w.heap.size w w12) := Hid.intro (HB11.out.trans (ht.below (fun k hk => by simp only [Btw] at hk; omega) HB11.out.size))
  have sz12 : w11.heap.size ≤ w12.heap.size := ht.size
  have SP_12 : Hid (Own w12 shCommit [.slice p2_1 NS.length q2_1, .int .i64 (0 : Int), .int .i64 (0 : Int)] (NS, 0, 0, ()) (Btw w1.heap.size w2.heap.size)) := SP_11.out.turn ht (fun k e f => by simp only [Btw] at e f; omega)
  have W_12 : Hid (Bx w12 w2.heap.size [.slice p2_1 NS.length q2_1, .int .i64 (0 : Int), .int .i64 (0 : Int)]) := W_11.out.turnS ht (by simp only [Btw]; omega)
  have GP_12 : Hid (Own w12 shCommit [.slice p5_1 NS.length q5_1, .int .i64 (0 : Int), .int .i64 (0 : Int)] (mkT shCommit (NS, 0, 0, ()) 1) (Btw w4.heap.size w5.heap.size)) := ho
  have G_12 : Hid (Bx w12 w5.heap.size [.slice p5_1 NS.length q5_1, .int .i64 (0 : Int), .int .i64 (0 : Int)]) := G_11.out.turnS ht (by simp only [Btw]; omega)
  clear ht ho cG0 cG1 cG2 zG SP_11 W_11 GP_11 G_11 HB11
  have cG0 := G_12.out.cell 0 rfl
  have cG1 := G_12.out.cell 1 rfl
  have cG2 := G_12.out.cell 2 rfl
  have zG := G_12.out.2
  go_wp2_with fail
  refine ((show Calls _ _ _ _ (fun r w' => r = .returned (.int .i64 (1 + (cn : Int))) ∧ Below _ _ w') from HCN.out ▸ heldCommit_n [.slice p5_1 NS.length q5_1, .int .i64 (0 : Int), .int .i64 (0 : Int)] NS (0 : Int) (0 : Int) 1 _ (by decide) (by have h1 := HCN.out; rw [← h1]; omega) HT.out GP_12.out.lies)).mono ?_
  rintro r w13 ⟨rfl, hb⟩
  have HB13 : Hid (Below w.heap.size w w13) := below_next HB12.out hb
  have sz13 : w12.heap.size ≤ w13.heap.size := hb.size
  have SP_13 : Hid (Own w13 shCommit [.slice p2_1 NS.length q2_1, .int .i64 (0 : Int), .int .i64 (0 : Int)] (NS, 0, 0, ()) (Btw w1.heap.size w2.heap.size)) := SP_12.out.next hb
  have W_13 : Hid (Bx w13 w2.heap.size [.slice p2_1 NS.length q2_1, .int .i64 (0 : Int), .int .i64 (0 : Int)]) := W_12.out.next hb
  have GP_13 : Hid (Own w13 shCommit [.slice p5_1 NS.length q5_1, .int .i64 (0 : Int), .int .i64 (0 : Int)] (mkT shCommit (NS, 0, 0, ()) 1) (Btw w4.heap.size w5.heap.size)) := GP_12.out.next hb
  have G_13 : Hid (Bx w13 w5.heap.size [.slice p5_1 NS.length q5_1, .int .i64 (0 : Int), .int .i64 (0 : Int)]) := G_12.out.next hb
  clear hb cG0 cG1 cG2 zG SP_12 W_12 GP_12 G_12 HB12
  go_wp2_with fail
  refine (toIntS_n a0 k0 am _ HS0.out (HL0.out.next HB13.out)).mono ?_
  rintro r w14 ⟨p14, rfl, ho, hb⟩
  have HB14 : Hid (Below w.heap.size w w14) := below_next HB13.out hb
  have sz14 : w13.heap.size ≤ w14.heap.size := hb.size
  have SP_14 : Hid (Own w14 shCommit [.slice p2_1 NS.length q2_1, .int .i64 (0 : Int), .int .i64 (0 : Int)] (NS, 0, 0, ()) (Btw w1.heap.size w2.heap.size)) := SP_13.out.next hb
  have W_14 : Hid (Bx w14 w2.heap.size [.slice p2_1 NS.length q2_1, .int .i64 (0 : Int), .int .i64 (0 : Int)]) := W_13.out.next hb
  have GP_14 : Hid (Own w14 shCommit [.slice p5_1 NS.length q5_1, .int .i64 (0 : Int), .int .i64 (0 : Int)] (mkT shCommit (NS, 0, 0, ()) 1) (Btw w4.heap.size w5.heap.size)) := GP_13.out.next hb
  have G_14 : Hid (Bx w14 w5.heap.size [.slice p5_1 NS.length q5_1, .int .i64 (0 : Int), .int .i64 (0 : Int)]) := G_13.out.next hb
  have D_14 : Hid (Own w14 (.list .int) [.slice (some ⟨p14, 0, none⟩) am.length am.length] am (Btw w13.heap.size w14.heap.size)) := ho
  clear hb ho SP_13 W_13 GP_13 G_13 HB13
  go_wp2_with fail
  refine (newCommit_l (some ⟨p14, 0, none⟩) am.length am _ NS z HA.out HS0.out D_14.out.lies).mono ?_
  rintro r w15 ⟨cs9, rfl, ho, hb⟩
  obtain ⟨p15_1, q15_1, _, hev, _⟩ := own_Commit ho
  subst hev
  have HB15 : Hid (Below w.heap.size w w15) := below_next HB14.out hb
  have sz15 : w14.heap.size ≤ w15.heap.size := hb.size
  have SP_15 : Hid (Own w15 shCommit [.slice p2_1 NS.length q2_1, .int .i64 (0 : Int), .int .i64 (0 : Int)] (NS, 0, 0, ()) (Btw w1.heap.size w2.heap.size)) := SP_14.out.next hb
  have W_15 : Hid (Bx w15 w2.heap.size [.slice p2_1 NS.length q2_1, .int .i64 (0 : Int), .int .i64 (0 : Int)]) := W_14.out.next hb
  have GP_15 : Hid (Own w15 shCommit [.slice p5_1 NS.length q5_1, .int .i64 (0 : Int), .int .i64 (0 : Int)] (mkT shCommit (NS, 0, 0, ()) 1) (Btw w4.heap.size w5.heap.size)) := GP_14.out.next hb
  have G_15 : Hid (Bx w15 w5.heap.size [.slice p5_1 NS.length q5_1, .int .i64 (0 : Int), .int .i64 (0 : Int)]) := G_14.out.next hb
  have D_15 : Hid (Own w15 (.list .int) [.slice (some ⟨p14, 0, none⟩) am.length am.length] am (Btw w13.heap.size w14.heap.size)) := D_14.out.next hb
  have HP_15 : Hid (Own w15 shCommit [.slice p15_1 NS.length q15_1, .int .i64 (0 : Int), .int .i64 (0 : Int)] (NS, 0, 0, ()) (Btw w14.heap.size w15.heap.size)) := ho
  clear hb ho SP_14 W_14 GP_14 G_14 D_14 HB14
  clear D_15
  have cW0 := W_15.out.cell 0 rfl
  have cW1 := W_15.out.cell 1 rfl
  have cW2 := W_15.out.cell 2 rfl
  have zW := W_15.out.2
  go_wp2_with fail
  obtain ⟨w16, hw16⟩ : ∃ x, x = w15.alloc (.cells #[.slice p15_1 NS.length q15_1, .int .i64 (0 : Int), .int .i64 (0 : Int)] 25) := ⟨_, rfl⟩
  have hb : Below w15.heap.size w15 w16 := hw16 ▸ Go.Joins.below_alloc1 _ _
  have HB16 : Hid (Below w.heap.size w w16) := below_next HB15.out hb
  have sz16 : w15.heap.size < w16.heap.size := by rw [hw16]; simp
  have SP_16 : Hid (Own w16 shCommit [.slice p2_1 NS.length q2_1, .int .i64 (0 : Int), .int .i64 (0 : Int)] (NS, 0, 0, ()) (Btw w1.heap.size w2.heap.size)) := SP_15.out.next hb
  have W_16 : Hid (Bx w16 w2.heap.size [.slice p2_1 NS.length q2_1, .int .i64 (0 : Int), .int .i64 (0 : Int)]) := W_15.out.next hb
  have GP_16 : Hid (Own w16 shCommit [.slice p5_1 NS.length q5_1, .int .i64 (0 : Int), .int .i64 (0 : Int)] (mkT shCommit (NS, 0, 0, ()) 1) (Btw w4.heap.size w5.heap.size)) := GP_15.out.next hb
  have G_16 : Hid (Bx w16 w5.heap.size [.slice p5_1 NS.length q5_1, .int .i64 (0 : Int), .int .i64 (0 : Int)]) := G_15.out.next hb
  have HP_16 : Hid (Own w16 shCommit [.slice p15_1 NS.length q15_1, .int .i64 (0 : Int), .int .i64 (0 : Int)] (NS, 0, 0, ()) (Btw w14.heap.size w15.heap.size)) := HP_15.out.next hb
  have H_16 : Hid (Bx w16 w15.heap.size [.slice p15_1 NS.length q15_1, .int .i64 (0 : Int), .int .i64 (0 : Int)]) := hw16 ▸ Bx.new w15 [.slice p15_1 NS.length q15_1, .int .i64 (0 : Int), .int .i64 (0 : Int)] _
  rw [← hw16]
  clear hb hw16 cW0 cW1 cW2 zW SP_15 W_15 GP_15 G_15 HP_15 HB15
  refine (eqCommit_n [.slice p15_1 NS.length q15_1, .int .i64 (0 : Int), .int .i64 (0 : Int)] [.slice p2_1 NS.length q2_1, .int .i64 (0 : Int), .int .i64 (0 : Int)] NS (0 : Int) (0 : Int) _ HT.out HP_16.out.lies SP_16.out.lies).mono ?_
  rintro r w17 ⟨rfl, hb⟩
  have HB17 : Hid (Below w.heap.size w w17) := below_next HB16.out hb
  have sz17 : w16.heap.size ≤ w17.heap.size := hb.size
  have SP_17 : Hid (Own w17 shCommit [.slice p2_1 NS.length q2_1, .int .i64 (0 : Int), .int .i64 (0 : Int)] (NS, 0, 0, ()) (Btw w1.heap.size w2.heap.size)) := SP_16.out.next hb
  have W_17 : Hid (Bx w17 w2.heap.size [.slice p2_1 NS.length q2_1, .int .i64 (0 : Int), .int .i64 (0 : Int)]) := W_16.out.next hb
  have GP_17 : Hid (Own w17 shCommit [.slice p5_1 NS.length q5_1, .int .i64 (0 : Int), .int .i64 (0 : Int)] (mkT shCommit (NS, 0, 0, ()) 1) (Btw w4.heap.size w5.heap.size)) := GP_16.out.next hb
  have G_17 : Hid (Bx w17 w5.heap.size [.slice p5_1 NS.length q5_1, .int .i64 (0 : Int), .int .i64 (0 : Int)]) := G_16.out.next hb
  have HP_17 : Hid (Own w17 shCommit [.slice p15_1 NS.length q15_1, .int .i64 (0 : Int), .int .i64 (0 : Int)] (NS, 0, 0, ()) (Btw w14.heap.size w15.heap.size)) := HP_16.out.next hb
  have H_17 : Hid (Bx w17 w15.heap.size [.slice p15_1 NS.length q15_1, .int .i64 (0 : Int), .int .i64 (0 : Int)]) := H_16.out.next hb
  clear hb SP_16 W_16 GP_16 G_16 HP_16 H_16 HB16
  have cG0 := G_17.out.cell 0 rfl
  have cG1 := G_17.out.cell 1 rfl
  have cG2 := G_17.out.cell 2 rfl
  have zG := G_17.out.2
  go_wp2_with fail
  refine ((show Calls _ _ _ _ (fun r w' => r = .returned (.int .i64 (1 + (cn : Int))) ∧ Below _ _ w') from HCN.out ▸ heldCommit_n [.slice p5_1 NS.length q5_1, .int .i64 (0 : Int), .int .i64 (0 : Int)] NS (0 : Int) (0 : Int) 1 _ (by decide) (by have h1 := HCN.out; rw [← h1]; omega) HT.out GP_17.out.lies)).mono ?_
  rintro r w18 ⟨rfl, hb⟩
  have HB18 : Hid (Below w.heap.size w w18) := below_next HB17.out hb
  have sz18 : w17.heap.size ≤ w18.heap.size := hb.size
  have SP_18 : Hid (Own w18 shCommit [.slice p2_1 NS.length q2_1, .int .i64 (0 : Int), .int .i64 (0 : Int)] (NS, 0, 0, ()) (Btw w1.heap.size w2.heap.size)) := SP_17.out.next hb
  have W_18 : Hid (Bx w18 w2.heap.size [.slice p2_1 NS.length q2_1, .int .i64 (0 : Int), .int .i64 (0 : Int)]) := W_17.out.next hb
  have GP_18 : Hid (Own w18 shCommit [.slice p5_1 NS.length q5_1, .int .i64 (0 : Int), .int .i64 (0 : Int)] (mkT shCommit (NS, 0, 0, ()) 1) (Btw w4.heap.size w5.heap.size)) := GP_17.out.next hb
  have G_18 : Hid (Bx w18 w5.heap.size [.slice p5_1 NS.length q5_1, .int .i64 (0 : Int), .int .i64 (0 : Int)]) := G_17.out.next hb
  have HP_18 : Hid (Own w18 shCommit [.slice p15_1 NS.length q15_1, .int .i64 (0 : Int), .int .i64 (0 : Int)] (NS, 0, 0, ()) (Btw w14.heap.size w15.heap.size)) := HP_17.out.next hb
  have H_18 : Hid (Bx w18 w15.heap.size [.slice p15_1 NS.length q15_1, .int .i64 (0 : Int), .int .i64 (0 : Int)]) := H_17.out.next hb
  clear hb cG0 cG1 cG2 zG SP_17 W_17 GP_17 G_17 HP_17 H_17 HB17
  have HE := HB18
  go_wp2
  go_ret
  exact ⟨rfl, HE.out⟩


theorem own : ownKnob Try.prog.godebug = none := by kernel_rfl
theorem laidOut : laidOutB Try.prog = true := by kernel_rfl

set_option maxRecDepth 100000 in
theorem lifted (os : Os) (started : os.Started) (H : Type) (enc : TypeId × Value → H) :
    ReturnsInHanded {} Try.checked os 3 .any (Rows.fnExactNewCommitSpec.pre6 enc Try.prog Try.f3 Rows.fnExactNewCommitRow.domain false) (Rows.fnExactNewCommitSpec.post enc Try.prog Try.f3 false true false false) := by
  refine returnsInHanded_of_change (C := Try.checked) own started (by kernel_rfl) Try.func3
    (ChangeSpec.witness6 (enc := enc) (C := Try.checked) false ⟨#[], #[.slice none 0 0], []⟩ 8 (by kernel_rfl) (by kernel_rfl) (by kernel_rfl) (by kernel_rfl)) ?_
  intro W base args ds gs before hval0 hW hcnd _
  have hval : ∀ (j : Nat) t v, Try.f3.params[j]? = some t → args[j]? = some v → Value.okWide Try.prog W .any base t v := hval0
  have hW' := hW
  obtain ⟨p, q, hA0, hV, rfl, hfz, hnd⟩ := hW
  have hA : DataW.TrodAll enc Try.prog W 0 (fun _ => true) true Try.f3.params.toList args.toList ds p := hA0
  rw [Try.params3] at hA hval
  obtain ⟨v0, vs0, d0, ds0, p0, q0, hargs, rfl, rfl, h0, r0⟩ := trodAll_cons hA
  obtain ⟨rfl, rfl, rfl⟩ := trodAll_nil r0
  obtain rfl : args = #[v0] := by cases args; simp_all
  obtain ⟨rfl, rfl⟩ := trodVars_none hV
  have k0 := h0
  have lt0 : ∀ x ∈ p0, x.block < W.heap.size := by obtain ⟨m, hm⟩ := k0; exact DataW.trod_lt m _ _ _ hm
  obtain ⟨a0, len0, cap0, rfl⟩ := okWide_slice Try.underlying22 (hval 0 22 v0 rfl rfl)
  obtain ⟨X0, rfl, li0, fi0⟩ := open_IntS_n h0
  clear hA0 hval0
  refine (walk (w := W) a0 cap0 X0 li0 fi0).mono fun e W' ⟨he, bel⟩ => ?_
  subst he
  exact ⟨_, rfl, _, _, _, [], _, [], hW', trodAll_mk1 (shut_bool Try.underlying4 _), (trodAll_cons_mk (Below.trod laidOut (by kernel_rfl) (of_decide_eq_true (by kernel_rfl)) k0 bel lt0) trodAll_mk0), rfl, bel.frame _, fun h => by cases h⟩

set_option maxHeartbeats 40000000 in
theorem closed : joinedFacts Try.pinned.checked.prog 3 Try.f3 Rows.fnExactNewCommitSpec Rows.fnExactNewCommitRow = true := by
  unfold joinedFacts
  repeat' (first | (with_reducible refine both ?_ ?_) | (with_reducible exact may_enter') | (with_reducible refine lifts_eq ?_) | (with_reducible refine make_eq ?_) | as_aux_lemma => kernel_rfl)
theorem named : Try.pinned.checked.prog.funcNamed Rows.fnExactNewCommitRow.func = some 3 := by kernel_rfl
theorem over : Rows.fnExactNewCommitRow.holds Try.pinned (OpenSpec.ofChange Rows.fnExactNewCommitSpec) :=
  OpenClaim.holds_of_wide 3 Try.f3 rfl rfl rfl rfl rfl rfl rfl ⟨rfl, rfl, rfl, rfl, rfl⟩ rfl rfl rfl rfl rfl named Try.func3 closed
    (of_decide_eq_true (by as_aux_lemma => kernel_rfl)) (by unfold Func.isWrapper; first | (rw [if_pos (by decide +kernel)]; kernel_rfl) | (rw [if_neg (by decide +kernel)]; exact ⟨rfl, rfl⟩))
    (fun os started H enc _ => lifted os started H enc)

end Go.Proofs.Ytkpobihpcnoemaa.xNewCommit
namespace Go.Proofs.Ytkpobihpcnoemaa
theorem xNewCommit_holds : Rows.FnExactNewCommitSaid := xNewCommit.over
#print axioms xNewCommit_holds
end Go.Proofs.Ytkpobihpcnoemaa
