/- What is chosen stays chosen, and whoever proposes later proposes it, for drawn plays: the law FnStable, at every two lists of bytes. No condition. -/
import Derived.Test.YtmhkfangfhanlaaMgI
import Derived.Test.YtmhkfangfhanlaaWords
import Derived.ProofKit
import Derived.OpenShut
import Derived.ShutString
import Derived.ChangeOld
import Derived.Below
import Derived.Lib.SmallJoins
namespace Go.Proofs.Ytmhkfangfhanlaa.fStable
open Go.ChangeShapes Go.WideShapes Go.ChangeAt Go.RowKit
open Go.ChangeMaps (open_string shut_string)
set_option linter.unusedVariables false

set_option maxRecDepth 100000 in
set_option maxHeartbeats 16000000 in
theorem walk (a : Option Addr) (n cap : Nat) (X : Nat → Int) (w : World) (hm : n ≤ maxLen) (hs : Sl w a n 1 (byF X)) (hX : ∀ i, i < n → 0 ≤ X i ∧ X i ≤ 255)
    (a' : Option Addr) (n' cap' : Nat) (Y : Nat → Int) (hm' : n' ≤ maxLen) (hs' : Sl w a' n' 1 (byF Y)) (hY : ∀ i, i < n' → 0 ≤ Y i ∧ Y i ≤ 255) :
    Calls Try.prog 4 #[.slice a n cap, .slice a' n' cap'] w fun r w' => r = .returned (.bool true) ∧ Below w.heap.size w w' := by
  unfold maxLen at hm hm'
  have HS : Hid ((Sl w a n 1 (byF X) ∧ ∀ i, i < n → 0 ≤ X i ∧ X i ≤ 255) ∧ Sl w a' n' 1 (byF Y) ∧ ∀ i, i < n' → 0 ≤ Y i ∧ Y i ≤ 255) := ⟨⟨hs, hX⟩, hs', hY⟩
  clear hs hs' hX hY
  by_cases hlt : (1048576 : Int) < wrap64 ((n : Int) + (n' : Int))
  case pos =>
    go_enter Try.func4, Try.ntmps4
    go_wp2
    go_ret
    exact ⟨rfl, Below.refl _ _⟩
  case neg =>
  go_enter Try.func4, Try.ntmps4
  go_wp2_with fail
  refine (drawPlay_any _ _ _ X _ hm HS.out.1.1 HS.out.1.2).mono ?_
  rintro r w1 ⟨m, vs, l, a1, k1, a2, k2, hmb, hvl, hvz, hll, haf, rfl, h1, h2, hb⟩
  have HB1 : Hid (Below w.heap.size w w1) := below_next (Below.refl _ _) hb
  have sz1 : w.heap.size ≤ w1.heap.size := hb.size
  have V_1 : Hid (Lies w1 (.list .str) [.slice a1 vs.length k1] vs) := h1
  have L_1 : Hid (Lies w1 (.list shSynodStep) [.slice a2 l.length k2] l) := h2
  clear hb h1 h2
  skip
  have HVZ : Hid (szD (.list .str) vs ≤ 1000 ∧ l.length ≤ 121) := ⟨hvz, hll⟩
  clear hvz
  by_cases hl0 : 0 < l.length
  case pos =>
    obtain ⟨gx, ox, hgx⟩ : ∃ gx ox, a2 = some ⟨gx, ox, none⟩ := by
      obtain ⟨gx, ox, e, _⟩ := Lies.elem L_1.out hl0
      exact ⟨gx, ox, e⟩
    subst hgx
    have hl0' : (0 : Int) < (l.length : Int) := by omega
    go_wp2_with fail
    refine (numberOf_any _ _ _ Y _ hm' (HS.out.2.1.kept HB1.out) HS.out.2.2).mono ?_
    rintro r w2 ⟨nv, hnv, rfl, hb⟩
    have HB2 : Hid (Below w.heap.size w w2) := below_next HB1.out hb
    have sz2 : w1.heap.size ≤ w2.heap.size := hb.size
    have V_2 : Hid (Lies w2 (.list .str) [.slice a1 vs.length k1] vs) := V_1.out.next hb
    have L_2 : Hid (Lies w2 (.list shSynodStep) [.slice (some ⟨gx, ox, none⟩) l.length k2] l) := L_1.out.next hb
    clear hb V_1 L_1 HB1
    obtain ⟨kk, hkk, hke⟩ : ∃ kk : Nat, kk ≤ l.length ∧ (nv : Int) % ((l.length : Int) + 1) = (kk : Int) := ⟨((nv : Int) % ((l.length : Int) + 1)).toNat, by have h1 := Int.emod_lt_of_pos (nv : Int) (show (0 : Int) < (l.length : Int) + 1 by omega); have h2 := Int.emod_nonneg (nv : Int) (show (l.length : Int) + 1 ≠ 0 by omega); omega, by have h2 := Int.emod_nonneg (nv : Int) (show (l.length : Int) + 1 ≠ 0 by omega); omega⟩
    have HK : Hid (kk ≤ l.length) := hkk
    have hkc : kk ≤ k2 := by have := lies_cap L_2.out; omega
    obtain ⟨A1, P1, D1, z1, hA1⟩ : ∃ A P D z, PlH m vs (l.take kk) A P D z := ⟨_, _, _, _, rfl, rfl, rfl, rfl⟩
    have HA1 : Hid (PlH m vs (l.take kk) A1 P1 D1 z1) := hA1
    obtain ⟨A2, P2, D2, z2, hA2⟩ : ∃ A P D z, PlH m vs (l.take l.length) A P D z := ⟨_, _, _, _, rfl, rfl, rfl, rfl⟩
    have HA2 : Hid (PlH m vs (l.take l.length) A2 P2 D2 z2) := hA2
    clear hA1 hA2
    go_wp2_with fail
    refine ((playSynod_k kk m a1 k1 vs (some ⟨gx, ox, none⟩) k2 l _ A1 P1 D1 z1 HA1.out HK.out HVZ.out.1 HVZ.out.2 V_2.out L_2.out).1).mono ?_
    rintro r w3 hT
    obtain ⟨p3_1, q3_1, p3_2, q3_2, p3_3, q3_3, S3a, S3b, rfl, ho, hod, hss, hb⟩ := plp_out hT
    have HSS3 : Hid ((∀ k, S3a k → w2.heap.size ≤ k ∧ k < w3.heap.size) ∧ (∀ k, S3b k → w2.heap.size ≤ k ∧ k < w3.heap.size) ∧ (∀ k, S3a k → ¬ S3b k)) := hss
    clear hss
    have HB3 : Hid (Below w.heap.size w w3) := below_next HB2.out hb
    have sz3 : w2.heap.size ≤ w3.heap.size := hb.size
    have V_3 : Hid (Lies w3 (.list .str) [.slice a1 vs.length k1] vs) := V_2.out.next hb
    have L_3 : Hid (Lies w3 (.list shSynodStep) [.slice (some ⟨gx, ox, none⟩) l.length k2] l) := L_2.out.next hb
    have SP_3 : Hid (Own w3 shSynod [.slice p3_1 A1.length q3_1, .slice p3_2 P1.length q3_2] (A1, P1, ()) S3a) := ho
    have SD_3 : Hid (Own w3 (.list .bool) [.slice p3_3 D1.length q3_3] D1 S3b) := hod
    clear hb ho hod hT V_2 L_2 HB2
    clear SD_3
    go_wp2_with fail
    obtain ⟨w4, hw4⟩ : ∃ x, x = w3.alloc (.cells #[.slice p3_1 A1.length q3_1, .slice p3_2 P1.length q3_2] 30) := ⟨_, rfl⟩
    have hb : Below w3.heap.size w3 w4 := hw4 ▸ Go.Joins.below_alloc1 _ _
    have HB4 : Hid (Below w.heap.size w w4) := below_next HB3.out hb
    have sz4 : w3.heap.size < w4.heap.size := by rw [hw4]; simp
    have V_4 : Hid (Lies w4 (.list .str) [.slice a1 vs.length k1] vs) := V_3.out.next hb
    have L_4 : Hid (Lies w4 (.list shSynodStep) [.slice (some ⟨gx, ox, none⟩) l.length k2] l) := L_3.out.next hb
    have SP_4 : Hid (Own w4 shSynod [.slice p3_1 A1.length q3_1, .slice p3_2 P1.length q3_2] (A1, P1, ()) S3a) := SP_3.out.next hb
    have S_4 : Hid (Bx w4 w3.heap.size [.slice p3_1 A1.length q3_1, .slice p3_2 P1.length q3_2]) := hw4 ▸ Bx.new w3 [.slice p3_1 A1.length q3_1, .slice p3_2 P1.length q3_2] _
    rw [← hw4]
    clear hb hw4 V_3 L_3 SP_3 HB3
    refine ((playSynod_k kk m a1 k1 vs (some ⟨gx, ox, none⟩) k2 l _ A1 P1 D1 z1 HA1.out HK.out HVZ.out.1 HVZ.out.2 V_4.out L_4.out).2).mono ?_
    rintro r w5 hT
    obtain ⟨p5_1, q5_1, p5_2, q5_2, p5_3, q5_3, S5a, S5b, rfl, ho, hod, hss, hb⟩ := plp_out hT
    have HSS5 : Hid ((∀ k, S5a k → w4.heap.size ≤ k ∧ k < w5.heap.size) ∧ (∀ k, S5b k → w4.heap.size ≤ k ∧ k < w5.heap.size) ∧ (∀ k, S5a k → ¬ S5b k)) := hss
    clear hss
    have HB5 : Hid (Below w.heap.size w w5) := below_next HB4.out hb
    have sz5 : w4.heap.size ≤ w5.heap.size := hb.size
    have V_5 : Hid (Lies w5 (.list .str) [.slice a1 vs.length k1] vs) := V_4.out.next hb
    have L_5 : Hid (Lies w5 (.list shSynodStep) [.slice (some ⟨gx, ox, none⟩) l.length k2] l) := L_4.out.next hb
    have SP_5 : Hid (Own w5 shSynod [.slice p3_1 A1.length q3_1, .slice p3_2 P1.length q3_2] (A1, P1, ()) S3a) := SP_4.out.next hb
    have S_5 : Hid (Bx w5 w3.heap.size [.slice p3_1 A1.length q3_1, .slice p3_2 P1.length q3_2]) := S_4.out.next hb
    have QP_5 : Hid (Own w5 shSynod [.slice p5_1 A1.length q5_1, .slice p5_2 P1.length q5_2] (A1, P1, ()) S5a) := ho
    have QD_5 : Hid (Own w5 (.list .bool) [.slice p5_3 D1.length q5_3] D1 S5b) := hod
    clear hb ho hod hT V_4 L_4 SP_4 S_4 HB4
    clear QP_5
    clear QD_5
    go_wp2_with fail
    obtain ⟨w6, hw6⟩ : ∃ x, x = w5.alloc (.cells #[.slice p5_1 A1.length q5_1, .slice p5_2 P1.length q5_2] 30) := ⟨_, rfl⟩
    have hb : Below w5.heap.size w5 w6 := hw6 ▸ Go.Joins.below_alloc1 _ _
    have HB6 : Hid (Below w.heap.size w w6) := below_next HB5.out hb
    have sz6 : w5.heap.size < w6.heap.size := by rw [hw6]; simp
    have V_6 : Hid (Lies w6 (.list .str) [.slice a1 vs.length k1] vs) := V_5.out.next hb
    have L_6 : Hid (Lies w6 (.list shSynodStep) [.slice (some ⟨gx, ox, none⟩) l.length k2] l) := L_5.out.next hb
    have SP_6 : Hid (Own w6 shSynod [.slice p3_1 A1.length q3_1, .slice p3_2 P1.length q3_2] (A1, P1, ()) S3a) := SP_5.out.next hb
    have S_6 : Hid (Bx w6 w3.heap.size [.slice p3_1 A1.length q3_1, .slice p3_2 P1.length q3_2]) := S_5.out.next hb
    have Q_6 : Hid (Bx w6 w5.heap.size [.slice p5_1 A1.length q5_1, .slice p5_2 P1.length q5_2]) := hw6 ▸ Bx.new w5 [.slice p5_1 A1.length q5_1, .slice p5_2 P1.length q5_2] _
    rw [← hw6]
    clear hb hw6 V_5 L_5 SP_5 S_5 HB5
    refine ((playSynod_k l.length m a1 k1 vs (some ⟨gx, ox, none⟩) k2 l _ A2 P2 D2 z2 HA2.out (Nat.le_refl _) HVZ.out.1 HVZ.out.2 V_6.out L_6.out).1).mono ?_
    rintro r w7 hT
    obtain ⟨p7_1, q7_1, p7_2, q7_2, p7_3, q7_3, S7a, S7b, rfl, ho, hod, hss, hb⟩ := plp_out hT
    have HSS7 : Hid ((∀ k, S7a k → w6.heap.size ≤ k ∧ k < w7.heap.size) ∧ (∀ k, S7b k → w6.heap.size ≤ k ∧ k < w7.heap.size) ∧ (∀ k, S7a k → ¬ S7b k)) := hss
    clear hss
    have HB7 : Hid (Below w.heap.size w w7) := below_next HB6.out hb
    have sz7 : w6.heap.size ≤ w7.heap.size := hb.size
    have V_7 : Hid (Lies w7 (.list .str) [.slice a1 vs.length k1] vs) := V_6.out.next hb
    have L_7 : Hid (Lies w7 (.list shSynodStep) [.slice (some ⟨gx, ox, none⟩) l.length k2] l) := L_6.out.next hb
    have SP_7 : Hid (Own w7 shSynod [.slice p3_1 A1.length q3_1, .slice p3_2 P1.length q3_2] (A1, P1, ()) S3a) := SP_6.out.next hb
    have S_7 : Hid (Bx w7 w3.heap.size [.slice p3_1 A1.length q3_1, .slice p3_2 P1.length q3_2]) := S_6.out.next hb
    have Q_7 : Hid (Bx w7 w5.heap.size [.slice p5_1 A1.length q5_1, .slice p5_2 P1.length q5_2]) := Q_6.out.next hb
    have TP_7 : Hid (Own w7 shSynod [.slice p7_1 A2.length q7_1, .slice p7_2 P2.length q7_2] (A2, P2, ()) S7a) := ho
    have TD_7 : Hid (Own w7 (.list .bool) [.slice p7_3 D2.length q7_3] D2 S7b) := hod
    clear hb ho hod hT V_6 L_6 SP_6 S_6 Q_6 HB6
    clear TD_7
    cases z1
    · go_wp2_with fail
      go_ret
      exact ⟨rfl, (HB7.out.alloc HB7.out.size _)⟩
    cases z2
    · go_wp2_with fail
      go_ret
      exact ⟨rfl, (HB7.out.alloc HB7.out.size _)⟩
    have HT : Hid (Two m vs A1 P1 A2 P2) := Hid.intro (two_of (l := l) HK.out HA1.out (by have := HA2.out; rw [List.take_length] at this; exact this))
    have HZ : Hid (szD shSynod (A1, P1, ()) ≤ 1073741824 ∧ szD shSynod (A2, P2, ()) ≤ 1073741824) := Hid.intro ⟨Nat.le_trans (good_size HT.out.one.good) (by decide), Nat.le_trans (good_size HT.out.two.good) (by decide)⟩
    have cS0 := S_7.out.cell 0 rfl
    have cS1 := S_7.out.cell 1 rfl
    have zS := S_7.out.2
    go_wp2_with fail
    obtain ⟨w8, hw8⟩ : ∃ x, x = w7.alloc (.cells #[.slice p7_1 A2.length q7_1, .slice p7_2 P2.length q7_2] 30) := ⟨_, rfl⟩
    have hb : Below w7.heap.size w7 w8 := hw8 ▸ Go.Joins.below_alloc1 _ _
    have HB8 : Hid (Below w.heap.size w w8) := below_next HB7.out hb
    have sz8 : w7.heap.size < w8.heap.size := by rw [hw8]; simp
    have V_8 : Hid (Lies w8 (.list .str) [.slice a1 vs.length k1] vs) := V_7.out.next hb
    have L_8 : Hid (Lies w8 (.list shSynodStep) [.slice (some ⟨gx, ox, none⟩) l.length k2] l) := L_7.out.next hb
    have SP_8 : Hid (Own w8 shSynod [.slice p3_1 A1.length q3_1, .slice p3_2 P1.length q3_2] (A1, P1, ()) S3a) := SP_7.out.next hb
    have S_8 : Hid (Bx w8 w3.heap.size [.slice p3_1 A1.length q3_1, .slice p3_2 P1.length q3_2]) := S_7.out.next hb
    have Q_8 : Hid (Bx w8 w5.heap.size [.slice p5_1 A1.length q5_1, .slice p5_2 P1.length q5_2]) := Q_7.out.next hb
    have TP_8 : Hid (Own w8 shSynod [.slice p7_1 A2.length q7_1, .slice p7_2 P2.length q7_2] (A2, P2, ()) S7a) := TP_7.out.next hb
    have T_8 : Hid (Bx w8 w7.heap.size [.slice p7_1 A2.length q7_1, .slice p7_2 P2.length q7_2]) := hw8 ▸ Bx.new w7 [.slice p7_1 A2.length q7_1, .slice p7_2 P2.length q7_2] _
    rw [← hw8]
    clear hb hw8 cS0 cS1 zS V_7 L_7 SP_7 S_7 Q_7 TP_7 HB7
    obtain ⟨L1, hL1⟩ : ∃ L, chA A1 P1 = L := ⟨_, rfl⟩
    have HL1 : Hid (chA A1 P1 = L1 ∧ tf (goodS A1 P1) = true) := ⟨hL1, tf_yes HT.out.one.good⟩
    obtain ⟨L2, hL2⟩ : ∃ L, chA A2 P2 = L := ⟨_, rfl⟩
    have HL2 : Hid (chA A2 P2 = L2 ∧ tf (goodS A2 P2) = true) := ⟨hL2, tf_yes HT.out.two.good⟩
    clear hL1 hL2
    refine (chosenIn_l [.slice p3_1 A1.length q3_1, .slice p3_2 P1.length q3_2] A1 P1 _ L1 true HL1.out HZ.out.1 SP_8.out.lies).mono ?_
    rintro r w9 ⟨p9, q9, rfl, ho, hb⟩
    have HB9 : Hid (Below w.heap.size w w9) := below_next HB8.out hb
    have sz9 : w8.heap.size ≤ w9.heap.size := hb.size
    have V_9 : Hid (Lies w9 (.list .str) [.slice a1 vs.length k1] vs) := V_8.out.next hb
    have L_9 : Hid (Lies w9 (.list shSynodStep) [.slice (some ⟨gx, ox, none⟩) l.length k2] l) := L_8.out.next hb
    have SP_9 : Hid (Own w9 shSynod [.slice p3_1 A1.length q3_1, .slice p3_2 P1.length q3_2] (A1, P1, ()) S3a) := SP_8.out.next hb
    have S_9 : Hid (Bx w9 w3.heap.size [.slice p3_1 A1.length q3_1, .slice p3_2 P1.length q3_2]) := S_8.out.next hb
    have Q_9 : Hid (Bx w9 w5.heap.size [.slice p5_1 A1.length q5_1, .slice p5_2 P1.length q5_2]) := Q_8.out.next hb
    have TP_9 : Hid (Own w9 shSynod [.slice p7_1 A2.length q7_1, .slice p7_2 P2.length q7_2] (A2, P2, ()) S7a) := TP_8.out.next hb
    have T_9 : Hid (Bx w9 w7.heap.size [.slice p7_1 A2.length q7_1, .slice p7_2 P2.length q7_2]) := T_8.out.next hb
    have C1_9 : Hid (Own w9 (.list .str) [.slice p9 L1.length q9] L1 (Btw w8.heap.size w9.heap.size)) := ho
    clear hb ho V_8 L_8 SP_8 S_8 Q_8 TP_8 T_8 HB8
    have cT0 := T_9.out.cell 0 rfl
    have cT1 := T_9.out.cell 1 rfl
    have zT := T_9.out.2
    go_wp2_with fail
    refine (chosenIn_l [.slice p7_1 A2.length q7_1, .slice p7_2 P2.length q7_2] A2 P2 _ L2 true HL2.out HZ.out.2 TP_9.out.lies).mono ?_
    rintro r w10 ⟨p10, q10, rfl, ho, hb⟩
    have HB10 : Hid (Below w.heap.size w w10) := below_next HB9.out hb
    have sz10 : w9.heap.size ≤ w10.heap.size := hb.size
    have V_10 : Hid (Lies w10 (.list .str) [.slice a1 vs.length k1] vs) := V_9.out.next hb
    have L_10 : Hid (Lies w10 (.list shSynodStep) [.slice (some ⟨gx, ox, none⟩) l.length k2] l) := L_9.out.next hb
    have SP_10 : Hid (Own w10 shSynod [.slice p3_1 A1.length q3_1, .slice p3_2 P1.length q3_2] (A1, P1, ()) S3a) := SP_9.out.next hb
    have S_10 : Hid (Bx w10 w3.heap.size [.slice p3_1 A1.length q3_1, .slice p3_2 P1.length q3_2]) := S_9.out.next hb
    have Q_10 : Hid (Bx w10 w5.heap.size [.slice p5_1 A1.length q5_1, .slice p5_2 P1.length q5_2]) := Q_9.out.next hb
    have TP_10 : Hid (Own w10 shSynod [.slice p7_1 A2.length q7_1, .slice p7_2 P2.length q7_2] (A2, P2, ()) S7a) := TP_9.out.next hb
    have T_10 : Hid (Bx w10 w7.heap.size [.slice p7_1 A2.length q7_1, .slice p7_2 P2.length q7_2]) := T_9.out.next hb
    have C1_10 : Hid (Own w10 (.list .str) [.slice p9 L1.length q9] L1 (Btw w8.heap.size w9.heap.size)) := C1_9.out.next hb
    have C2_10 : Hid (Own w10 (.list .str) [.slice p10 L2.length q10] L2 (Btw w9.heap.size w10.heap.size)) := ho
    clear hb ho cT0 cT1 zT V_9 L_9 SP_9 S_9 Q_9 TP_9 T_9 C1_9 HB9
    rcases chA_form HT.out.one with ⟨q, _⟩ | ⟨c, hc, hcc, q⟩
    · have hL0 : L1 = [] := HL1.out.1.symm.trans q
      subst hL0
      clear q
      simp only [List.length_nil]
      go_wp2_with fail
      go_ret
      exact ⟨rfl, HB10.out⟩
    have HCL := Hid.intro (chosen_later (s := (A1, P1)) (t := (A2, P2)) HT.out.one HT.out.two HT.out.later hcc)
    obtain ⟨t0, ht0⟩ : ∃ t, t = vlo P1 c := ⟨_, rfl⟩
    have hL1 : L1 = [t0] := by rw [ht0, ← HL1.out.1]; exact q
    have hL2 : L2 = [t0] := by rw [ht0, ← HL2.out.1]; exact HCL.out.2.2.2.1
    have HT0 : Hid (t0 = vlo P1 c) := ht0
    have HCC : Hid (c < P1.length ∧ chosP A1 P1 c) := ⟨hc, hcc⟩
    subst hL1 hL2
    clear q hc hcc ht0
    have hnm := HT.out.accs
    have hnp := HT.out.pros
    have HNM := Hid.intro (And.intro hnm hnp)
    clear hnm hnp
    have hn8 : P1.length ≤ 8 := HT.out.one.good.2.1.2
    have hvs8 : vs.length ≤ 8 := by have := HNM.out.2; omega
    simp only [List.length_singleton]
    have cS0 := S_10.out.cell 0 rfl
    have cS1 := S_10.out.cell 1 rfl
    have zS := S_10.out.2
    go_wp2_with fail
    go_loopw [23, 22] (fun y u wr => ∃ (j e : Nat), j ≤ vs.length ∧ y = .int .i64 (j : Int) ∧ u = .int .i64 (e : Int) ∧ ((e = 0 ∧ (∀ d, j ≤ d → d < P1.length → ¬ chosP A1 P1 d)) ∨ (∃ d, e = d + 1 ∧ d < P1.length ∧ chosP A1 P1 d)) ∧ wr = w10) (fun y _ _ => (intOf y).toNat)
    case atStart => exact ⟨vs.length, 0, Nat.le_refl _, rfl, rfl, Or.inl ⟨rfl, fun d h1 h2 => absurd h2 (by have := HNM.out.2; omega)⟩, rfl⟩
    case round =>
      obtain ⟨j, e, hj, rfl, rfl, hE, hwr⟩ := hrel
      subst hwr
      have HE := Hid.intro hE
      clear hE
      by_cases hj0 : 0 < j
      · obtain ⟨i, rfl⟩ : ∃ i : Nat, j = i + 1 := ⟨j - 1, by omega⟩
        have hj0' : (0 : Int) < ((i + 1 : Nat) : Int) := by omega
        have hix : i < P1.length := by have := HNM.out.2; omega
        have hix' : (i : Int) < (P1.length : Int) := by omega
        have hsub : ((i + 1 : Nat) : Int) - 1 = (i : Int) := by omega
        have HLE : Hid (Lies wr (.list shProposer) [.slice p3_2 P1.length q3_2] P1) := Hid.intro (lies_Synod2 SP_10.out.lies)
        obtain ⟨xg, xoff, xgo, xgs, xec, xel, xhec, xle⟩ := Lies.elem (HLE.out) hix
        subst xgo
        rcases xX : P1[i] with ⟨x0, x1, x2, x3, x4, ⟨⟩⟩
        rw [xX] at xle
        have xH : Hid (P1[i] = (x0, x1, x2, x3, x4, ())) := xX
        clear xX
        obtain ⟨xa1, xk1, xa2, xk2, xev, xq1, xq2⟩ := lies_Proposer xle
        subst xev
        have xc0 : wr.cell? ⟨xg, xoff + i * 5, none⟩ = some (.string x0) := xhec 0 (by simp)
        have xc1 : wr.cell? ⟨xg, xoff + i * 5 + 1, none⟩ = some (.slice xa1 x1.length xk1) := xhec 1 (by simp)
        have xc2 : wr.cell? ⟨xg, xoff + i * 5 + 2, none⟩ = some (.bool x2) := xhec 2 (by simp)
        have xc3 : wr.cell? ⟨xg, xoff + i * 5 + 3, none⟩ = some (.string x3) := xhec 3 (by simp)
        have xc4 : wr.cell? ⟨xg, xoff + i * 5 + 4, none⟩ = some (.slice xa2 x4.length xk2) := xhec 4 (by simp)
        clear xhec xel xle
        have hvt : vto P1 i = x4 := by unfold vto; rw [List.getD_eq_getElem?_getD, List.getElem?_eq_getElem hix, xH.out]; rfl
        have HVT : Hid (vto P1 i = x4) := hvt
        clear hvt HLE xq1 xq2
        have hx12 : x4.length ≤ 12 := by have h9 := pro_at HT.out.one.good i; rcases h9 with ⟨_, q⟩ | ⟨q, _⟩; (· have r := ris_len q.2.2.2.2.2 (by omega); rw [HVT.out] at r; have := HT.out.one.good.1.2; omega); (rw [HVT.out] at q; rw [q]; simp)
        have hmA := HNM.out.1
        have HMA := Hid.intro hmA
        by_cases hch : m < 2 * (x4.length : Int)
        · have HNX : Hid (chosP A1 P1 i) := Hid.intro (by unfold chosP; rw [HVT.out, hmA]; exact hch)
          clear hmA
          go_wp2_with fail
          go_roundw
          case rel => exact ⟨i, i + 1, by omega, by congr 1 <;> omega, by congr 1, Or.inr ⟨i, rfl, hix, HNX.out⟩, trivial⟩
          case measure => simp [intOf]
        · have hch' : 2 * (x4.length : Int) ≤ m := by omega
          have HNX : Hid (¬ chosP A1 P1 i) := Hid.intro (by unfold chosP; rw [HVT.out, hmA]; omega)
          clear hmA
          go_wp2_with fail
          go_roundw
          case rel =>
            refine ⟨i, e, by omega, by congr 1 <;> omega, rfl, ?_, trivial⟩
            rcases HE.out with ⟨q1, q2⟩ | q
            · refine Or.inl ⟨q1, fun d h1 h2 => ?_⟩
              by_cases ed : d = i
              · subst ed; exact HNX.out
              · exact q2 d (by omega) h2
            · exact Or.inr q
          case measure => simp [intOf]
      · obtain rfl : j = 0 := by omega
        obtain ⟨d, rfl, hdl, hdc⟩ : ∃ d, e = d + 1 ∧ d < P1.length ∧ chosP A1 P1 d := by
          rcases HE.out with ⟨_, q⟩ | q
          · exact absurd HCC.out.2 (q c (Nat.zero_le _) HCC.out.1)
          · exact q
        have HD := Hid.intro (chosen_later (s := (A1, P1)) (t := (A2, P2)) HT.out.one HT.out.two HT.out.later hdc)
        have HDV : Hid (vlo P1 d = t0) := Hid.intro (by rw [HT0.out]; exact chosen_same HT.out.one hdc HCC.out.2)
        clear HE hdc
        clear cS0 cS1 zS
        go_wp2_with fail
        obtain ⟨WK, hWK⟩ : ∃ x, x = wr := ⟨_, rfl⟩
        subst hWK
        have HPL : Hid (P2.length = vs.length) := Hid.intro (by have h1 := HT.out.later.2.1; have h2 := HNM.out.2; exact h1.symm.trans h2)
        go_loopw [24] (fun y wr => ∃ b : Nat, d + 1 ≤ b ∧ b ≤ vs.length + 1 ∧ y = .int .i64 (b : Int) ∧ Below WK.heap.size WK wr) (fun y _ => vs.length + 1 - (intOf y).toNat)
        case atStart => exact ⟨d + 1, Nat.le_refl _, by have := HNM.out.2; omega, rfl, Below.refl _ _⟩
        case round =>
          obtain ⟨b, hb1, hb2, rfl, hB⟩ := hrel
          have HBR : Hid (Below WK.heap.size WK wr) := hB
          clear hB
          by_cases hbl : b ≤ vs.length
          · obtain ⟨i, rfl⟩ : ∃ i : Nat, b = i + 1 := ⟨b - 1, by omega⟩
            have hbl' : ((i + 1 : Nat) : Int) ≤ (vs.length : Int) := by omega
            have hi2 : i < P2.length := by have := HPL.out; omega
            obtain ⟨tx, fb, hva⟩ : ∃ t f, vaA A2 P2 ((i + 1 : Nat) : Int) = (t, f) ∧ t = vlo P2 i ∧ f = fxo P2 i := by
              obtain ⟨own, pms, fx, val, vt, hP⟩ : ∃ (own : ByteArray) (pms : List (Sh.T shPromise)) (fx : Bool) (val : ByteArray) (vt : List (Sh.T .int)), P2[i] = (own, pms, fx, val, vt, ()) := ⟨_, _, _, _, _, rfl⟩
              have e : P2.getD i pz1 = (own, pms, fx, val, vt, ()) := by rw [List.getD_eq_getElem?_getD, List.getElem?_eq_getElem hi2, hP]; rfl
              refine ⟨val, fx, ?_, by unfold vlo; rw [e], by unfold fxo; rw [e]⟩
              rw [show ((i + 1 : Nat) : Int) = (i : Int) + 1 by omega]
              exact va_yes HT.out.two.good hi2 hP
            have HVA : Hid (vaA A2 P2 ((i + 1 : Nat) : Int) = (tx, fb)) := hva.1
            have HFT : Hid (fb = true → tx = t0) := Hid.intro (fun hf => by rw [hva.2.1, ← HDV.out]; exact HD.out.2.2.2.2 i (by omega) (by rw [← hva.2.2]; exact hf))
            clear hva
            have HTX := Hid.intro (T_10.out.next HBR.out)
            have e0 := HTX.out.cell 0 rfl
            have e1 := HTX.out.cell 1 rfl
            have ez := HTX.out.2
            go_wp2_with fail
            refine (show Calls _ _ _ _ (VaP (tx, fb) _) from HVA.out ▸ valueAt_n [.slice p7_1 A2.length q7_1, .slice p7_2 P2.length q7_2] A2 P2 ((i + 1 : Nat) : Int) _ HZ.out.2 (TP_10.out.lies.next HBR.out)).mono ?_
            rintro r W1 ⟨rfl, hb⟩
            have HB1 : Hid (Below WK.heap.size WK W1) := Hid.intro (below_next HBR.out hb)
            clear hb HTX e0 e1 ez
            have HTX := Hid.intro (T_10.out.next HB1.out)
            have e0 := HTX.out.cell 0 rfl
            have e1 := HTX.out.cell 1 rfl
            have ez := HTX.out.2
            go_wp2_with fail
            refine (show Calls _ _ _ _ (VaP (tx, fb) _) from HVA.out ▸ specValueAt_n [.slice p7_1 A2.length q7_1, .slice p7_2 P2.length q7_2] A2 P2 ((i + 1 : Nat) : Int) _ HZ.out.2 (TP_10.out.lies.next HB1.out)).mono ?_
            rintro r W2 ⟨rfl, hb⟩
            have HB2 : Hid (Below WK.heap.size WK W2) := Hid.intro (below_next HB1.out hb)
            clear hb HTX e0 e1 ez
            cases fb
            · go_wp2_with fail
              go_roundw
              case rel => exact ⟨i + 1 + 1, by omega, by omega, by congr 1 <;> omega, HB2.out⟩
              case measure => simp [intOf]; omega
            · obtain rfl : tx = t0 := HFT.out rfl
              obtain ⟨gc, oc, hgo, hgs, ec, hel, hec, hle⟩ := Lies.elem (C1_10.out.lies.next HB2.out) (show 0 < [tx].length by simp)
              have hev : ec = [.string tx] := hle
              subst hev
              have c0 : W2.cell? ⟨gc, oc, none⟩ = some (.string tx) := by have := hec 0 (by simp); simpa using this
              subst hgo
              clear hec hel hle
              go_wp2_with fail
              go_roundw
              case rel => exact ⟨i + 1 + 1, by omega, by omega, by congr 1 <;> omega, HB2.out⟩
              case measure => simp [intOf]; omega
          · have hbl' : (vs.length : Int) < (b : Int) := by omega
            go_wp2_with fail
            refine (sameTexts_same p9 p10 q9 q10 [t0] _ (by simp) (C1_10.out.lies.next HBR.out) (C2_10.out.lies.next HBR.out)).mono ?_
            rintro r W1 ⟨rfl, hb⟩
            have HE : Hid (Below w.heap.size w W1) := Hid.intro (below_next (below_next HB10.out HBR.out) hb)
            clear hb
            go_wp2_with fail
            go_ret
            exact ⟨rfl, HE.out⟩
  case neg =>
    have hl0' : (l.length : Int) ≤ 0 := by omega
    have HK : Hid (0 ≤ l.length) := Nat.zero_le _
    rcases haf with rfl | ⟨gx, rfl⟩
    · obtain ⟨A1, P1, D1, z1, hA1⟩ : ∃ A P D z, PlH m vs (l.take 0) A P D z := ⟨_, _, _, _, rfl, rfl, rfl, rfl⟩
      have HA1 : Hid (PlH m vs (l.take 0) A1 P1 D1 z1) := hA1
      obtain ⟨A2, P2, D2, z2, hA2⟩ : ∃ A P D z, PlH m vs (l.take l.length) A P D z := ⟨_, _, _, _, rfl, rfl, rfl, rfl⟩
      have HA2 : Hid (PlH m vs (l.take l.length) A2 P2 D2 z2) := hA2
      clear hA1 hA2
      go_wp2_with fail
      refine ((playSynod_k 0 m a1 k1 vs none k2 l _ A1 P1 D1 z1 HA1.out HK.out HVZ.out.1 HVZ.out.2 V_1.out L_1.out).1).mono ?_
      rintro r w2 hT
      obtain ⟨p2_1, q2_1, p2_2, q2_2, p2_3, q2_3, S2a, S2b, rfl, ho, hod, hss, hb⟩ := plp_out hT
      have HSS2 : Hid ((∀ k, S2a k → w1.heap.size ≤ k ∧ k < w2.heap.size) ∧ (∀ k, S2b k → w1.heap.size ≤ k ∧ k < w2.heap.size) ∧ (∀ k, S2a k → ¬ S2b k)) := hss
      clear hss
      have HB2 : Hid (Below w.heap.size w w2) := below_next HB1.out hb
      have sz2 : w1.heap.size ≤ w2.heap.size := hb.size
      have V_2 : Hid (Lies w2 (.list .str) [.slice a1 vs.length k1] vs) := V_1.out.next hb
      have L_2 : Hid (Lies w2 (.list shSynodStep) [.slice none l.length k2] l) := L_1.out.next hb
      have SP_2 : Hid (Own w2 shSynod [.slice p2_1 A1.length q2_1, .slice p2_2 P1.length q2_2] (A1, P1, ()) S2a) := ho
      have SD_2 : Hid (Own w2 (.list .bool) [.slice p2_3 D1.length q2_3] D1 S2b) := hod
      clear hb ho hod hT V_1 L_1 HB1
      clear SD_2
      go_wp2_with fail
      obtain ⟨w3, hw3⟩ : ∃ x, x = w2.alloc (.cells #[.slice p2_1 A1.length q2_1, .slice p2_2 P1.length q2_2] 30) := ⟨_, rfl⟩
      have hb : Below w2.heap.size w2 w3 := hw3 ▸ Go.Joins.below_alloc1 _ _
      have HB3 : Hid (Below w.heap.size w w3) := below_next HB2.out hb
      have sz3 : w2.heap.size < w3.heap.size := by rw [hw3]; simp
      have V_3 : Hid (Lies w3 (.list .str) [.slice a1 vs.length k1] vs) := V_2.out.next hb
      have L_3 : Hid (Lies w3 (.list shSynodStep) [.slice none l.length k2] l) := L_2.out.next hb
      have SP_3 : Hid (Own w3 shSynod [.slice p2_1 A1.length q2_1, .slice p2_2 P1.length q2_2] (A1, P1, ()) S2a) := SP_2.out.next hb
      have S_3 : Hid (Bx w3 w2.heap.size [.slice p2_1 A1.length q2_1, .slice p2_2 P1.length q2_2]) := hw3 ▸ Bx.new w2 [.slice p2_1 A1.length q2_1, .slice p2_2 P1.length q2_2] _
      rw [← hw3]
      clear hb hw3 V_2 L_2 SP_2 HB2
      refine ((playSynod_k 0 m a1 k1 vs none k2 l _ A1 P1 D1 z1 HA1.out HK.out HVZ.out.1 HVZ.out.2 V_3.out L_3.out).2).mono ?_
      rintro r w4 hT
      obtain ⟨p4_1, q4_1, p4_2, q4_2, p4_3, q4_3, S4a, S4b, rfl, ho, hod, hss, hb⟩ := plp_out hT
      have HSS4 : Hid ((∀ k, S4a k → w3.heap.size ≤ k ∧ k < w4.heap.size) ∧ (∀ k, S4b k → w3.heap.size ≤ k ∧ k < w4.heap.size) ∧ (∀ k, S4a k → ¬ S4b k)) := hss
      clear hss
      have HB4 : Hid (Below w.heap.size w w4) := below_next HB3.out hb
      have sz4 : w3.heap.size ≤ w4.heap.size := hb.size
      have V_4 : Hid (Lies w4 (.list .str) [.slice a1 vs.length k1] vs) := V_3.out.next hb
      have L_4 : Hid (Lies w4 (.list shSynodStep) [.slice none l.length k2] l) := L_3.out.next hb
      have SP_4 : Hid (Own w4 shSynod [.slice p2_1 A1.length q2_1, .slice p2_2 P1.length q2_2] (A1, P1, ()) S2a) := SP_3.out.next hb
      have S_4 : Hid (Bx w4 w2.heap.size [.slice p2_1 A1.length q2_1, .slice p2_2 P1.length q2_2]) := S_3.out.next hb
      have QP_4 : Hid (Own w4 shSynod [.slice p4_1 A1.length q4_1, .slice p4_2 P1.length q4_2] (A1, P1, ()) S4a) := ho
      have QD_4 : Hid (Own w4 (.list .bool) [.slice p4_3 D1.length q4_3] D1 S4b) := hod
      clear hb ho hod hT V_3 L_3 SP_3 S_3 HB3
      clear QP_4
      clear QD_4
      go_wp2_with fail
      obtain ⟨w5, hw5⟩ : ∃ x, x = w4.alloc (.cells #[.slice p4_1 A1.length q4_1, .slice p4_2 P1.length q4_2] 30) := ⟨_, rfl⟩
      have hb : Below w4.heap.size w4 w5 := hw5 ▸ Go.Joins.below_alloc1 _ _
      have HB5 : Hid (Below w.heap.size w w5) := below_next HB4.out hb
      have sz5 : w4.heap.size < w5.heap.size := by rw [hw5]; simp
      have V_5 : Hid (Lies w5 (.list .str) [.slice a1 vs.length k1] vs) := V_4.out.next hb
      have L_5 : Hid (Lies w5 (.list shSynodStep) [.slice none l.length k2] l) := L_4.out.next hb
      have SP_5 : Hid (Own w5 shSynod [.slice p2_1 A1.length q2_1, .slice p2_2 P1.length q2_2] (A1, P1, ()) S2a) := SP_4.out.next hb
      have S_5 : Hid (Bx w5 w2.heap.size [.slice p2_1 A1.length q2_1, .slice p2_2 P1.length q2_2]) := S_4.out.next hb
      have Q_5 : Hid (Bx w5 w4.heap.size [.slice p4_1 A1.length q4_1, .slice p4_2 P1.length q4_2]) := hw5 ▸ Bx.new w4 [.slice p4_1 A1.length q4_1, .slice p4_2 P1.length q4_2] _
      rw [← hw5]
      clear hb hw5 V_4 L_4 SP_4 S_4 HB4
      refine ((playSynod_k l.length m a1 k1 vs none k2 l _ A2 P2 D2 z2 HA2.out (Nat.le_refl _) HVZ.out.1 HVZ.out.2 V_5.out L_5.out).1).mono ?_
      rintro r w6 hT
      obtain ⟨p6_1, q6_1, p6_2, q6_2, p6_3, q6_3, S6a, S6b, rfl, ho, hod, hss, hb⟩ := plp_out hT
      have HSS6 : Hid ((∀ k, S6a k → w5.heap.size ≤ k ∧ k < w6.heap.size) ∧ (∀ k, S6b k → w5.heap.size ≤ k ∧ k < w6.heap.size) ∧ (∀ k, S6a k → ¬ S6b k)) := hss
      clear hss
      have HB6 : Hid (Below w.heap.size w w6) := below_next HB5.out hb
      have sz6 : w5.heap.size ≤ w6.heap.size := hb.size
      have V_6 : Hid (Lies w6 (.list .str) [.slice a1 vs.length k1] vs) := V_5.out.next hb
      have L_6 : Hid (Lies w6 (.list shSynodStep) [.slice none l.length k2] l) := L_5.out.next hb
      have SP_6 : Hid (Own w6 shSynod [.slice p2_1 A1.length q2_1, .slice p2_2 P1.length q2_2] (A1, P1, ()) S2a) := SP_5.out.next hb
      have S_6 : Hid (Bx w6 w2.heap.size [.slice p2_1 A1.length q2_1, .slice p2_2 P1.length q2_2]) := S_5.out.next hb
      have Q_6 : Hid (Bx w6 w4.heap.size [.slice p4_1 A1.length q4_1, .slice p4_2 P1.length q4_2]) := Q_5.out.next hb
      have TP_6 : Hid (Own w6 shSynod [.slice p6_1 A2.length q6_1, .slice p6_2 P2.length q6_2] (A2, P2, ()) S6a) := ho
      have TD_6 : Hid (Own w6 (.list .bool) [.slice p6_3 D2.length q6_3] D2 S6b) := hod
      clear hb ho hod hT V_5 L_5 SP_5 S_5 Q_5 HB5
      clear TD_6
      cases z1
      · go_wp2_with fail
        go_ret
        exact ⟨rfl, (HB6.out.alloc HB6.out.size _)⟩
      cases z2
      · go_wp2_with fail
        go_ret
        exact ⟨rfl, (HB6.out.alloc HB6.out.size _)⟩
      have HT : Hid (Two m vs A1 P1 A2 P2) := Hid.intro (two_of (l := l) HK.out HA1.out (by have := HA2.out; rw [List.take_length] at this; exact this))
      have HZ : Hid (szD shSynod (A1, P1, ()) ≤ 1073741824 ∧ szD shSynod (A2, P2, ()) ≤ 1073741824) := Hid.intro ⟨Nat.le_trans (good_size HT.out.one.good) (by decide), Nat.le_trans (good_size HT.out.two.good) (by decide)⟩
      have cS0 := S_6.out.cell 0 rfl
      have cS1 := S_6.out.cell 1 rfl
      have zS := S_6.out.2
      go_wp2_with fail
      obtain ⟨w7, hw7⟩ : ∃ x, x = w6.alloc (.cells #[.slice p6_1 A2.length q6_1, .slice p6_2 P2.length q6_2] 30) := ⟨_, rfl⟩
      have hb : Below w6.heap.size w6 w7 := hw7 ▸ Go.Joins.below_alloc1 _ _
      have HB7 : Hid (Below w.heap.size w w7) := below_next HB6.out hb
      have sz7 : w6.heap.size < w7.heap.size := by rw [hw7]; simp
      have V_7 : Hid (Lies w7 (.list .str) [.slice a1 vs.length k1] vs) := V_6.out.next hb
      have L_7 : Hid (Lies w7 (.list shSynodStep) [.slice none l.length k2] l) := L_6.out.next hb
      have SP_7 : Hid (Own w7 shSynod [.slice p2_1 A1.length q2_1, .slice p2_2 P1.length q2_2] (A1, P1, ()) S2a) := SP_6.out.next hb
      have S_7 : Hid (Bx w7 w2.heap.size [.slice p2_1 A1.length q2_1, .slice p2_2 P1.length q2_2]) := S_6.out.next hb
      have Q_7 : Hid (Bx w7 w4.heap.size [.slice p4_1 A1.length q4_1, .slice p4_2 P1.length q4_2]) := Q_6.out.next hb
      have TP_7 : Hid (Own w7 shSynod [.slice p6_1 A2.length q6_1, .slice p6_2 P2.length q6_2] (A2, P2, ()) S6a) := TP_6.out.next hb
      have T_7 : Hid (Bx w7 w6.heap.size [.slice p6_1 A2.length q6_1, .slice p6_2 P2.length q6_2]) := hw7 ▸ Bx.new w6 [.slice p6_1 A2.length q6_1, .slice p6_2 P2.length q6_2] _
      rw [← hw7]
      clear hb hw7 cS0 cS1 zS V_6 L_6 SP_6 S_6 Q_6 TP_6 HB6
      obtain ⟨L1, hL1⟩ : ∃ L, chA A1 P1 = L := ⟨_, rfl⟩
      have HL1 : Hid (chA A1 P1 = L1 ∧ tf (goodS A1 P1) = true) := ⟨hL1, tf_yes HT.out.one.good⟩
      obtain ⟨L2, hL2⟩ : ∃ L, chA A2 P2 = L := ⟨_, rfl⟩
      have HL2 : Hid (chA A2 P2 = L2 ∧ tf (goodS A2 P2) = true) := ⟨hL2, tf_yes HT.out.two.good⟩
      clear hL1 hL2
      refine (chosenIn_l [.slice p2_1 A1.length q2_1, .slice p2_2 P1.length q2_2] A1 P1 _ L1 true HL1.out HZ.out.1 SP_7.out.lies).mono ?_
      rintro r w8 ⟨p8, q8, rfl, ho, hb⟩
      have HB8 : Hid (Below w.heap.size w w8) := below_next HB7.out hb
      have sz8 : w7.heap.size ≤ w8.heap.size := hb.size
      have V_8 : Hid (Lies w8 (.list .str) [.slice a1 vs.length k1] vs) := V_7.out.next hb
      have L_8 : Hid (Lies w8 (.list shSynodStep) [.slice none l.length k2] l) := L_7.out.next hb
      have SP_8 : Hid (Own w8 shSynod [.slice p2_1 A1.length q2_1, .slice p2_2 P1.length q2_2] (A1, P1, ()) S2a) := SP_7.out.next hb
      have S_8 : Hid (Bx w8 w2.heap.size [.slice p2_1 A1.length q2_1, .slice p2_2 P1.length q2_2]) := S_7.out.next hb
      have Q_8 : Hid (Bx w8 w4.heap.size [.slice p4_1 A1.length q4_1, .slice p4_2 P1.length q4_2]) := Q_7.out.next hb
      have TP_8 : Hid (Own w8 shSynod [.slice p6_1 A2.length q6_1, .slice p6_2 P2.length q6_2] (A2, P2, ()) S6a) := TP_7.out.next hb
      have T_8 : Hid (Bx w8 w6.heap.size [.slice p6_1 A2.length q6_1, .slice p6_2 P2.length q6_2]) := T_7.out.next hb
      have C1_8 : Hid (Own w8 (.list .str) [.slice p8 L1.length q8] L1 (Btw w7.heap.size w8.heap.size)) := ho
      clear hb ho V_7 L_7 SP_7 S_7 Q_7 TP_7 T_7 HB7
      have cT0 := T_8.out.cell 0 rfl
      have cT1 := T_8.out.cell 1 rfl
      have zT := T_8.out.2
      go_wp2_with fail
      refine (chosenIn_l [.slice p6_1 A2.length q6_1, .slice p6_2 P2.length q6_2] A2 P2 _ L2 true HL2.out HZ.out.2 TP_8.out.lies).mono ?_
      rintro r w9 ⟨p9, q9, rfl, ho, hb⟩
      have HB9 : Hid (Below w.heap.size w w9) := below_next HB8.out hb
      have sz9 : w8.heap.size ≤ w9.heap.size := hb.size
      have V_9 : Hid (Lies w9 (.list .str) [.slice a1 vs.length k1] vs) := V_8.out.next hb
      have L_9 : Hid (Lies w9 (.list shSynodStep) [.slice none l.length k2] l) := L_8.out.next hb
      have SP_9 : Hid (Own w9 shSynod [.slice p2_1 A1.length q2_1, .slice p2_2 P1.length q2_2] (A1, P1, ()) S2a) := SP_8.out.next hb
      have S_9 : Hid (Bx w9 w2.heap.size [.slice p2_1 A1.length q2_1, .slice p2_2 P1.length q2_2]) := S_8.out.next hb
      have Q_9 : Hid (Bx w9 w4.heap.size [.slice p4_1 A1.length q4_1, .slice p4_2 P1.length q4_2]) := Q_8.out.next hb
      have TP_9 : Hid (Own w9 shSynod [.slice p6_1 A2.length q6_1, .slice p6_2 P2.length q6_2] (A2, P2, ()) S6a) := TP_8.out.next hb
      have T_9 : Hid (Bx w9 w6.heap.size [.slice p6_1 A2.length q6_1, .slice p6_2 P2.length q6_2]) := T_8.out.next hb
      have C1_9 : Hid (Own w9 (.list .str) [.slice p8 L1.length q8] L1 (Btw w7.heap.size w8.heap.size)) := C1_8.out.next hb
      have C2_9 : Hid (Own w9 (.list .str) [.slice p9 L2.length q9] L2 (Btw w8.heap.size w9.heap.size)) := ho
      clear hb ho cT0 cT1 zT V_8 L_8 SP_8 S_8 Q_8 TP_8 T_8 C1_8 HB8
      rcases chA_form HT.out.one with ⟨q, _⟩ | ⟨c, hc, hcc, q⟩
      · have hL0 : L1 = [] := HL1.out.1.symm.trans q
        subst hL0
        clear q
        simp only [List.length_nil]
        go_wp2_with fail
        go_ret
        exact ⟨rfl, HB9.out⟩
      have HCL := Hid.intro (chosen_later (s := (A1, P1)) (t := (A2, P2)) HT.out.one HT.out.two HT.out.later hcc)
      obtain ⟨t0, ht0⟩ : ∃ t, t = vlo P1 c := ⟨_, rfl⟩
      have hL1 : L1 = [t0] := by rw [ht0, ← HL1.out.1]; exact q
      have hL2 : L2 = [t0] := by rw [ht0, ← HL2.out.1]; exact HCL.out.2.2.2.1
      have HT0 : Hid (t0 = vlo P1 c) := ht0
      have HCC : Hid (c < P1.length ∧ chosP A1 P1 c) := ⟨hc, hcc⟩
      subst hL1 hL2
      clear q hc hcc ht0
      have hnm := HT.out.accs
      have hnp := HT.out.pros
      have HNM := Hid.intro (And.intro hnm hnp)
      clear hnm hnp
      have hn8 : P1.length ≤ 8 := HT.out.one.good.2.1.2
      have hvs8 : vs.length ≤ 8 := by have := HNM.out.2; omega
      simp only [List.length_singleton]
      have cS0 := S_9.out.cell 0 rfl
      have cS1 := S_9.out.cell 1 rfl
      have zS := S_9.out.2
      go_wp2_with fail
      go_loopw [23, 22] (fun y u wr => ∃ (j e : Nat), j ≤ vs.length ∧ y = .int .i64 (j : Int) ∧ u = .int .i64 (e : Int) ∧ ((e = 0 ∧ (∀ d, j ≤ d → d < P1.length → ¬ chosP A1 P1 d)) ∨ (∃ d, e = d + 1 ∧ d < P1.length ∧ chosP A1 P1 d)) ∧ wr = w9) (fun y _ _ => (intOf y).toNat)
      case atStart => exact ⟨vs.length, 0, Nat.le_refl _, rfl, rfl, Or.inl ⟨rfl, fun d h1 h2 => absurd h2 (by have := HNM.out.2; omega)⟩, rfl⟩
      case round =>
        obtain ⟨j, e, hj, rfl, rfl, hE, hwr⟩ := hrel
        subst hwr
        have HE := Hid.intro hE
        clear hE
        by_cases hj0 : 0 < j
        · obtain ⟨i, rfl⟩ : ∃ i : Nat, j = i + 1 := ⟨j - 1, by omega⟩
          have hj0' : (0 : Int) < ((i + 1 : Nat) : Int) := by omega
          have hix : i < P1.length := by have := HNM.out.2; omega
          have hix' : (i : Int) < (P1.length : Int) := by omega
          have hsub : ((i + 1 : Nat) : Int) - 1 = (i : Int) := by omega
          have HLE : Hid (Lies wr (.list shProposer) [.slice p2_2 P1.length q2_2] P1) := Hid.intro (lies_Synod2 SP_9.out.lies)
          obtain ⟨xg, xoff, xgo, xgs, xec, xel, xhec, xle⟩ := Lies.elem (HLE.out) hix
          subst xgo
          rcases xX : P1[i] with ⟨x0, x1, x2, x3, x4, ⟨⟩⟩
          rw [xX] at xle
          have xH : Hid (P1[i] = (x0, x1, x2, x3, x4, ())) := xX
          clear xX
          obtain ⟨xa1, xk1, xa2, xk2, xev, xq1, xq2⟩ := lies_Proposer xle
          subst xev
          have xc0 : wr.cell? ⟨xg, xoff + i * 5, none⟩ = some (.string x0) := xhec 0 (by simp)
          have xc1 : wr.cell? ⟨xg, xoff + i * 5 + 1, none⟩ = some (.slice xa1 x1.length xk1) := xhec 1 (by simp)
          have xc2 : wr.cell? ⟨xg, xoff + i * 5 + 2, none⟩ = some (.bool x2) := xhec 2 (by simp)
          have xc3 : wr.cell? ⟨xg, xoff + i * 5 + 3, none⟩ = some (.string x3) := xhec 3 (by simp)
          have xc4 : wr.cell? ⟨xg, xoff + i * 5 + 4, none⟩ = some (.slice xa2 x4.length xk2) := xhec 4 (by simp)
          clear xhec xel xle
          have hvt : vto P1 i = x4 := by unfold vto; rw [List.getD_eq_getElem?_getD, List.getElem?_eq_getElem hix, xH.out]; rfl
          have HVT : Hid (vto P1 i = x4) := hvt
          clear hvt HLE xq1 xq2
          have hx12 : x4.length ≤ 12 := by have h9 := pro_at HT.out.one.good i; rcases h9 with ⟨_, q⟩ | ⟨q, _⟩; (· have r := ris_len q.2.2.2.2.2 (by omega); rw [HVT.out] at r; have := HT.out.one.good.1.2; omega); (rw [HVT.out] at q; rw [q]; simp)
          have hmA := HNM.out.1
          have HMA := Hid.intro hmA
          by_cases hch : m < 2 * (x4.length : Int)
          · have HNX : Hid (chosP A1 P1 i) := Hid.intro (by unfold chosP; rw [HVT.out, hmA]; exact hch)
            clear hmA
            go_wp2_with fail
            go_roundw
            case rel => exact ⟨i, i + 1, by omega, by congr 1 <;> omega, by congr 1, Or.inr ⟨i, rfl, hix, HNX.out⟩, trivial⟩
            case measure => simp [intOf]
          · have hch' : 2 * (x4.length : Int) ≤ m := by omega
            have HNX : Hid (¬ chosP A1 P1 i) := Hid.intro (by unfold chosP; rw [HVT.out, hmA]; omega)
            clear hmA
            go_wp2_with fail
            go_roundw
            case rel =>
              refine ⟨i, e, by omega, by congr 1 <;> omega, rfl, ?_, trivial⟩
              rcases HE.out with ⟨q1, q2⟩ | q
              · refine Or.inl ⟨q1, fun d h1 h2 => ?_⟩
                by_cases ed : d = i
                · subst ed; exact HNX.out
                · exact q2 d (by omega) h2
              · exact Or.inr q
            case measure => simp [intOf]
        · obtain rfl : j = 0 := by omega
          obtain ⟨d, rfl, hdl, hdc⟩ : ∃ d, e = d + 1 ∧ d < P1.length ∧ chosP A1 P1 d := by
            rcases HE.out with ⟨_, q⟩ | q
            · exact absurd HCC.out.2 (q c (Nat.zero_le _) HCC.out.1)
            · exact q
          have HD := Hid.intro (chosen_later (s := (A1, P1)) (t := (A2, P2)) HT.out.one HT.out.two HT.out.later hdc)
          have HDV : Hid (vlo P1 d = t0) := Hid.intro (by rw [HT0.out]; exact chosen_same HT.out.one hdc HCC.out.2)
          clear HE hdc
          clear cS0 cS1 zS
          go_wp2_with fail
          obtain ⟨WK, hWK⟩ : ∃ x, x = wr := ⟨_, rfl⟩
          subst hWK
          have HPL : Hid (P2.length = vs.length) := Hid.intro (by have h1 := HT.out.later.2.1; have h2 := HNM.out.2; exact h1.symm.trans h2)
          go_loopw [24] (fun y wr => ∃ b : Nat, d + 1 ≤ b ∧ b ≤ vs.length + 1 ∧ y = .int .i64 (b : Int) ∧ Below WK.heap.size WK wr) (fun y _ => vs.length + 1 - (intOf y).toNat)
          case atStart => exact ⟨d + 1, Nat.le_refl _, by have := HNM.out.2; omega, rfl, Below.refl _ _⟩
          case round =>
            obtain ⟨b, hb1, hb2, rfl, hB⟩ := hrel
            have HBR : Hid (Below WK.heap.size WK wr) := hB
            clear hB
            by_cases hbl : b ≤ vs.length
            · obtain ⟨i, rfl⟩ : ∃ i : Nat, b = i + 1 := ⟨b - 1, by omega⟩
              have hbl' : ((i + 1 : Nat) : Int) ≤ (vs.length : Int) := by omega
              have hi2 : i < P2.length := by have := HPL.out; omega
              obtain ⟨tx, fb, hva⟩ : ∃ t f, vaA A2 P2 ((i + 1 : Nat) : Int) = (t, f) ∧ t = vlo P2 i ∧ f = fxo P2 i := by
                obtain ⟨own, pms, fx, val, vt, hP⟩ : ∃ (own : ByteArray) (pms : List (Sh.T shPromise)) (fx : Bool) (val : ByteArray) (vt : List (Sh.T .int)), P2[i] = (own, pms, fx, val, vt, ()) := ⟨_, _, _, _, _, rfl⟩
                have e : P2.getD i pz1 = (own, pms, fx, val, vt, ()) := by rw [List.getD_eq_getElem?_getD, List.getElem?_eq_getElem hi2, hP]; rfl
                refine ⟨val, fx, ?_, by unfold vlo; rw [e], by unfold fxo; rw [e]⟩
                rw [show ((i + 1 : Nat) : Int) = (i : Int) + 1 by omega]
                exact va_yes HT.out.two.good hi2 hP
              have HVA : Hid (vaA A2 P2 ((i + 1 : Nat) : Int) = (tx, fb)) := hva.1
              have HFT : Hid (fb = true → tx = t0) := Hid.intro (fun hf => by rw [hva.2.1, ← HDV.out]; exact HD.out.2.2.2.2 i (by omega) (by rw [← hva.2.2]; exact hf))
              clear hva
              have HTX := Hid.intro (T_9.out.next HBR.out)
              have e0 := HTX.out.cell 0 rfl
              have e1 := HTX.out.cell 1 rfl
              have ez := HTX.out.2
              go_wp2_with fail
              refine (show Calls _ _ _ _ (VaP (tx, fb) _) from HVA.out ▸ valueAt_n [.slice p6_1 A2.length q6_1, .slice p6_2 P2.length q6_2] A2 P2 ((i + 1 : Nat) : Int) _ HZ.out.2 (TP_9.out.lies.next HBR.out)).mono ?_
              rintro r W1 ⟨rfl, hb⟩
              have HB1 : Hid (Below WK.heap.size WK W1) := Hid.intro (below_next HBR.out hb)
              clear hb HTX e0 e1 ez
              have HTX := Hid.intro (T_9.out.next HB1.out)
              have e0 := HTX.out.cell 0 rfl
              have e1 := HTX.out.cell 1 rfl
              have ez := HTX.out.2
              go_wp2_with fail
              refine (show Calls _ _ _ _ (VaP (tx, fb) _) from HVA.out ▸ specValueAt_n [.slice p6_1 A2.length q6_1, .slice p6_2 P2.length q6_2] A2 P2 ((i + 1 : Nat) : Int) _ HZ.out.2 (TP_9.out.lies.next HB1.out)).mono ?_
              rintro r W2 ⟨rfl, hb⟩
              have HB2 : Hid (Below WK.heap.size WK W2) := Hid.intro (below_next HB1.out hb)
              clear hb HTX e0 e1 ez
              cases fb
              · go_wp2_with fail
                go_roundw
                case rel => exact ⟨i + 1 + 1, by omega, by omega, by congr 1 <;> omega, HB2.out⟩
                case measure => simp [intOf]; omega
              · obtain rfl : tx = t0 := HFT.out rfl
                obtain ⟨gc, oc, hgo, hgs, ec, hel, hec, hle⟩ := Lies.elem (C1_9.out.lies.next HB2.out) (show 0 < [tx].length by simp)
                have hev : ec = [.string tx] := hle
                subst hev
                have c0 : W2.cell? ⟨gc, oc, none⟩ = some (.string tx) := by have := hec 0 (by simp); simpa using this
                subst hgo
                clear hec hel hle
                go_wp2_with fail
                go_roundw
                case rel => exact ⟨i + 1 + 1, by omega, by omega, by congr 1 <;> omega, HB2.out⟩
                case measure => simp [intOf]; omega
            · have hbl' : (vs.length : Int) < (b : Int) := by omega
              go_wp2_with fail
              refine (sameTexts_same p8 p9 q8 q9 [t0] _ (by simp) (C1_9.out.lies.next HBR.out) (C2_9.out.lies.next HBR.out)).mono ?_
              rintro r W1 ⟨rfl, hb⟩
              have HE : Hid (Below w.heap.size w W1) := Hid.intro (below_next (below_next HB9.out HBR.out) hb)
              clear hb
              go_wp2_with fail
              go_ret
              exact ⟨rfl, HE.out⟩
    · obtain ⟨A1, P1, D1, z1, hA1⟩ : ∃ A P D z, PlH m vs (l.take 0) A P D z := ⟨_, _, _, _, rfl, rfl, rfl, rfl⟩
      have HA1 : Hid (PlH m vs (l.take 0) A1 P1 D1 z1) := hA1
      obtain ⟨A2, P2, D2, z2, hA2⟩ : ∃ A P D z, PlH m vs (l.take l.length) A P D z := ⟨_, _, _, _, rfl, rfl, rfl, rfl⟩
      have HA2 : Hid (PlH m vs (l.take l.length) A2 P2 D2 z2) := hA2
      clear hA1 hA2
      go_wp2_with fail
      refine ((playSynod_k 0 m a1 k1 vs (some ⟨gx, 0, none⟩) k2 l _ A1 P1 D1 z1 HA1.out HK.out HVZ.out.1 HVZ.out.2 V_1.out L_1.out).1).mono ?_
      rintro r w2 hT
      obtain ⟨p2_1, q2_1, p2_2, q2_2, p2_3, q2_3, S2a, S2b, rfl, ho, hod, hss, hb⟩ := plp_out hT
      have HSS2 : Hid ((∀ k, S2a k → w1.heap.size ≤ k ∧ k < w2.heap.size) ∧ (∀ k, S2b k → w1.heap.size ≤ k ∧ k < w2.heap.size) ∧ (∀ k, S2a k → ¬ S2b k)) := hss
      clear hss
      have HB2 : Hid (Below w.heap.size w w2) := below_next HB1.out hb
      have sz2 : w1.heap.size ≤ w2.heap.size := hb.size
      have V_2 : Hid (Lies w2 (.list .str) [.slice a1 vs.length k1] vs) := V_1.out.next hb
      have L_2 : Hid (Lies w2 (.list shSynodStep) [.slice (some ⟨gx, 0, none⟩) l.length k2] l) := L_1.out.next hb
      have SP_2 : Hid (Own w2 shSynod [.slice p2_1 A1.length q2_1, .slice p2_2 P1.length q2_2] (A1, P1, ()) S2a) := ho
      have SD_2 : Hid (Own w2 (.list .bool) [.slice p2_3 D1.length q2_3] D1 S2b) := hod
      clear hb ho hod hT V_1 L_1 HB1
      clear SD_2
      go_wp2_with fail
      obtain ⟨w3, hw3⟩ : ∃ x, x = w2.alloc (.cells #[.slice p2_1 A1.length q2_1, .slice p2_2 P1.length q2_2] 30) := ⟨_, rfl⟩
      have hb : Below w2.heap.size w2 w3 := hw3 ▸ Go.Joins.below_alloc1 _ _
      have HB3 : Hid (Below w.heap.size w w3) := below_next HB2.out hb
      have sz3 : w2.heap.size < w3.heap.size := by rw [hw3]; simp
      have V_3 : Hid (Lies w3 (.list .str) [.slice a1 vs.length k1] vs) := V_2.out.next hb
      have L_3 : Hid (Lies w3 (.list shSynodStep) [.slice (some ⟨gx, 0, none⟩) l.length k2] l) := L_2.out.next hb
      have SP_3 : Hid (Own w3 shSynod [.slice p2_1 A1.length q2_1, .slice p2_2 P1.length q2_2] (A1, P1, ()) S2a) := SP_2.out.next hb
      have S_3 : Hid (Bx w3 w2.heap.size [.slice p2_1 A1.length q2_1, .slice p2_2 P1.length q2_2]) := hw3 ▸ Bx.new w2 [.slice p2_1 A1.length q2_1, .slice p2_2 P1.length q2_2] _
      rw [← hw3]
      clear hb hw3 V_2 L_2 SP_2 HB2
      refine ((playSynod_k 0 m a1 k1 vs (some ⟨gx, 0, none⟩) k2 l _ A1 P1 D1 z1 HA1.out HK.out HVZ.out.1 HVZ.out.2 V_3.out L_3.out).2).mono ?_
      rintro r w4 hT
      obtain ⟨p4_1, q4_1, p4_2, q4_2, p4_3, q4_3, S4a, S4b, rfl, ho, hod, hss, hb⟩ := plp_out hT
      have HSS4 : Hid ((∀ k, S4a k → w3.heap.size ≤ k ∧ k < w4.heap.size) ∧ (∀ k, S4b k → w3.heap.size ≤ k ∧ k < w4.heap.size) ∧ (∀ k, S4a k → ¬ S4b k)) := hss
      clear hss
      have HB4 : Hid (Below w.heap.size w w4) := below_next HB3.out hb
      have sz4 : w3.heap.size ≤ w4.heap.size := hb.size
      have V_4 : Hid (Lies w4 (.list .str) [.slice a1 vs.length k1] vs) := V_3.out.next hb
      have L_4 : Hid (Lies w4 (.list shSynodStep) [.slice (some ⟨gx, 0, none⟩) l.length k2] l) := L_3.out.next hb
      have SP_4 : Hid (Own w4 shSynod [.slice p2_1 A1.length q2_1, .slice p2_2 P1.length q2_2] (A1, P1, ()) S2a) := SP_3.out.next hb
      have S_4 : Hid (Bx w4 w2.heap.size [.slice p2_1 A1.length q2_1, .slice p2_2 P1.length q2_2]) := S_3.out.next hb
      have QP_4 : Hid (Own w4 shSynod [.slice p4_1 A1.length q4_1, .slice p4_2 P1.length q4_2] (A1, P1, ()) S4a) := ho
      have QD_4 : Hid (Own w4 (.list .bool) [.slice p4_3 D1.length q4_3] D1 S4b) := hod
      clear hb ho hod hT V_3 L_3 SP_3 S_3 HB3
      clear QP_4
      clear QD_4
      go_wp2_with fail
      obtain ⟨w5, hw5⟩ : ∃ x, x = w4.alloc (.cells #[.slice p4_1 A1.length q4_1, .slice p4_2 P1.length q4_2] 30) := ⟨_, rfl⟩
      have hb : Below w4.heap.size w4 w5 := hw5 ▸ Go.Joins.below_alloc1 _ _
      have HB5 : Hid (Below w.heap.size w w5) := below_next HB4.out hb
      have sz5 : w4.heap.size < w5.heap.size := by rw [hw5]; simp
      have V_5 : Hid (Lies w5 (.list .str) [.slice a1 vs.length k1] vs) := V_4.out.next hb
      have L_5 : Hid (Lies w5 (.list shSynodStep) [.slice (some ⟨gx, 0, none⟩) l.length k2] l) := L_4.out.next hb
      have SP_5 : Hid (Own w5 shSynod [.slice p2_1 A1.length q2_1, .slice p2_2 P1.length q2_2] (A1, P1, ()) S2a) := SP_4.out.next hb
      have S_5 : Hid (Bx w5 w2.heap.size [.slice p2_1 A1.length q2_1, .slice p2_2 P1.length q2_2]) := S_4.out.next hb
      have Q_5 : Hid (Bx w5 w4.heap.size [.slice p4_1 A1.length q4_1, .slice p4_2 P1.length q4_2]) := hw5 ▸ Bx.new w4 [.slice p4_1 A1.length q4_1, .slice p4_2 P1.length q4_2] _
      rw [← hw5]
      clear hb hw5 V_4 L_4 SP_4 S_4 HB4
      refine ((playSynod_k l.length m a1 k1 vs (some ⟨gx, 0, none⟩) k2 l _ A2 P2 D2 z2 HA2.out (Nat.le_refl _) HVZ.out.1 HVZ.out.2 V_5.out L_5.out).1).mono ?_
      rintro r w6 hT
      obtain ⟨p6_1, q6_1, p6_2, q6_2, p6_3, q6_3, S6a, S6b, rfl, ho, hod, hss, hb⟩ := plp_out hT
      have HSS6 : Hid ((∀ k, S6a k → w5.heap.size ≤ k ∧ k < w6.heap.size) ∧ (∀ k, S6b k → w5.heap.size ≤ k ∧ k < w6.heap.size) ∧ (∀ k, S6a k → ¬ S6b k)) := hss
      clear hss
      have HB6 : Hid (Below w.heap.size w w6) := below_next HB5.out hb
      have sz6 : w5.heap.size ≤ w6.heap.size := hb.size
      have V_6 : Hid (Lies w6 (.list .str) [.slice a1 vs.length k1] vs) := V_5.out.next hb
      have L_6 : Hid (Lies w6 (.list shSynodStep) [.slice (some ⟨gx, 0, none⟩) l.length k2] l) := L_5.out.next hb
      have SP_6 : Hid (Own w6 shSynod [.slice p2_1 A1.length q2_1, .slice p2_2 P1.length q2_2] (A1, P1, ()) S2a) := SP_5.out.next hb
      have S_6 : Hid (Bx w6 w2.heap.size [.slice p2_1 A1.length q2_1, .slice p2_2 P1.length q2_2]) := S_5.out.next hb
      have Q_6 : Hid (Bx w6 w4.heap.size [.slice p4_1 A1.length q4_1, .slice p4_2 P1.length q4_2]) := Q_5.out.next hb
      have TP_6 : Hid (Own w6 shSynod [.slice p6_1 A2.length q6_1, .slice p6_2 P2.length q6_2] (A2, P2, ()) S6a) := ho
      have TD_6 : Hid (Own w6 (.list .bool) [.slice p6_3 D2.length q6_3] D2 S6b) := hod
      clear hb ho hod hT V_5 L_5 SP_5 S_5 Q_5 HB5
      clear TD_6
      cases z1
      · go_wp2_with fail
        go_ret
        exact ⟨rfl, (HB6.out.alloc HB6.out.size _)⟩
      cases z2
      · go_wp2_with fail
        go_ret
        exact ⟨rfl, (HB6.out.alloc HB6.out.size _)⟩
      have HT : Hid (Two m vs A1 P1 A2 P2) := Hid.intro (two_of (l := l) HK.out HA1.out (by have := HA2.out; rw [List.take_length] at this; exact this))
      have HZ : Hid (szD shSynod (A1, P1, ()) ≤ 1073741824 ∧ szD shSynod (A2, P2, ()) ≤ 1073741824) := Hid.intro ⟨Nat.le_trans (good_size HT.out.one.good) (by decide), Nat.le_trans (good_size HT.out.two.good) (by decide)⟩
      have cS0 := S_6.out.cell 0 rfl
      have cS1 := S_6.out.cell 1 rfl
      have zS := S_6.out.2
      go_wp2_with fail
      obtain ⟨w7, hw7⟩ : ∃ x, x = w6.alloc (.cells #[.slice p6_1 A2.length q6_1, .slice p6_2 P2.length q6_2] 30) := ⟨_, rfl⟩
      have hb : Below w6.heap.size w6 w7 := hw7 ▸ Go.Joins.below_alloc1 _ _
      have HB7 : Hid (Below w.heap.size w w7) := below_next HB6.out hb
      have sz7 : w6.heap.size < w7.heap.size := by rw [hw7]; simp
      have V_7 : Hid (Lies w7 (.list .str) [.slice a1 vs.length k1] vs) := V_6.out.next hb
      have L_7 : Hid (Lies w7 (.list shSynodStep) [.slice (some ⟨gx, 0, none⟩) l.length k2] l) := L_6.out.next hb
      have SP_7 : Hid (Own w7 shSynod [.slice p2_1 A1.length q2_1, .slice p2_2 P1.length q2_2] (A1, P1, ()) S2a) := SP_6.out.next hb
      have S_7 : Hid (Bx w7 w2.heap.size [.slice p2_1 A1.length q2_1, .slice p2_2 P1.length q2_2]) := S_6.out.next hb
      have Q_7 : Hid (Bx w7 w4.heap.size [.slice p4_1 A1.length q4_1, .slice p4_2 P1.length q4_2]) := Q_6.out.next hb
      have TP_7 : Hid (Own w7 shSynod [.slice p6_1 A2.length q6_1, .slice p6_2 P2.length q6_2] (A2, P2, ()) S6a) := TP_6.out.next hb
      have T_7 : Hid (Bx w7 w6.heap.size [.slice p6_1 A2.length q6_1, .slice p6_2 P2.length q6_2]) := hw7 ▸ Bx.new w6 [.slice p6_1 A2.length q6_1, .slice p6_2 P2.length q6_2] _
      rw [← hw7]
      clear hb hw7 cS0 cS1 zS V_6 L_6 SP_6 S_6 Q_6 TP_6 HB6
      obtain ⟨L1, hL1⟩ : ∃ L, chA A1 P1 = L := ⟨_, rfl⟩
      have HL1 : Hid (chA A1 P1 = L1 ∧ tf (goodS A1 P1) = true) := ⟨hL1, tf_yes HT.out.one.good⟩
      obtain ⟨L2, hL2⟩ : ∃ L, chA A2 P2 = L := ⟨_, rfl⟩
      have HL2 : Hid (chA A2 P2 = L2 ∧ tf (goodS A2 P2) = true) := ⟨hL2, tf_yes HT.out.two.good⟩
      clear hL1 hL2
      refine (chosenIn_l [.slice p2_1 A1.length q2_1, .slice p2_2 P1.length q2_2] A1 P1 _ L1 true HL1.out HZ.out.1 SP_7.out.lies).mono ?_
      rintro r w8 ⟨p8, q8, rfl, ho, hb⟩
      have HB8 : Hid (Below w.heap.size w w8) := below_next HB7.out hb
      have sz8 : w7.heap.size ≤ w8.heap.size := hb.size
      have V_8 : Hid (Lies w8 (.list .str) [.slice a1 vs.length k1] vs) := V_7.out.next hb
      have L_8 : Hid (Lies w8 (.list shSynodStep) [.slice (some ⟨gx, 0, none⟩) l.length k2] l) := L_7.out.next hb
      have SP_8 : Hid (Own w8 shSynod [.slice p2_1 A1.length q2_1, .slice p2_2 P1.length q2_2] (A1, P1, ()) S2a) := SP_7.out.next hb
      have S_8 : Hid (Bx w8 w2.heap.size [.slice p2_1 A1.length q2_1, .slice p2_2 P1.length q2_2]) := S_7.out.next hb
      have Q_8 : Hid (Bx w8 w4.heap.size [.slice p4_1 A1.length q4_1, .slice p4_2 P1.length q4_2]) := Q_7.out.next hb
      have TP_8 : Hid (Own w8 shSynod [.slice p6_1 A2.length q6_1, .slice p6_2 P2.length q6_2] (A2, P2, ()) S6a) := TP_7.out.next hb
      have T_8 : Hid (Bx w8 w6.heap.size [.slice p6_1 A2.length q6_1, .slice p6_2 P2.length q6_2]) := T_7.out.next hb
      have C1_8 : Hid (Own w8 (.list .str) [.slice p8 L1.length q8] L1 (Btw w7.heap.size w8.heap.size)) := ho
      clear hb ho V_7 L_7 SP_7 S_7 Q_7 TP_7 T_7 HB7
      have cT0 := T_8.out.cell 0 rfl
      have cT1 := T_8.out.cell 1 rfl
      have zT := T_8.out.2
      go_wp2_with fail
      refine (chosenIn_l [.slice p6_1 A2.length q6_1, .slice p6_2 P2.length q6_2] A2 P2 _ L2 true HL2.out HZ.out.2 TP_8.out.lies).mono ?_
      rintro r w9 ⟨p9, q9, rfl, ho, hb⟩
      have HB9 : Hid (Below w.heap.size w w9) := below_next HB8.out hb
      have sz9 : w8.heap.size ≤ w9.heap.size := hb.size
      have V_9 : Hid (Lies w9 (.list .str) [.slice a1 vs.length k1] vs) := V_8.out.next hb
      have L_9 : Hid (Lies w9 (.list shSynodStep) [.slice (some ⟨gx, 0, none⟩) l.length k2] l) := L_8.out.next hb
      have SP_9 : Hid (Own w9 shSynod [.slice p2_1 A1.length q2_1, .slice p2_2 P1.length q2_2] (A1, P1, ()) S2a) := SP_8.out.next hb
      have S_9 : Hid (Bx w9 w2.heap.size [.slice p2_1 A1.length q2_1, .slice p2_2 P1.length q2_2]) := S_8.out.next hb
      have Q_9 : Hid (Bx w9 w4.heap.size [.slice p4_1 A1.length q4_1, .slice p4_2 P1.length q4_2]) := Q_8.out.next hb
      have TP_9 : Hid (Own w9 shSynod [.slice p6_1 A2.length q6_1, .slice p6_2 P2.length q6_2] (A2, P2, ()) S6a) := TP_8.out.next hb
      have T_9 : Hid (Bx w9 w6.heap.size [.slice p6_1 A2.length q6_1, .slice p6_2 P2.length q6_2]) := T_8.out.next hb
      have C1_9 : Hid (Own w9 (.list .str) [.slice p8 L1.length q8] L1 (Btw w7.heap.size w8.heap.size)) := C1_8.out.next hb
      have C2_9 : Hid (Own w9 (.list .str) [.slice p9 L2.length q9] L2 (Btw w8.heap.size w9.heap.size)) := ho
      clear hb ho cT0 cT1 zT V_8 L_8 SP_8 S_8 Q_8 TP_8 T_8 C1_8 HB8
      rcases chA_form HT.out.one with ⟨q, _⟩ | ⟨c, hc, hcc, q⟩
      · have hL0 : L1 = [] := HL1.out.1.symm.trans q
        subst hL0
        clear q
        simp only [List.length_nil]
        go_wp2_with fail
        go_ret
        exact ⟨rfl, HB9.out⟩
      have HCL := Hid.intro (chosen_later (s := (A1, P1)) (t := (A2, P2)) HT.out.one HT.out.two HT.out.later hcc)
      obtain ⟨t0, ht0⟩ : ∃ t, t = vlo P1 c := ⟨_, rfl⟩
      have hL1 : L1 = [t0] := by rw [ht0, ← HL1.out.1]; exact q
      have hL2 : L2 = [t0] := by rw [ht0, ← HL2.out.1]; exact HCL.out.2.2.2.1
      have HT0 : Hid (t0 = vlo P1 c) := ht0
      have HCC : Hid (c < P1.length ∧ chosP A1 P1 c) := ⟨hc, hcc⟩
      subst hL1 hL2
      clear q hc hcc ht0
      have hnm := HT.out.accs
      have hnp := HT.out.pros
      have HNM := Hid.intro (And.intro hnm hnp)
      clear hnm hnp
      have hn8 : P1.length ≤ 8 := HT.out.one.good.2.1.2
      have hvs8 : vs.length ≤ 8 := by have := HNM.out.2; omega
      simp only [List.length_singleton]
      have cS0 := S_9.out.cell 0 rfl
      have cS1 := S_9.out.cell 1 rfl
      have zS := S_9.out.2
      go_wp2_with fail
      go_loopw [23, 22] (fun y u wr => ∃ (j e : Nat), j ≤ vs.length ∧ y = .int .i64 (j : Int) ∧ u = .int .i64 (e : Int) ∧ ((e = 0 ∧ (∀ d, j ≤ d → d < P1.length → ¬ chosP A1 P1 d)) ∨ (∃ d, e = d + 1 ∧ d < P1.length ∧ chosP A1 P1 d)) ∧ wr = w9) (fun y _ _ => (intOf y).toNat)
      case atStart => exact ⟨vs.length, 0, Nat.le_refl _, rfl, rfl, Or.inl ⟨rfl, fun d h1 h2 => absurd h2 (by have := HNM.out.2; omega)⟩, rfl⟩
      case round =>
        obtain ⟨j, e, hj, rfl, rfl, hE, hwr⟩ := hrel
        subst hwr
        have HE := Hid.intro hE
        clear hE
        by_cases hj0 : 0 < j
        · obtain ⟨i, rfl⟩ : ∃ i : Nat, j = i + 1 := ⟨j - 1, by omega⟩
          have hj0' : (0 : Int) < ((i + 1 : Nat) : Int) := by omega
          have hix : i < P1.length := by have := HNM.out.2; omega
          have hix' : (i : Int) < (P1.length : Int) := by omega
          have hsub : ((i + 1 : Nat) : Int) - 1 = (i : Int) := by omega
          have HLE : Hid (Lies wr (.list shProposer) [.slice p2_2 P1.length q2_2] P1) := Hid.intro (lies_Synod2 SP_9.out.lies)
          obtain ⟨xg, xoff, xgo, xgs, xec, xel, xhec, xle⟩ := Lies.elem (HLE.out) hix
          subst xgo
          rcases xX : P1[i] with ⟨x0, x1, x2, x3, x4, ⟨⟩⟩
          rw [xX] at xle
          have xH : Hid (P1[i] = (x0, x1, x2, x3, x4, ())) := xX
          clear xX
          obtain ⟨xa1, xk1, xa2, xk2, xev, xq1, xq2⟩ := lies_Proposer xle
          subst xev
          have xc0 : wr.cell? ⟨xg, xoff + i * 5, none⟩ = some (.string x0) := xhec 0 (by simp)
          have xc1 : wr.cell? ⟨xg, xoff + i * 5 + 1, none⟩ = some (.slice xa1 x1.length xk1) := xhec 1 (by simp)
          have xc2 : wr.cell? ⟨xg, xoff + i * 5 + 2, none⟩ = some (.bool x2) := xhec 2 (by simp)
          have xc3 : wr.cell? ⟨xg, xoff + i * 5 + 3, none⟩ = some (.string x3) := xhec 3 (by simp)
          have xc4 : wr.cell? ⟨xg, xoff + i * 5 + 4, none⟩ = some (.slice xa2 x4.length xk2) := xhec 4 (by simp)
          clear xhec xel xle
          have hvt : vto P1 i = x4 := by unfold vto; rw [List.getD_eq_getElem?_getD, List.getElem?_eq_getElem hix, xH.out]; rfl
          have HVT : Hid (vto P1 i = x4) := hvt
          clear hvt HLE xq1 xq2
          have hx12 : x4.length ≤ 12 := by have h9 := pro_at HT.out.one.good i; rcases h9 with ⟨_, q⟩ | ⟨q, _⟩; (· have r := ris_len q.2.2.2.2.2 (by omega); rw [HVT.out] at r; have := HT.out.one.good.1.2; omega); (rw [HVT.out] at q; rw [q]; simp)
          have hmA := HNM.out.1
          have HMA := Hid.intro hmA
          by_cases hch : m < 2 * (x4.length : Int)
          · have HNX : Hid (chosP A1 P1 i) := Hid.intro (by unfold chosP; rw [HVT.out, hmA]; exact hch)
            clear hmA
            go_wp2_with fail
            go_roundw
            case rel => exact ⟨i, i + 1, by omega, by congr 1 <;> omega, by congr 1, Or.inr ⟨i, rfl, hix, HNX.out⟩, trivial⟩
            case measure => simp [intOf]
          · have hch' : 2 * (x4.length : Int) ≤ m := by omega
            have HNX : Hid (¬ chosP A1 P1 i) := Hid.intro (by unfold chosP; rw [HVT.out, hmA]; omega)
            clear hmA
            go_wp2_with fail
            go_roundw
            case rel =>
              refine ⟨i, e, by omega, by congr 1 <;> omega, rfl, ?_, trivial⟩
              rcases HE.out with ⟨q1, q2⟩ | q
              · refine Or.inl ⟨q1, fun d h1 h2 => ?_⟩
                by_cases ed : d = i
                · subst ed; exact HNX.out
                · exact q2 d (by omega) h2
              · exact Or.inr q
            case measure => simp [intOf]
        · obtain rfl : j = 0 := by omega
          obtain ⟨d, rfl, hdl, hdc⟩ : ∃ d, e = d + 1 ∧ d < P1.length ∧ chosP A1 P1 d := by
            rcases HE.out with ⟨_, q⟩ | q
            · exact absurd HCC.out.2 (q c (Nat.zero_le _) HCC.out.1)
            · exact q
          have HD := Hid.intro (chosen_later (s := (A1, P1)) (t := (A2, P2)) HT.out.one HT.out.two HT.out.later hdc)
          have HDV : Hid (vlo P1 d = t0) := Hid.intro (by rw [HT0.out]; exact chosen_same HT.out.one hdc HCC.out.2)
          clear HE hdc
          clear cS0 cS1 zS
          go_wp2_with fail
          obtain ⟨WK, hWK⟩ : ∃ x, x = wr := ⟨_, rfl⟩
          subst hWK
          have HPL : Hid (P2.length = vs.length) := Hid.intro (by have h1 := HT.out.later.2.1; have h2 := HNM.out.2; exact h1.symm.trans h2)
          go_loopw [24] (fun y wr => ∃ b : Nat, d + 1 ≤ b ∧ b ≤ vs.length + 1 ∧ y = .int .i64 (b : Int) ∧ Below WK.heap.size WK wr) (fun y _ => vs.length + 1 - (intOf y).toNat)
          case atStart => exact ⟨d + 1, Nat.le_refl _, by have := HNM.out.2; omega, rfl, Below.refl _ _⟩
          case round =>
            obtain ⟨b, hb1, hb2, rfl, hB⟩ := hrel
            have HBR : Hid (Below WK.heap.size WK wr) := hB
            clear hB
            by_cases hbl : b ≤ vs.length
            · obtain ⟨i, rfl⟩ : ∃ i : Nat, b = i + 1 := ⟨b - 1, by omega⟩
              have hbl' : ((i + 1 : Nat) : Int) ≤ (vs.length : Int) := by omega
              have hi2 : i < P2.length := by have := HPL.out; omega
              obtain ⟨tx, fb, hva⟩ : ∃ t f, vaA A2 P2 ((i + 1 : Nat) : Int) = (t, f) ∧ t = vlo P2 i ∧ f = fxo P2 i := by
                obtain ⟨own, pms, fx, val, vt, hP⟩ : ∃ (own : ByteArray) (pms : List (Sh.T shPromise)) (fx : Bool) (val : ByteArray) (vt : List (Sh.T .int)), P2[i] = (own, pms, fx, val, vt, ()) := ⟨_, _, _, _, _, rfl⟩
                have e : P2.getD i pz1 = (own, pms, fx, val, vt, ()) := by rw [List.getD_eq_getElem?_getD, List.getElem?_eq_getElem hi2, hP]; rfl
                refine ⟨val, fx, ?_, by unfold vlo; rw [e], by unfold fxo; rw [e]⟩
                rw [show ((i + 1 : Nat) : Int) = (i : Int) + 1 by omega]
                exact va_yes HT.out.two.good hi2 hP
              have HVA : Hid (vaA A2 P2 ((i + 1 : Nat) : Int) = (tx, fb)) := hva.1
              have HFT : Hid (fb = true → tx = t0) := Hid.intro (fun hf => by rw [hva.2.1, ← HDV.out]; exact HD.out.2.2.2.2 i (by omega) (by rw [← hva.2.2]; exact hf))
              clear hva
              have HTX := Hid.intro (T_9.out.next HBR.out)
              have e0 := HTX.out.cell 0 rfl
              have e1 := HTX.out.cell 1 rfl
              have ez := HTX.out.2
              go_wp2_with fail
              refine (show Calls _ _ _ _ (VaP (tx, fb) _) from HVA.out ▸ valueAt_n [.slice p6_1 A2.length q6_1, .slice p6_2 P2.length q6_2] A2 P2 ((i + 1 : Nat) : Int) _ HZ.out.2 (TP_9.out.lies.next HBR.out)).mono ?_
              rintro r W1 ⟨rfl, hb⟩
              have HB1 : Hid (Below WK.heap.size WK W1) := Hid.intro (below_next HBR.out hb)
              clear hb HTX e0 e1 ez
              have HTX := Hid.intro (T_9.out.next HB1.out)
              have e0 := HTX.out.cell 0 rfl
              have e1 := HTX.out.cell 1 rfl
              have ez := HTX.out.2
              go_wp2_with fail
              refine (show Calls _ _ _ _ (VaP (tx, fb) _) from HVA.out ▸ specValueAt_n [.slice p6_1 A2.length q6_1, .slice p6_2 P2.length q6_2] A2 P2 ((i + 1 : Nat) : Int) _ HZ.out.2 (TP_9.out.lies.next HB1.out)).mono ?_
              rintro r W2 ⟨rfl, hb⟩
              have HB2 : Hid (Below WK.heap.size WK W2) := Hid.intro (below_next HB1.out hb)
              clear hb HTX e0 e1 ez
              cases fb
              · go_wp2_with fail
                go_roundw
                case rel => exact ⟨i + 1 + 1, by omega, by omega, by congr 1 <;> omega, HB2.out⟩
                case measure => simp [intOf]; omega
              · obtain rfl : tx = t0 := HFT.out rfl
                obtain ⟨gc, oc, hgo, hgs, ec, hel, hec, hle⟩ := Lies.elem (C1_9.out.lies.next HB2.out) (show 0 < [tx].length by simp)
                have hev : ec = [.string tx] := hle
                subst hev
                have c0 : W2.cell? ⟨gc, oc, none⟩ = some (.string tx) := by have := hec 0 (by simp); simpa using this
                subst hgo
                clear hec hel hle
                go_wp2_with fail
                go_roundw
                case rel => exact ⟨i + 1 + 1, by omega, by omega, by congr 1 <;> omega, HB2.out⟩
                case measure => simp [intOf]; omega
            · have hbl' : (vs.length : Int) < (b : Int) := by omega
              go_wp2_with fail
              refine (sameTexts_same p8 p9 q8 q9 [t0] _ (by simp) (C1_9.out.lies.next HBR.out) (C2_9.out.lies.next HBR.out)).mono ?_
              rintro r W1 ⟨rfl, hb⟩
              have HE : Hid (Below w.heap.size w W1) := Hid.intro (below_next (below_next HB9.out HBR.out) hb)
              clear hb
              go_wp2_with fail
              go_ret
              exact ⟨rfl, HE.out⟩


theorem own : ownKnob Try.prog.godebug = none := by kernel_rfl
theorem laidOut : laidOutB Try.prog = true := by kernel_rfl

set_option maxRecDepth 100000 in
theorem lifted (os : Os) (started : os.Started) (H : Type) (enc : TypeId × Value → H) :
    ReturnsInHanded {} Try.checked os 4 .any (Rows.fnStableSpec.pre6 enc Try.prog Try.f4 Rows.fnStableRow.domain false) (Rows.fnStableSpec.post enc Try.prog Try.f4 false true false false) := by
  refine returnsInHanded_of_change (C := Try.checked) own started (by kernel_rfl) Try.func4
    (ChangeSpec.witness6 (enc := enc) (C := Try.checked) false ⟨#[], #[.slice none 0 0, .slice none 0 0], []⟩ 8 (by kernel_rfl) (by kernel_rfl) (by kernel_rfl) (by kernel_rfl)) ?_
  intro W base args ds gs before hval0 hW hcnd _
  have hval : ∀ (j : Nat) t v, Try.f4.params[j]? = some t → args[j]? = some v → Value.okWide Try.prog W .any base t v := hval0
  have hW' := hW
  obtain ⟨p, q, hA0, hV, rfl, hfz, hnd⟩ := hW
  have hA : DataW.TrodAll enc Try.prog W 0 (fun _ => true) true Try.f4.params.toList args.toList ds p := hA0
  rw [Try.params4] at hA hval
  obtain ⟨v0, vs0, d0, ds0, p0, q0, hargs, rfl, rfl, h0, r0⟩ := trodAll_cons hA
  obtain ⟨v1, vs1, d1, ds1, p1, q1, rfl, rfl, rfl, h1, r1⟩ := trodAll_cons r0
  obtain ⟨rfl, rfl, rfl⟩ := trodAll_nil r1
  obtain rfl : args = #[v0, v1] := by cases args; simp_all
  obtain ⟨rfl, rfl⟩ := trodVars_none hV
  have k0 := h0
  have lt0 : ∀ x ∈ p0, x.block < W.heap.size := by obtain ⟨m, hm⟩ := k0; exact DataW.trod_lt m _ _ _ hm
  obtain ⟨a0, len0, cap0, rfl⟩ := okWide_slice Try.underlying22 (hval 0 22 v0 rfl rfl)
  obtain ⟨n0, X0, s0, b0⟩ := open_bytes h0
  have k1 := h1
  have lt1 : ∀ x ∈ p1, x.block < W.heap.size := by obtain ⟨m, hm⟩ := k1; exact DataW.trod_lt m _ _ _ hm
  obtain ⟨a1, len1, cap1, rfl⟩ := okWide_slice Try.underlying22 (hval 1 22 v1 rfl rfl)
  obtain ⟨n1, X1, s1, b1⟩ := open_bytes h1
  clear hA0 hval0
  refine (walk (w := W) a0 len0 cap0 X0 n0 s0 b0 a1 len1 cap1 X1 n1 s1 b1).mono fun e W' ⟨he, bel⟩ => ?_
  subst he
  exact ⟨_, rfl, _, _, _, [], _, [], hW', trodAll_mk1 (shut_bool Try.underlying4 _), (trodAll_cons_mk (Below.trod laidOut (by kernel_rfl) (of_decide_eq_true (by kernel_rfl)) k0 bel lt0) (trodAll_cons_mk (Below.trod laidOut (by kernel_rfl) (of_decide_eq_true (by kernel_rfl)) k1 bel lt1) trodAll_mk0)), rfl, bel.frame _, fun h => by cases h⟩

set_option maxHeartbeats 40000000 in
theorem closed : joinedFacts Try.pinned.checked.prog 4 Try.f4 Rows.fnStableSpec Rows.fnStableRow = true := by
  unfold joinedFacts
  repeat' (first | (with_reducible refine both ?_ ?_) | (with_reducible exact may_enter') | (with_reducible refine lifts_eq ?_) | (with_reducible refine make_eq ?_) | as_aux_lemma => kernel_rfl)
theorem named : Try.pinned.checked.prog.funcNamed Rows.fnStableRow.func = some 4 := by kernel_rfl
theorem over : Rows.fnStableRow.holds Try.pinned (OpenSpec.ofChange Rows.fnStableSpec) :=
  OpenClaim.holds_of_wide 4 Try.f4 rfl rfl rfl rfl rfl rfl rfl ⟨rfl, rfl, rfl, rfl, rfl⟩ rfl rfl rfl rfl rfl named Try.func4 closed
    (of_decide_eq_true (by as_aux_lemma => kernel_rfl)) (by unfold Func.isWrapper; first | (rw [if_pos (by decide +kernel)]; kernel_rfl) | (rw [if_neg (by decide +kernel)]; exact ⟨rfl, rfl⟩))
    (fun os started H enc _ => lifted os started H enc)

end Go.Proofs.Ytmhkfangfhanlaa.fStable
namespace Go.Proofs.Ytmhkfangfhanlaa
theorem fStable_holds : Rows.FnStableSaid := fStable.over
#print axioms fStable_holds
end Go.Proofs.Ytmhkfangfhanlaa
