/- At most one value is chosen, and it is one that somebody proposed, for drawn plays: the law FnSynod, at every list of bytes. No condition. -/
import Derived.Test.YtmhkfangfhanlaaPxS
import Derived.Test.YtmhkfangfhanlaaMgI
import Derived.Test.YtmhkfangfhanlaaWords
import Derived.ProofKit
import Derived.OpenShut
import Derived.ShutString
import Derived.ChangeOld
import Derived.Below
import Derived.Lib.SmallJoins
namespace Go.Proofs.Ytmhkfangfhanlaa.fSynod
open Go.ChangeShapes Go.WideShapes Go.ChangeAt Go.RowKit
open Go.ChangeMaps (open_string shut_string)
set_option linter.unusedVariables false

set_option maxRecDepth 100000 in
set_option maxHeartbeats 16000000 in
theorem walk (a : Option Addr) (n cap : Nat) (X : Nat → Int) (w : World) (hm : n ≤ maxLen) (hs : Sl w a n 1 (byF X)) (hX : ∀ i, i < n → 0 ≤ X i ∧ X i ≤ 255) :
    Calls Try.prog 3 #[.slice a n cap] w fun r w' => r = .returned (.bool true) ∧ Below w.heap.size w w' := by
  unfold maxLen at hm
  have HS : Hid (Sl w a n 1 (byF X) ∧ ∀ i, i < n → 0 ≤ X i ∧ X i ≤ 255) := ⟨hs, hX⟩
  clear hs hX
  by_cases hlt : (1048576 : Int) < (n : Int)
  case pos =>
    go_enter Try.func3, Try.ntmps3
    go_wp2
    go_ret
    exact ⟨rfl, Below.refl _ _⟩
  case neg =>
  have hlt' : (n : Int) ≤ 1048576 := by omega
  go_enter Try.func3, Try.ntmps3
  go_wp2_with fail
  refine (drawPlay_any _ _ _ X _ hm HS.out.1 HS.out.2).mono ?_
  rintro r w1 ⟨m, vs, l, a1, k1, a2, k2, hmb, hvl, hvz, hll, haf, rfl, h1, h2, hb⟩
  have HB1 : Hid (Below w.heap.size w w1) := below_next (Below.refl _ _) hb
  have sz1 : w.heap.size ≤ w1.heap.size := hb.size
  have V_1 : Hid (Lies w1 (.list .str) [.slice a1 vs.length k1] vs) := h1
  have L_1 : Hid (Lies w1 (.list shSynodStep) [.slice a2 l.length k2] l) := h2
  clear hb h1 h2
  have HVZ : Hid (szD (.list .str) vs ≤ 1000 ∧ l.length ≤ 121) := ⟨hvz, hll⟩
  clear hvz haf
  obtain ⟨A, P, D, z, hA⟩ : ∃ A P D z, PlH m vs l A P D z := ⟨_, _, _, _, rfl, rfl, rfl, rfl⟩
  have HA : Hid (PlH m vs l A P D z) := hA
  have hD : D.length ≤ 1073741824 := by have h1 := (sz_plA m vs l).2; rw [hA.2.2.1] at h1; have e : szD (.list .bool) D = D.length + (D.map (szD .bool)).sum := rfl; omega
  clear hA
  go_wp2_with fail
  refine ((playSynod_a m a1 k1 vs a2 k2 l _ A P D z HA.out HVZ.out.1 HVZ.out.2 V_1.out L_1.out).1).mono ?_
  rintro r w2 hT
  obtain ⟨p2_1, q2_1, p2_2, q2_2, p2_3, q2_3, S2a, S2b, rfl, ho, hod, hss, hb⟩ := plp_out hT
  have HSS2 : Hid ((∀ k, S2a k → w1.heap.size ≤ k ∧ k < w2.heap.size) ∧ (∀ k, S2b k → w1.heap.size ≤ k ∧ k < w2.heap.size) ∧ (∀ k, S2a k → ¬ S2b k)) := hss
  clear hss
  have HB2 : Hid (Below w.heap.size w w2) := below_next HB1.out hb
  have sz2 : w1.heap.size ≤ w2.heap.size := hb.size
  have V_2 : Hid (Lies w2 (.list .str) [.slice a1 vs.length k1] vs) := V_1.out.next hb
  have L_2 : Hid (Lies w2 (.list shSynodStep) [.slice a2 l.length k2] l) := L_1.out.next hb
  have GP_2 : Hid (Own w2 shSynod [.slice p2_1 A.length q2_1, .slice p2_2 P.length q2_2] (A, P, ()) S2a) := ho
  have GD_2 : Hid (Own w2 (.list .bool) [.slice p2_3 D.length q2_3] D S2b) := hod
  clear hb ho hod hT V_1 L_1 HB1
  go_wp2_with fail
  obtain ⟨w3, hw3⟩ : ∃ x, x = w2.alloc (.cells #[.slice p2_1 A.length q2_1, .slice p2_2 P.length q2_2] 30) := ⟨_, rfl⟩
  have hb : Below w2.heap.size w2 w3 := hw3 ▸ Go.Joins.below_alloc1 _ _
  have HB3 : Hid (Below w.heap.size w w3) := below_next HB2.out hb
  have sz3 : w2.heap.size < w3.heap.size := by rw [hw3]; simp
  have V_3 : Hid (Lies w3 (.list .str) [.slice a1 vs.length k1] vs) := V_2.out.next hb
  have L_3 : Hid (Lies w3 (.list shSynodStep) [.slice a2 l.length k2] l) := L_2.out.next hb
  have GP_3 : Hid (Own w3 shSynod [.slice p2_1 A.length q2_1, .slice p2_2 P.length q2_2] (A, P, ()) S2a) := GP_2.out.next hb
  have GD_3 : Hid (Own w3 (.list .bool) [.slice p2_3 D.length q2_3] D S2b) := GD_2.out.next hb
  have G_3 : Hid (Bx w3 w2.heap.size [.slice p2_1 A.length q2_1, .slice p2_2 P.length q2_2]) := hw3 ▸ Bx.new w2 [.slice p2_1 A.length q2_1, .slice p2_2 P.length q2_2] _
  rw [← hw3]
  clear hb hw3 V_2 L_2 GP_2 GD_2 HB2
  refine ((playSynod_a m a1 k1 vs a2 k2 l _ A P D z HA.out HVZ.out.1 HVZ.out.2 V_3.out L_3.out).2).mono ?_
  rintro r w4 hT
  obtain ⟨p4_1, q4_1, p4_2, q4_2, p4_3, q4_3, S4a, S4b, rfl, ho, hod, hss, hb⟩ := plp_out hT
  have HSS4 : Hid ((∀ k, S4a k → w3.heap.size ≤ k ∧ k < w4.heap.size) ∧ (∀ k, S4b k → w3.heap.size ≤ k ∧ k < w4.heap.size) ∧ (∀ k, S4a k → ¬ S4b k)) := hss
  clear hss
  have HB4 : Hid (Below w.heap.size w w4) := below_next HB3.out hb
  have sz4 : w3.heap.size ≤ w4.heap.size := hb.size
  have V_4 : Hid (Lies w4 (.list .str) [.slice a1 vs.length k1] vs) := V_3.out.next hb
  have L_4 : Hid (Lies w4 (.list shSynodStep) [.slice a2 l.length k2] l) := L_3.out.next hb
  have GP_4 : Hid (Own w4 shSynod [.slice p2_1 A.length q2_1, .slice p2_2 P.length q2_2] (A, P, ()) S2a) := GP_3.out.next hb
  have GD_4 : Hid (Own w4 (.list .bool) [.slice p2_3 D.length q2_3] D S2b) := GD_3.out.next hb
  have G_4 : Hid (Bx w4 w2.heap.size [.slice p2_1 A.length q2_1, .slice p2_2 P.length q2_2]) := G_3.out.next hb
  have SP_4 : Hid (Own w4 shSynod [.slice p4_1 A.length q4_1, .slice p4_2 P.length q4_2] (A, P, ()) S4a) := ho
  have SD_4 : Hid (Own w4 (.list .bool) [.slice p4_3 D.length q4_3] D S4b) := hod
  clear hb ho hod hT V_3 L_3 GP_3 GD_3 G_3 HB3
  go_wp2_with fail
  obtain ⟨w5, hw5⟩ : ∃ x, x = w4.alloc (.cells #[.slice p4_1 A.length q4_1, .slice p4_2 P.length q4_2] 30) := ⟨_, rfl⟩
  have hb : Below w4.heap.size w4 w5 := hw5 ▸ Go.Joins.below_alloc1 _ _
  have HB5 : Hid (Below w.heap.size w w5) := below_next HB4.out hb
  have sz5 : w4.heap.size < w5.heap.size := by rw [hw5]; simp
  have V_5 : Hid (Lies w5 (.list .str) [.slice a1 vs.length k1] vs) := V_4.out.next hb
  have L_5 : Hid (Lies w5 (.list shSynodStep) [.slice a2 l.length k2] l) := L_4.out.next hb
  have GP_5 : Hid (Own w5 shSynod [.slice p2_1 A.length q2_1, .slice p2_2 P.length q2_2] (A, P, ()) S2a) := GP_4.out.next hb
  have GD_5 : Hid (Own w5 (.list .bool) [.slice p2_3 D.length q2_3] D S2b) := GD_4.out.next hb
  have G_5 : Hid (Bx w5 w2.heap.size [.slice p2_1 A.length q2_1, .slice p2_2 P.length q2_2]) := G_4.out.next hb
  have SP_5 : Hid (Own w5 shSynod [.slice p4_1 A.length q4_1, .slice p4_2 P.length q4_2] (A, P, ()) S4a) := SP_4.out.next hb
  have SD_5 : Hid (Own w5 (.list .bool) [.slice p4_3 D.length q4_3] D S4b) := SD_4.out.next hb
  have Q_5 : Hid (Bx w5 w4.heap.size [.slice p4_1 A.length q4_1, .slice p4_2 P.length q4_2]) := hw5 ▸ Bx.new w4 [.slice p4_1 A.length q4_1, .slice p4_2 P.length q4_2] _
  rw [← hw5]
  clear hb hw5 V_4 L_4 GP_4 GD_4 G_4 SP_4 SD_4 HB4
  refine (sameBools_same p2_3 p4_3 q2_3 q4_3 D _ hD GD_5.out.lies SD_5.out.lies).mono ?_
  rintro r w6 ⟨rfl, hb⟩
  have HB6 : Hid (Below w.heap.size w w6) := below_next HB5.out hb
  have sz6 : w5.heap.size ≤ w6.heap.size := hb.size
  have V_6 : Hid (Lies w6 (.list .str) [.slice a1 vs.length k1] vs) := V_5.out.next hb
  have L_6 : Hid (Lies w6 (.list shSynodStep) [.slice a2 l.length k2] l) := L_5.out.next hb
  have GP_6 : Hid (Own w6 shSynod [.slice p2_1 A.length q2_1, .slice p2_2 P.length q2_2] (A, P, ()) S2a) := GP_5.out.next hb
  have GD_6 : Hid (Own w6 (.list .bool) [.slice p2_3 D.length q2_3] D S2b) := GD_5.out.next hb
  have G_6 : Hid (Bx w6 w2.heap.size [.slice p2_1 A.length q2_1, .slice p2_2 P.length q2_2]) := G_5.out.next hb
  have SP_6 : Hid (Own w6 shSynod [.slice p4_1 A.length q4_1, .slice p4_2 P.length q4_2] (A, P, ()) S4a) := SP_5.out.next hb
  have SD_6 : Hid (Own w6 (.list .bool) [.slice p4_3 D.length q4_3] D S4b) := SD_5.out.next hb
  have Q_6 : Hid (Bx w6 w4.heap.size [.slice p4_1 A.length q4_1, .slice p4_2 P.length q4_2]) := Q_5.out.next hb
  clear hb V_5 L_5 GP_5 GD_5 G_5 SP_5 SD_5 Q_5 HB5
  cases z
  · have hD0 : D = [] := none_did HA.out
    subst hD0
    simp only [List.length_nil]
    go_wp2_with fail
    go_ret
    exact ⟨rfl, HB6.out⟩
  have HO : Hid (One' vs A P) := Hid.intro (onePlay_of HA.out)
  have HZ : Hid (szD shSynod (A, P, ()) ≤ 1073741824) := Hid.intro (Nat.le_trans (good_size HO.out.one.good) (by decide))
  obtain ⟨L1, hL1⟩ : ∃ L, chA A P = L := ⟨_, rfl⟩
  have HL1 : Hid (chA A P = L1 ∧ tf (goodS A P) = true) := ⟨hL1, tf_yes HO.out.one.good⟩
  clear hL1
  have cG0 := G_6.out.cell 0 rfl
  have cG1 := G_6.out.cell 1 rfl
  have zG := G_6.out.2
  go_wp2_with fail
  refine (chosenIn_l [.slice p2_1 A.length q2_1, .slice p2_2 P.length q2_2] A P _ L1 true HL1.out HZ.out GP_6.out.lies).mono ?_
  rintro r w7 ⟨p7, q7, rfl, ho, hb⟩
  have HB7 : Hid (Below w.heap.size w w7) := below_next HB6.out hb
  have sz7 : w6.heap.size ≤ w7.heap.size := hb.size
  have V_7 : Hid (Lies w7 (.list .str) [.slice a1 vs.length k1] vs) := V_6.out.next hb
  have L_7 : Hid (Lies w7 (.list shSynodStep) [.slice a2 l.length k2] l) := L_6.out.next hb
  have GP_7 : Hid (Own w7 shSynod [.slice p2_1 A.length q2_1, .slice p2_2 P.length q2_2] (A, P, ()) S2a) := GP_6.out.next hb
  have GD_7 : Hid (Own w7 (.list .bool) [.slice p2_3 D.length q2_3] D S2b) := GD_6.out.next hb
  have G_7 : Hid (Bx w7 w2.heap.size [.slice p2_1 A.length q2_1, .slice p2_2 P.length q2_2]) := G_6.out.next hb
  have SP_7 : Hid (Own w7 shSynod [.slice p4_1 A.length q4_1, .slice p4_2 P.length q4_2] (A, P, ()) S4a) := SP_6.out.next hb
  have SD_7 : Hid (Own w7 (.list .bool) [.slice p4_3 D.length q4_3] D S4b) := SD_6.out.next hb
  have Q_7 : Hid (Bx w7 w4.heap.size [.slice p4_1 A.length q4_1, .slice p4_2 P.length q4_2]) := Q_6.out.next hb
  have C_7 : Hid (Own w7 (.list .str) [.slice p7 L1.length q7] L1 (Btw w6.heap.size w7.heap.size)) := ho
  clear hb ho cG0 cG1 zG V_6 L_6 GP_6 GD_6 G_6 SP_6 SD_6 Q_6 HB6
  have hlen : L1.length ≤ 1 := by rcases chA_form HO.out.one with ⟨q, _⟩ | ⟨c, _, _, q⟩ <;> (rw [← HL1.out.1, q]; simp)
  have hlen' : (L1.length : Int) ≤ 1 := by omega
  have cG0 := G_7.out.cell 0 rfl
  have cG1 := G_7.out.cell 1 rfl
  have zG := G_7.out.2
  go_wp2_with fail
  refine ((show Calls _ _ _ _ (fun r w' => r = .returned (.bool true) ∧ Below _ _ w') from (by have q := goodSynod_n [.slice p2_1 A.length q2_1, .slice p2_2 P.length q2_2] A P _ HZ.out GP_7.out.lies; rw [HL1.out.2] at q; exact q))).mono ?_
  rintro r w8 ⟨rfl, hb⟩
  have HB8 : Hid (Below w.heap.size w w8) := below_next HB7.out hb
  have sz8 : w7.heap.size ≤ w8.heap.size := hb.size
  have V_8 : Hid (Lies w8 (.list .str) [.slice a1 vs.length k1] vs) := V_7.out.next hb
  have L_8 : Hid (Lies w8 (.list shSynodStep) [.slice a2 l.length k2] l) := L_7.out.next hb
  have GP_8 : Hid (Own w8 shSynod [.slice p2_1 A.length q2_1, .slice p2_2 P.length q2_2] (A, P, ()) S2a) := GP_7.out.next hb
  have GD_8 : Hid (Own w8 (.list .bool) [.slice p2_3 D.length q2_3] D S2b) := GD_7.out.next hb
  have G_8 : Hid (Bx w8 w2.heap.size [.slice p2_1 A.length q2_1, .slice p2_2 P.length q2_2]) := G_7.out.next hb
  have SP_8 : Hid (Own w8 shSynod [.slice p4_1 A.length q4_1, .slice p4_2 P.length q4_2] (A, P, ()) S4a) := SP_7.out.next hb
  have SD_8 : Hid (Own w8 (.list .bool) [.slice p4_3 D.length q4_3] D S4b) := SD_7.out.next hb
  have Q_8 : Hid (Bx w8 w4.heap.size [.slice p4_1 A.length q4_1, .slice p4_2 P.length q4_2]) := Q_7.out.next hb
  have C_8 : Hid (Own w8 (.list .str) [.slice p7 L1.length q7] L1 (Btw w6.heap.size w7.heap.size)) := C_7.out.next hb
  clear hb cG0 cG1 zG V_7 L_7 GP_7 GD_7 G_7 SP_7 SD_7 Q_7 C_7 HB7
  have cG0 := G_8.out.cell 0 rfl
  have cG1 := G_8.out.cell 1 rfl
  have zG := G_8.out.2
  go_wp2_with fail
  refine ((show Calls _ _ _ _ (fun r w' => r = .returned (.bool true) ∧ Below _ _ w') from (by have q := specGoodSynod_n [.slice p2_1 A.length q2_1, .slice p2_2 P.length q2_2] A P _ HZ.out GP_8.out.lies; rw [HL1.out.2] at q; exact q))).mono ?_
  rintro r w9 ⟨rfl, hb⟩
  have HB9 : Hid (Below w.heap.size w w9) := below_next HB8.out hb
  have sz9 : w8.heap.size ≤ w9.heap.size := hb.size
  have V_9 : Hid (Lies w9 (.list .str) [.slice a1 vs.length k1] vs) := V_8.out.next hb
  have L_9 : Hid (Lies w9 (.list shSynodStep) [.slice a2 l.length k2] l) := L_8.out.next hb
  have GP_9 : Hid (Own w9 shSynod [.slice p2_1 A.length q2_1, .slice p2_2 P.length q2_2] (A, P, ()) S2a) := GP_8.out.next hb
  have GD_9 : Hid (Own w9 (.list .bool) [.slice p2_3 D.length q2_3] D S2b) := GD_8.out.next hb
  have G_9 : Hid (Bx w9 w2.heap.size [.slice p2_1 A.length q2_1, .slice p2_2 P.length q2_2]) := G_8.out.next hb
  have SP_9 : Hid (Own w9 shSynod [.slice p4_1 A.length q4_1, .slice p4_2 P.length q4_2] (A, P, ()) S4a) := SP_8.out.next hb
  have SD_9 : Hid (Own w9 (.list .bool) [.slice p4_3 D.length q4_3] D S4b) := SD_8.out.next hb
  have Q_9 : Hid (Bx w9 w4.heap.size [.slice p4_1 A.length q4_1, .slice p4_2 P.length q4_2]) := Q_8.out.next hb
  have C_9 : Hid (Own w9 (.list .str) [.slice p7 L1.length q7] L1 (Btw w6.heap.size w7.heap.size)) := C_8.out.next hb
  clear hb cG0 cG1 zG V_8 L_8 GP_8 GD_8 G_8 SP_8 SD_8 Q_8 C_8 HB8
  go_wp2_with fail
  go_loopw [82] (fun y wr => ∃ j : Nat, j ≤ L1.length ∧ y = .int .i64 (j : Int) ∧ wr = w9) (fun y _ => L1.length - (intOf y).toNat)
  case atStart => exact ⟨0, Nat.zero_le _, rfl, rfl⟩
  case round =>
    obtain ⟨j, hj, rfl, hwr⟩ := hrel
    subst hwr
    by_cases hj1 : j < L1.length
    · obtain rfl : j = 0 := by omega
      have hj1' : ((0 : Nat) : Int) < (L1.length : Int) := by omega
      have hj2 : (0 : Int) < (L1.length : Int) := by omega
      obtain ⟨c, t0, hL, hin⟩ : ∃ (c : Nat) (t0 : ByteArray), L1 = [t0] ∧ t0 ∈ vs := by
        rcases chA_form HO.out.one with ⟨q, _⟩ | ⟨c, _, hcc, q⟩
        · rw [HL1.out.1] at q; rw [q] at hj1; simp at hj1
        · exact ⟨c, vlo P c, HL1.out.1.symm.trans q, HO.out.vals c hcc⟩
      have HIN : Hid (t0 ∈ vs) := hin
      clear hin
      obtain ⟨gc, oc, hgo, hgs, ec, hel, hec, hle⟩ := Lies.elem C_9.out.lies (show 0 < L1.length from hj1)
      have hev : ec = [.string t0] := by have q : ec = [.string L1[0]] := hle; rw [q]; congr 2; simp [hL]
      subst hev
      have c0 : wr.cell? ⟨gc, oc, none⟩ = some (.string t0) := by have := hec 0 (by simp); simpa using this
      have HLL : Hid (L1 = [t0]) := hL
      subst hgo
      clear hec hel hle hL
      go_wp2_with fail
      obtain ⟨WK, hWK⟩ : ∃ x, x = wr := ⟨_, rfl⟩
      subst hWK
      go_loopw [88, 16] (fun y u wr => ∃ (i : Nat) (o : Bool), i ≤ vs.length ∧ y = .int .i64 (i : Int) ∧ u = .bool o ∧ (o = true ↔ t0 ∈ vs.take i) ∧ wr = WK) (fun y _ _ => vs.length - (intOf y).toNat)
      case atStart => exact ⟨0, false, Nat.zero_le _, rfl, rfl, by simp, rfl⟩
      case round =>
        obtain ⟨i, o, hi, rfl, rfl, hO, hwr⟩ := hrel
        subst hwr
        have HOO : Hid (o = true ↔ t0 ∈ vs.take i) := hO
        clear hO
        by_cases hil : i < vs.length
        · have hil' : (i : Int) < (vs.length : Int) := by omega
          obtain ⟨gv, ov, hgo, hgs, ec, hel, hec, hle⟩ := Lies.elem V_9.out hil
          have hev : ec = [.string vs[i]] := hle
          subst hev
          have c1 : wr.cell? ⟨gv, ov + i, none⟩ = some (.string vs[i]) := by have := hec 0 (by simp); simpa [Sh.c] using this
          obtain ⟨tv, htv⟩ : ∃ t : ByteArray, t = vs[i] := ⟨_, rfl⟩
          have HTV : Hid (tv = vs[i]) := htv
          rw [← htv] at c1
          subst hgo
          clear hec hel hle htv
          have HTK : Hid (t0 ∈ vs.take (i + 1) ↔ t0 ∈ vs.take i ∨ t0 = tv) := Hid.intro (by rw [List.take_succ_eq_append_getElem hil, List.mem_append, List.mem_singleton, ← HTV.out])
          cases o
          · by_cases ev : tv = t0
            · have ev' : (tv.toList == t0.toList) = true := by rw [ev]; simp
              subst ev
              go_wp2_with fail
              go_roundw
              case rel => exact ⟨i + 1, true, by omega, by go_num, by simp, ⟨fun _ => HTK.out.2 (Or.inr rfl), fun _ => rfl⟩, trivial⟩
              case measure => simp [intOf]; omega
            · have HEV : Hid (tv ≠ t0) := ev
              have hne := ne_texts ev
              go_wp2_with fail
              go_roundw
              case rel => exact ⟨i + 1, false, by omega, by go_num, by first | rfl | simp [hne], ⟨(fun q => by cases q), (fun q => by rcases HTK.out.1 q with r | r; (· have := HOO.out.2 r; cases this); exact absurd r.symm HEV.out)⟩, trivial⟩
              case measure => simp [intOf]; omega
          · go_wp2_with fail
            go_roundw
            case rel => exact ⟨i + 1, true, by omega, by go_num, rfl, ⟨fun _ => HTK.out.2 (Or.inl (HOO.out.1 rfl)), fun _ => rfl⟩, trivial⟩
            case measure => simp [intOf]; omega
        · have hie : i = vs.length := by omega
          have ho : o = true := HOO.out.2 (by rw [hie, List.take_length]; exact HIN.out)
          subst ho
          clear hie
          go_wp2_with fail
          go_roundw
          case rel => exact ⟨1, by omega, by first | rfl | go_num, trivial⟩
          case measure => have := HLL.out; simp [intOf, this]
    · have hj1' : ¬ ((j : Int) < (L1.length : Int)) := by omega
      go_wp2_with fail
      go_ret
      exact ⟨rfl, HB9.out⟩


theorem own : ownKnob Try.prog.godebug = none := by kernel_rfl
theorem laidOut : laidOutB Try.prog = true := by kernel_rfl

set_option maxRecDepth 100000 in
theorem lifted (os : Os) (started : os.Started) (H : Type) (enc : TypeId × Value → H) :
    ReturnsInHanded {} Try.checked os 3 .any (Rows.fnSynodSpec.pre6 enc Try.prog Try.f3 Rows.fnSynodRow.domain false) (Rows.fnSynodSpec.post enc Try.prog Try.f3 false true false false) := by
  refine returnsInHanded_of_change (C := Try.checked) own started (by kernel_rfl) Try.func3
    (ChangeSpec.witness6 (enc := enc) (C := Try.checked) false ⟨#[], #[.slice none 0 0], []⟩ 8 (by kernel_rfl) (by kernel_rfl) (by kernel_rfl) (by kernel_rfl)) ?_
  intro W base args ds gs before hval0 hW hcnd _
  have hval : ∀ (j : Nat) t v, Try.f3.params[j]? = some t → args[j]? = some v → Value.okWide Try.prog W .any base t v := hval0
  have hW' := hW
  obtain ⟨p, q, hA0, hV, rfl, hfz, hnd⟩ := hW
  have hA : DataW.TrodAll enc Try.prog W 0 (fun _ => true) true Try.f3.params.toList args.toList ds p := hA0
  rw [Try.params3] at hA hval
  obtain ⟨v0, vs0, d0, ds0, p0, q0, hargs, rfl, rfl, h0, r0⟩ := trodAll_cons hA
  obtain ⟨rfl, rfl, rfl⟩ := trodAll_nil r0
  obtain rfl : args = #[v0] := by cases args; simp_all
  obtain ⟨rfl, rfl⟩ := trodVars_none hV
  have k0 := h0
  have lt0 : ∀ x ∈ p0, x.block < W.heap.size := by obtain ⟨m, hm⟩ := k0; exact DataW.trod_lt m _ _ _ hm
  obtain ⟨a0, len0, cap0, rfl⟩ := okWide_slice Try.underlying22 (hval 0 22 v0 rfl rfl)
  obtain ⟨n0, X0, s0, b0⟩ := open_bytes h0
  clear hA0 hval0
  refine (walk (w := W) a0 len0 cap0 X0 n0 s0 b0).mono fun e W' ⟨he, bel⟩ => ?_
  subst he
  exact ⟨_, rfl, _, _, _, [], _, [], hW', trodAll_mk1 (shut_bool Try.underlying4 _), (trodAll_cons_mk (Below.trod laidOut (by kernel_rfl) (of_decide_eq_true (by kernel_rfl)) k0 bel lt0) trodAll_mk0), rfl, bel.frame _, fun h => by cases h⟩

set_option maxHeartbeats 40000000 in
theorem closed : joinedFacts Try.pinned.checked.prog 3 Try.f3 Rows.fnSynodSpec Rows.fnSynodRow = true := by
  unfold joinedFacts
  repeat' (first | (with_reducible refine both ?_ ?_) | (with_reducible exact may_enter') | (with_reducible refine lifts_eq ?_) | (with_reducible refine make_eq ?_) | as_aux_lemma => kernel_rfl)
theorem named : Try.pinned.checked.prog.funcNamed Rows.fnSynodRow.func = some 3 := by kernel_rfl
theorem over : Rows.fnSynodRow.holds Try.pinned (OpenSpec.ofChange Rows.fnSynodSpec) :=
  OpenClaim.holds_of_wide 3 Try.f3 rfl rfl rfl rfl rfl rfl rfl ⟨rfl, rfl, rfl, rfl, rfl⟩ rfl rfl rfl rfl rfl named Try.func3 closed
    (of_decide_eq_true (by as_aux_lemma => kernel_rfl)) (by unfold Func.isWrapper; first | (rw [if_pos (by decide +kernel)]; kernel_rfl) | (rw [if_neg (by decide +kernel)]; exact ⟨rfl, rfl⟩))
    (fun os started H enc _ => lifted os started H enc)

end Go.Proofs.Ytmhkfangfhanlaa.fSynod
namespace Go.Proofs.Ytmhkfangfhanlaa
theorem fSynod_holds : Rows.FnSynodSaid := fSynod.over
#print axioms fSynod_holds
end Go.Proofs.Ytmhkfangfhanlaa
