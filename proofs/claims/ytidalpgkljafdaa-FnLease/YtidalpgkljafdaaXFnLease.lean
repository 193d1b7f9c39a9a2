/- At most one node believes that it holds, and it is who holds, up to when it is safe by its own clock, for drawn leases and steps: the law FnLease, at every two lists of bytes. No condition. -/
import Derived.Test.YtidalpgkljafdaaLeF
import Derived.Test.YtidalpgkljafdaaOpenBE
import Derived.Test.YtidalpgkljafdaaWords
import Derived.ProofKit
import Derived.OpenShut
import Derived.ShutString
import Derived.ChangeOld
import Derived.Below
import Derived.Lib.SmallJoins
namespace Go.Proofs.Ytidalpgkljafdaa.fLease
open Go.ChangeShapes Go.WideShapes Go.ChangeAt Go.RowKit
open Go.ChangeMaps (open_string shut_string)
set_option linter.unusedVariables false

set_option maxRecDepth 100000 in
set_option maxHeartbeats 16000000 in
theorem walk (a : Option Addr) (n cap : Nat) (X : Nat → Int) (w : World) (hm : n ≤ maxLen) (hs : Sl w a n 1 (byF X)) (hX : ∀ i, i < n → 0 ≤ X i ∧ X i ≤ 255)
    (a' : Option Addr) (n' cap' : Nat) (Y : Nat → Int) (hm' : n' ≤ maxLen) (hs' : Sl w a' n' 1 (byF Y)) (hY : ∀ i, i < n' → 0 ≤ Y i ∧ Y i ≤ 255) :
    Calls Try.prog 3 #[.slice a n cap, .slice a' n' cap'] w fun r w' => r = .returned (.bool true) ∧ Below w.heap.size w w' := by
  unfold maxLen at hm hm'
  have HS : Hid ((Sl w a n 1 (byF X) ∧ ∀ i, i < n → 0 ≤ X i ∧ X i ≤ 255) ∧ Sl w a' n' 1 (byF Y) ∧ ∀ i, i < n' → 0 ≤ Y i ∧ Y i ≤ 255) := ⟨⟨hs, hX⟩, hs', hY⟩
  clear hs hs' hX hY
  by_cases hlt : (1048576 : Int) < wrap64 ((n : Int) + (n' : Int))
  case pos =>
    go_enter Try.func3, Try.ntmps3
    go_wp2
    go_ret
    exact ⟨rfl, Below.refl _ _⟩
  case neg =>
  go_enter Try.func3, Try.ntmps3
  go_wp2_with fail
  refine (drawPlayLeases_any _ _ _ X _ hm HS.out.1.1 HS.out.1.2).mono ?_
  rintro r w1 ⟨m, s0, l, a2, k2, hll, rfl, h2, hb⟩
  have HB1 : Hid (Below w.heap.size w w1) := below_next (Below.refl _ _) hb
  have sz1 : w.heap.size ≤ w1.heap.size := hb.size
  have L_1 : Hid (Lies w1 (.list shLeaseStep) [.slice a2 l.length k2] l) := h2
  clear hb h2
  obtain ⟨SK, NW, CL, HO, UN, KN, D, z, hA⟩ : ∃ SK NW CL HO UN KN D z, LpH m s0 l SK NW CL HO UN KN D z := ⟨_, _, _, _, _, _, _, _, rfl, rfl, rfl, rfl, rfl, rfl, rfl, rfl⟩
  have HA : Hid (LpH m s0 l SK NW CL HO UN KN D z) := hA
  have hD : D.length ≤ 1048576 := by have h1 := lpA_len m s0 l; rw [hA.2.2.2.2.2.2.1] at h1; omega
  have HD1 : Hid (∀ x ∈ D, x ≤ (1 : Int)) := Hid.intro (by have h1 := lpA_ones m s0 l; rw [hA.2.2.2.2.2.2.1] at h1; exact h1)
  have HLZ : Hid (szD (.list shLeaseStep) l ≤ 1073741824) := Hid.intro (by have e : szD (.list shLeaseStep) l = l.length + (l.map (szD shLeaseStep)).sum := rfl; have e2 : (l.map (szD shLeaseStep)).sum = 0 := sum_zero (fun _ => rfl) l; omega)
  clear hA hll
  go_wp2_with fail
  refine (playLeases_l m s0 a2 k2 l _ SK NW CL HO UN KN D z HA.out HLZ.out L_1.out).mono ?_
  rintro r w2 hT
  obtain ⟨cs9, v9, S2a, S2b, rfl, ho, hod, hs1, hs2, hb⟩ := hT
  obtain ⟨p2_1, q2_1, _, p2_2, q2_2, _, hev, _⟩ := own_Leases ho
  subst hev
  obtain ⟨p2_d, q2_d, hvd⟩ := own_form hod
  simp only [List.cons.injEq, and_true] at hvd
  subst hvd
  have HSS2 : Hid ((∀ k, S2a k → w1.heap.size ≤ k ∧ k < w2.heap.size) ∧ (∀ k, S2b k → w1.heap.size ≤ k ∧ k < w2.heap.size) ∧ (∀ k, S2a k → ¬ S2b k)) := ⟨fun k hk => (hs1 k hk).1, hs2, fun k hk => (hs1 k hk).2⟩
  have hT := trivial
  have HB2 : Hid (Below w.heap.size w w2) := below_next HB1.out hb
  have sz2 : w1.heap.size ≤ w2.heap.size := hb.size
  have L_2 : Hid (Lies w2 (.list shLeaseStep) [.slice a2 l.length k2] l) := L_1.out.next hb
  have GP_2 : Hid (Own w2 shLeases [.int .i64 SK, .int .i64 NW, .slice p2_1 CL.length q2_1, .int .i64 HO, .int .i64 UN, .slice p2_2 KN.length q2_2] (SK, NW, CL, HO, UN, KN, ()) S2a) := ho
  have GD_2 : Hid (Own w2 (.list .int) [.slice p2_d D.length q2_d] D S2b) := hod
  clear hb ho hod hT hs1 hs2 L_1 HB1
  go_wp2_with fail
  obtain ⟨w3, hw3⟩ : ∃ x, x = w2.alloc (.cells #[.int .i64 SK, .int .i64 NW, .slice p2_1 CL.length q2_1, .int .i64 HO, .int .i64 UN, .slice p2_2 KN.length q2_2] 28) := ⟨_, rfl⟩
  have hb : Below w2.heap.size w2 w3 := hw3 ▸ Go.Joins.below_alloc1 _ _
  have HB3 : Hid (Below w.heap.size w w3) := below_next HB2.out hb
  have sz3 : w2.heap.size < w3.heap.size := by rw [hw3]; simp
  have L_3 : Hid (Lies w3 (.list shLeaseStep) [.slice a2 l.length k2] l) := L_2.out.next hb
  have GP_3 : Hid (Own w3 shLeases [.int .i64 SK, .int .i64 NW, .slice p2_1 CL.length q2_1, .int .i64 HO, .int .i64 UN, .slice p2_2 KN.length q2_2] (SK, NW, CL, HO, UN, KN, ()) S2a) := GP_2.out.next hb
  have GD_3 : Hid (Own w3 (.list .int) [.slice p2_d D.length q2_d] D S2b) := GD_2.out.next hb
  have G_3 : Hid (Bx w3 w2.heap.size [.int .i64 SK, .int .i64 NW, .slice p2_1 CL.length q2_1, .int .i64 HO, .int .i64 UN, .slice p2_2 KN.length q2_2]) := hw3 ▸ Bx.new w2 [.int .i64 SK, .int .i64 NW, .slice p2_1 CL.length q2_1, .int .i64 HO, .int .i64 UN, .slice p2_2 KN.length q2_2] _
  rw [← hw3]
  clear hb hw3 L_2 GP_2 GD_2 HB2
  refine (specPlayLeases_l m s0 a2 k2 l _ SK NW CL HO UN KN D z HA.out HLZ.out L_3.out).mono ?_
  rintro r w4 hT
  obtain ⟨cs9, v9, S4a, S4b, rfl, ho, hod, hs1, hs2, hb⟩ := hT
  obtain ⟨p4_1, q4_1, _, p4_2, q4_2, _, hev, _⟩ := own_Leases ho
  subst hev
  obtain ⟨p4_d, q4_d, hvd⟩ := own_form hod
  simp only [List.cons.injEq, and_true] at hvd
  subst hvd
  have HSS4 : Hid ((∀ k, S4a k → w3.heap.size ≤ k ∧ k < w4.heap.size) ∧ (∀ k, S4b k → w3.heap.size ≤ k ∧ k < w4.heap.size) ∧ (∀ k, S4a k → ¬ S4b k)) := ⟨fun k hk => (hs1 k hk).1, hs2, fun k hk => (hs1 k hk).2⟩
  have hT := trivial
  have HB4 : Hid (Below w.heap.size w w4) := below_next HB3.out hb
  have sz4 : w3.heap.size ≤ w4.heap.size := hb.size
  have L_4 : Hid (Lies w4 (.list shLeaseStep) [.slice a2 l.length k2] l) := L_3.out.next hb
  have GP_4 : Hid (Own w4 shLeases [.int .i64 SK, .int .i64 NW, .slice p2_1 CL.length q2_1, .int .i64 HO, .int .i64 UN, .slice p2_2 KN.length q2_2] (SK, NW, CL, HO, UN, KN, ()) S2a) := GP_3.out.next hb
  have GD_4 : Hid (Own w4 (.list .int) [.slice p2_d D.length q2_d] D S2b) := GD_3.out.next hb
  have G_4 : Hid (Bx w4 w2.heap.size [.int .i64 SK, .int .i64 NW, .slice p2_1 CL.length q2_1, .int .i64 HO, .int .i64 UN, .slice p2_2 KN.length q2_2]) := G_3.out.next hb
  have SP_4 : Hid (Own w4 shLeases [.int .i64 SK, .int .i64 NW, .slice p4_1 CL.length q4_1, .int .i64 HO, .int .i64 UN, .slice p4_2 KN.length q4_2] (SK, NW, CL, HO, UN, KN, ()) S4a) := ho
  have SD_4 : Hid (Own w4 (.list .int) [.slice p4_d D.length q4_d] D S4b) := hod
  clear hb ho hod hT hs1 hs2 L_3 GP_3 GD_3 G_3 HB3
  go_wp2_with fail
  obtain ⟨w5, hw5⟩ : ∃ x, x = w4.alloc (.cells #[.int .i64 SK, .int .i64 NW, .slice p4_1 CL.length q4_1, .int .i64 HO, .int .i64 UN, .slice p4_2 KN.length q4_2] 28) := ⟨_, rfl⟩
  have hb : Below w4.heap.size w4 w5 := hw5 ▸ Go.Joins.below_alloc1 _ _
  have HB5 : Hid (Below w.heap.size w w5) := below_next HB4.out hb
  have sz5 : w4.heap.size < w5.heap.size := by rw [hw5]; simp
  have L_5 : Hid (Lies w5 (.list shLeaseStep) [.slice a2 l.length k2] l) := L_4.out.next hb
  have GP_5 : Hid (Own w5 shLeases [.int .i64 SK, .int .i64 NW, .slice p2_1 CL.length q2_1, .int .i64 HO, .int .i64 UN, .slice p2_2 KN.length q2_2] (SK, NW, CL, HO, UN, KN, ()) S2a) := GP_4.out.next hb
  have GD_5 : Hid (Own w5 (.list .int) [.slice p2_d D.length q2_d] D S2b) := GD_4.out.next hb
  have G_5 : Hid (Bx w5 w2.heap.size [.int .i64 SK, .int .i64 NW, .slice p2_1 CL.length q2_1, .int .i64 HO, .int .i64 UN, .slice p2_2 KN.length q2_2]) := G_4.out.next hb
  have SP_5 : Hid (Own w5 shLeases [.int .i64 SK, .int .i64 NW, .slice p4_1 CL.length q4_1, .int .i64 HO, .int .i64 UN, .slice p4_2 KN.length q4_2] (SK, NW, CL, HO, UN, KN, ()) S4a) := SP_4.out.next hb
  have SD_5 : Hid (Own w5 (.list .int) [.slice p4_d D.length q4_d] D S4b) := SD_4.out.next hb
  have Q_5 : Hid (Bx w5 w4.heap.size [.int .i64 SK, .int .i64 NW, .slice p4_1 CL.length q4_1, .int .i64 HO, .int .i64 UN, .slice p4_2 KN.length q4_2]) := hw5 ▸ Bx.new w4 [.int .i64 SK, .int .i64 NW, .slice p4_1 CL.length q4_1, .int .i64 HO, .int .i64 UN, .slice p4_2 KN.length q4_2] _
  rw [← hw5]
  clear hb hw5 L_4 GP_4 GD_4 G_4 SP_4 SD_4 HB4
  refine (sameI p2_d p4_d q2_d q4_d D _ hD GD_5.out.lies SD_5.out.lies).mono ?_
  rintro r w6 ⟨rfl, hb⟩
  have HB6 : Hid (Below w.heap.size w w6) := below_next HB5.out hb
  have sz6 : w5.heap.size ≤ w6.heap.size := hb.size
  have L_6 : Hid (Lies w6 (.list shLeaseStep) [.slice a2 l.length k2] l) := L_5.out.next hb
  have GP_6 : Hid (Own w6 shLeases [.int .i64 SK, .int .i64 NW, .slice p2_1 CL.length q2_1, .int .i64 HO, .int .i64 UN, .slice p2_2 KN.length q2_2] (SK, NW, CL, HO, UN, KN, ()) S2a) := GP_5.out.next hb
  have GD_6 : Hid (Own w6 (.list .int) [.slice p2_d D.length q2_d] D S2b) := GD_5.out.next hb
  have G_6 : Hid (Bx w6 w2.heap.size [.int .i64 SK, .int .i64 NW, .slice p2_1 CL.length q2_1, .int .i64 HO, .int .i64 UN, .slice p2_2 KN.length q2_2]) := G_5.out.next hb
  have SP_6 : Hid (Own w6 shLeases [.int .i64 SK, .int .i64 NW, .slice p4_1 CL.length q4_1, .int .i64 HO, .int .i64 UN, .slice p4_2 KN.length q4_2] (SK, NW, CL, HO, UN, KN, ()) S4a) := SP_5.out.next hb
  have SD_6 : Hid (Own w6 (.list .int) [.slice p4_d D.length q4_d] D S4b) := SD_5.out.next hb
  have Q_6 : Hid (Bx w6 w4.heap.size [.int .i64 SK, .int .i64 NW, .slice p4_1 CL.length q4_1, .int .i64 HO, .int .i64 UN, .slice p4_2 KN.length q4_2]) := Q_5.out.next hb
  clear hb L_5 GP_5 GD_5 G_5 SP_5 SD_5 Q_5 HB5
  clear Q_6
  clear SP_6
  clear SD_6
  clear L_6
  go_wp2_with fail
  go_loopw [67] (fun y wr => ∃ j : Nat, j ≤ D.length ∧ y = .int .i64 (j : Int) ∧ wr = w6) (fun y _ => D.length - (intOf y).toNat)
  case atStart => exact ⟨0, Nat.zero_le _, rfl, rfl⟩
  case round =>
    obtain ⟨j, hj, rfl, hwr⟩ := hrel
    subst hwr
    by_cases hj1 : j < D.length
    · have hj1' : (j : Int) < (D.length : Int) := by omega
      obtain ⟨gd, od, hgd, c0, hgz⟩ := lies_at GD_6.out.lies hj1
      obtain ⟨x, hx⟩ : ∃ y, y = atI D j := ⟨_, rfl⟩
      have hx1 : x ≤ 1 := by rw [hx, atI_lt hj1]; exact HD1.out _ (List.getElem_mem hj1)
      rw [← hx] at c0
      subst hgd
      clear hx
      go_wp2_with fail
      go_roundw
      case rel => exact ⟨j + 1, by omega, by go_num, trivial⟩
      case measure => simp [intOf]; omega
    · have hj1' : ¬ ((j : Int) < (D.length : Int)) := by omega
      clear hj1 hj
      cases z
      case false =>
        go_wp2_with fail
        refine (drawStepLease_any _ _ _ Y _ hm' (HS.out.2.1.below HB6.out (Nat.le_refl _)) HS.out.2.2).mono ?_
        rintro r w7 ⟨sk, nw, cl, hq, un, kn, p3, q3, p4, q4, sa, sb, sn, rfl, hln, hU, hb⟩
        have HB7 : Hid (Below w.heap.size w w7) := below_next HB6.out hb
        have sz7 : wr.heap.size ≤ w7.heap.size := hb.size
        have GP_7 : Hid (Own w7 shLeases [.int .i64 SK, .int .i64 NW, .slice p2_1 CL.length q2_1, .int .i64 HO, .int .i64 UN, .slice p2_2 KN.length q2_2] (SK, NW, CL, HO, UN, KN, ()) S2a) := GP_6.out.next hb
        have GD_7 : Hid (Own w7 (.list .int) [.slice p2_d D.length q2_d] D S2b) := GD_6.out.next hb
        have G_7 : Hid (Bx w7 w2.heap.size [.int .i64 SK, .int .i64 NW, .slice p2_1 CL.length q2_1, .int .i64 HO, .int .i64 UN, .slice p2_2 KN.length q2_2]) := G_6.out.next hb
        have U_7 : Hid (Lies w7 shLeases [.int .i64 sk, .int .i64 nw, .slice p3 cl.length q3, .int .i64 hq, .int .i64 un, .slice p4 kn.length q4] (sk, nw, cl, hq, un, kn, ())) := hU
        clear hb hU GP_6 GD_6 G_6 HB6
        have HUZ : Hid (szD shLeases (sk, nw, cl, hq, un, kn, ()) ≤ 1073741824) := Hid.intro (by rw [sz_lea]; omega)
        obtain ⟨SV, NV, CV, OV, UV, KV, zv, hA⟩ : ∃ SV NV CV OV UV KV z, partsL (leS sk nw cl hq un kn sa sb sn) SV NV CV OV UV KV z := ⟨_, _, _, _, _, _, _, rfl, rfl, rfl, rfl, rfl, rfl, rfl⟩
        have HV : Hid (partsL (leS sk nw cl hq un kn sa sb sn) SV NV CV OV UV KV zv) := hA
        clear hA hln
        go_wp2_with fail
        obtain ⟨w8, hw8⟩ : ∃ x, x = w7.alloc (.cells #[.int .i64 sk, .int .i64 nw, .slice p3 cl.length q3, .int .i64 hq, .int .i64 un, .slice p4 kn.length q4] 28) := ⟨_, rfl⟩
        have hb : Below w7.heap.size w7 w8 := hw8 ▸ Go.Joins.below_alloc1 _ _
        have HB8 : Hid (Below w.heap.size w w8) := below_next HB7.out hb
        have sz8 : w7.heap.size < w8.heap.size := by rw [hw8]; simp
        have GP_8 : Hid (Own w8 shLeases [.int .i64 SK, .int .i64 NW, .slice p2_1 CL.length q2_1, .int .i64 HO, .int .i64 UN, .slice p2_2 KN.length q2_2] (SK, NW, CL, HO, UN, KN, ()) S2a) := GP_7.out.next hb
        have GD_8 : Hid (Own w8 (.list .int) [.slice p2_d D.length q2_d] D S2b) := GD_7.out.next hb
        have G_8 : Hid (Bx w8 w2.heap.size [.int .i64 SK, .int .i64 NW, .slice p2_1 CL.length q2_1, .int .i64 HO, .int .i64 UN, .slice p2_2 KN.length q2_2]) := G_7.out.next hb
        have U_8 : Hid (Lies w8 shLeases [.int .i64 sk, .int .i64 nw, .slice p3 cl.length q3, .int .i64 hq, .int .i64 un, .slice p4 kn.length q4] (sk, nw, cl, hq, un, kn, ())) := U_7.out.next hb
        have BU_8 : Hid (Bx w8 w7.heap.size [.int .i64 sk, .int .i64 nw, .slice p3 cl.length q3, .int .i64 hq, .int .i64 un, .slice p4 kn.length q4]) := hw8 ▸ Bx.new w7 [.int .i64 sk, .int .i64 nw, .slice p3 cl.length q3, .int .i64 hq, .int .i64 un, .slice p4 kn.length q4] _
        have HZ8 : Hid (w8.heap.size = w7.heap.size + 1) := Hid.intro (by rw [hw8]; simp)
        rw [← hw8]
        clear hb hw8 GP_7 GD_7 G_7 U_7 HB7
        obtain ⟨w9, hw9⟩ : ∃ x, x = w8.alloc (.cells #[.int .i64 sa, .int .i64 sb, .int .i64 sn] 34) := ⟨_, rfl⟩
        have hb : Below w8.heap.size w8 w9 := hw9 ▸ Go.Joins.below_alloc1 _ _
        have HB9 : Hid (Below w.heap.size w w9) := below_next HB8.out hb
        have sz9 : w8.heap.size < w9.heap.size := by rw [hw9]; simp
        have GP_9 : Hid (Own w9 shLeases [.int .i64 SK, .int .i64 NW, .slice p2_1 CL.length q2_1, .int .i64 HO, .int .i64 UN, .slice p2_2 KN.length q2_2] (SK, NW, CL, HO, UN, KN, ()) S2a) := GP_8.out.next hb
        have GD_9 : Hid (Own w9 (.list .int) [.slice p2_d D.length q2_d] D S2b) := GD_8.out.next hb
        have G_9 : Hid (Bx w9 w2.heap.size [.int .i64 SK, .int .i64 NW, .slice p2_1 CL.length q2_1, .int .i64 HO, .int .i64 UN, .slice p2_2 KN.length q2_2]) := G_8.out.next hb
        have U_9 : Hid (Lies w9 shLeases [.int .i64 sk, .int .i64 nw, .slice p3 cl.length q3, .int .i64 hq, .int .i64 un, .slice p4 kn.length q4] (sk, nw, cl, hq, un, kn, ())) := U_8.out.next hb
        have BU_9 : Hid (Bx w9 w7.heap.size [.int .i64 sk, .int .i64 nw, .slice p3 cl.length q3, .int .i64 hq, .int .i64 un, .slice p4 kn.length q4]) := BU_8.out.next hb
        have BS_9 : Hid (Bx w9 (w7.heap.size + 1) [.int .i64 sa, .int .i64 sb, .int .i64 sn]) := hw9 ▸ Bx.newAt HZ8.out
        rw [← hw9]
        clear hb hw9 GP_8 GD_8 G_8 U_8 BU_8 HB8
        refine (stepLease_l [.int .i64 sk, .int .i64 nw, .slice p3 cl.length q3, .int .i64 hq, .int .i64 un, .slice p4 kn.length q4] sk nw cl hq un kn sa sb sn _ SV NV CV OV UV KV zv HV.out HUZ.out U_9.out).mono ?_
        rintro r w10 ⟨cs9, rfl, ho, hb⟩
        obtain ⟨p10_1, q10_1, _, p10_2, q10_2, _, hev, _⟩ := own_Leases ho
        subst hev
        have HB10 : Hid (Below w.heap.size w w10) := below_next HB9.out hb
        have sz10 : w9.heap.size ≤ w10.heap.size := hb.size
        have GP_10 : Hid (Own w10 shLeases [.int .i64 SK, .int .i64 NW, .slice p2_1 CL.length q2_1, .int .i64 HO, .int .i64 UN, .slice p2_2 KN.length q2_2] (SK, NW, CL, HO, UN, KN, ()) S2a) := GP_9.out.next hb
        have GD_10 : Hid (Own w10 (.list .int) [.slice p2_d D.length q2_d] D S2b) := GD_9.out.next hb
        have G_10 : Hid (Bx w10 w2.heap.size [.int .i64 SK, .int .i64 NW, .slice p2_1 CL.length q2_1, .int .i64 HO, .int .i64 UN, .slice p2_2 KN.length q2_2]) := G_9.out.next hb
        have U_10 : Hid (Lies w10 shLeases [.int .i64 sk, .int .i64 nw, .slice p3 cl.length q3, .int .i64 hq, .int .i64 un, .slice p4 kn.length q4] (sk, nw, cl, hq, un, kn, ())) := U_9.out.next hb
        have BU_10 : Hid (Bx w10 w7.heap.size [.int .i64 sk, .int .i64 nw, .slice p3 cl.length q3, .int .i64 hq, .int .i64 un, .slice p4 kn.length q4]) := BU_9.out.next hb
        have BS_10 : Hid (Bx w10 (w7.heap.size + 1) [.int .i64 sa, .int .i64 sb, .int .i64 sn]) := BS_9.out.next hb
        have V_10 : Hid (Own w10 shLeases [.int .i64 SV, .int .i64 NV, .slice p10_1 CV.length q10_1, .int .i64 OV, .int .i64 UV, .slice p10_2 KV.length q10_2] (SV, NV, CV, OV, UV, KV, ()) (Btw w9.heap.size w10.heap.size)) := ho
        clear hb ho GP_9 GD_9 G_9 U_9 BU_9 BS_9 HB9
        have cBU0 := BU_10.out.cell 0 rfl
        have cBU1 := BU_10.out.cell 1 rfl
        have cBU2 := BU_10.out.cell 2 rfl
        have cBU3 := BU_10.out.cell 3 rfl
        have cBU4 := BU_10.out.cell 4 rfl
        have cBU5 := BU_10.out.cell 5 rfl
        have zBU := BU_10.out.2
        have cBS0 := BS_10.out.cell 0 rfl
        have cBS1 := BS_10.out.cell 1 rfl
        have cBS2 := BS_10.out.cell 2 rfl
        have zBS := BS_10.out.2
        go_wp2_with fail
        obtain ⟨w11, hw11⟩ : ∃ x, x = w10.alloc (.cells #[.int .i64 SV, .int .i64 NV, .slice p10_1 CV.length q10_1, .int .i64 OV, .int .i64 UV, .slice p10_2 KV.length q10_2] 28) := ⟨_, rfl⟩
        have hb : Below w10.heap.size w10 w11 := hw11 ▸ Go.Joins.below_alloc1 _ _
        have HB11 : Hid (Below w.heap.size w w11) := below_next HB10.out hb
        have sz11 : w10.heap.size < w11.heap.size := by rw [hw11]; simp
        have GP_11 : Hid (Own w11 shLeases [.int .i64 SK, .int .i64 NW, .slice p2_1 CL.length q2_1, .int .i64 HO, .int .i64 UN, .slice p2_2 KN.length q2_2] (SK, NW, CL, HO, UN, KN, ()) S2a) := GP_10.out.next hb
        have GD_11 : Hid (Own w11 (.list .int) [.slice p2_d D.length q2_d] D S2b) := GD_10.out.next hb
        have G_11 : Hid (Bx w11 w2.heap.size [.int .i64 SK, .int .i64 NW, .slice p2_1 CL.length q2_1, .int .i64 HO, .int .i64 UN, .slice p2_2 KN.length q2_2]) := G_10.out.next hb
        have U_11 : Hid (Lies w11 shLeases [.int .i64 sk, .int .i64 nw, .slice p3 cl.length q3, .int .i64 hq, .int .i64 un, .slice p4 kn.length q4] (sk, nw, cl, hq, un, kn, ())) := U_10.out.next hb
        have BU_11 : Hid (Bx w11 w7.heap.size [.int .i64 sk, .int .i64 nw, .slice p3 cl.length q3, .int .i64 hq, .int .i64 un, .slice p4 kn.length q4]) := BU_10.out.next hb
        have BS_11 : Hid (Bx w11 (w7.heap.size + 1) [.int .i64 sa, .int .i64 sb, .int .i64 sn]) := BS_10.out.next hb
        have V_11 : Hid (Own w11 shLeases [.int .i64 SV, .int .i64 NV, .slice p10_1 CV.length q10_1, .int .i64 OV, .int .i64 UV, .slice p10_2 KV.length q10_2] (SV, NV, CV, OV, UV, KV, ()) (Btw w9.heap.size w10.heap.size)) := V_10.out.next hb
        have BV_11 : Hid (Bx w11 w10.heap.size [.int .i64 SV, .int .i64 NV, .slice p10_1 CV.length q10_1, .int .i64 OV, .int .i64 UV, .slice p10_2 KV.length q10_2]) := hw11 ▸ Bx.new w10 [.int .i64 SV, .int .i64 NV, .slice p10_1 CV.length q10_1, .int .i64 OV, .int .i64 UV, .slice p10_2 KV.length q10_2] _
        rw [← hw11]
        clear hb hw11 cBU0 cBU1 cBU2 cBU3 cBU4 cBU5 zBU cBS0 cBS1 cBS2 zBS GP_10 GD_10 G_10 U_10 BU_10 BS_10 V_10 HB10
        refine (specStepLease_l [.int .i64 sk, .int .i64 nw, .slice p3 cl.length q3, .int .i64 hq, .int .i64 un, .slice p4 kn.length q4] sk nw cl hq un kn sa sb sn _ SV NV CV OV UV KV zv HV.out HUZ.out U_11.out).mono ?_
        rintro r w12 ⟨cs9, rfl, ho, hb⟩
        obtain ⟨p12_1, q12_1, _, p12_2, q12_2, _, hev, _⟩ := own_Leases ho
        subst hev
        have HB12 : Hid (Below w.heap.size w w12) := below_next HB11.out hb
        have sz12 : w11.heap.size ≤ w12.heap.size := hb.size
        have GP_12 : Hid (Own w12 shLeases [.int .i64 SK, .int .i64 NW, .slice p2_1 CL.length q2_1, .int .i64 HO, .int .i64 UN, .slice p2_2 KN.length q2_2] (SK, NW, CL, HO, UN, KN, ()) S2a) := GP_11.out.next hb
        have GD_12 : Hid (Own w12 (.list .int) [.slice p2_d D.length q2_d] D S2b) := GD_11.out.next hb
        have G_12 : Hid (Bx w12 w2.heap.size [.int .i64 SK, .int .i64 NW, .slice p2_1 CL.length q2_1, .int .i64 HO, .int .i64 UN, .slice p2_2 KN.length q2_2]) := G_11.out.next hb
        have U_12 : Hid (Lies w12 shLeases [.int .i64 sk, .int .i64 nw, .slice p3 cl.length q3, .int .i64 hq, .int .i64 un, .slice p4 kn.length q4] (sk, nw, cl, hq, un, kn, ())) := U_11.out.next hb
        have BU_12 : Hid (Bx w12 w7.heap.size [.int .i64 sk, .int .i64 nw, .slice p3 cl.length q3, .int .i64 hq, .int .i64 un, .slice p4 kn.length q4]) := BU_11.out.next hb
        have BS_12 : Hid (Bx w12 (w7.heap.size + 1) [.int .i64 sa, .int .i64 sb, .int .i64 sn]) := BS_11.out.next hb
        have V_12 : Hid (Own w12 shLeases [.int .i64 SV, .int .i64 NV, .slice p10_1 CV.length q10_1, .int .i64 OV, .int .i64 UV, .slice p10_2 KV.length q10_2] (SV, NV, CV, OV, UV, KV, ()) (Btw w9.heap.size w10.heap.size)) := V_11.out.next hb
        have BV_12 : Hid (Bx w12 w10.heap.size [.int .i64 SV, .int .i64 NV, .slice p10_1 CV.length q10_1, .int .i64 OV, .int .i64 UV, .slice p10_2 KV.length q10_2]) := BV_11.out.next hb
        have V2_12 : Hid (Own w12 shLeases [.int .i64 SV, .int .i64 NV, .slice p12_1 CV.length q12_1, .int .i64 OV, .int .i64 UV, .slice p12_2 KV.length q12_2] (SV, NV, CV, OV, UV, KV, ()) (Btw w11.heap.size w12.heap.size)) := ho
        clear hb ho GP_11 GD_11 G_11 U_11 BU_11 BS_11 V_11 BV_11 HB11
        cases zv
        case false =>
          have hc0 : CV = [] := by have h1 := HV.out; have h2 : (leS sk nw cl hq un kn sa sb sn) = none := Option.not_isSome_iff_eq_none.1 (by rw [h1.2.2.2.2.2.2]; simp); have h3 := h1.2.2.1; rw [h2] at h3; exact h3.symm
          have hc0' : (List.length (α := Sh.T .int) CV) = 0 := by rw [hc0]; rfl
          have cBV0 := BV_12.out.cell 0 rfl
          have cBV1 := BV_12.out.cell 1 rfl
          have cBV2 := BV_12.out.cell 2 rfl
          have cBV3 := BV_12.out.cell 3 rfl
          have cBV4 := BV_12.out.cell 4 rfl
          have cBV5 := BV_12.out.cell 5 rfl
          have zBV := BV_12.out.2
          have cBU0 := BU_12.out.cell 0 rfl
          have cBU1 := BU_12.out.cell 1 rfl
          have cBU2 := BU_12.out.cell 2 rfl
          have cBU3 := BU_12.out.cell 3 rfl
          have cBU4 := BU_12.out.cell 4 rfl
          have cBU5 := BU_12.out.cell 5 rfl
          have zBU := BU_12.out.2
          have HE := HB12
          obtain ⟨Wz, hWz⟩ : ∃ x, x = w12 := ⟨_, rfl⟩
          rw [hc0'] at *
          go_wp2
          go_ret
          exact ⟨rfl, by repeat (first | refine Below.alloc ?_ (by (try simp) <;> (have := HE.out.size; omega)) _ | exact HE.out)⟩
        case true =>
          have HSM : Hid (leS sk nw cl hq un kn sa sb sn = some (SV, NV, CV, OV, UV, KV, ())) := Hid.intro (parts_some HV.out)
          have HGV : Hid (goodL SV NV CV OV UV KV) := Hid.intro (leS_good (y := (SV, NV, CV, OV, UV, KV, ())) HSM.out)
          have hnow : nw ≤ NV := leS_now HSM.out
          have HVZ : Hid (szD shLeases (SV, NV, CV, OV, UV, KV, ()) ≤ 1073741824) := Hid.intro (Nat.le_trans (good_szL (y := (SV, NV, CV, OV, UV, KV, ())) HGV.out) (by decide))
          have cBU0 := BU_12.out.cell 0 rfl
          have cBU1 := BU_12.out.cell 1 rfl
          have cBU2 := BU_12.out.cell 2 rfl
          have cBU3 := BU_12.out.cell 3 rfl
          have cBU4 := BU_12.out.cell 4 rfl
          have cBU5 := BU_12.out.cell 5 rfl
          have zBU := BU_12.out.2
          have cBV0 := BV_12.out.cell 0 rfl
          have cBV1 := BV_12.out.cell 1 rfl
          have cBV2 := BV_12.out.cell 2 rfl
          have cBV3 := BV_12.out.cell 3 rfl
          have cBV4 := BV_12.out.cell 4 rfl
          have cBV5 := BV_12.out.cell 5 rfl
          have zBV := BV_12.out.2
          go_wp2_with fail
          obtain ⟨w13, hw13⟩ : ∃ x, x = w12.alloc (.cells #[.int .i64 SV, .int .i64 NV, .slice p12_1 CV.length q12_1, .int .i64 OV, .int .i64 UV, .slice p12_2 KV.length q12_2] 28) := ⟨_, rfl⟩
          have hb : Below w12.heap.size w12 w13 := hw13 ▸ Go.Joins.below_alloc1 _ _
          have HB13 : Hid (Below w.heap.size w w13) := below_next HB12.out hb
          have sz13 : w12.heap.size < w13.heap.size := by rw [hw13]; simp
          have GP_13 : Hid (Own w13 shLeases [.int .i64 SK, .int .i64 NW, .slice p2_1 CL.length q2_1, .int .i64 HO, .int .i64 UN, .slice p2_2 KN.length q2_2] (SK, NW, CL, HO, UN, KN, ()) S2a) := GP_12.out.next hb
          have GD_13 : Hid (Own w13 (.list .int) [.slice p2_d D.length q2_d] D S2b) := GD_12.out.next hb
          have G_13 : Hid (Bx w13 w2.heap.size [.int .i64 SK, .int .i64 NW, .slice p2_1 CL.length q2_1, .int .i64 HO, .int .i64 UN, .slice p2_2 KN.length q2_2]) := G_12.out.next hb
          have U_13 : Hid (Lies w13 shLeases [.int .i64 sk, .int .i64 nw, .slice p3 cl.length q3, .int .i64 hq, .int .i64 un, .slice p4 kn.length q4] (sk, nw, cl, hq, un, kn, ())) := U_12.out.next hb
          have BU_13 : Hid (Bx w13 w7.heap.size [.int .i64 sk, .int .i64 nw, .slice p3 cl.length q3, .int .i64 hq, .int .i64 un, .slice p4 kn.length q4]) := BU_12.out.next hb
          have BS_13 : Hid (Bx w13 (w7.heap.size + 1) [.int .i64 sa, .int .i64 sb, .int .i64 sn]) := BS_12.out.next hb
          have V_13 : Hid (Own w13 shLeases [.int .i64 SV, .int .i64 NV, .slice p10_1 CV.length q10_1, .int .i64 OV, .int .i64 UV, .slice p10_2 KV.length q10_2] (SV, NV, CV, OV, UV, KV, ()) (Btw w9.heap.size w10.heap.size)) := V_12.out.next hb
          have BV_13 : Hid (Bx w13 w10.heap.size [.int .i64 SV, .int .i64 NV, .slice p10_1 CV.length q10_1, .int .i64 OV, .int .i64 UV, .slice p10_2 KV.length q10_2]) := BV_12.out.next hb
          have V2_13 : Hid (Own w13 shLeases [.int .i64 SV, .int .i64 NV, .slice p12_1 CV.length q12_1, .int .i64 OV, .int .i64 UV, .slice p12_2 KV.length q12_2] (SV, NV, CV, OV, UV, KV, ()) (Btw w11.heap.size w12.heap.size)) := V2_12.out.next hb
          have BV2_13 : Hid (Bx w13 w12.heap.size [.int .i64 SV, .int .i64 NV, .slice p12_1 CV.length q12_1, .int .i64 OV, .int .i64 UV, .slice p12_2 KV.length q12_2]) := hw13 ▸ Bx.new w12 [.int .i64 SV, .int .i64 NV, .slice p12_1 CV.length q12_1, .int .i64 OV, .int .i64 UV, .slice p12_2 KV.length q12_2] _
          rw [← hw13]
          clear hb hw13 cBU0 cBU1 cBU2 cBU3 cBU4 cBU5 zBU cBV0 cBV1 cBV2 cBV3 cBV4 cBV5 zBV GP_12 GD_12 G_12 U_12 BU_12 BS_12 V_12 BV_12 V2_12 HB12
          clear BV2_13
          clear V2_13
          obtain ⟨LL, hLL⟩ : ∃ x, blA SV NV CV OV UV KV = x := ⟨_, rfl⟩
          have HLL : Hid (blA SV NV CV OV UV KV = LL ∧ tf (goodL SV NV CV OV UV KV) = true) := ⟨hLL, tf_yes HGV.out⟩
          have HLB : Hid (blv SV CV KV CV.length = LL) := Hid.intro (by rw [← bl_yes HGV.out]; exact hLL)
          clear hLL
          have hL1 : LL.length ≤ 1 := by rw [← HLB.out]; exact (blv_one HGV.out (Nat.le_refl _)).1
          have hL1' : (LL.length : Int) ≤ 1 := by omega
          refine (believersOf_n [.int .i64 SV, .int .i64 NV, .slice p10_1 CV.length q10_1, .int .i64 OV, .int .i64 UV, .slice p10_2 KV.length q10_2] SV NV CV OV UV KV _ LL true HLL.out HVZ.out V_13.out.lies).mono ?_
          rintro r w14 ⟨p14, q14, rfl, ho, hb⟩
          have HB14 : Hid (Below w.heap.size w w14) := below_next HB13.out hb
          have sz14 : w13.heap.size ≤ w14.heap.size := hb.size
          have GP_14 : Hid (Own w14 shLeases [.int .i64 SK, .int .i64 NW, .slice p2_1 CL.length q2_1, .int .i64 HO, .int .i64 UN, .slice p2_2 KN.length q2_2] (SK, NW, CL, HO, UN, KN, ()) S2a) := GP_13.out.next hb
          have GD_14 : Hid (Own w14 (.list .int) [.slice p2_d D.length q2_d] D S2b) := GD_13.out.next hb
          have G_14 : Hid (Bx w14 w2.heap.size [.int .i64 SK, .int .i64 NW, .slice p2_1 CL.length q2_1, .int .i64 HO, .int .i64 UN, .slice p2_2 KN.length q2_2]) := G_13.out.next hb
          have U_14 : Hid (Lies w14 shLeases [.int .i64 sk, .int .i64 nw, .slice p3 cl.length q3, .int .i64 hq, .int .i64 un, .slice p4 kn.length q4] (sk, nw, cl, hq, un, kn, ())) := U_13.out.next hb
          have BU_14 : Hid (Bx w14 w7.heap.size [.int .i64 sk, .int .i64 nw, .slice p3 cl.length q3, .int .i64 hq, .int .i64 un, .slice p4 kn.length q4]) := BU_13.out.next hb
          have BS_14 : Hid (Bx w14 (w7.heap.size + 1) [.int .i64 sa, .int .i64 sb, .int .i64 sn]) := BS_13.out.next hb
          have V_14 : Hid (Own w14 shLeases [.int .i64 SV, .int .i64 NV, .slice p10_1 CV.length q10_1, .int .i64 OV, .int .i64 UV, .slice p10_2 KV.length q10_2] (SV, NV, CV, OV, UV, KV, ()) (Btw w9.heap.size w10.heap.size)) := V_13.out.next hb
          have BV_14 : Hid (Bx w14 w10.heap.size [.int .i64 SV, .int .i64 NV, .slice p10_1 CV.length q10_1, .int .i64 OV, .int .i64 UV, .slice p10_2 KV.length q10_2]) := BV_13.out.next hb
          have WH_14 : Hid (Own w14 (.list .int) [.slice p14 LL.length q14] LL (Btw w13.heap.size w14.heap.size)) := ho
          clear hb ho GP_13 GD_13 G_13 U_13 BU_13 BS_13 V_13 BV_13 HB13
          have cBV0 := BV_14.out.cell 0 rfl
          have cBV1 := BV_14.out.cell 1 rfl
          have cBV2 := BV_14.out.cell 2 rfl
          have cBV3 := BV_14.out.cell 3 rfl
          have cBV4 := BV_14.out.cell 4 rfl
          have cBV5 := BV_14.out.cell 5 rfl
          have zBV := BV_14.out.2
          have cBU0 := BU_14.out.cell 0 rfl
          have cBU1 := BU_14.out.cell 1 rfl
          have cBU2 := BU_14.out.cell 2 rfl
          have cBU3 := BU_14.out.cell 3 rfl
          have cBU4 := BU_14.out.cell 4 rfl
          have cBU5 := BU_14.out.cell 5 rfl
          have zBU := BU_14.out.2
          go_wp2_with fail
          refine ((show Calls _ _ _ _ (fun r w' => r = .returned (.bool true) ∧ Below _ _ w') from (by have q := goodLeases_n [.int .i64 SV, .int .i64 NV, .slice p10_1 CV.length q10_1, .int .i64 OV, .int .i64 UV, .slice p10_2 KV.length q10_2] SV NV CV OV UV KV _ HVZ.out V_14.out.lies; rw [HLL.out.2] at q; exact q))).mono ?_
          rintro r w15 ⟨rfl, hb⟩
          have HB15 : Hid (Below w.heap.size w w15) := below_next HB14.out hb
          have sz15 : w14.heap.size ≤ w15.heap.size := hb.size
          have GP_15 : Hid (Own w15 shLeases [.int .i64 SK, .int .i64 NW, .slice p2_1 CL.length q2_1, .int .i64 HO, .int .i64 UN, .slice p2_2 KN.length q2_2] (SK, NW, CL, HO, UN, KN, ()) S2a) := GP_14.out.next hb
          have GD_15 : Hid (Own w15 (.list .int) [.slice p2_d D.length q2_d] D S2b) := GD_14.out.next hb
          have G_15 : Hid (Bx w15 w2.heap.size [.int .i64 SK, .int .i64 NW, .slice p2_1 CL.length q2_1, .int .i64 HO, .int .i64 UN, .slice p2_2 KN.length q2_2]) := G_14.out.next hb
          have U_15 : Hid (Lies w15 shLeases [.int .i64 sk, .int .i64 nw, .slice p3 cl.length q3, .int .i64 hq, .int .i64 un, .slice p4 kn.length q4] (sk, nw, cl, hq, un, kn, ())) := U_14.out.next hb
          have BU_15 : Hid (Bx w15 w7.heap.size [.int .i64 sk, .int .i64 nw, .slice p3 cl.length q3, .int .i64 hq, .int .i64 un, .slice p4 kn.length q4]) := BU_14.out.next hb
          have BS_15 : Hid (Bx w15 (w7.heap.size + 1) [.int .i64 sa, .int .i64 sb, .int .i64 sn]) := BS_14.out.next hb
          have V_15 : Hid (Own w15 shLeases [.int .i64 SV, .int .i64 NV, .slice p10_1 CV.length q10_1, .int .i64 OV, .int .i64 UV, .slice p10_2 KV.length q10_2] (SV, NV, CV, OV, UV, KV, ()) (Btw w9.heap.size w10.heap.size)) := V_14.out.next hb
          have BV_15 : Hid (Bx w15 w10.heap.size [.int .i64 SV, .int .i64 NV, .slice p10_1 CV.length q10_1, .int .i64 OV, .int .i64 UV, .slice p10_2 KV.length q10_2]) := BV_14.out.next hb
          have WH_15 : Hid (Own w15 (.list .int) [.slice p14 LL.length q14] LL (Btw w13.heap.size w14.heap.size)) := WH_14.out.next hb
          clear hb cBV0 cBV1 cBV2 cBV3 cBV4 cBV5 zBV cBU0 cBU1 cBU2 cBU3 cBU4 cBU5 zBU GP_14 GD_14 G_14 U_14 BU_14 BS_14 V_14 BV_14 WH_14 HB14
          have cBV0 := BV_15.out.cell 0 rfl
          have cBV1 := BV_15.out.cell 1 rfl
          have cBV2 := BV_15.out.cell 2 rfl
          have cBV3 := BV_15.out.cell 3 rfl
          have cBV4 := BV_15.out.cell 4 rfl
          have cBV5 := BV_15.out.cell 5 rfl
          have zBV := BV_15.out.2
          have cBU0 := BU_15.out.cell 0 rfl
          have cBU1 := BU_15.out.cell 1 rfl
          have cBU2 := BU_15.out.cell 2 rfl
          have cBU3 := BU_15.out.cell 3 rfl
          have cBU4 := BU_15.out.cell 4 rfl
          have cBU5 := BU_15.out.cell 5 rfl
          have zBU := BU_15.out.2
          go_wp2_with fail
          clear cBV0 cBV1 cBV2 cBV3 cBV4 cBV5 zBV cBU0 cBU1 cBU2 cBU3 cBU4 cBU5 zBU
          have hcl12 : (CV.length : Int) ≤ 12 := HGV.out.2.2.2.1.2
          go_loopw [133] (fun y wr => ∃ j : Nat, j ≤ CV.length ∧ y = .int .i64 (j : Int) ∧ Below w15.heap.size w15 wr) (fun y _ => CV.length - (intOf y).toNat)
          case atStart => exact ⟨0, Nat.zero_le _, rfl, Below.refl _ _⟩
          case round =>
            obtain ⟨j, hj, rfl, hBr⟩ := hrel
            obtain ⟨wo, hwo⟩ : ∃ x, x = wr := ⟨_, rfl⟩
            subst hwo
            have HB9 := Hid.intro hBr
            clear hBr
            have BV_q := Hid.intro (BV_15.out.next HB9.out)
            have V_q := Hid.intro (V_15.out.next HB9.out)
            have WH_q := Hid.intro (WH_15.out.next HB9.out)
            by_cases hj1 : j < CV.length
            case neg =>
              have hj1' : ¬ ((j : Int) < (CV.length : Int)) := by omega
              have HE := Hid.intro (below_next HB15.out HB9.out)
              go_wp2
              go_ret
              exact ⟨rfl, HE.out⟩
            have hj1' : (j : Int) < (CV.length : Int) := by omega
            obtain ⟨h1v, h2v, h3v, h4v, hev, hl1, hl2⟩ := lies_Leases V_q.out.lies
            simp only [List.cons.injEq, Value.slice.injEq, and_true, true_and] at hev
            obtain ⟨⟨e1, e2⟩, e3, e4⟩ := hev
            subst e1 e2 e3 e4
            have HLV := Hid.intro hl1
            clear hl1 hl2
            obtain ⟨gd, od, hgd, c0, hgz⟩ := lies_at HLV.out hj1
            obtain ⟨x, hx⟩ : ∃ y, y = atI CV j := ⟨_, rfl⟩
            rw [← hx] at c0
            have HXJ := Hid.intro hx
            clear hx
            obtain ⟨ky, hky⟩ : ∃ y, y = atI KV j := ⟨_, rfl⟩
            have HKJ := Hid.intro hky
            clear hky
            have HSU : Hid (suA SV NV CV OV UV KV (j : Int) = (max 0 (ky - SV), true)) := Hid.intro (by rw [su_yes HGV.out hj1, HKJ.out])
            have hx0 : 0 ≤ x := by rw [HXJ.out]; exact (node_bd HGV.out hj1).1.1
            have b0 := BV_q.out.cell 0 rfl
            have b1 := BV_q.out.cell 1 rfl
            have b2 := BV_q.out.cell 2 rfl
            have b3 := BV_q.out.cell 3 rfl
            have b4 := BV_q.out.cell 4 rfl
            have b5 := BV_q.out.cell 5 rfl
            have bz := BV_q.out.2
            subst hgd
            go_wp2_with fail
            refine (show Calls _ _ _ _ (SuP (max 0 (ky - SV), true) _) from HSU.out ▸ safeUntilOf_n [.int .i64 SV, .int .i64 NV, .slice (some ⟨gd, od, none⟩) CV.length q10_1, .int .i64 OV, .int .i64 UV, .slice p10_2 KV.length q10_2] SV NV CV OV UV KV (j : Int) _ HVZ.out V_q.out.lies).mono ?_
            rintro r wp ⟨rfl, hb⟩
            have HB10 := Hid.intro (below_next HB9.out hb)
            have BV_p := Hid.intro (BV_q.out.next hb)
            have WH_p := Hid.intro (WH_q.out.next hb)
            clear hb b0 b1 b2 b3 b4 b5 bz c0
            have b0 := BV_p.out.cell 0 rfl
            have b1 := BV_p.out.cell 1 rfl
            have b2 := BV_p.out.cell 2 rfl
            have b3 := BV_p.out.cell 3 rfl
            have b4 := BV_p.out.cell 4 rfl
            have b5 := BV_p.out.cell 5 rfl
            have bz := BV_p.out.2
            by_cases hbel : x + SV < ky
            case pos =>
              have hho := bel_holds HGV.out hj1 (by rw [← HXJ.out, ← HKJ.out]; exact hbel)
              have hmem : tf ((j : Int) ∈ LL) = true := tf_yes (by rw [← HLB.out]; exact blv_mem.2 ⟨j, hj1, rfl, by rw [← HXJ.out, ← HKJ.out]; exact hbel⟩)
              have hcs : x < max 0 (ky - SV) := by omega
              obtain ⟨hho1, hho2⟩ := hho
              subst hho1
              have hho2' : ¬ UV ≤ NV := by omega
              have HMM := Hid.intro hmem
              clear hmem
              obtain ⟨sf, hsf⟩ : ∃ y, y = max 0 (ky - SV) := ⟨_, rfl⟩
              rw [← hsf] at hcs ⊢
              clear hsf hbel
              have hcd : decide (x < sf) = true := decide_eq_true hcs
              go_wp2_with fail
              refine ((show Calls _ _ _ _ (fun r w' => r = .returned (.bool true) ∧ Below _ _ w') from HMM.out ▸ has_n p14 q14 LL (j : Int) _ (by omega) WH_p.out.lies)).mono ?_
              rintro r wq ⟨rfl, hb⟩
              have HB11 := Hid.intro (below_next HB10.out hb)
              have BV_s := Hid.intro (BV_p.out.next hb)
              have WH_s := Hid.intro (WH_p.out.next hb)
              clear hb b0 b1 b2 b3 b4 b5 bz
              have b0 := BV_s.out.cell 0 rfl
              have b1 := BV_s.out.cell 1 rfl
              have b2 := BV_s.out.cell 2 rfl
              have b3 := BV_s.out.cell 3 rfl
              have b4 := BV_s.out.cell 4 rfl
              have b5 := BV_s.out.cell 5 rfl
              have bz := BV_s.out.2
              go_wp2_with fail
              refine ((show Calls _ _ _ _ (fun r w' => r = .returned (.bool true) ∧ Below _ _ w') from HMM.out ▸ has_n p14 q14 LL (j : Int) _ (by omega) WH_s.out.lies)).mono ?_
              rintro r wt ⟨rfl, hb⟩
              have HB12 := Hid.intro (below_next HB11.out hb)
              have BV_t := Hid.intro (BV_s.out.next hb)
              clear hb b0 b1 b2 b3 b4 b5 bz
              have b0 := BV_t.out.cell 0 rfl
              have b1 := BV_t.out.cell 1 rfl
              have b2 := BV_t.out.cell 2 rfl
              have b3 := BV_t.out.cell 3 rfl
              have b4 := BV_t.out.cell 4 rfl
              have b5 := BV_t.out.cell 5 rfl
              have bz := BV_t.out.2
              go_wp2_with fail
              go_roundw
              case rel => exact ⟨j + 1, by omega, by go_num, HB12.out⟩
              case measure => simp [intOf]; omega
            case neg =>
              have hmem : tf ((j : Int) ∈ LL) = false := tf_no (fun q => by rw [← HLB.out] at q; obtain ⟨i, hi, e, hb⟩ := blv_mem.1 q; obtain rfl : j = i := (by omega); rw [← HXJ.out, ← HKJ.out] at hb; exact hbel hb)
              have hcs : ¬ x < max 0 (ky - SV) := by omega
              have HMM := Hid.intro hmem
              clear hmem
              obtain ⟨sf, hsf⟩ : ∃ y, y = max 0 (ky - SV) := ⟨_, rfl⟩
              rw [← hsf] at hcs ⊢
              clear hsf hbel
              have hcd : decide (x < sf) = false := decide_eq_false hcs
              go_wp2_with fail
              refine ((show Calls _ _ _ _ (fun r w' => r = .returned (.bool false) ∧ Below _ _ w') from HMM.out ▸ has_n p14 q14 LL (j : Int) _ (by omega) WH_p.out.lies)).mono ?_
              rintro r wq ⟨rfl, hb⟩
              have HB11 := Hid.intro (below_next HB10.out hb)
              have BV_s := Hid.intro (BV_p.out.next hb)
              have WH_s := Hid.intro (WH_p.out.next hb)
              clear hb b0 b1 b2 b3 b4 b5 bz
              have b0 := BV_s.out.cell 0 rfl
              have b1 := BV_s.out.cell 1 rfl
              have b2 := BV_s.out.cell 2 rfl
              have b3 := BV_s.out.cell 3 rfl
              have b4 := BV_s.out.cell 4 rfl
              have b5 := BV_s.out.cell 5 rfl
              have bz := BV_s.out.2
              go_wp2_with fail
              refine ((show Calls _ _ _ _ (fun r w' => r = .returned (.bool false) ∧ Below _ _ w') from HMM.out ▸ has_n p14 q14 LL (j : Int) _ (by omega) WH_s.out.lies)).mono ?_
              rintro r wt ⟨rfl, hb⟩
              have HB12 := Hid.intro (below_next HB11.out hb)
              have BV_t := Hid.intro (BV_s.out.next hb)
              clear hb b0 b1 b2 b3 b4 b5 bz
              have b0 := BV_t.out.cell 0 rfl
              have b1 := BV_t.out.cell 1 rfl
              have b2 := BV_t.out.cell 2 rfl
              have b3 := BV_t.out.cell 3 rfl
              have b4 := BV_t.out.cell 4 rfl
              have b5 := BV_t.out.cell 5 rfl
              have bz := BV_t.out.2
              go_wp2_with fail
              go_roundw
              case rel => exact ⟨j + 1, by omega, by go_num, HB12.out⟩
              case measure => simp [intOf]; omega
      case true =>
        have HGX : Hid (tf (goodL SK NW CL HO UN KN) = true ∧ szD shLeases (SK, NW, CL, HO, UN, KN, ()) ≤ 1073741824) := Hid.intro (by have h1 := lph_sz HA.out; have h2 := lpA_good (m := m) (sk := s0) (l := l) HA.out.2.2.2.2.2.2.2; obtain ⟨e1, e2, e3, e4, e5, e6, _, _⟩ := HA.out; exact ⟨tf_yes (by rw [← e1, ← e2, ← e3, ← e4, ← e5, ← e6]; exact h2), h1.1⟩)
        have cG0 := G_6.out.cell 0 rfl
        have cG1 := G_6.out.cell 1 rfl
        have cG2 := G_6.out.cell 2 rfl
        have cG3 := G_6.out.cell 3 rfl
        have cG4 := G_6.out.cell 4 rfl
        have cG5 := G_6.out.cell 5 rfl
        have zG := G_6.out.2
        go_wp2_with fail
        refine ((show Calls _ _ _ _ (fun r w' => r = .returned (.bool true) ∧ Below _ _ w') from (by have q := goodLeases_n [.int .i64 SK, .int .i64 NW, .slice p2_1 CL.length q2_1, .int .i64 HO, .int .i64 UN, .slice p2_2 KN.length q2_2] SK NW CL HO UN KN _ HGX.out.2 GP_6.out.lies; rw [HGX.out.1] at q; exact q))).mono ?_
        rintro r w7 ⟨rfl, hb⟩
        have HB7 : Hid (Below w.heap.size w w7) := below_next HB6.out hb
        have sz7 : wr.heap.size ≤ w7.heap.size := hb.size
        have GP_7 : Hid (Own w7 shLeases [.int .i64 SK, .int .i64 NW, .slice p2_1 CL.length q2_1, .int .i64 HO, .int .i64 UN, .slice p2_2 KN.length q2_2] (SK, NW, CL, HO, UN, KN, ()) S2a) := GP_6.out.next hb
        have GD_7 : Hid (Own w7 (.list .int) [.slice p2_d D.length q2_d] D S2b) := GD_6.out.next hb
        have G_7 : Hid (Bx w7 w2.heap.size [.int .i64 SK, .int .i64 NW, .slice p2_1 CL.length q2_1, .int .i64 HO, .int .i64 UN, .slice p2_2 KN.length q2_2]) := G_6.out.next hb
        clear hb cG0 cG1 cG2 cG3 cG4 cG5 zG GP_6 GD_6 G_6 HB6
        go_wp2_with fail
        refine (drawStepLease_any _ _ _ Y _ hm' (HS.out.2.1.below HB7.out (Nat.le_refl _)) HS.out.2.2).mono ?_
        rintro r w8 ⟨sk, nw, cl, hq, un, kn, p3, q3, p4, q4, sa, sb, sn, rfl, hln, hU, hb⟩
        have HB8 : Hid (Below w.heap.size w w8) := below_next HB7.out hb
        have sz8 : w7.heap.size ≤ w8.heap.size := hb.size
        have GP_8 : Hid (Own w8 shLeases [.int .i64 SK, .int .i64 NW, .slice p2_1 CL.length q2_1, .int .i64 HO, .int .i64 UN, .slice p2_2 KN.length q2_2] (SK, NW, CL, HO, UN, KN, ()) S2a) := GP_7.out.next hb
        have GD_8 : Hid (Own w8 (.list .int) [.slice p2_d D.length q2_d] D S2b) := GD_7.out.next hb
        have G_8 : Hid (Bx w8 w2.heap.size [.int .i64 SK, .int .i64 NW, .slice p2_1 CL.length q2_1, .int .i64 HO, .int .i64 UN, .slice p2_2 KN.length q2_2]) := G_7.out.next hb
        have U_8 : Hid (Lies w8 shLeases [.int .i64 sk, .int .i64 nw, .slice p3 cl.length q3, .int .i64 hq, .int .i64 un, .slice p4 kn.length q4] (sk, nw, cl, hq, un, kn, ())) := hU
        clear hb hU GP_7 GD_7 G_7 HB7
        have HUZ : Hid (szD shLeases (sk, nw, cl, hq, un, kn, ()) ≤ 1073741824) := Hid.intro (by rw [sz_lea]; omega)
        obtain ⟨SV, NV, CV, OV, UV, KV, zv, hA⟩ : ∃ SV NV CV OV UV KV z, partsL (leS sk nw cl hq un kn sa sb sn) SV NV CV OV UV KV z := ⟨_, _, _, _, _, _, _, rfl, rfl, rfl, rfl, rfl, rfl, rfl⟩
        have HV : Hid (partsL (leS sk nw cl hq un kn sa sb sn) SV NV CV OV UV KV zv) := hA
        clear hA hln
        go_wp2_with fail
        obtain ⟨w9, hw9⟩ : ∃ x, x = w8.alloc (.cells #[.int .i64 sk, .int .i64 nw, .slice p3 cl.length q3, .int .i64 hq, .int .i64 un, .slice p4 kn.length q4] 28) := ⟨_, rfl⟩
        have hb : Below w8.heap.size w8 w9 := hw9 ▸ Go.Joins.below_alloc1 _ _
        have HB9 : Hid (Below w.heap.size w w9) := below_next HB8.out hb
        have sz9 : w8.heap.size < w9.heap.size := by rw [hw9]; simp
        have GP_9 : Hid (Own w9 shLeases [.int .i64 SK, .int .i64 NW, .slice p2_1 CL.length q2_1, .int .i64 HO, .int .i64 UN, .slice p2_2 KN.length q2_2] (SK, NW, CL, HO, UN, KN, ()) S2a) := GP_8.out.next hb
        have GD_9 : Hid (Own w9 (.list .int) [.slice p2_d D.length q2_d] D S2b) := GD_8.out.next hb
        have G_9 : Hid (Bx w9 w2.heap.size [.int .i64 SK, .int .i64 NW, .slice p2_1 CL.length q2_1, .int .i64 HO, .int .i64 UN, .slice p2_2 KN.length q2_2]) := G_8.out.next hb
        have U_9 : Hid (Lies w9 shLeases [.int .i64 sk, .int .i64 nw, .slice p3 cl.length q3, .int .i64 hq, .int .i64 un, .slice p4 kn.length q4] (sk, nw, cl, hq, un, kn, ())) := U_8.out.next hb
        have BU_9 : Hid (Bx w9 w8.heap.size [.int .i64 sk, .int .i64 nw, .slice p3 cl.length q3, .int .i64 hq, .int .i64 un, .slice p4 kn.length q4]) := hw9 ▸ Bx.new w8 [.int .i64 sk, .int .i64 nw, .slice p3 cl.length q3, .int .i64 hq, .int .i64 un, .slice p4 kn.length q4] _
        have HZ9 : Hid (w9.heap.size = w8.heap.size + 1) := Hid.intro (by rw [hw9]; simp)
        rw [← hw9]
        clear hb hw9 GP_8 GD_8 G_8 U_8 HB8
        obtain ⟨w10, hw10⟩ : ∃ x, x = w9.alloc (.cells #[.int .i64 sa, .int .i64 sb, .int .i64 sn] 34) := ⟨_, rfl⟩
        have hb : Below w9.heap.size w9 w10 := hw10 ▸ Go.Joins.below_alloc1 _ _
        have HB10 : Hid (Below w.heap.size w w10) := below_next HB9.out hb
        have sz10 : w9.heap.size < w10.heap.size := by rw [hw10]; simp
        have GP_10 : Hid (Own w10 shLeases [.int .i64 SK, .int .i64 NW, .slice p2_1 CL.length q2_1, .int .i64 HO, .int .i64 UN, .slice p2_2 KN.length q2_2] (SK, NW, CL, HO, UN, KN, ()) S2a) := GP_9.out.next hb
        have GD_10 : Hid (Own w10 (.list .int) [.slice p2_d D.length q2_d] D S2b) := GD_9.out.next hb
        have G_10 : Hid (Bx w10 w2.heap.size [.int .i64 SK, .int .i64 NW, .slice p2_1 CL.length q2_1, .int .i64 HO, .int .i64 UN, .slice p2_2 KN.length q2_2]) := G_9.out.next hb
        have U_10 : Hid (Lies w10 shLeases [.int .i64 sk, .int .i64 nw, .slice p3 cl.length q3, .int .i64 hq, .int .i64 un, .slice p4 kn.length q4] (sk, nw, cl, hq, un, kn, ())) := U_9.out.next hb
        have BU_10 : Hid (Bx w10 w8.heap.size [.int .i64 sk, .int .i64 nw, .slice p3 cl.length q3, .int .i64 hq, .int .i64 un, .slice p4 kn.length q4]) := BU_9.out.next hb
        have BS_10 : Hid (Bx w10 (w8.heap.size + 1) [.int .i64 sa, .int .i64 sb, .int .i64 sn]) := hw10 ▸ Bx.newAt HZ9.out
        rw [← hw10]
        clear hb hw10 GP_9 GD_9 G_9 U_9 BU_9 HB9
        refine (stepLease_l [.int .i64 sk, .int .i64 nw, .slice p3 cl.length q3, .int .i64 hq, .int .i64 un, .slice p4 kn.length q4] sk nw cl hq un kn sa sb sn _ SV NV CV OV UV KV zv HV.out HUZ.out U_10.out).mono ?_
        rintro r w11 ⟨cs9, rfl, ho, hb⟩
        obtain ⟨p11_1, q11_1, _, p11_2, q11_2, _, hev, _⟩ := own_Leases ho
        subst hev
        have HB11 : Hid (Below w.heap.size w w11) := below_next HB10.out hb
        have sz11 : w10.heap.size ≤ w11.heap.size := hb.size
        have GP_11 : Hid (Own w11 shLeases [.int .i64 SK, .int .i64 NW, .slice p2_1 CL.length q2_1, .int .i64 HO, .int .i64 UN, .slice p2_2 KN.length q2_2] (SK, NW, CL, HO, UN, KN, ()) S2a) := GP_10.out.next hb
        have GD_11 : Hid (Own w11 (.list .int) [.slice p2_d D.length q2_d] D S2b) := GD_10.out.next hb
        have G_11 : Hid (Bx w11 w2.heap.size [.int .i64 SK, .int .i64 NW, .slice p2_1 CL.length q2_1, .int .i64 HO, .int .i64 UN, .slice p2_2 KN.length q2_2]) := G_10.out.next hb
        have U_11 : Hid (Lies w11 shLeases [.int .i64 sk, .int .i64 nw, .slice p3 cl.length q3, .int .i64 hq, .int .i64 un, .slice p4 kn.length q4] (sk, nw, cl, hq, un, kn, ())) := U_10.out.next hb
        have BU_11 : Hid (Bx w11 w8.heap.size [.int .i64 sk, .int .i64 nw, .slice p3 cl.length q3, .int .i64 hq, .int .i64 un, .slice p4 kn.length q4]) := BU_10.out.next hb
        have BS_11 : Hid (Bx w11 (w8.heap.size + 1) [.int .i64 sa, .int .i64 sb, .int .i64 sn]) := BS_10.out.next hb
        have V_11 : Hid (Own w11 shLeases [.int .i64 SV, .int .i64 NV, .slice p11_1 CV.length q11_1, .int .i64 OV, .int .i64 UV, .slice p11_2 KV.length q11_2] (SV, NV, CV, OV, UV, KV, ()) (Btw w10.heap.size w11.heap.size)) := ho
        clear hb ho GP_10 GD_10 G_10 U_10 BU_10 BS_10 HB10
        have cBU0 := BU_11.out.cell 0 rfl
        have cBU1 := BU_11.out.cell 1 rfl
        have cBU2 := BU_11.out.cell 2 rfl
        have cBU3 := BU_11.out.cell 3 rfl
        have cBU4 := BU_11.out.cell 4 rfl
        have cBU5 := BU_11.out.cell 5 rfl
        have zBU := BU_11.out.2
        have cBS0 := BS_11.out.cell 0 rfl
        have cBS1 := BS_11.out.cell 1 rfl
        have cBS2 := BS_11.out.cell 2 rfl
        have zBS := BS_11.out.2
        go_wp2_with fail
        obtain ⟨w12, hw12⟩ : ∃ x, x = w11.alloc (.cells #[.int .i64 SV, .int .i64 NV, .slice p11_1 CV.length q11_1, .int .i64 OV, .int .i64 UV, .slice p11_2 KV.length q11_2] 28) := ⟨_, rfl⟩
        have hb : Below w11.heap.size w11 w12 := hw12 ▸ Go.Joins.below_alloc1 _ _
        have HB12 : Hid (Below w.heap.size w w12) := below_next HB11.out hb
        have sz12 : w11.heap.size < w12.heap.size := by rw [hw12]; simp
        have GP_12 : Hid (Own w12 shLeases [.int .i64 SK, .int .i64 NW, .slice p2_1 CL.length q2_1, .int .i64 HO, .int .i64 UN, .slice p2_2 KN.length q2_2] (SK, NW, CL, HO, UN, KN, ()) S2a) := GP_11.out.next hb
        have GD_12 : Hid (Own w12 (.list .int) [.slice p2_d D.length q2_d] D S2b) := GD_11.out.next hb
        have G_12 : Hid (Bx w12 w2.heap.size [.int .i64 SK, .int .i64 NW, .slice p2_1 CL.length q2_1, .int .i64 HO, .int .i64 UN, .slice p2_2 KN.length q2_2]) := G_11.out.next hb
        have U_12 : Hid (Lies w12 shLeases [.int .i64 sk, .int .i64 nw, .slice p3 cl.length q3, .int .i64 hq, .int .i64 un, .slice p4 kn.length q4] (sk, nw, cl, hq, un, kn, ())) := U_11.out.next hb
        have BU_12 : Hid (Bx w12 w8.heap.size [.int .i64 sk, .int .i64 nw, .slice p3 cl.length q3, .int .i64 hq, .int .i64 un, .slice p4 kn.length q4]) := BU_11.out.next hb
        have BS_12 : Hid (Bx w12 (w8.heap.size + 1) [.int .i64 sa, .int .i64 sb, .int .i64 sn]) := BS_11.out.next hb
        have V_12 : Hid (Own w12 shLeases [.int .i64 SV, .int .i64 NV, .slice p11_1 CV.length q11_1, .int .i64 OV, .int .i64 UV, .slice p11_2 KV.length q11_2] (SV, NV, CV, OV, UV, KV, ()) (Btw w10.heap.size w11.heap.size)) := V_11.out.next hb
        have BV_12 : Hid (Bx w12 w11.heap.size [.int .i64 SV, .int .i64 NV, .slice p11_1 CV.length q11_1, .int .i64 OV, .int .i64 UV, .slice p11_2 KV.length q11_2]) := hw12 ▸ Bx.new w11 [.int .i64 SV, .int .i64 NV, .slice p11_1 CV.length q11_1, .int .i64 OV, .int .i64 UV, .slice p11_2 KV.length q11_2] _
        rw [← hw12]
        clear hb hw12 cBU0 cBU1 cBU2 cBU3 cBU4 cBU5 zBU cBS0 cBS1 cBS2 zBS GP_11 GD_11 G_11 U_11 BU_11 BS_11 V_11 HB11
        refine (specStepLease_l [.int .i64 sk, .int .i64 nw, .slice p3 cl.length q3, .int .i64 hq, .int .i64 un, .slice p4 kn.length q4] sk nw cl hq un kn sa sb sn _ SV NV CV OV UV KV zv HV.out HUZ.out U_12.out).mono ?_
        rintro r w13 ⟨cs9, rfl, ho, hb⟩
        obtain ⟨p13_1, q13_1, _, p13_2, q13_2, _, hev, _⟩ := own_Leases ho
        subst hev
        have HB13 : Hid (Below w.heap.size w w13) := below_next HB12.out hb
        have sz13 : w12.heap.size ≤ w13.heap.size := hb.size
        have GP_13 : Hid (Own w13 shLeases [.int .i64 SK, .int .i64 NW, .slice p2_1 CL.length q2_1, .int .i64 HO, .int .i64 UN, .slice p2_2 KN.length q2_2] (SK, NW, CL, HO, UN, KN, ()) S2a) := GP_12.out.next hb
        have GD_13 : Hid (Own w13 (.list .int) [.slice p2_d D.length q2_d] D S2b) := GD_12.out.next hb
        have G_13 : Hid (Bx w13 w2.heap.size [.int .i64 SK, .int .i64 NW, .slice p2_1 CL.length q2_1, .int .i64 HO, .int .i64 UN, .slice p2_2 KN.length q2_2]) := G_12.out.next hb
        have U_13 : Hid (Lies w13 shLeases [.int .i64 sk, .int .i64 nw, .slice p3 cl.length q3, .int .i64 hq, .int .i64 un, .slice p4 kn.length q4] (sk, nw, cl, hq, un, kn, ())) := U_12.out.next hb
        have BU_13 : Hid (Bx w13 w8.heap.size [.int .i64 sk, .int .i64 nw, .slice p3 cl.length q3, .int .i64 hq, .int .i64 un, .slice p4 kn.length q4]) := BU_12.out.next hb
        have BS_13 : Hid (Bx w13 (w8.heap.size + 1) [.int .i64 sa, .int .i64 sb, .int .i64 sn]) := BS_12.out.next hb
        have V_13 : Hid (Own w13 shLeases [.int .i64 SV, .int .i64 NV, .slice p11_1 CV.length q11_1, .int .i64 OV, .int .i64 UV, .slice p11_2 KV.length q11_2] (SV, NV, CV, OV, UV, KV, ()) (Btw w10.heap.size w11.heap.size)) := V_12.out.next hb
        have BV_13 : Hid (Bx w13 w11.heap.size [.int .i64 SV, .int .i64 NV, .slice p11_1 CV.length q11_1, .int .i64 OV, .int .i64 UV, .slice p11_2 KV.length q11_2]) := BV_12.out.next hb
        have V2_13 : Hid (Own w13 shLeases [.int .i64 SV, .int .i64 NV, .slice p13_1 CV.length q13_1, .int .i64 OV, .int .i64 UV, .slice p13_2 KV.length q13_2] (SV, NV, CV, OV, UV, KV, ()) (Btw w12.heap.size w13.heap.size)) := ho
        clear hb ho GP_12 GD_12 G_12 U_12 BU_12 BS_12 V_12 BV_12 HB12
        cases zv
        case false =>
          have hc0 : CV = [] := by have h1 := HV.out; have h2 : (leS sk nw cl hq un kn sa sb sn) = none := Option.not_isSome_iff_eq_none.1 (by rw [h1.2.2.2.2.2.2]; simp); have h3 := h1.2.2.1; rw [h2] at h3; exact h3.symm
          have hc0' : (List.length (α := Sh.T .int) CV) = 0 := by rw [hc0]; rfl
          have cBV0 := BV_13.out.cell 0 rfl
          have cBV1 := BV_13.out.cell 1 rfl
          have cBV2 := BV_13.out.cell 2 rfl
          have cBV3 := BV_13.out.cell 3 rfl
          have cBV4 := BV_13.out.cell 4 rfl
          have cBV5 := BV_13.out.cell 5 rfl
          have zBV := BV_13.out.2
          have cBU0 := BU_13.out.cell 0 rfl
          have cBU1 := BU_13.out.cell 1 rfl
          have cBU2 := BU_13.out.cell 2 rfl
          have cBU3 := BU_13.out.cell 3 rfl
          have cBU4 := BU_13.out.cell 4 rfl
          have cBU5 := BU_13.out.cell 5 rfl
          have zBU := BU_13.out.2
          have HE := HB13
          obtain ⟨Wz, hWz⟩ : ∃ x, x = w13 := ⟨_, rfl⟩
          rw [hc0'] at *
          go_wp2
          go_ret
          exact ⟨rfl, by repeat (first | refine Below.alloc ?_ (by (try simp) <;> (have := HE.out.size; omega)) _ | exact HE.out)⟩
        case true =>
          have HSM : Hid (leS sk nw cl hq un kn sa sb sn = some (SV, NV, CV, OV, UV, KV, ())) := Hid.intro (parts_some HV.out)
          have HGV : Hid (goodL SV NV CV OV UV KV) := Hid.intro (leS_good (y := (SV, NV, CV, OV, UV, KV, ())) HSM.out)
          have hnow : nw ≤ NV := leS_now HSM.out
          have HVZ : Hid (szD shLeases (SV, NV, CV, OV, UV, KV, ()) ≤ 1073741824) := Hid.intro (Nat.le_trans (good_szL (y := (SV, NV, CV, OV, UV, KV, ())) HGV.out) (by decide))
          have cBU0 := BU_13.out.cell 0 rfl
          have cBU1 := BU_13.out.cell 1 rfl
          have cBU2 := BU_13.out.cell 2 rfl
          have cBU3 := BU_13.out.cell 3 rfl
          have cBU4 := BU_13.out.cell 4 rfl
          have cBU5 := BU_13.out.cell 5 rfl
          have zBU := BU_13.out.2
          have cBV0 := BV_13.out.cell 0 rfl
          have cBV1 := BV_13.out.cell 1 rfl
          have cBV2 := BV_13.out.cell 2 rfl
          have cBV3 := BV_13.out.cell 3 rfl
          have cBV4 := BV_13.out.cell 4 rfl
          have cBV5 := BV_13.out.cell 5 rfl
          have zBV := BV_13.out.2
          go_wp2_with fail
          obtain ⟨w14, hw14⟩ : ∃ x, x = w13.alloc (.cells #[.int .i64 SV, .int .i64 NV, .slice p13_1 CV.length q13_1, .int .i64 OV, .int .i64 UV, .slice p13_2 KV.length q13_2] 28) := ⟨_, rfl⟩
          have hb : Below w13.heap.size w13 w14 := hw14 ▸ Go.Joins.below_alloc1 _ _
          have HB14 : Hid (Below w.heap.size w w14) := below_next HB13.out hb
          have sz14 : w13.heap.size < w14.heap.size := by rw [hw14]; simp
          have GP_14 : Hid (Own w14 shLeases [.int .i64 SK, .int .i64 NW, .slice p2_1 CL.length q2_1, .int .i64 HO, .int .i64 UN, .slice p2_2 KN.length q2_2] (SK, NW, CL, HO, UN, KN, ()) S2a) := GP_13.out.next hb
          have GD_14 : Hid (Own w14 (.list .int) [.slice p2_d D.length q2_d] D S2b) := GD_13.out.next hb
          have G_14 : Hid (Bx w14 w2.heap.size [.int .i64 SK, .int .i64 NW, .slice p2_1 CL.length q2_1, .int .i64 HO, .int .i64 UN, .slice p2_2 KN.length q2_2]) := G_13.out.next hb
          have U_14 : Hid (Lies w14 shLeases [.int .i64 sk, .int .i64 nw, .slice p3 cl.length q3, .int .i64 hq, .int .i64 un, .slice p4 kn.length q4] (sk, nw, cl, hq, un, kn, ())) := U_13.out.next hb
          have BU_14 : Hid (Bx w14 w8.heap.size [.int .i64 sk, .int .i64 nw, .slice p3 cl.length q3, .int .i64 hq, .int .i64 un, .slice p4 kn.length q4]) := BU_13.out.next hb
          have BS_14 : Hid (Bx w14 (w8.heap.size + 1) [.int .i64 sa, .int .i64 sb, .int .i64 sn]) := BS_13.out.next hb
          have V_14 : Hid (Own w14 shLeases [.int .i64 SV, .int .i64 NV, .slice p11_1 CV.length q11_1, .int .i64 OV, .int .i64 UV, .slice p11_2 KV.length q11_2] (SV, NV, CV, OV, UV, KV, ()) (Btw w10.heap.size w11.heap.size)) := V_13.out.next hb
          have BV_14 : Hid (Bx w14 w11.heap.size [.int .i64 SV, .int .i64 NV, .slice p11_1 CV.length q11_1, .int .i64 OV, .int .i64 UV, .slice p11_2 KV.length q11_2]) := BV_13.out.next hb
          have V2_14 : Hid (Own w14 shLeases [.int .i64 SV, .int .i64 NV, .slice p13_1 CV.length q13_1, .int .i64 OV, .int .i64 UV, .slice p13_2 KV.length q13_2] (SV, NV, CV, OV, UV, KV, ()) (Btw w12.heap.size w13.heap.size)) := V2_13.out.next hb
          have BV2_14 : Hid (Bx w14 w13.heap.size [.int .i64 SV, .int .i64 NV, .slice p13_1 CV.length q13_1, .int .i64 OV, .int .i64 UV, .slice p13_2 KV.length q13_2]) := hw14 ▸ Bx.new w13 [.int .i64 SV, .int .i64 NV, .slice p13_1 CV.length q13_1, .int .i64 OV, .int .i64 UV, .slice p13_2 KV.length q13_2] _
          rw [← hw14]
          clear hb hw14 cBU0 cBU1 cBU2 cBU3 cBU4 cBU5 zBU cBV0 cBV1 cBV2 cBV3 cBV4 cBV5 zBV GP_13 GD_13 G_13 U_13 BU_13 BS_13 V_13 BV_13 V2_13 HB13
          clear BV2_14
          clear V2_14
          obtain ⟨LL, hLL⟩ : ∃ x, blA SV NV CV OV UV KV = x := ⟨_, rfl⟩
          have HLL : Hid (blA SV NV CV OV UV KV = LL ∧ tf (goodL SV NV CV OV UV KV) = true) := ⟨hLL, tf_yes HGV.out⟩
          have HLB : Hid (blv SV CV KV CV.length = LL) := Hid.intro (by rw [← bl_yes HGV.out]; exact hLL)
          clear hLL
          have hL1 : LL.length ≤ 1 := by rw [← HLB.out]; exact (blv_one HGV.out (Nat.le_refl _)).1
          have hL1' : (LL.length : Int) ≤ 1 := by omega
          refine (believersOf_n [.int .i64 SV, .int .i64 NV, .slice p11_1 CV.length q11_1, .int .i64 OV, .int .i64 UV, .slice p11_2 KV.length q11_2] SV NV CV OV UV KV _ LL true HLL.out HVZ.out V_14.out.lies).mono ?_
          rintro r w15 ⟨p15, q15, rfl, ho, hb⟩
          have HB15 : Hid (Below w.heap.size w w15) := below_next HB14.out hb
          have sz15 : w14.heap.size ≤ w15.heap.size := hb.size
          have GP_15 : Hid (Own w15 shLeases [.int .i64 SK, .int .i64 NW, .slice p2_1 CL.length q2_1, .int .i64 HO, .int .i64 UN, .slice p2_2 KN.length q2_2] (SK, NW, CL, HO, UN, KN, ()) S2a) := GP_14.out.next hb
          have GD_15 : Hid (Own w15 (.list .int) [.slice p2_d D.length q2_d] D S2b) := GD_14.out.next hb
          have G_15 : Hid (Bx w15 w2.heap.size [.int .i64 SK, .int .i64 NW, .slice p2_1 CL.length q2_1, .int .i64 HO, .int .i64 UN, .slice p2_2 KN.length q2_2]) := G_14.out.next hb
          have U_15 : Hid (Lies w15 shLeases [.int .i64 sk, .int .i64 nw, .slice p3 cl.length q3, .int .i64 hq, .int .i64 un, .slice p4 kn.length q4] (sk, nw, cl, hq, un, kn, ())) := U_14.out.next hb
          have BU_15 : Hid (Bx w15 w8.heap.size [.int .i64 sk, .int .i64 nw, .slice p3 cl.length q3, .int .i64 hq, .int .i64 un, .slice p4 kn.length q4]) := BU_14.out.next hb
          have BS_15 : Hid (Bx w15 (w8.heap.size + 1) [.int .i64 sa, .int .i64 sb, .int .i64 sn]) := BS_14.out.next hb
          have V_15 : Hid (Own w15 shLeases [.int .i64 SV, .int .i64 NV, .slice p11_1 CV.length q11_1, .int .i64 OV, .int .i64 UV, .slice p11_2 KV.length q11_2] (SV, NV, CV, OV, UV, KV, ()) (Btw w10.heap.size w11.heap.size)) := V_14.out.next hb
          have BV_15 : Hid (Bx w15 w11.heap.size [.int .i64 SV, .int .i64 NV, .slice p11_1 CV.length q11_1, .int .i64 OV, .int .i64 UV, .slice p11_2 KV.length q11_2]) := BV_14.out.next hb
          have WH_15 : Hid (Own w15 (.list .int) [.slice p15 LL.length q15] LL (Btw w14.heap.size w15.heap.size)) := ho
          clear hb ho GP_14 GD_14 G_14 U_14 BU_14 BS_14 V_14 BV_14 HB14
          have cBV0 := BV_15.out.cell 0 rfl
          have cBV1 := BV_15.out.cell 1 rfl
          have cBV2 := BV_15.out.cell 2 rfl
          have cBV3 := BV_15.out.cell 3 rfl
          have cBV4 := BV_15.out.cell 4 rfl
          have cBV5 := BV_15.out.cell 5 rfl
          have zBV := BV_15.out.2
          have cBU0 := BU_15.out.cell 0 rfl
          have cBU1 := BU_15.out.cell 1 rfl
          have cBU2 := BU_15.out.cell 2 rfl
          have cBU3 := BU_15.out.cell 3 rfl
          have cBU4 := BU_15.out.cell 4 rfl
          have cBU5 := BU_15.out.cell 5 rfl
          have zBU := BU_15.out.2
          go_wp2_with fail
          refine ((show Calls _ _ _ _ (fun r w' => r = .returned (.bool true) ∧ Below _ _ w') from (by have q := goodLeases_n [.int .i64 SV, .int .i64 NV, .slice p11_1 CV.length q11_1, .int .i64 OV, .int .i64 UV, .slice p11_2 KV.length q11_2] SV NV CV OV UV KV _ HVZ.out V_15.out.lies; rw [HLL.out.2] at q; exact q))).mono ?_
          rintro r w16 ⟨rfl, hb⟩
          have HB16 : Hid (Below w.heap.size w w16) := below_next HB15.out hb
          have sz16 : w15.heap.size ≤ w16.heap.size := hb.size
          have GP_16 : Hid (Own w16 shLeases [.int .i64 SK, .int .i64 NW, .slice p2_1 CL.length q2_1, .int .i64 HO, .int .i64 UN, .slice p2_2 KN.length q2_2] (SK, NW, CL, HO, UN, KN, ()) S2a) := GP_15.out.next hb
          have GD_16 : Hid (Own w16 (.list .int) [.slice p2_d D.length q2_d] D S2b) := GD_15.out.next hb
          have G_16 : Hid (Bx w16 w2.heap.size [.int .i64 SK, .int .i64 NW, .slice p2_1 CL.length q2_1, .int .i64 HO, .int .i64 UN, .slice p2_2 KN.length q2_2]) := G_15.out.next hb
          have U_16 : Hid (Lies w16 shLeases [.int .i64 sk, .int .i64 nw, .slice p3 cl.length q3, .int .i64 hq, .int .i64 un, .slice p4 kn.length q4] (sk, nw, cl, hq, un, kn, ())) := U_15.out.next hb
          have BU_16 : Hid (Bx w16 w8.heap.size [.int .i64 sk, .int .i64 nw, .slice p3 cl.length q3, .int .i64 hq, .int .i64 un, .slice p4 kn.length q4]) := BU_15.out.next hb
          have BS_16 : Hid (Bx w16 (w8.heap.size + 1) [.int .i64 sa, .int .i64 sb, .int .i64 sn]) := BS_15.out.next hb
          have V_16 : Hid (Own w16 shLeases [.int .i64 SV, .int .i64 NV, .slice p11_1 CV.length q11_1, .int .i64 OV, .int .i64 UV, .slice p11_2 KV.length q11_2] (SV, NV, CV, OV, UV, KV, ()) (Btw w10.heap.size w11.heap.size)) := V_15.out.next hb
          have BV_16 : Hid (Bx w16 w11.heap.size [.int .i64 SV, .int .i64 NV, .slice p11_1 CV.length q11_1, .int .i64 OV, .int .i64 UV, .slice p11_2 KV.length q11_2]) := BV_15.out.next hb
          have WH_16 : Hid (Own w16 (.list .int) [.slice p15 LL.length q15] LL (Btw w14.heap.size w15.heap.size)) := WH_15.out.next hb
          clear hb cBV0 cBV1 cBV2 cBV3 cBV4 cBV5 zBV cBU0 cBU1 cBU2 cBU3 cBU4 cBU5 zBU GP_15 GD_15 G_15 U_15 BU_15 BS_15 V_15 BV_15 WH_15 HB15
          have cBV0 := BV_16.out.cell 0 rfl
          have cBV1 := BV_16.out.cell 1 rfl
          have cBV2 := BV_16.out.cell 2 rfl
          have cBV3 := BV_16.out.cell 3 rfl
          have cBV4 := BV_16.out.cell 4 rfl
          have cBV5 := BV_16.out.cell 5 rfl
          have zBV := BV_16.out.2
          have cBU0 := BU_16.out.cell 0 rfl
          have cBU1 := BU_16.out.cell 1 rfl
          have cBU2 := BU_16.out.cell 2 rfl
          have cBU3 := BU_16.out.cell 3 rfl
          have cBU4 := BU_16.out.cell 4 rfl
          have cBU5 := BU_16.out.cell 5 rfl
          have zBU := BU_16.out.2
          go_wp2_with fail
          clear cBV0 cBV1 cBV2 cBV3 cBV4 cBV5 zBV cBU0 cBU1 cBU2 cBU3 cBU4 cBU5 zBU
          have hcl12 : (CV.length : Int) ≤ 12 := HGV.out.2.2.2.1.2
          go_loopw [133] (fun y wr => ∃ j : Nat, j ≤ CV.length ∧ y = .int .i64 (j : Int) ∧ Below w16.heap.size w16 wr) (fun y _ => CV.length - (intOf y).toNat)
          case atStart => exact ⟨0, Nat.zero_le _, rfl, Below.refl _ _⟩
          case round =>
            obtain ⟨j, hj, rfl, hBr⟩ := hrel
            obtain ⟨wo, hwo⟩ : ∃ x, x = wr := ⟨_, rfl⟩
            subst hwo
            have HB9 := Hid.intro hBr
            clear hBr
            have BV_q := Hid.intro (BV_16.out.next HB9.out)
            have V_q := Hid.intro (V_16.out.next HB9.out)
            have WH_q := Hid.intro (WH_16.out.next HB9.out)
            by_cases hj1 : j < CV.length
            case neg =>
              have hj1' : ¬ ((j : Int) < (CV.length : Int)) := by omega
              have HE := Hid.intro (below_next HB16.out HB9.out)
              go_wp2
              go_ret
              exact ⟨rfl, HE.out⟩
            have hj1' : (j : Int) < (CV.length : Int) := by omega
            obtain ⟨h1v, h2v, h3v, h4v, hev, hl1, hl2⟩ := lies_Leases V_q.out.lies
            simp only [List.cons.injEq, Value.slice.injEq, and_true, true_and] at hev
            obtain ⟨⟨e1, e2⟩, e3, e4⟩ := hev
            subst e1 e2 e3 e4
            have HLV := Hid.intro hl1
            clear hl1 hl2
            obtain ⟨gd, od, hgd, c0, hgz⟩ := lies_at HLV.out hj1
            obtain ⟨x, hx⟩ : ∃ y, y = atI CV j := ⟨_, rfl⟩
            rw [← hx] at c0
            have HXJ := Hid.intro hx
            clear hx
            obtain ⟨ky, hky⟩ : ∃ y, y = atI KV j := ⟨_, rfl⟩
            have HKJ := Hid.intro hky
            clear hky
            have HSU : Hid (suA SV NV CV OV UV KV (j : Int) = (max 0 (ky - SV), true)) := Hid.intro (by rw [su_yes HGV.out hj1, HKJ.out])
            have hx0 : 0 ≤ x := by rw [HXJ.out]; exact (node_bd HGV.out hj1).1.1
            have b0 := BV_q.out.cell 0 rfl
            have b1 := BV_q.out.cell 1 rfl
            have b2 := BV_q.out.cell 2 rfl
            have b3 := BV_q.out.cell 3 rfl
            have b4 := BV_q.out.cell 4 rfl
            have b5 := BV_q.out.cell 5 rfl
            have bz := BV_q.out.2
            subst hgd
            go_wp2_with fail
            refine (show Calls _ _ _ _ (SuP (max 0 (ky - SV), true) _) from HSU.out ▸ safeUntilOf_n [.int .i64 SV, .int .i64 NV, .slice (some ⟨gd, od, none⟩) CV.length q11_1, .int .i64 OV, .int .i64 UV, .slice p11_2 KV.length q11_2] SV NV CV OV UV KV (j : Int) _ HVZ.out V_q.out.lies).mono ?_
            rintro r wp ⟨rfl, hb⟩
            have HB10 := Hid.intro (below_next HB9.out hb)
            have BV_p := Hid.intro (BV_q.out.next hb)
            have WH_p := Hid.intro (WH_q.out.next hb)
            clear hb b0 b1 b2 b3 b4 b5 bz c0
            have b0 := BV_p.out.cell 0 rfl
            have b1 := BV_p.out.cell 1 rfl
            have b2 := BV_p.out.cell 2 rfl
            have b3 := BV_p.out.cell 3 rfl
            have b4 := BV_p.out.cell 4 rfl
            have b5 := BV_p.out.cell 5 rfl
            have bz := BV_p.out.2
            by_cases hbel : x + SV < ky
            case pos =>
              have hho := bel_holds HGV.out hj1 (by rw [← HXJ.out, ← HKJ.out]; exact hbel)
              have hmem : tf ((j : Int) ∈ LL) = true := tf_yes (by rw [← HLB.out]; exact blv_mem.2 ⟨j, hj1, rfl, by rw [← HXJ.out, ← HKJ.out]; exact hbel⟩)
              have hcs : x < max 0 (ky - SV) := by omega
              obtain ⟨hho1, hho2⟩ := hho
              subst hho1
              have hho2' : ¬ UV ≤ NV := by omega
              have HMM := Hid.intro hmem
              clear hmem
              obtain ⟨sf, hsf⟩ : ∃ y, y = max 0 (ky - SV) := ⟨_, rfl⟩
              rw [← hsf] at hcs ⊢
              clear hsf hbel
              have hcd : decide (x < sf) = true := decide_eq_true hcs
              go_wp2_with fail
              refine ((show Calls _ _ _ _ (fun r w' => r = .returned (.bool true) ∧ Below _ _ w') from HMM.out ▸ has_n p15 q15 LL (j : Int) _ (by omega) WH_p.out.lies)).mono ?_
              rintro r wq ⟨rfl, hb⟩
              have HB11 := Hid.intro (below_next HB10.out hb)
              have BV_s := Hid.intro (BV_p.out.next hb)
              have WH_s := Hid.intro (WH_p.out.next hb)
              clear hb b0 b1 b2 b3 b4 b5 bz
              have b0 := BV_s.out.cell 0 rfl
              have b1 := BV_s.out.cell 1 rfl
              have b2 := BV_s.out.cell 2 rfl
              have b3 := BV_s.out.cell 3 rfl
              have b4 := BV_s.out.cell 4 rfl
              have b5 := BV_s.out.cell 5 rfl
              have bz := BV_s.out.2
              go_wp2_with fail
              refine ((show Calls _ _ _ _ (fun r w' => r = .returned (.bool true) ∧ Below _ _ w') from HMM.out ▸ has_n p15 q15 LL (j : Int) _ (by omega) WH_s.out.lies)).mono ?_
              rintro r wt ⟨rfl, hb⟩
              have HB12 := Hid.intro (below_next HB11.out hb)
              have BV_t := Hid.intro (BV_s.out.next hb)
              clear hb b0 b1 b2 b3 b4 b5 bz
              have b0 := BV_t.out.cell 0 rfl
              have b1 := BV_t.out.cell 1 rfl
              have b2 := BV_t.out.cell 2 rfl
              have b3 := BV_t.out.cell 3 rfl
              have b4 := BV_t.out.cell 4 rfl
              have b5 := BV_t.out.cell 5 rfl
              have bz := BV_t.out.2
              go_wp2_with fail
              go_roundw
              case rel => exact ⟨j + 1, by omega, by go_num, HB12.out⟩
              case measure => simp [intOf]; omega
            case neg =>
              have hmem : tf ((j : Int) ∈ LL) = false := tf_no (fun q => by rw [← HLB.out] at q; obtain ⟨i, hi, e, hb⟩ := blv_mem.1 q; obtain rfl : j = i := (by omega); rw [← HXJ.out, ← HKJ.out] at hb; exact hbel hb)
              have hcs : ¬ x < max 0 (ky - SV) := by omega
              have HMM := Hid.intro hmem
              clear hmem
              obtain ⟨sf, hsf⟩ : ∃ y, y = max 0 (ky - SV) := ⟨_, rfl⟩
              rw [← hsf] at hcs ⊢
              clear hsf hbel
              have hcd : decide (x < sf) = false := decide_eq_false hcs
              go_wp2_with fail
              refine ((show Calls _ _ _ _ (fun r w' => r = .returned (.bool false) ∧ Below _ _ w') from HMM.out ▸ has_n p15 q15 LL (j : Int) _ (by omega) WH_p.out.lies)).mono ?_
              rintro r wq ⟨rfl, hb⟩
              have HB11 := Hid.intro (below_next HB10.out hb)
              have BV_s := Hid.intro (BV_p.out.next hb)
              have WH_s := Hid.intro (WH_p.out.next hb)
              clear hb b0 b1 b2 b3 b4 b5 bz
              have b0 := BV_s.out.cell 0 rfl
              have b1 := BV_s.out.cell 1 rfl
              have b2 := BV_s.out.cell 2 rfl
              have b3 := BV_s.out.cell 3 rfl
              have b4 := BV_s.out.cell 4 rfl
              have b5 := BV_s.out.cell 5 rfl
              have bz := BV_s.out.2
              go_wp2_with fail
              refine ((show Calls _ _ _ _ (fun r w' => r = .returned (.bool false) ∧ Below _ _ w') from HMM.out ▸ has_n p15 q15 LL (j : Int) _ (by omega) WH_s.out.lies)).mono ?_
              rintro r wt ⟨rfl, hb⟩
              have HB12 := Hid.intro (below_next HB11.out hb)
              have BV_t := Hid.intro (BV_s.out.next hb)
              clear hb b0 b1 b2 b3 b4 b5 bz
              have b0 := BV_t.out.cell 0 rfl
              have b1 := BV_t.out.cell 1 rfl
              have b2 := BV_t.out.cell 2 rfl
              have b3 := BV_t.out.cell 3 rfl
              have b4 := BV_t.out.cell 4 rfl
              have b5 := BV_t.out.cell 5 rfl
              have bz := BV_t.out.2
              go_wp2_with fail
              go_roundw
              case rel => exact ⟨j + 1, by omega, by go_num, HB12.out⟩
              case measure => simp [intOf]; omega


theorem own : ownKnob Try.prog.godebug = none := by kernel_rfl
theorem laidOut : laidOutB Try.prog = true := by kernel_rfl

set_option maxRecDepth 100000 in
theorem lifted (os : Os) (started : os.Started) (H : Type) (enc : TypeId × Value → H) :
    ReturnsInHanded {} Try.checked os 3 .any (Rows.fnLeaseSpec.pre6 enc Try.prog Try.f3 Rows.fnLeaseRow.domain false) (Rows.fnLeaseSpec.post enc Try.prog Try.f3 false true false false) := by
  refine returnsInHanded_of_change (C := Try.checked) own started (by kernel_rfl) Try.func3
    (ChangeSpec.witness6 (enc := enc) (C := Try.checked) false ⟨#[], #[.slice none 0 0, .slice none 0 0], []⟩ 8 (by kernel_rfl) (by kernel_rfl) (by kernel_rfl) (by kernel_rfl)) ?_
  intro W base args ds gs before hval0 hW hcnd _
  have hval : ∀ (j : Nat) t v, Try.f3.params[j]? = some t → args[j]? = some v → Value.okWide Try.prog W .any base t v := hval0
  have hW' := hW
  obtain ⟨p, q, hA0, hV, rfl, hfz, hnd⟩ := hW
  have hA : DataW.TrodAll enc Try.prog W 0 (fun _ => true) true Try.f3.params.toList args.toList ds p := hA0
  rw [Try.params3] at hA hval
  obtain ⟨v0, vs0, d0, ds0, p0, q0, hargs, rfl, rfl, h0, r0⟩ := trodAll_cons hA
  obtain ⟨v1, vs1, d1, ds1, p1, q1, rfl, rfl, rfl, h1, r1⟩ := trodAll_cons r0
  obtain ⟨rfl, rfl, rfl⟩ := trodAll_nil r1
  obtain rfl : args = #[v0, v1] := by cases args; simp_all
  obtain ⟨rfl, rfl⟩ := trodVars_none hV
  have k0 := h0
  have lt0 : ∀ x ∈ p0, x.block < W.heap.size := by obtain ⟨m, hm⟩ := k0; exact DataW.trod_lt m _ _ _ hm
  obtain ⟨a0, len0, cap0, rfl⟩ := okWide_slice Try.underlying22 (hval 0 22 v0 rfl rfl)
  obtain ⟨n0, X0, s0, b0⟩ := open_bytes h0
  have k1 := h1
  have lt1 : ∀ x ∈ p1, x.block < W.heap.size := by obtain ⟨m, hm⟩ := k1; exact DataW.trod_lt m _ _ _ hm
  obtain ⟨a1, len1, cap1, rfl⟩ := okWide_slice Try.underlying22 (hval 1 22 v1 rfl rfl)
  obtain ⟨n1, X1, s1, b1⟩ := open_bytes h1
  clear hA0 hval0
  refine (walk (w := W) a0 len0 cap0 X0 n0 s0 b0 a1 len1 cap1 X1 n1 s1 b1).mono fun e W' ⟨he, bel⟩ => ?_
  subst he
  exact ⟨_, rfl, _, _, _, [], _, [], hW', trodAll_mk1 (shut_bool Try.underlying4 _), (trodAll_cons_mk (Below.trod laidOut (by kernel_rfl) (of_decide_eq_true (by kernel_rfl)) k0 bel lt0) (trodAll_cons_mk (Below.trod laidOut (by kernel_rfl) (of_decide_eq_true (by kernel_rfl)) k1 bel lt1) trodAll_mk0)), rfl, bel.frame _, fun h => by cases h⟩

set_option maxHeartbeats 40000000 in
theorem closed : joinedFacts Try.pinned.checked.prog 3 Try.f3 Rows.fnLeaseSpec Rows.fnLeaseRow = true := by
  unfold joinedFacts
  repeat' (first | (with_reducible refine both ?_ ?_) | (with_reducible exact may_enter') | (with_reducible refine lifts_eq ?_) | (with_reducible refine make_eq ?_) | as_aux_lemma => kernel_rfl)
theorem named : Try.pinned.checked.prog.funcNamed Rows.fnLeaseRow.func = some 3 := by kernel_rfl
theorem over : Rows.fnLeaseRow.holds Try.pinned (OpenSpec.ofChange Rows.fnLeaseSpec) :=
  OpenClaim.holds_of_wide 3 Try.f3 rfl rfl rfl rfl rfl rfl rfl ⟨rfl, rfl, rfl, rfl, rfl⟩ rfl rfl rfl rfl rfl named Try.func3 closed
    (of_decide_eq_true (by as_aux_lemma => kernel_rfl)) (by unfold Func.isWrapper; first | (rw [if_pos (by decide +kernel)]; kernel_rfl) | (rw [if_neg (by decide +kernel)]; exact ⟨rfl, rfl⟩))
    (fun os started H enc _ => lifted os started H enc)

end Go.Proofs.Ytidalpgkljafdaa.fLease
namespace Go.Proofs.Ytidalpgkljafdaa
theorem fLease_holds : Rows.FnLeaseSaid := fLease.over
#print axioms fLease_holds
end Go.Proofs.Ytidalpgkljafdaa
