/- What is durable rises one at a time and nothing that runs is of an epoch that is durable, for drawn plays: the law FnFence, at every list of bytes. No condition. -/
import Derived.Test.YtcbdlalpnlahcaaDfW
import Derived.Test.YtcbdlalpnlahcaaOpenBE
import Derived.Test.YtcbdlalpnlahcaaWords
import Derived.ProofKit
import Derived.OpenShut
import Derived.ShutString
import Derived.ChangeOld
import Derived.Below
import Derived.Lib.SmallJoins
namespace Go.Proofs.Ytcbdlalpnlahcaa.fFence
open Go.ChangeShapes Go.WideShapes Go.ChangeAt Go.RowKit
open Go.ChangeMaps (open_string shut_string)
set_option linter.unusedVariables false

set_option maxRecDepth 100000 in
set_option maxHeartbeats 16000000 in
theorem walk (a : Option Addr) (n cap : Nat) (X : Nat → Int) (w : World) (hm : n ≤ maxLen) (hs : Sl w a n 1 (byF X)) (hX : ∀ i, i < n → 0 ≤ X i ∧ X i ≤ 255) :
    Calls Try.prog 3 #[.slice a n cap] w fun r w' => r = .returned (.bool true) ∧ Below w.heap.size w w' := by
  unfold maxLen at hm
  have HS : Hid (Sl w a n 1 (byF X) ∧ ∀ i, i < n → 0 ≤ X i ∧ X i ≤ 255) := ⟨hs, hX⟩
  clear hs hX
  by_cases hlt : (1048576 : Int) < (n : Int)
  case pos =>
    go_enter Try.func3, Try.ntmps3
    go_wp2
    go_ret
    exact ⟨rfl, Below.refl _ _⟩
  case neg =>
  go_enter Try.func3, Try.ntmps3
  go_wp2_with fail
  refine (drawPlayFence_any _ _ _ X _ hm HS.out.1 HS.out.2).mono ?_
  rintro r w1 ⟨m, l, a2, k2, hll, rfl, h2, hb⟩
  have HB1 : Hid (Below w.heap.size w w1) := below_next (Below.refl _ _) hb
  have sz1 : w.heap.size ≤ w1.heap.size := hb.size
  have L_1 : Hid (Lies w1 (.list shFenceStep) [.slice a2 l.length k2] l) := h2
  clear hb h2
  obtain ⟨EP, DU, MS, EN, D, z, hA⟩ : ∃ EP DU MS EN D z, FpH m l EP DU MS EN D z := ⟨_, _, _, _, _, _, rfl, rfl, rfl, rfl, rfl, rfl⟩
  have HA : Hid (FpH m l EP DU MS EN D z) := hA
  have hD : D.length ≤ 120 := fph_len hA
  have HLZ : Hid (szD (.list shFenceStep) l ≤ 1073741824) := Hid.intro (sz_fsteps l hll)
  clear hA hll
  go_wp2_with fail
  refine (playFence_l m a2 k2 l _ EP DU MS EN D z HA.out HLZ.out L_1.out).mono ?_
  rintro r w2 hT
  obtain ⟨cs9, v9, S2a, S2b, rfl, ho, hod, hs1, hs2, hb⟩ := hT
  obtain ⟨p2_1, q2_1, _, p2_2, q2_2, _, hev, _⟩ := own_Fence ho
  subst hev
  obtain ⟨p2_d, q2_d, hvd⟩ := own_form hod
  simp only [List.cons.injEq, and_true] at hvd
  subst hvd
  have HSS2 : Hid ((∀ k, S2a k → w1.heap.size ≤ k ∧ k < w2.heap.size) ∧ (∀ k, S2b k → w1.heap.size ≤ k ∧ k < w2.heap.size) ∧ (∀ k, S2a k → ¬ S2b k)) := ⟨fun k hk => (hs1 k hk).1, hs2, fun k hk => (hs1 k hk).2⟩
  have hT := trivial
  have HB2 : Hid (Below w.heap.size w w2) := below_next HB1.out hb
  have sz2 : w1.heap.size ≤ w2.heap.size := hb.size
  have L_2 : Hid (Lies w2 (.list shFenceStep) [.slice a2 l.length k2] l) := L_1.out.next hb
  have GP_2 : Hid (Own w2 shFence [.int .i64 EP, .int .i64 DU, .slice p2_1 MS.length q2_1, .slice p2_2 EN.length q2_2] (EP, DU, MS, EN, ()) S2a) := ho
  have GD_2 : Hid (Own w2 (.list .int) [.slice p2_d D.length q2_d] D S2b) := hod
  clear hb ho hod hT hs1 hs2 L_1 HB1
  go_wp2_with fail
  obtain ⟨w3, hw3⟩ : ∃ x, x = w2.alloc (.cells #[.int .i64 EP, .int .i64 DU, .slice p2_1 MS.length q2_1, .slice p2_2 EN.length q2_2] 29) := ⟨_, rfl⟩
  have hb : Below w2.heap.size w2 w3 := hw3 ▸ Go.Joins.below_alloc1 _ _
  have HB3 : Hid (Below w.heap.size w w3) := below_next HB2.out hb
  have sz3 : w2.heap.size < w3.heap.size := by rw [hw3]; simp
  have L_3 : Hid (Lies w3 (.list shFenceStep) [.slice a2 l.length k2] l) := L_2.out.next hb
  have GP_3 : Hid (Own w3 shFence [.int .i64 EP, .int .i64 DU, .slice p2_1 MS.length q2_1, .slice p2_2 EN.length q2_2] (EP, DU, MS, EN, ()) S2a) := GP_2.out.next hb
  have GD_3 : Hid (Own w3 (.list .int) [.slice p2_d D.length q2_d] D S2b) := GD_2.out.next hb
  have G_3 : Hid (Bx w3 w2.heap.size [.int .i64 EP, .int .i64 DU, .slice p2_1 MS.length q2_1, .slice p2_2 EN.length q2_2]) := hw3 ▸ Bx.new w2 [.int .i64 EP, .int .i64 DU, .slice p2_1 MS.length q2_1, .slice p2_2 EN.length q2_2] _
  rw [← hw3]
  clear hb hw3 L_2 GP_2 GD_2 HB2
  refine (specPlayFence_l m a2 k2 l _ EP DU MS EN D z HA.out HLZ.out L_3.out).mono ?_
  rintro r w4 hT
  obtain ⟨cs9, v9, S4a, S4b, rfl, ho, hod, hs1, hs2, hb⟩ := hT
  obtain ⟨p4_1, q4_1, _, p4_2, q4_2, _, hev, _⟩ := own_Fence ho
  subst hev
  obtain ⟨p4_d, q4_d, hvd⟩ := own_form hod
  simp only [List.cons.injEq, and_true] at hvd
  subst hvd
  have HSS4 : Hid ((∀ k, S4a k → w3.heap.size ≤ k ∧ k < w4.heap.size) ∧ (∀ k, S4b k → w3.heap.size ≤ k ∧ k < w4.heap.size) ∧ (∀ k, S4a k → ¬ S4b k)) := ⟨fun k hk => (hs1 k hk).1, hs2, fun k hk => (hs1 k hk).2⟩
  have hT := trivial
  have HB4 : Hid (Below w.heap.size w w4) := below_next HB3.out hb
  have sz4 : w3.heap.size ≤ w4.heap.size := hb.size
  have L_4 : Hid (Lies w4 (.list shFenceStep) [.slice a2 l.length k2] l) := L_3.out.next hb
  have GP_4 : Hid (Own w4 shFence [.int .i64 EP, .int .i64 DU, .slice p2_1 MS.length q2_1, .slice p2_2 EN.length q2_2] (EP, DU, MS, EN, ()) S2a) := GP_3.out.next hb
  have GD_4 : Hid (Own w4 (.list .int) [.slice p2_d D.length q2_d] D S2b) := GD_3.out.next hb
  have G_4 : Hid (Bx w4 w2.heap.size [.int .i64 EP, .int .i64 DU, .slice p2_1 MS.length q2_1, .slice p2_2 EN.length q2_2]) := G_3.out.next hb
  have SP_4 : Hid (Own w4 shFence [.int .i64 EP, .int .i64 DU, .slice p4_1 MS.length q4_1, .slice p4_2 EN.length q4_2] (EP, DU, MS, EN, ()) S4a) := ho
  have SD_4 : Hid (Own w4 (.list .int) [.slice p4_d D.length q4_d] D S4b) := hod
  clear hb ho hod hT hs1 hs2 L_3 GP_3 GD_3 G_3 HB3
  go_wp2_with fail
  obtain ⟨w5, hw5⟩ : ∃ x, x = w4.alloc (.cells #[.int .i64 EP, .int .i64 DU, .slice p4_1 MS.length q4_1, .slice p4_2 EN.length q4_2] 29) := ⟨_, rfl⟩
  have hb : Below w4.heap.size w4 w5 := hw5 ▸ Go.Joins.below_alloc1 _ _
  have HB5 : Hid (Below w.heap.size w w5) := below_next HB4.out hb
  have sz5 : w4.heap.size < w5.heap.size := by rw [hw5]; simp
  have L_5 : Hid (Lies w5 (.list shFenceStep) [.slice a2 l.length k2] l) := L_4.out.next hb
  have GP_5 : Hid (Own w5 shFence [.int .i64 EP, .int .i64 DU, .slice p2_1 MS.length q2_1, .slice p2_2 EN.length q2_2] (EP, DU, MS, EN, ()) S2a) := GP_4.out.next hb
  have GD_5 : Hid (Own w5 (.list .int) [.slice p2_d D.length q2_d] D S2b) := GD_4.out.next hb
  have G_5 : Hid (Bx w5 w2.heap.size [.int .i64 EP, .int .i64 DU, .slice p2_1 MS.length q2_1, .slice p2_2 EN.length q2_2]) := G_4.out.next hb
  have SP_5 : Hid (Own w5 shFence [.int .i64 EP, .int .i64 DU, .slice p4_1 MS.length q4_1, .slice p4_2 EN.length q4_2] (EP, DU, MS, EN, ()) S4a) := SP_4.out.next hb
  have SD_5 : Hid (Own w5 (.list .int) [.slice p4_d D.length q4_d] D S4b) := SD_4.out.next hb
  have Q_5 : Hid (Bx w5 w4.heap.size [.int .i64 EP, .int .i64 DU, .slice p4_1 MS.length q4_1, .slice p4_2 EN.length q4_2]) := hw5 ▸ Bx.new w4 [.int .i64 EP, .int .i64 DU, .slice p4_1 MS.length q4_1, .slice p4_2 EN.length q4_2] _
  rw [← hw5]
  clear hb hw5 L_4 GP_4 GD_4 G_4 SP_4 SD_4 HB4
  refine (sameI p2_d p4_d q2_d q4_d D _ (by omega) GD_5.out.lies SD_5.out.lies).mono ?_
  rintro r w6 ⟨rfl, hb⟩
  have HB6 : Hid (Below w.heap.size w w6) := below_next HB5.out hb
  have sz6 : w5.heap.size ≤ w6.heap.size := hb.size
  have L_6 : Hid (Lies w6 (.list shFenceStep) [.slice a2 l.length k2] l) := L_5.out.next hb
  have GP_6 : Hid (Own w6 shFence [.int .i64 EP, .int .i64 DU, .slice p2_1 MS.length q2_1, .slice p2_2 EN.length q2_2] (EP, DU, MS, EN, ()) S2a) := GP_5.out.next hb
  have GD_6 : Hid (Own w6 (.list .int) [.slice p2_d D.length q2_d] D S2b) := GD_5.out.next hb
  have G_6 : Hid (Bx w6 w2.heap.size [.int .i64 EP, .int .i64 DU, .slice p2_1 MS.length q2_1, .slice p2_2 EN.length q2_2]) := G_5.out.next hb
  have SP_6 : Hid (Own w6 shFence [.int .i64 EP, .int .i64 DU, .slice p4_1 MS.length q4_1, .slice p4_2 EN.length q4_2] (EP, DU, MS, EN, ()) S4a) := SP_5.out.next hb
  have SD_6 : Hid (Own w6 (.list .int) [.slice p4_d D.length q4_d] D S4b) := SD_5.out.next hb
  have Q_6 : Hid (Bx w6 w4.heap.size [.int .i64 EP, .int .i64 DU, .slice p4_1 MS.length q4_1, .slice p4_2 EN.length q4_2]) := Q_5.out.next hb
  clear hb L_5 GP_5 GD_5 G_5 SP_5 SD_5 Q_5 HB5
  clear Q_6
  clear SP_6
  clear SD_6
  clear L_6
  cases z
  case false =>
    have hd0 : (List.length (α := Sh.T .int) D) = 0 := by rw [fph_no HA.out]; rfl
    have HE := Hid.intro HB6.out
    rw [hd0] at *
    go_wp2
    go_ret
    exact ⟨rfl, HE.out⟩
  case true =>
    have HGF : Hid (goodF EP DU MS EN) := Hid.intro (fph_good HA.out).1
    have HRI : Hid (∀ j, j + 1 < D.length → atI D j ≤ atI D (j + 1) ∧ atI D (j + 1) ≤ atI D j + 1) := Hid.intro (fph_good HA.out).2
    have HBD := Hid.intro (fph_bd HA.out)
    have HGZ : Hid (szD shFence (EP, DU, MS, EN, ()) ≤ 1073741824) := Hid.intro (fph_sz HA.out).1
    obtain ⟨le, hle⟩ : ∃ x, leastE MS MS.length = x := ⟨_, rfl⟩
    have HLE := Hid.intro hle
    have hdl : DU < le := by rw [← hle]; exact least_above HGF.out _ (Nat.le_refl _)
    have hdl1 : ¬ le ≤ DU := by omega
    have hdl2 : decide (le ≤ DU) = false := decide_eq_false hdl1
    have hm8 : (MS.length : Int) ≤ 8 := HGF.out.2.2.1.2
    clear hle
    have cG0 := G_6.out.cell 0 rfl
    have cG1 := G_6.out.cell 1 rfl
    have cG2 := G_6.out.cell 2 rfl
    have cG3 := G_6.out.cell 3 rfl
    have zG := G_6.out.2
    go_wp2_with fail
    refine ((show Calls _ _ _ _ (fun r w' => r = .returned (.tuple #[.int .i64 le, .bool true]) ∧ Below _ _ w') from (by have q := leastEpoch_y [.int .i64 EP, .int .i64 DU, .slice p2_1 MS.length q2_1, .slice p2_2 EN.length q2_2] EP DU MS EN _ HGF.out GP_6.out.lies; rw [HLE.out] at q; exact q))).mono ?_
    rintro r w7 ⟨rfl, hb⟩
    have HB7 : Hid (Below w.heap.size w w7) := below_next HB6.out hb
    have sz7 : w6.heap.size ≤ w7.heap.size := hb.size
    have GP_7 : Hid (Own w7 shFence [.int .i64 EP, .int .i64 DU, .slice p2_1 MS.length q2_1, .slice p2_2 EN.length q2_2] (EP, DU, MS, EN, ()) S2a) := GP_6.out.next hb
    have GD_7 : Hid (Own w7 (.list .int) [.slice p2_d D.length q2_d] D S2b) := GD_6.out.next hb
    have G_7 : Hid (Bx w7 w2.heap.size [.int .i64 EP, .int .i64 DU, .slice p2_1 MS.length q2_1, .slice p2_2 EN.length q2_2]) := G_6.out.next hb
    clear hb cG0 cG1 cG2 cG3 zG GP_6 GD_6 G_6 HB6
    have cG0 := G_7.out.cell 0 rfl
    have cG1 := G_7.out.cell 1 rfl
    have cG2 := G_7.out.cell 2 rfl
    have cG3 := G_7.out.cell 3 rfl
    have zG := G_7.out.2
    go_wp2_with fail
    refine ((show Calls _ _ _ _ (fun r w' => r = .returned (.bool true) ∧ Below _ _ w') from (by have q := goodFence_y [.int .i64 EP, .int .i64 DU, .slice p2_1 MS.length q2_1, .slice p2_2 EN.length q2_2] EP DU MS EN _ HGF.out GP_7.out.lies; exact q))).mono ?_
    rintro r w8 ⟨rfl, hb⟩
    have HB8 : Hid (Below w.heap.size w w8) := below_next HB7.out hb
    have sz8 : w7.heap.size ≤ w8.heap.size := hb.size
    have GP_8 : Hid (Own w8 shFence [.int .i64 EP, .int .i64 DU, .slice p2_1 MS.length q2_1, .slice p2_2 EN.length q2_2] (EP, DU, MS, EN, ()) S2a) := GP_7.out.next hb
    have GD_8 : Hid (Own w8 (.list .int) [.slice p2_d D.length q2_d] D S2b) := GD_7.out.next hb
    have G_8 : Hid (Bx w8 w2.heap.size [.int .i64 EP, .int .i64 DU, .slice p2_1 MS.length q2_1, .slice p2_2 EN.length q2_2]) := G_7.out.next hb
    clear hb cG0 cG1 cG2 cG3 zG GP_7 GD_7 G_7 HB7
    have cG0 := G_8.out.cell 0 rfl
    have cG1 := G_8.out.cell 1 rfl
    have cG2 := G_8.out.cell 2 rfl
    have cG3 := G_8.out.cell 3 rfl
    have zG := G_8.out.2
    go_wp2_with fail
    refine ((show Calls _ _ _ _ (fun r w' => r = .returned (.bool true) ∧ Below _ _ w') from (by have q := specGoodFence_n [.int .i64 EP, .int .i64 DU, .slice p2_1 MS.length q2_1, .slice p2_2 EN.length q2_2] EP DU MS EN _ HGZ.out GP_8.out.lies; rw [tf_yes HGF.out] at q; exact q))).mono ?_
    rintro r w9 ⟨rfl, hb⟩
    have HB9 : Hid (Below w.heap.size w w9) := below_next HB8.out hb
    have sz9 : w8.heap.size ≤ w9.heap.size := hb.size
    have GP_9 : Hid (Own w9 shFence [.int .i64 EP, .int .i64 DU, .slice p2_1 MS.length q2_1, .slice p2_2 EN.length q2_2] (EP, DU, MS, EN, ()) S2a) := GP_8.out.next hb
    have GD_9 : Hid (Own w9 (.list .int) [.slice p2_d D.length q2_d] D S2b) := GD_8.out.next hb
    have G_9 : Hid (Bx w9 w2.heap.size [.int .i64 EP, .int .i64 DU, .slice p2_1 MS.length q2_1, .slice p2_2 EN.length q2_2]) := G_8.out.next hb
    clear hb cG0 cG1 cG2 cG3 zG GP_8 GD_8 G_8 HB8
    have cG0 := G_9.out.cell 0 rfl
    have cG1 := G_9.out.cell 1 rfl
    have cG2 := G_9.out.cell 2 rfl
    have cG3 := G_9.out.cell 3 rfl
    have zG := G_9.out.2
    go_wp2_with fail
    clear cG0 cG1 cG2 cG3 zG
    go_loopw [80] (fun y wr => ∃ j : Nat, j ≤ MS.length ∧ y = .int .i64 (j : Int) ∧ Below w9.heap.size w9 wr) (fun y _ => MS.length - (intOf y).toNat)
    case atStart => exact ⟨0, Nat.zero_le _, rfl, Below.refl _ _⟩
    case round =>
      obtain ⟨j, hj, rfl, hBr⟩ := hrel
      obtain ⟨wo, hwo⟩ : ∃ x, x = wr := ⟨_, rfl⟩
      subst hwo
      have HBo := Hid.intro hBr
      clear hBr
      have G_q := Hid.intro (G_9.out.next HBo.out)
      have GP_q := Hid.intro (GP_9.out.next HBo.out)
      have GD_q := Hid.intro (GD_9.out.next HBo.out)
      by_cases hj1 : j < MS.length
      case pos =>
        have hj1' : (j : Int) < (MS.length : Int) := by omega
        obtain ⟨h1v, h2v, h3v, h4v, hev, hl1, hl2⟩ := lies_Fence GP_q.out.lies
        simp only [List.cons.injEq, Value.slice.injEq, and_true, true_and] at hev
        obtain ⟨⟨e1, e2⟩, e3, e4⟩ := hev
        subst e1 e2 e3 e4
        have HLV := Hid.intro hl1
        clear hl1 hl2
        have HRR : Hid (∀ i, i < (mru MS[j]).length → DU < atI (mru MS[j]) i) := Hid.intro ((good_runs HGF.out).1 j hj1)
        obtain ⟨xg, xoff, xgo, xgs, xec, xel, xhec, xle⟩ := Lies.elem (HLV.out) hj1
        subst xgo
        rcases xX : MS[j] with ⟨x0, x1, x2, x3, ⟨⟩⟩
        rw [xX] at xle
        have xH : Hid (MS[j] = (x0, x1, x2, x3, ())) := xX
        clear xX
        obtain ⟨xa1, xk1, xev, xq1⟩ := lies_Member xle
        subst xev
        have xc0 : wo.cell? ⟨xg, xoff + j * 4, none⟩ = some (.int .i64 x0) := xhec 0 (by simp)
        have xc1 : wo.cell? ⟨xg, xoff + j * 4 + 1, none⟩ = some (.int .i64 x1) := xhec 1 (by simp)
        have xc2 : wo.cell? ⟨xg, xoff + j * 4 + 2, none⟩ = some (.slice xa1 x2.length xk1) := xhec 2 (by simp)
        have xc3 : wo.cell? ⟨xg, xoff + j * 4 + 3, none⟩ = some (.int .i64 x3) := xhec 3 (by simp)
        clear xhec xel xle
        rw [xH.out] at HRR
        have HRR : Hid (∀ i, i < x2.length → DU < atI x2 i) := HRR
        have hx20 : x2.length ≤ 1000000 := by have h1 := (HGF.out.2.2.2.2.1 j hj1 hj1).1.2.2.1; rw [xH.out] at h1; have h1 : x2.length ≤ 20 := h1; omega
        have XQ := Hid.intro xq1
        clear xq1
        obtain ⟨wm, hwm⟩ : ∃ x, x = wo.alloc (.cells #[.int .i64 x0, .int .i64 x1, .slice xa1 x2.length xk1, .int .i64 x3] 37) := ⟨_, rfl⟩
        have hbm : Below wo.heap.size wo wm := hwm ▸ Go.Joins.below_alloc1 _ _
        have HMB : Hid (Bx wm wo.heap.size [.int .i64 x0, .int .i64 x1, .slice xa1 x2.length xk1, .int .i64 x3]) := hwm ▸ Bx.new wo [_, _, _, _] _
        have G_m := Hid.intro (G_q.out.next hbm)
        have XQ_m := Hid.intro (XQ.out.next hbm)
        have HBm := Hid.intro (below_next HBo.out hbm)
        clear hbm
        have q0 := G_m.out.cell 0 rfl
        have q1 := G_m.out.cell 1 rfl
        have q2 := G_m.out.cell 2 rfl
        have q3 := G_m.out.cell 3 rfl
        have qz := G_m.out.2
        have n2 := HMB.out.cell 2 rfl
        have nz := HMB.out.2
        go_upto_region 16 with fail
        rw [← hwm]
        clear hwm
        go_wp2_with fail
        go_loopw [87] (fun y wr => ∃ i : Nat, i ≤ x2.length ∧ y = .int .i64 (i : Int) ∧ wr = wm) (fun y _ => x2.length - (intOf y).toNat)
        case atStart => exact ⟨0, Nat.zero_le _, rfl, rfl⟩
        case round =>
          obtain ⟨i, hi, rfl, hwr⟩ := hrel
          subst hwr
          by_cases hi1 : i < x2.length
          case pos =>
            have hi1' : (i : Int) < (x2.length : Int) := by omega
            obtain ⟨gd, od, hgd, c0, hgz⟩ := lies_at XQ_m.out hi1
            subst hgd
            have hry := HRR.out i hi1
            generalize atI x2 i = y at c0 hry
            have hry' : ¬ y ≤ DU := by omega
            go_wp2
            go_roundw
            case rel => exact ⟨i + 1, by omega, by go_num, by first | trivial | rfl⟩
            case measure => simp [intOf]; omega
          case neg =>
            have hi1' : ¬ (i : Int) < (x2.length : Int) := by omega
            go_wp2
            go_roundw
            case rel => exact ⟨j + 1, by omega, by go_num, HBm.out⟩
            case measure => simp [intOf]; omega
      case neg =>
        have hj1' : ¬ ((j : Int) < (MS.length : Int)) := by omega
        have HE := Hid.intro (below_next HB9.out HBo.out)
        have HBB := HBo
        clear hj1 hj
        go_wp2
        go_loopw [17] (fun y wr => ∃ k : Nat, 1 ≤ k ∧ (k ≤ D.length ∨ k = 1) ∧ y = .int .i64 (k : Int) ∧ Below wo.heap.size wo wr) (fun y _ => D.length - (intOf y).toNat)
        case atStart => exact ⟨1, Nat.le_refl _, Or.inr rfl, rfl, Below.refl _ _⟩
        case round =>
          obtain ⟨k, hk0, hk, rfl, hBr⟩ := hrel
          have HBk := Hid.intro hBr
          clear hBr
          by_cases hk1 : k < D.length
          case pos =>
            have hk1' : (k : Int) < (D.length : Int) := by omega
            obtain ⟨kk, hkk⟩ : ∃ q : Nat, k = q + 1 := ⟨k - 1, by omega⟩
            subst hkk
            have GDk := Hid.intro (GD_q.out.next HBk.out)
            have hrr := HRI.out kk hk1
            obtain ⟨gd, od, hgd, c0, hgz⟩ := lies_at GDk.out.lies hk1
            obtain ⟨gd', od', hgd', c1, _⟩ := lies_at GDk.out.lies (show kk < D.length by omega)
            subst hgd
            cases hgd'
            have hbd := HBD.out kk (by omega)
            generalize atI D (kk + 1) = y1 at c0 hrr
            generalize atI D kk = y0 at c1 hrr hbd
            have hs1 : IntKind.i64.wrap (((kk + 1 : Nat) : Int) - 1) = (kk : Int) := w64f' (by omega) (by omega)
            have hs2 : IntKind.i64.wrap (y0 + 1) = y0 + 1 := w64f (by omega) (by omega)
            have t1 : ¬ y1 < y0 := by omega
            have t2 : ¬ y0 + 1 < y1 := by omega
            have t3 : decide (y1 < y0) = false := decide_eq_false t1
            go_upto_region 26 with fail
            go_quiet (fail)
            go_wp2
            go_roundw
            case rel => exact ⟨kk + 1 + 1, by omega, Or.inl (by omega), by go_num, below_dN HBk.out _⟩
            case measure => simp [intOf]; omega
          case neg =>
            have hk1' : ¬ ((k : Int) < (D.length : Int)) := by omega
            have HEE := Hid.intro (below_next HE.out HBk.out)
            go_wp2
            go_ret
            exact ⟨rfl, HEE.out⟩


theorem own : ownKnob Try.prog.godebug = none := by kernel_rfl
theorem laidOut : laidOutB Try.prog = true := by kernel_rfl

set_option maxRecDepth 100000 in
theorem lifted (os : Os) (started : os.Started) (H : Type) (enc : TypeId × Value → H) :
    ReturnsInHanded {} Try.checked os 3 .any (Rows.fnFenceSpec.pre6 enc Try.prog Try.f3 Rows.fnFenceRow.domain false) (Rows.fnFenceSpec.post enc Try.prog Try.f3 false true false false) := by
  refine returnsInHanded_of_change (C := Try.checked) own started (by kernel_rfl) Try.func3
    (ChangeSpec.witness6 (enc := enc) (C := Try.checked) false ⟨#[], #[.slice none 0 0], []⟩ 8 (by kernel_rfl) (by kernel_rfl) (by kernel_rfl) (by kernel_rfl)) ?_
  intro W base args ds gs before hval0 hW hcnd _
  have hval : ∀ (j : Nat) t v, Try.f3.params[j]? = some t → args[j]? = some v → Value.okWide Try.prog W .any base t v := hval0
  have hW' := hW
  obtain ⟨p, q, hA0, hV, rfl, hfz, hnd⟩ := hW
  have hA : DataW.TrodAll enc Try.prog W 0 (fun _ => true) true Try.f3.params.toList args.toList ds p := hA0
  rw [Try.params3] at hA hval
  obtain ⟨v0, vs0, d0, ds0, p0, q0, hargs, rfl, rfl, h0, r0⟩ := trodAll_cons hA
  obtain ⟨rfl, rfl, rfl⟩ := trodAll_nil r0
  obtain rfl : args = #[v0] := by cases args; simp_all
  obtain ⟨rfl, rfl⟩ := trodVars_none hV
  have k0 := h0
  have lt0 : ∀ x ∈ p0, x.block < W.heap.size := by obtain ⟨m, hm⟩ := k0; exact DataW.trod_lt m _ _ _ hm
  obtain ⟨a0, len0, cap0, rfl⟩ := okWide_slice Try.underlying22 (hval 0 22 v0 rfl rfl)
  obtain ⟨n0, X0, s0, b0⟩ := open_bytes h0
  clear hA0 hval0
  refine (walk (w := W) a0 len0 cap0 X0 n0 s0 b0).mono fun e W' ⟨he, bel⟩ => ?_
  subst he
  exact ⟨_, rfl, _, _, _, [], _, [], hW', trodAll_mk1 (shut_bool Try.underlying4 _), (trodAll_cons_mk (Below.trod laidOut (by kernel_rfl) (of_decide_eq_true (by kernel_rfl)) k0 bel lt0) trodAll_mk0), rfl, bel.frame _, fun h => by cases h⟩

set_option maxHeartbeats 40000000 in
theorem closed : joinedFacts Try.pinned.checked.prog 3 Try.f3 Rows.fnFenceSpec Rows.fnFenceRow = true := by
  unfold joinedFacts
  repeat' (first | (with_reducible refine both ?_ ?_) | (with_reducible exact may_enter') | (with_reducible refine lifts_eq ?_) | (with_reducible refine make_eq ?_) | as_aux_lemma => kernel_rfl)
theorem named : Try.pinned.checked.prog.funcNamed Rows.fnFenceRow.func = some 3 := by kernel_rfl
theorem over : Rows.fnFenceRow.holds Try.pinned (OpenSpec.ofChange Rows.fnFenceSpec) :=
  OpenClaim.holds_of_wide 3 Try.f3 rfl rfl rfl rfl rfl rfl rfl ⟨rfl, rfl, rfl, rfl, rfl⟩ rfl rfl rfl rfl rfl named Try.func3 closed
    (of_decide_eq_true (by as_aux_lemma => kernel_rfl)) (by unfold Func.isWrapper; first | (rw [if_pos (by decide +kernel)]; kernel_rfl) | (rw [if_neg (by decide +kernel)]; exact ⟨rfl, rfl⟩))
    (fun os started H enc _ => lifted os started H enc)

end Go.Proofs.Ytcbdlalpnlahcaa.fFence
namespace Go.Proofs.Ytcbdlalpnlahcaa
theorem fFence_holds : Rows.FnFenceSaid := fFence.over
#print axioms fFence_holds
end Go.Proofs.Ytcbdlalpnlahcaa
