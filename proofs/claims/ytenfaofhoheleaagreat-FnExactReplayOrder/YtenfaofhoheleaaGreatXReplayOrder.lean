/- At every store and number impl.ReplayOrder answers as the specification does, writes into no argument, and its answer owns its memory, behind another call too. No condition. -/
import Derived.Test.YtenfaofhoheleaaGreatRo
import Derived.Test.YtenfaofhoheleaaGreatMkCell
import Derived.Test.YtenfaofhoheleaaGreatMkStore
import Derived.Test.YtenfaofhoheleaaGreatWords
import Derived.ProofKit
import Derived.OpenShut
import Derived.ShutString
import Derived.ChangeOld
import Derived.Below
import Derived.Lib.SmallJoins
namespace Go.Proofs.YtenfaofhoheleaaGreat
open Go.RowKit
set_option linter.unusedVariables false

set_option maxHeartbeats 1000000 in
theorem eqCellS_wide (a a' : Option Addr) (n cap cap' : Nat) (V : Nat → CellV) (w : World) (hn : n ≤ 67108864) (hs : Sl w a n 2 (cellF V)) (hs' : Sl w a' n 2 (cellF V)) :
    Calls Tryz.prog 10 #[.slice a n cap, .slice a' n cap'] w fun r w' => r = .returned (.bool true) ∧ Below w.heap.size w w' := by
  go_enter Tryz.func10, Tryz.ntmps10
  go_wp2
  go_loopw [5] (fun i wr => ∃ k : Nat, k ≤ n ∧ i = .int .i64 k ∧ Below w.heap.size w wr) (fun i _ => n - (intOf i).toNat)
  case atStart => exact ⟨0, Nat.zero_le _, rfl, Below.refl _ _⟩
  case round =>
    obtain ⟨k, hk, rfl, hBr⟩ := hrel
    by_cases hlt : k < n
    · rcases hs.below hBr (Nat.le_refl _) with h | ⟨b, off, rfl, hbs, hE⟩
      · omega
      rcases hs'.below hBr (Nat.le_refl _) with h | ⟨b', off', rfl, hbs', hE'⟩
      · omega
      obtain ⟨c0, c1⟩ := cell_cells hE hlt
      obtain ⟨d0, d1⟩ := cell_cells hE' hlt
      have hlt' : (k : Int) < (n : Int) := by omega
      clear hs hs' hE hE'
      go_upto_region 6 with fail
      go_cut [26] (fun s26 wx => s26 = .bool false ∧ Below w.heap.size w wx)
      case first =>
        go_region_with (go_at_call 30; refine (eqCell_same (V k) _).mono ?_; rintro e w1 ⟨rfl, hb⟩)
        all_goals (go_wp2_with fail; go_meet; exact ⟨rfl, hBr.drew.trans (hb.mono hBr.size)⟩)
      case rest =>
        obtain ⟨rfl, hb2⟩ := hcut
        go_wp2
        go_roundw
        case rel => exact ⟨k + 1, by omega, by go_num, hb2⟩
        case measure => simp [intOf]; omega
    · have hkn : k = n := by omega
      subst hkn
      clear hs hs'
      go_wp2
      go_ret
      exact ⟨rfl, hBr⟩

set_option maxRecDepth 100000 in
set_option maxHeartbeats 4000000 in
theorem markCellS_wide (a : Option Addr) (n cap : Nat) (G : Nat → Nat → Value) (q : Int) (B C : Nat) (w : World) (hn : n ≤ 67108864) (h0 : 0 < q) (h1 : q ≤ 1000) (hs : SRow w B C a n 2 G) :
    Calls Tryz.prog 13 #[.slice a n cap, .int .i64 q] w fun r w' => r = .returned (.int .i64 (q + 2 * n)) ∧ SRow w' B C a n 2 (cellF (mkCell q)) ∧ TrR B C w w' := by
  rcases hs.1 with hz | ⟨g, rfl, hB, hC, hg, hE, hR⟩
  · subst hz
    have HC : Hid (C ≤ w.heap.size) := hs.2
    clear hs
    go_enter Tryz.func13, Tryz.ntmps13
    go_wp2
    go_loopw [5, 1] (fun i q' wr => i = .int .i64 0 ∧ q' = .int .i64 q ∧ wr = w) (fun _ _ _ => 0)
    case atStart => exact ⟨rfl, rfl, rfl⟩
    case round =>
      obtain ⟨rfl, rfl, rfl⟩ := hrel
      go_wp2
      go_ret
      exact ⟨by simp, ⟨Or.inl rfl, HC.out⟩, TrR.refl _ _ _⟩
  have HC : Hid (C ≤ w.heap.size) := hs.2
  clear hs hE
  go_enter Tryz.func13, Tryz.ntmps13
  go_wp2
  go_loopw [5, 1] (fun i q' wr => ∃ k : Nat, k ≤ n ∧ i = .int .i64 k ∧ q' = .int .i64 (q + 2 * k) ∧ Elems wr g 0 k 2 (cellF (mkCell q)) ∧ Room wr g (n * 2) ∧ g < wr.heap.size ∧ TrR B C w wr) (fun i _ _ => n - (intOf i).toNat)
  case atStart => exact ⟨0, Nat.zero_le _, rfl, by simp, fun i hi => absurd hi (by omega), hR, hg, TrR.refl _ _ _⟩
  case round =>
    obtain ⟨k, hk, rfl, rfl, hEr, hRr, hgr, ht⟩ := hrel
    clear hR hg
    by_cases hlt : k < n
    · have hlt' : (k : Int) < (n : Int) := by omega
      obtain ⟨y, hy⟩ : ∃ y, y = q + 2 * (k : Int) := ⟨_, rfl⟩
      rw [← hy]
      have hyb : 0 < y ∧ y ≤ 8796080000000 := by omega
      have HY : Hid (y = q + 2 * (k : Int)) := hy
      clear hy
      have P0 : Part wr g n 2 k 0 [.string (mtx y), .string (mtx (y + 1))] (cellF (mkCell q)) := Part.start hEr hRr hgr
      have t0 : TrR B C w wr := ht
      clear hEr hRr ht
      have HP : Hid (Part wr g n 2 k 0 [.string (mtx y), .string (mtx (y + 1))] (cellF (mkCell q)) ∧ TrR B C w wr) := ⟨P0, t0⟩
      clear P0 t0
      go_wp2_with fail
      refine (markText_any _ _ (by omega) (by omega)).mono ?_
      rintro r w2 ⟨rfl, hb2⟩
      have Q0 := HP.out.1.next hb2
      have u0 := HP.out.2.next hb2
      clear hb2 HP
      obtain ⟨⟨x0, r0⟩, f0⟩ := Q0.2.2.1 (k * 2) (by omega)
      have hg0 : g < w2.heap.size := Q0.2.2.2
      have P1 : Part (w2.setCell ⟨g, k * 2, none⟩ (.string (mtx y))) g n 2 k 1 [.string (mtx y), .string (mtx (y + 1))] (cellF (mkCell q)) := (Q0.set (v := .string (mtx y)) hlt (by omega) rfl)
      have t1 : TrR B C w (w2.setCell ⟨g, k * 2, none⟩ (.string (mtx y))) := (u0.set (p := ⟨g, k * 2, none⟩) hB hC (.string (mtx y)))
      clear Q0 u0
      have HP : Hid (Part (w2.setCell ⟨g, k * 2, none⟩ (.string (mtx y))) g n 2 k 1 [.string (mtx y), .string (mtx (y + 1))] (cellF (mkCell q)) ∧ TrR B C w (w2.setCell ⟨g, k * 2, none⟩ (.string (mtx y)))) := ⟨P1, t1⟩
      clear P1 t1
      go_wp2_with fail
      refine (markText_any _ _ (by omega) (by omega)).mono ?_
      rintro r w3 ⟨rfl, hb2⟩
      have Q1 := HP.out.1.next hb2
      have u1 := HP.out.2.next hb2
      clear hb2 HP r0 f0
      obtain ⟨⟨x1, r1⟩, f1⟩ := Q1.2.2.1 (k * 2 + 1) (by omega)
      have hg1 : g < w3.heap.size := Q1.2.2.2
      have HF : Hid (_ ∧ _) := ⟨(Q1.set (v := .string (mtx (y + 1))) hlt (by omega) rfl).done (mkCell_vs HY.out), (u1.set (p := ⟨g, k * 2 + 1, none⟩) hB hC (.string (mtx (y + 1))))⟩
      clear Q1 u1
      go_wp2
      go_roundw
      case rel => exact ⟨k + 1, by omega, by go_num, by have := HY.out; congr 1; omega, HF.out.1.1, HF.out.1.2.1, HF.out.1.2.2, HF.out.2⟩
      case measure => simp [intOf]; omega
    · have hkn : k = n := by omega
      subst hkn
      have HH : Hid (Elems wr g 0 k 2 (cellF (mkCell q)) ∧ Room wr g (k * 2) ∧ g < wr.heap.size ∧ TrR B C w wr) := ⟨hEr, hRr, hgr, ht⟩
      clear hEr hRr ht
      go_wp2
      go_ret
      exact ⟨rfl, ⟨Or.inr ⟨g, rfl, hB, hC, HH.out.2.2.1, HH.out.1, HH.out.2.1⟩, Nat.le_trans HC.out HH.out.2.2.2.size⟩, HH.out.2.2.2⟩

set_option maxRecDepth 100000 in
set_option maxHeartbeats 4000000 in
theorem heldCellS_wide (a : Option Addr) (n cap : Nat) (q : Int) (w : World) (hn : n ≤ 67108864) (h0 : 0 < q) (h1 : q ≤ 1000) (hs : Sl w a n 2 (cellF (mkCell q))) :
    Calls Tryz.prog 14 #[.slice a n cap, .int .i64 q] w fun r w' => r = .returned (.int .i64 (q + 2 * n)) ∧ Below w.heap.size w w' := by
  have HS : Hid (Sl w a n 2 (cellF (mkCell q))) := hs
  clear hs
  go_enter Tryz.func14, Tryz.ntmps14
  go_wp2
  go_loopw [5, 1] (fun i q' wr => ∃ k : Nat, k ≤ n ∧ i = .int .i64 k ∧ q' = .int .i64 (q + 2 * k) ∧ Below w.heap.size w wr) (fun i _ _ => n - (intOf i).toNat)
  case atStart => exact ⟨0, Nat.zero_le _, rfl, by simp, Below.refl _ _⟩
  case round =>
    obtain ⟨k, hk, rfl, rfl, hBr⟩ := hrel
    by_cases hlt : k < n
    · rcases HS.out.below hBr (Nat.le_refl _) with h | ⟨b, off, rfl, hbs, hE⟩
      · omega
      have hlt' : (k : Int) < (n : Int) := by omega
      obtain ⟨y, hy⟩ : ∃ y, y = q + 2 * (k : Int) := ⟨_, rfl⟩
      rw [← hy]
      have hyb : 0 < y ∧ y ≤ 8796080000000 := by omega
      have HY : Hid (y = q + 2 * (k : Int)) := hy
      clear hy
      have HE : Hid (Below w.heap.size w wr) := hBr
      have hz : w.heap.size ≤ wr.heap.size := hBr.size
      obtain ⟨c0, c1⟩ := mkCell_cells hE hlt HY.out
      clear hE hBr
      go_upto_region 4 with fail
      go_cut [19] (fun s19 wx => s19 = .bool false ∧ Below wr.heap.size wr wx)
      case first =>
        go_region_with (go_at_call 37; refine (markText_any _ _ (by omega) (by omega)).mono ?_; rintro e w1 ⟨rfl, hb⟩; have d2 := (hb.cell (p := ⟨b, off + k * 2, none⟩) hbs).trans c0)
        all_goals (go_wp2_with fail; go_meet; exact ⟨rfl, (Below.refl _ _).drew.trans hb⟩)
      case rest =>
        obtain ⟨rfl, hb2⟩ := hcut
        obtain ⟨v1, hv⟩ : ∃ x, x = wc := ⟨wc, rfl⟩
        subst hv
        have HE1 : Hid (Below w.heap.size w v1) := HE.out.trans (hb2.mono hz)
        replace c1 := (hb2.cell (p := ⟨b, off + k * 2 + 1, none⟩) hbs).trans c1
        replace hbs := Nat.lt_of_lt_of_le hbs hb2.size
        replace hz := Nat.le_trans hz hb2.size
        clear hb2 c0 HE
        go_upto_region 7 with fail
        go_cut [29] (fun s29 wx => s29 = .bool false ∧ Below v1.heap.size v1 wx)
        case first =>
          go_region_with (go_at_call 37; refine (markText_any _ _ (by omega) (by omega)).mono ?_; rintro e w1 ⟨rfl, hb⟩; have d2 := (hb.cell (p := ⟨b, off + k * 2 + 1, none⟩) hbs).trans c1)
          all_goals (go_wp2_with fail; go_meet; exact ⟨rfl, (Below.refl _ _).drew.trans hb⟩)
        case rest =>
          obtain ⟨rfl, hb2⟩ := hcut
          obtain ⟨v2, hv⟩ : ∃ x, x = wc := ⟨wc, rfl⟩
          subst hv
          have HE2 : Hid (Below w.heap.size w v2) := HE1.out.trans (hb2.mono hz)
          replace hbs := Nat.lt_of_lt_of_le hbs hb2.size
          replace hz := Nat.le_trans hz hb2.size
          clear hb2 c1 HE1
          go_wp2
          go_roundw
          case rel => exact ⟨k + 1, by omega, by go_num, by have := HY.out; congr 1; omega, HE2.out⟩
          case measure => simp [intOf]; omega
    · have hkn : k = n := by omega
      subst hkn
      go_wp2
      go_ret
      exact ⟨rfl, hBr⟩
end Go.Proofs.YtenfaofhoheleaaGreat
namespace Go.Proofs.YtenfaofhoheleaaGreat.xReplayOrder
open Go.ChangeShapes Go.WideShapes Go.ChangeAt Go.RowKit
open Go.ChangeMaps (open_string shut_string)
set_option linter.unusedVariables false

set_option maxRecDepth 100000 in
set_option maxHeartbeats 8000000 in
theorem walk (A : StA) (V : StV) (w : World) (hz : StLen V) (hs : StAt w A V) (many : Int) (wm : (Lit.int .i64 many).wf = true) :
    Calls Tryz.prog 4 #[.agg #[.int .i64 V.ep, .slice A.ra V.rn A.rc, .slice A.ta V.tn A.tc, .slice A.oa V.on A.oc], .int .i64 many] w fun r w' => r = .returned (.bool true) ∧ Below w.heap.size w w' := by
  have HS : Hid (StAt w A V ∧ StLen V) := ⟨hs, hz⟩
  clear hs hz
  have H0 : Hid (Bx (w.alloc (.cells #[.int .i64 V.ep, .slice A.ra V.rn A.rc, .slice A.ta V.tn A.tc, .slice A.oa V.on A.oc] 26)) w.heap.size [.int .i64 V.ep, .slice A.ra V.rn A.rc, .slice A.ta V.tn A.tc, .slice A.oa V.on A.oc] ∧ Below w.heap.size w (w.alloc (.cells #[.int .i64 V.ep, .slice A.ra V.rn A.rc, .slice A.ta V.tn A.tc, .slice A.oa V.on A.oc] 26))) := ⟨Bx.new w [.int .i64 V.ep, .slice A.ra V.rn A.rc, .slice A.ta V.tn A.tc, .slice A.oa V.on A.oc] _, Go.Joins.below_alloc1 _ _⟩
  have hal : (w.alloc (.cells #[.int .i64 V.ep, .slice A.ra V.rn A.rc, .slice A.ta V.tn A.tc, .slice A.oa V.on A.oc] 26)).heap.size = w.heap.size + 1 := by simp
  go_enter Tryz.func4, Tryz.ntmps4
  go_wp2_with fail
  refine (szStore_any A V _ _ HS.out.2 (HS.out.1.next H0.out.2) (by omega) (by omega)).mono ?_
  rintro r w1 ⟨l, rfl, hl1, hl2, hb⟩
  obtain ⟨t, ht⟩ : ∃ t, t = w.heap.size := ⟨_, rfl⟩
  have H1 : Hid (Bx w1 t [.int .i64 V.ep, .slice A.ra V.rn A.rc, .slice A.ta V.tn A.tc, .slice A.oa V.on A.oc] ∧ Below w.heap.size w w1) := ⟨by rw [ht]; exact H0.out.1.next hb, below_next' H0.out.2 hb⟩
  have z1 : t < w1.heap.size := H1.out.1.2
  clear hb H0 hal
  have htw : w.heap.size = t := ht.symm
  rw [← ht]
  clear ht
  by_cases hneg : l < 0
  · go_wp2
    go_ret
    exact ⟨rfl, H1.out.2⟩
  have HK : Hid (StOk V) := hl2 (by omega)
  obtain ⟨L, hL⟩ : ∃ L, L = roL V many := ⟨_, rfl⟩
  have hLn : L.length ≤ 67108864 := by rw [hL]; exact Nat.le_trans (roL_len many (fun q hq => (HK.out.2.1.2 q hq).2)) (by omega)
  have HC : Hid (∀ (A' : StA) (W : World), StAt W A' V → Calls Tryz.prog 15 #[.agg #[.int .i64 V.ep, .slice A'.ra V.rn A'.rc, .slice A'.ta V.tn A'.tc, .slice A'.oa V.on A'.oc], .int .i64 many] W fun r W' => MapPost L (roB V many) W r W') := fun A' W h => by rw [hL]; exact specReplayOrder_any A' V many W HS.out.2 HK.out h
  have HI : Hid (∀ (A' : StA) (W : World), StAt W A' V → Calls Tryz.prog 16 #[.agg #[.int .i64 V.ep, .slice A'.ra V.rn A'.rc, .slice A'.ta V.tn A'.tc, .slice A'.oa V.on A'.oc], .int .i64 many] W fun r W' => MapPost L (roB V many) W r W') := fun A' W h => by rw [hL]; exact replayOrder_any A' V many W HS.out.2 HK.out h
  clear hl2 hL
  generalize roB V many = gv at *
  have c0 := H1.out.1.cell 0 rfl
  have c1 := H1.out.1.cell 1 rfl
  have c2 := H1.out.1.cell 2 rfl
  have c3 := H1.out.1.cell 3 rfl
  have cz := H1.out.1.2
  go_wp2_with fail
  refine (toStore_any A V _ HK.out (HS.out.1.next H1.out.2)).mono ?_
  rintro r w2 ⟨A2, rfl, hi, hb⟩
  have H2 : Hid (Bx w2 t [.int .i64 V.ep, .slice A.ra V.rn A.rc, .slice A.ta V.tn A.tc, .slice A.oa V.on A.oc] ∧ StAt w2 A2 V ∧ Below w.heap.size w w2) := ⟨H1.out.1.next hb, hi.at, below_next' H1.out.2 hb⟩
  have z2 : w1.heap.size ≤ w2.heap.size := hb.size
  clear hb hi H1 c0 c1 c2 c3 cz
  go_wp2_with fail
  refine (HC.out A2 _ H2.out.2.1).mono ?_
  rintro r w3 ⟨⟨a3, cap3, rfl, hrow⟩, hb⟩
  obtain ⟨B3, hB3⟩ : ∃ B3, B3 = w2.heap.size := ⟨_, rfl⟩
  obtain ⟨C3, hC3⟩ : ∃ C3, C3 = w3.heap.size := ⟨_, rfl⟩
  have z3 : w2.heap.size ≤ w3.heap.size := hb.size
  have H3 : Hid (Bx w3 t [.int .i64 V.ep, .slice A.ra V.rn A.rc, .slice A.ta V.tn A.tc, .slice A.oa V.on A.oc] ∧ SRow w3 B3 C3 a3 L.length 2 (cellF (cV L)) ∧ Below w.heap.size w w3) := ⟨H2.out.1.next hb, by rw [hB3, hC3]; exact hrow, below_next' H2.out.2.2 hb⟩
  clear hb hrow H2 HC
  have c0 := H3.out.1.cell 0 rfl
  have c1 := H3.out.1.cell 1 rfl
  have c2 := H3.out.1.cell 2 rfl
  have c3 := H3.out.1.cell 3 rfl
  have cz := H3.out.1.2
  go_wp2_with fail
  refine (toStore_any A V _ HK.out (HS.out.1.next H3.out.2.2)).mono ?_
  rintro r w4 ⟨A4, rfl, hi, hb⟩
  have z4 : w3.heap.size ≤ w4.heap.size := hb.size
  obtain ⟨w5, hw5⟩ : ∃ w5, w5 = w4.alloc (.cells #[.int .i64 V.ep, .slice A4.ra V.rn A4.rc, .slice A4.ta V.tn A4.tc, .slice A4.oa V.on A4.oc] 34) := ⟨_, rfl⟩
  obtain ⟨u, hu⟩ : ∃ u, u = w4.heap.size := ⟨_, rfl⟩
  have z5 : w5.heap.size = u + 1 := by rw [hw5, hu]; simp
  have H5 : Hid (Bx w5 t [.int .i64 V.ep, .slice A.ra V.rn A.rc, .slice A.ta V.tn A.tc, .slice A.oa V.on A.oc] ∧ SRow w5 B3 C3 a3 L.length 2 (cellF (cV L)) ∧ Bx w5 u [.int .i64 V.ep, .slice A4.ra V.rn A4.rc, .slice A4.ta V.tn A4.tc, .slice A4.oa V.on A4.oc] ∧ StIn w5 C3 u A4 V ∧ Below w.heap.size w w5) := by
    rw [hw5, hu, hC3]
    have := H3.out.2.1
    rw [hC3] at this
    exact ⟨(H3.out.1.next hb).alloc _, (this.next hb).next (Go.Joins.below_alloc1 _ _), Bx.new w4 [.int .i64 V.ep, .slice A4.ra V.rn A4.rc, .slice A4.ta V.tn A4.tc, .slice A4.oa V.on A4.oc] _, hi.next (Go.Joins.below_alloc1 _ _), below_next' (below_next' H3.out.2.2 hb) (Go.Joins.below_alloc1 _ _)⟩
  clear hb hi H3 c0 c1 c2 c3 cz
  go_wp2_with fail
  rw [← hw5, ← hu]
  clear hw5
  refine (HI.out A4 _ H5.out.2.2.2.1.at).mono ?_
  rintro r w6 ⟨⟨a6, cap6, rfl, hrow⟩, hb⟩
  obtain ⟨B6, hB6⟩ : ∃ B6, B6 = w5.heap.size := ⟨_, rfl⟩
  obtain ⟨C6, hC6⟩ : ∃ C6, C6 = w6.heap.size := ⟨_, rfl⟩
  have z6 : w5.heap.size ≤ w6.heap.size := hb.size
  have H6 : Hid (Bx w6 t [.int .i64 V.ep, .slice A.ra V.rn A.rc, .slice A.ta V.tn A.tc, .slice A.oa V.on A.oc] ∧ SRow w6 B3 C3 a3 L.length 2 (cellF (cV L)) ∧ Bx w6 u [.int .i64 V.ep, .slice A4.ra V.rn A4.rc, .slice A4.ta V.tn A4.tc, .slice A4.oa V.on A4.oc] ∧ StIn w6 C3 u A4 V ∧ SRow w6 B6 C6 a6 L.length 2 (cellF (cV L)) ∧ Below w.heap.size w w6) := ⟨H5.out.1.next hb, H5.out.2.1.next hb, H5.out.2.2.1.next hb, H5.out.2.2.2.1.next hb, by rw [hB6, hC6]; exact hrow, below_next' H5.out.2.2.2.2 hb⟩
  clear hb hrow H5
  have o1 : t < B3 := by omega
  have o2 : B3 ≤ C3 := by omega
  have o3 : C3 ≤ u := by omega
  have o4 : u < B6 := by omega
  have o5 : B6 ≤ C6 := by omega
  clear hB3 hC3 hu hB6 hC6 z1 z2 z3 z4 z5 z6
  go_wp2_with fail
  refine (eqCellS_wide _ _ _ _ _ (cV L) _ hLn H6.out.2.2.2.2.1.sl H6.out.2.1.sl).mono ?_
  rintro r w7 ⟨rfl, hb⟩
  have hbd : Below w6.heap.size w6 w7.drew := hb.drew
  have H7 : Hid (Bx w7.drew t [.int .i64 V.ep, .slice A.ra V.rn A.rc, .slice A.ta V.tn A.tc, .slice A.oa V.on A.oc] ∧ SRow w7.drew B3 C3 a3 L.length 2 (cellF (cV L)) ∧ Bx w7.drew u [.int .i64 V.ep, .slice A4.ra V.rn A4.rc, .slice A4.ta V.tn A4.tc, .slice A4.oa V.on A4.oc] ∧ StIn w7.drew C3 u A4 V ∧ SRow w7.drew B6 C6 a6 L.length 2 (cellF (cV L)) ∧ Below w.heap.size w w7.drew) := ⟨H6.out.1.next hbd, H6.out.2.1.next hbd, H6.out.2.2.1.next hbd, H6.out.2.2.2.1.next hbd, H6.out.2.2.2.2.1.next hbd, below_next' H6.out.2.2.2.2.2 hbd⟩
  clear hb hbd H6
  cases gv
  all_goals
    go_upto_region 10 with fail
    refine wp_region_noPanic ?_
    refine wp_region_held_drew (S := fun W => Bx W t [.int .i64 V.ep, .slice A.ra V.rn A.rc, .slice A.ta V.tn A.tc, .slice A.oa V.on A.oc] ∧ Bx W u [.int .i64 V.ep, .slice A4.ra V.rn A4.rc, .slice A4.ta V.tn A4.tc, .slice A4.oa V.on A4.oc]) (by kernel_rfl) ⟨H7.out.1, H7.out.2.2.1⟩ (fun hHeld => ?_)
    refine take_v (v := ?_) 0 ⟨some 45, Op.load 34 (Operand.tmp 8), _, _, _, none⟩ rfl (fun _ _ _ h => h) ?_ hHeld ?_
    rotate_left
    · (intro W hSW; (have s0 := hSW.1.cell 0 rfl; have s1 := hSW.1.cell 1 rfl; have s2 := hSW.1.cell 2 rfl; have s3 := hSW.1.cell 3 rfl; have s4 := hSW.2.cell 0 rfl; have s5 := hSW.2.cell 1 rfl; have s6 := hSW.2.cell 2 rfl; have s7 := hSW.2.cell 3 rfl; have s8 := hSW.1.2; have s9 := hSW.2.2); go_simp <;> (try with_reducible rfl))
    refine take_v (v := ?_) 1 ⟨some 46, Op.load 26 (Operand.tmp 2), _, _, _, none⟩ rfl (fun _ _ _ h => h) ?_ hHeld ?_
    rotate_left
    · (intro W hSW; (have s0 := hSW.1.cell 0 rfl; have s1 := hSW.1.cell 1 rfl; have s2 := hSW.1.cell 2 rfl; have s3 := hSW.1.cell 3 rfl; have s4 := hSW.2.cell 0 rfl; have s5 := hSW.2.cell 1 rfl; have s6 := hSW.2.cell 2 rfl; have s7 := hSW.2.cell 3 rfl; have s8 := hSW.1.2; have s9 := hSW.2.2); go_simp <;> (try with_reducible rfl))
    refine ready_call 2 ⟨some 47, Op.call { callee := Callee.value (Operand.func 8), args := #[Operand.tmp 46], argTypes := #[26] }, _, _, _, none⟩ (by kernel_rfl) rfl (by kernel_rfl) (fun KC hK => ?_)
    go_wp2_with fail
    refine (toStore_any A V _ HK.out (HS.out.1.next H7.out.2.2.2.2.2)).mono ?_
    rintro r w8 ⟨A8, rfl, hi, hb⟩
    have H8 : Hid (Bx w8 t [.int .i64 V.ep, .slice A.ra V.rn A.rc, .slice A.ta V.tn A.tc, .slice A.oa V.on A.oc] ∧ SRow w8 B3 C3 a3 L.length 2 (cellF (cV L)) ∧ Bx w8 u [.int .i64 V.ep, .slice A4.ra V.rn A4.rc, .slice A4.ta V.tn A4.tc, .slice A4.oa V.on A4.oc] ∧ StIn w8 C3 u A4 V ∧ SRow w8 B6 C6 a6 L.length 2 (cellF (cV L)) ∧ Below w.heap.size w w8 ∧ StAt w8 A8 V) := ⟨H7.out.1.next hb, H7.out.2.1.next hb, H7.out.2.2.1.next hb, H7.out.2.2.2.1.next hb, H7.out.2.2.2.2.1.next hb, below_next' H7.out.2.2.2.2.2 hb, hi.at⟩
    clear hb hi
    refine hK.out _ _ ⟨H8.out.1, H8.out.2.2.1⟩ (fun hHeld => ?_)
    clear hK KC
    refine ready_call 3 ⟨some 48, Op.call { callee := Callee.value (Operand.func 11), args := #[Operand.tmp 45, Operand.tmp 47], argTypes := #[34, 34] }, _, _, _, none⟩ (by kernel_rfl) rfl (by kernel_rfl) (fun KC hK => ?_)
    go_wp2_with fail
    refine (eqStore_same A4 A8 V _ HK.out H8.out.2.2.2.1.at H8.out.2.2.2.2.2.2).mono ?_
    rintro r w9 ⟨rfl, hb⟩
    have H9 : Hid (Bx w9 t [.int .i64 V.ep, .slice A.ra V.rn A.rc, .slice A.ta V.tn A.tc, .slice A.oa V.on A.oc] ∧ SRow w9 B3 C3 a3 L.length 2 (cellF (cV L)) ∧ Bx w9 u [.int .i64 V.ep, .slice A4.ra V.rn A4.rc, .slice A4.ta V.tn A4.tc, .slice A4.oa V.on A4.oc] ∧ StIn w9 C3 u A4 V ∧ SRow w9 B6 C6 a6 L.length 2 (cellF (cV L)) ∧ Below w.heap.size w w9) := ⟨H8.out.1.next hb, H8.out.2.1.next hb, H8.out.2.2.1.next hb, H8.out.2.2.2.1.next hb, H8.out.2.2.2.2.1.next hb, below_next' H8.out.2.2.2.2.2.1 hb⟩
    clear hb
    refine hK.out _ _ ⟨H9.out.1, H9.out.2.2.1⟩ (fun hHeld => ?_)
    clear hK KC
    refine take_v (v := ?_) 4 ⟨some 49, Op.unOp UnOp.not 4 (Operand.tmp 48), _, _, _, none⟩ rfl (fun _ _ _ h => h) ?_ hHeld ?_
    rotate_left
    · (intro W _; go_simp <;> (try with_reducible rfl))
    refine wpAnyH_done (by kernel_rfl) ?_ _
    refine NoPanic.normal ?_
    clear H7 H8 hHeld
    have c0 := H9.out.2.2.1.cell 0 rfl
    have c1 := H9.out.2.2.1.cell 1 rfl
    have c2 := H9.out.2.2.1.cell 2 rfl
    have c3 := H9.out.2.2.1.cell 3 rfl
    have cz := H9.out.2.2.1.2
    go_wp2_with fail
    refine (markStore_in A4 V C3 u _ HK.out H9.out.2.2.2.1).mono ?_
    rintro r wA ⟨qA, rfl, hqA, htA⟩
    have HA : Hid (Bx wA t [.int .i64 V.ep, .slice A.ra V.rn A.rc, .slice A.ta V.tn A.tc, .slice A.oa V.on A.oc] ∧ SRow wA B3 C3 a3 L.length 2 (cellF (cV L)) ∧ SRow wA B6 C6 a6 L.length 2 (cellF (cV L)) ∧ Below w.heap.size w wA) := ⟨H9.out.1.trn htA (by omega), H9.out.2.1.trn htA (by omega), H9.out.2.2.2.2.1.trn htA (by omega), below_trn H9.out.2.2.2.2.2 htA (by omega)⟩
    clear htA H9 c0 c1 c2 c3 cz
    have hqA' : ¬ qA < 0 := by omega
    go_wp2_with fail
    refine (eqCellS_wide _ _ _ _ _ (cV L) _ hLn HA.out.2.2.1.sl HA.out.2.1.sl).mono ?_
    rintro r wB ⟨rfl, hb⟩
    have HB : Hid (Bx wB t [.int .i64 V.ep, .slice A.ra V.rn A.rc, .slice A.ta V.tn A.tc, .slice A.oa V.on A.oc] ∧ SRow wB B3 C3 a3 L.length 2 (cellF (cV L)) ∧ SRow wB B6 C6 a6 L.length 2 (cellF (cV L)) ∧ Below w.heap.size w wB) := ⟨HA.out.1.next hb, HA.out.2.1.next hb, HA.out.2.2.1.next hb, below_next' HA.out.2.2.2 hb⟩
    clear hb HA
    go_wp2_with fail
    refine (markCellS_wide _ _ _ _ 1 B6 C6 _ hLn (by omega) (by omega) HB.out.2.2.1).mono ?_
    rintro r wC ⟨rfl, hrow, htC⟩
    have HC : Hid (Bx wC t [.int .i64 V.ep, .slice A.ra V.rn A.rc, .slice A.ta V.tn A.tc, .slice A.oa V.on A.oc] ∧ SRow wC B3 C3 a3 L.length 2 (cellF (cV L)) ∧ SRow wC B6 C6 a6 L.length 2 (cellF (mkCell 1)) ∧ Below w.heap.size w wC) := ⟨HB.out.1.trn htC.1 (by omega), HB.out.2.1.trn htC.1 (by omega), hrow, below_trn HB.out.2.2.2 htC.1 (by omega)⟩
    clear htC hrow HB
    go_wp2_with fail
    refine (heldCellS_wide _ _ _ 1 _ hLn (by omega) (by omega) HC.out.2.2.1.sl).mono ?_
    rintro r wD ⟨rfl, hb⟩
    have HD : Hid (Bx wD t [.int .i64 V.ep, .slice A.ra V.rn A.rc, .slice A.ta V.tn A.tc, .slice A.oa V.on A.oc] ∧ SRow wD B3 C3 a3 L.length 2 (cellF (cV L)) ∧ SRow wD B6 C6 a6 L.length 2 (cellF (mkCell 1)) ∧ Below w.heap.size w wD) := ⟨HC.out.1.next hb, HC.out.2.1.next hb, HC.out.2.2.1.next hb, below_next' HC.out.2.2.2 hb⟩
    clear hb HC
    obtain ⟨mm, hmm⟩ : ∃ mm, mm = 1 + 2 * (L.length : Int) := ⟨_, rfl⟩
    have hmb : 0 < mm := by omega
    rw [← hmm]
    have c0 := HD.out.1.cell 0 rfl
    have c1 := HD.out.1.cell 1 rfl
    have c2 := HD.out.1.cell 2 rfl
    have c3 := HD.out.1.cell 3 rfl
    have cz := HD.out.1.2
    have hmb' : ¬ mm < 0 := by omega
    have HM : Hid (1 + 2 * (L.length : Int) = mm) := hmm.symm
    clear hmm
    go_wp2_with fail
    refine (toStore_any A V _ HK.out (HS.out.1.next HD.out.2.2.2)).mono ?_
    rintro r wE ⟨AE, rfl, hi, hb⟩
    have HE : Hid (SRow wE B3 C3 a3 L.length 2 (cellF (cV L)) ∧ SRow wE B6 C6 a6 L.length 2 (cellF (mkCell 1)) ∧ Below w.heap.size w wE ∧ StAt wE AE V) := ⟨HD.out.2.1.next hb, HD.out.2.2.1.next hb, below_next' HD.out.2.2.2 hb, hi.at⟩
    clear hb hi HD c0 c1 c2 c3 cz
    go_wp2_with fail
    refine (HI.out AE _ HE.out.2.2.2).mono ?_
    rintro r wF ⟨⟨aF, capF, rfl, hrow⟩, hb⟩
    have HF : Hid (SRow wF B3 C3 a3 L.length 2 (cellF (cV L)) ∧ SRow wF B6 C6 a6 L.length 2 (cellF (mkCell 1)) ∧ Below w.heap.size w wF ∧ Sl wF aF L.length 2 (cellF (cV L))) := ⟨HE.out.1.next hb, HE.out.2.1.next hb, below_next' HE.out.2.2.1 hb, hrow.sl⟩
    clear hb hrow HE
    go_wp2_with fail
    refine (eqCellS_wide _ _ _ _ _ (cV L) _ hLn HF.out.2.2.2 HF.out.1.sl).mono ?_
    rintro r wG ⟨rfl, hb⟩
    have HG : Hid (SRow wG B6 C6 a6 L.length 2 (cellF (mkCell 1)) ∧ Below w.heap.size w wG) := ⟨HF.out.2.1.next hb, below_next' HF.out.2.2.1 hb⟩
    clear hb HF
    go_wp2_with fail
    refine (heldCellS_wide _ _ _ 1 _ hLn (by omega) (by omega) HG.out.1.sl).mono ?_
    rintro r wH ⟨rfl, hb⟩
    have HH : Hid (Below w.heap.size w wH) := below_next' HG.out.2 hb
    clear hb HG
    rw [HM.out]
    go_wp2
    go_ret
    exact ⟨rfl, HH.out⟩


theorem own : ownKnob Tryz.prog.godebug = none := by kernel_rfl
theorem laidOut : laidOutB Tryz.prog = true := by kernel_rfl

set_option maxRecDepth 100000 in
theorem lifted (os : Os) (started : os.Started) (H : Type) (enc : TypeId × Value → H) :
    ReturnsInHanded {} Tryz.checked os 4 .any (Rows.fnExactReplayOrderSpec.pre6 enc Tryz.prog Tryz.f4 Rows.fnExactReplayOrderRow.domain false) (Rows.fnExactReplayOrderSpec.post enc Tryz.prog Tryz.f4 false true false false) := by
  refine returnsInHanded_of_change (C := Tryz.checked) own started (by kernel_rfl) Tryz.func4
    (ChangeSpec.witness6 (enc := enc) (C := Tryz.checked) false ⟨#[], #[.agg #[.int .i64 0, .slice none 0 0, .slice none 0 0, .slice none 0 0], .int .i64 0], []⟩ 8 (by kernel_rfl) (by kernel_rfl) (by kernel_rfl) (by kernel_rfl)) ?_
  intro W base args ds gs before hval0 hW hcnd _
  have hval : ∀ (j : Nat) t v, Tryz.f4.params[j]? = some t → args[j]? = some v → Value.okWide Tryz.prog W .any base t v := hval0
  have hW' := hW
  obtain ⟨p, q, hA0, hV, rfl, hfz, hnd⟩ := hW
  have hA : DataW.TrodAll enc Tryz.prog W 0 (fun _ => true) true Tryz.f4.params.toList args.toList ds p := hA0
  rw [Tryz.params4] at hA hval
  obtain ⟨v0, vs0, d0, ds0, p0, q0, hargs, rfl, rfl, h0, r0⟩ := trodAll_cons hA
  obtain ⟨v1, vs1, d1, ds1, p1, q1, rfl, rfl, rfl, h1, r1⟩ := trodAll_cons r0
  obtain ⟨rfl, rfl, rfl⟩ := trodAll_nil r1
  obtain rfl : args = #[v0, v1] := by cases args; simp_all
  obtain ⟨rfl, rfl⟩ := trodVars_none hV
  have k0 := h0
  have lt0 : ∀ x ∈ p0, x.block < W.heap.size := by obtain ⟨m, hm⟩ := k0; exact DataW.trod_lt m _ _ _ hm
  obtain ⟨A0, V0, rfl, n0, s0⟩ := open_store (hval 0 26 v0 rfl rfl) h0
  have k1 := h1
  have lt1 : ∀ x ∈ p1, x.block < W.heap.size := by obtain ⟨m, hm⟩ := k1; exact DataW.trod_lt m _ _ _ hm
  obtain ⟨a1, rfl, rfl, rfl, w1⟩ := open_int Tryz.underlying3 (hval 1 3 v1 rfl rfl) h1
  clear hA0 hval0
  refine (walk (w := W) A0 V0 n0 s0 a1 w1).mono fun e W' ⟨he, bel⟩ => ?_
  subst he
  exact ⟨_, rfl, _, _, _, [], _, [], hW', trodAll_mk1 (shut_bool Tryz.underlying4 _), (trodAll_cons_mk (Below.trod laidOut (by kernel_rfl) (of_decide_eq_true (by kernel_rfl)) k0 bel lt0) (trodAll_cons_mk (Below.trod laidOut (by kernel_rfl) (of_decide_eq_true (by kernel_rfl)) k1 bel lt1) trodAll_mk0)), rfl, bel.frame _, fun h => by cases h⟩

set_option maxHeartbeats 40000000 in
theorem closed : joinedFacts Tryz.pinned.checked.prog 4 Tryz.f4 Rows.fnExactReplayOrderSpec Rows.fnExactReplayOrderRow = true := by
  unfold joinedFacts
  repeat' (first | (with_reducible refine both ?_ ?_) | (with_reducible exact may_enter') | (with_reducible refine lifts_eq ?_) | (with_reducible refine make_eq ?_) | as_aux_lemma => kernel_rfl)
theorem named : Tryz.pinned.checked.prog.funcNamed Rows.fnExactReplayOrderRow.func = some 4 := by kernel_rfl
theorem over : Rows.fnExactReplayOrderRow.holds Tryz.pinned (OpenSpec.ofChange Rows.fnExactReplayOrderSpec) :=
  OpenClaim.holds_of_wide 4 Tryz.f4 rfl rfl rfl rfl rfl rfl rfl ⟨rfl, rfl, rfl, rfl, rfl⟩ rfl rfl rfl rfl rfl named Tryz.func4 closed
    (of_decide_eq_true (by as_aux_lemma => kernel_rfl)) (by unfold Func.isWrapper; first | (rw [if_pos (by decide +kernel)]; kernel_rfl) | (rw [if_neg (by decide +kernel)]; exact ⟨rfl, rfl⟩))
    (fun os started H enc _ => lifted os started H enc)

end Go.Proofs.YtenfaofhoheleaaGreat.xReplayOrder
namespace Go.Proofs.YtenfaofhoheleaaGreat
theorem xReplayOrder_holds : Rows.FnExactReplayOrderSaid := xReplayOrder.over
#print axioms xReplayOrder_holds
end Go.Proofs.YtenfaofhoheleaaGreat
