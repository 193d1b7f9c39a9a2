/- eqCellS, markCellS and heldCellS at very many cells. -/
import Derived.Test.YtenfaofhoheleaaGreatMkCell
namespace Go.Proofs.YtenfaofhoheleaaGreat
open Go.RowKit
set_option linter.unusedVariables false

set_option maxHeartbeats 1000000 in
theorem eqCellS_wide (a a' : Option Addr) (n cap cap' : Nat) (V : Nat → CellV) (w : World) (hn : n ≤ 67108864) (hs : Sl w a n 2 (cellF V)) (hs' : Sl w a' n 2 (cellF V)) :
    Calls Tryz.prog 10 #[.slice a n cap, .slice a' n cap'] w fun r w' => r = .returned (.bool true) ∧ Below w.heap.size w w' := by
  go_enter Tryz.func10, Tryz.ntmps10
  go_wp2
  go_loopw [5] (fun i wr => ∃ k : Nat, k ≤ n ∧ i = .int .i64 k ∧ Below w.heap.size w wr) (fun i _ => n - (intOf i).toNat)
  case atStart => exact ⟨0, Nat.zero_le _, rfl, Below.refl _ _⟩
  case round =>
    obtain ⟨k, hk, rfl, hBr⟩ := hrel
    by_cases hlt : k < n
    · rcases hs.below hBr (Nat.le_refl _) with h | ⟨b, off, rfl, hbs, hE⟩
      · omega
      rcases hs'.below hBr (Nat.le_refl _) with h | ⟨b', off', rfl, hbs', hE'⟩
      · omega
      obtain ⟨c0, c1⟩ := cell_cells hE hlt
      obtain ⟨d0, d1⟩ := cell_cells hE' hlt
      have hlt' : (k : Int) < (n : Int) := by omega
      clear hs hs' hE hE'
      go_upto_region 6 with fail
      go_cut [26] (fun s26 wx => s26 = .bool false ∧ Below w.heap.size w wx)
      case first =>
        go_region_with (go_at_call 30; refine (eqCell_same (V k) _).mono ?_; rintro e w1 ⟨rfl, hb⟩)
        all_goals (go_wp2_with fail; go_meet; exact ⟨rfl, hBr.drew.trans (hb.mono hBr.size)⟩)
      case rest =>
        obtain ⟨rfl, hb2⟩ := hcut
        go_wp2
        go_roundw
        case rel => exact ⟨k + 1, by omega, by go_num, hb2⟩
        case measure => simp [intOf]; omega
    · have hkn : k = n := by omega
      subst hkn
      clear hs hs'
      go_wp2
      go_ret
      exact ⟨rfl, hBr⟩

set_option maxRecDepth 100000 in
set_option maxHeartbeats 4000000 in
theorem markCellS_wide (a : Option Addr) (n cap : Nat) (G : Nat → Nat → Value) (q : Int) (B C : Nat) (w : World) (hn : n ≤ 67108864) (h0 : 0 < q) (h1 : q ≤ 1000) (hs : SRow w B C a n 2 G) :
    Calls Tryz.prog 13 #[.slice a n cap, .int .i64 q] w fun r w' => r = .returned (.int .i64 (q + 2 * n)) ∧ SRow w' B C a n 2 (cellF (mkCell q)) ∧ TrR B C w w' := by
  rcases hs.1 with hz | ⟨g, rfl, hB, hC, hg, hE, hR⟩
  · subst hz
    have HC : Hid (C ≤ w.heap.size) := hs.2
    clear hs
    go_enter Tryz.func13, Tryz.ntmps13
    go_wp2
    go_loopw [5, 1] (fun i q' wr => i = .int .i64 0 ∧ q' = .int .i64 q ∧ wr = w) (fun _ _ _ => 0)
    case atStart => exact ⟨rfl, rfl, rfl⟩
    case round =>
      obtain ⟨rfl, rfl, rfl⟩ := hrel
      go_wp2
      go_ret
      exact ⟨by simp, ⟨Or.inl rfl, HC.out⟩, TrR.refl _ _ _⟩
  have HC : Hid (C ≤ w.heap.size) := hs.2
  clear hs hE
  go_enter Tryz.func13, Tryz.ntmps13
  go_wp2
  go_loopw [5, 1] (fun i q' wr => ∃ k : Nat, k ≤ n ∧ i = .int .i64 k ∧ q' = .int .i64 (q + 2 * k) ∧ Elems wr g 0 k 2 (cellF (mkCell q)) ∧ Room wr g (n * 2) ∧ g < wr.heap.size ∧ TrR B C w wr) (fun i _ _ => n - (intOf i).toNat)
  case atStart => exact ⟨0, Nat.zero_le _, rfl, by simp, fun i hi => absurd hi (by omega), hR, hg, TrR.refl _ _ _⟩
  case round =>
    obtain ⟨k, hk, rfl, rfl, hEr, hRr, hgr, ht⟩ := hrel
    clear hR hg
    by_cases hlt : k < n
    · have hlt' : (k : Int) < (n : Int) := by omega
      obtain ⟨y, hy⟩ : ∃ y, y = q + 2 * (k : Int) := ⟨_, rfl⟩
      rw [← hy]
      have hyb : 0 < y ∧ y ≤ 8796080000000 := by omega
      have HY : Hid (y = q + 2 * (k : Int)) := hy
      clear hy
      have P0 : Part wr g n 2 k 0 [.string (mtx y), .string (mtx (y + 1))] (cellF (mkCell q)) := Part.start hEr hRr hgr
      have t0 : TrR B C w wr := ht
      clear hEr hRr ht
      have HP : Hid (Part wr g n 2 k 0 [.string (mtx y), .string (mtx (y + 1))] (cellF (mkCell q)) ∧ TrR B C w wr) := ⟨P0, t0⟩
      clear P0 t0
      go_wp2_with fail
      refine (markText_any _ _ (by omega) (by omega)).mono ?_
      rintro r w2 ⟨rfl, hb2⟩
      have Q0 := HP.out.1.next hb2
      have u0 := HP.out.2.next hb2
      clear hb2 HP
      obtain ⟨⟨x0, r0⟩, f0⟩ := Q0.2.2.1 (k * 2) (by omega)
      have hg0 : g < w2.heap.size := Q0.2.2.2
      have P1 : Part (w2.setCell ⟨g, k * 2, none⟩ (.string (mtx y))) g n 2 k 1 [.string (mtx y), .string (mtx (y + 1))] (cellF (mkCell q)) := (Q0.set (v := .string (mtx y)) hlt (by omega) rfl)
      have t1 : TrR B C w (w2.setCell ⟨g, k * 2, none⟩ (.string (mtx y))) := (u0.set (p := ⟨g, k * 2, none⟩) hB hC (.string (mtx y)))
      clear Q0 u0
      have HP : Hid (Part (w2.setCell ⟨g, k * 2, none⟩ (.string (mtx y))) g n 2 k 1 [.string (mtx y), .string (mtx (y + 1))] (cellF (mkCell q)) ∧ TrR B C w (w2.setCell ⟨g, k * 2, none⟩ (.string (mtx y)))) := ⟨P1, t1⟩
      clear P1 t1
      go_wp2_with fail
      refine (markText_any _ _ (by omega) (by omega)).mono ?_
      rintro r w3 ⟨rfl, hb2⟩
      have Q1 := HP.out.1.next hb2
      have u1 := HP.out.2.next hb2
      clear hb2 HP r0 f0
      obtain ⟨⟨x1, r1⟩, f1⟩ := Q1.2.2.1 (k * 2 + 1) (by omega)
      have hg1 : g < w3.heap.size := Q1.2.2.2
      have HF : Hid (_ ∧ _) := ⟨(Q1.set (v := .string (mtx (y + 1))) hlt (by omega) rfl).done (mkCell_vs HY.out), (u1.set (p := ⟨g, k * 2 + 1, none⟩) hB hC (.string (mtx (y + 1))))⟩
      clear Q1 u1
      go_wp2
      go_roundw
      case rel => exact ⟨k + 1, by omega, by go_num, by have := HY.out; congr 1; omega, HF.out.1.1, HF.out.1.2.1, HF.out.1.2.2, HF.out.2⟩
      case measure => simp [intOf]; omega
    · have hkn : k = n := by omega
      subst hkn
      have HH : Hid (Elems wr g 0 k 2 (cellF (mkCell q)) ∧ Room wr g (k * 2) ∧ g < wr.heap.size ∧ TrR B C w wr) := ⟨hEr, hRr, hgr, ht⟩
      clear hEr hRr ht
      go_wp2
      go_ret
      exact ⟨rfl, ⟨Or.inr ⟨g, rfl, hB, hC, HH.out.2.2.1, HH.out.1, HH.out.2.1⟩, Nat.le_trans HC.out HH.out.2.2.2.size⟩, HH.out.2.2.2⟩

set_option maxRecDepth 100000 in
set_option maxHeartbeats 4000000 in
theorem heldCellS_wide (a : Option Addr) (n cap : Nat) (q : Int) (w : World) (hn : n ≤ 67108864) (h0 : 0 < q) (h1 : q ≤ 1000) (hs : Sl w a n 2 (cellF (mkCell q))) :
    Calls Tryz.prog 14 #[.slice a n cap, .int .i64 q] w fun r w' => r = .returned (.int .i64 (q + 2 * n)) ∧ Below w.heap.size w w' := by
  have HS : Hid (Sl w a n 2 (cellF (mkCell q))) := hs
  clear hs
  go_enter Tryz.func14, Tryz.ntmps14
  go_wp2
  go_loopw [5, 1] (fun i q' wr => ∃ k : Nat, k ≤ n ∧ i = .int .i64 k ∧ q' = .int .i64 (q + 2 * k) ∧ Below w.heap.size w wr) (fun i _ _ => n - (intOf i).toNat)
  case atStart => exact ⟨0, Nat.zero_le _, rfl, by simp, Below.refl _ _⟩
  case round =>
    obtain ⟨k, hk, rfl, rfl, hBr⟩ := hrel
    by_cases hlt : k < n
    · rcases HS.out.below hBr (Nat.le_refl _) with h | ⟨b, off, rfl, hbs, hE⟩
      · omega
      have hlt' : (k : Int) < (n : Int) := by omega
      obtain ⟨y, hy⟩ : ∃ y, y = q + 2 * (k : Int) := ⟨_, rfl⟩
      rw [← hy]
      have hyb : 0 < y ∧ y ≤ 8796080000000 := by omega
      have HY : Hid (y = q + 2 * (k : Int)) := hy
      clear hy
      have HE : Hid (Below w.heap.size w wr) := hBr
      have hz : w.heap.size ≤ wr.heap.size := hBr.size
      obtain ⟨c0, c1⟩ := mkCell_cells hE hlt HY.out
      clear hE hBr
      go_upto_region 4 with fail
      go_cut [19] (fun s19 wx => s19 = .bool false ∧ Below wr.heap.size wr wx)
      case first =>
        go_region_with (go_at_call 37; refine (markText_any _ _ (by omega) (by omega)).mono ?_; rintro e w1 ⟨rfl, hb⟩; have d2 := (hb.cell (p := ⟨b, off + k * 2, none⟩) hbs).trans c0)
        all_goals (go_wp2_with fail; go_meet; exact ⟨rfl, (Below.refl _ _).drew.trans hb⟩)
      case rest =>
        obtain ⟨rfl, hb2⟩ := hcut
        obtain ⟨v1, hv⟩ : ∃ x, x = wc := ⟨wc, rfl⟩
        subst hv
        have HE1 : Hid (Below w.heap.size w v1) := HE.out.trans (hb2.mono hz)
        replace c1 := (hb2.cell (p := ⟨b, off + k * 2 + 1, none⟩) hbs).trans c1
        replace hbs := Nat.lt_of_lt_of_le hbs hb2.size
        replace hz := Nat.le_trans hz hb2.size
        clear hb2 c0 HE
        go_upto_region 7 with fail
        go_cut [29] (fun s29 wx => s29 = .bool false ∧ Below v1.heap.size v1 wx)
        case first =>
          go_region_with (go_at_call 37; refine (markText_any _ _ (by omega) (by omega)).mono ?_; rintro e w1 ⟨rfl, hb⟩; have d2 := (hb.cell (p := ⟨b, off + k * 2 + 1, none⟩) hbs).trans c1)
          all_goals (go_wp2_with fail; go_meet; exact ⟨rfl, (Below.refl _ _).drew.trans hb⟩)
        case rest =>
          obtain ⟨rfl, hb2⟩ := hcut
          obtain ⟨v2, hv⟩ : ∃ x, x = wc := ⟨wc, rfl⟩
          subst hv
          have HE2 : Hid (Below w.heap.size w v2) := HE1.out.trans (hb2.mono hz)
          replace hbs := Nat.lt_of_lt_of_le hbs hb2.size
          replace hz := Nat.le_trans hz hb2.size
          clear hb2 c1 HE1
          go_wp2
          go_roundw
          case rel => exact ⟨k + 1, by omega, by go_num, by have := HY.out; congr 1; omega, HE2.out⟩
          case measure => simp [intOf]; omega
    · have hkn : k = n := by omega
      subst hkn
      go_wp2
      go_ret
      exact ⟨rfl, hBr⟩
end Go.Proofs.YtenfaofhoheleaaGreat
