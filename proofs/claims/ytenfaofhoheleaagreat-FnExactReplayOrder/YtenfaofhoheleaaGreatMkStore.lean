/- The law's own markRunningS, markIntS, markStore at a store that it made. -/
import Derived.Test.YtenfaofhoheleaaGreatMkRecord
import Derived.Test.YtenfaofhoheleaaGreatMkLook
import Derived.Test.YtenfaofhoheleaaGreatMkCell
import Derived.Test.YtenfaofhoheleaaGreatStT
namespace Go.Proofs.YtenfaofhoheleaaGreat
open Go.RowKit
set_option linter.unusedVariables false

set_option maxHeartbeats 1000000 in
theorem markIntS_any (a : Option Addr) (n cap : Nat) (X : Nat → Int) (q : Int) (B C : Nat) (w : World) (hn : n ≤ 1048576) (h0 : 0 ≤ q) (h1 : q ≤ 8796000000000) (hs : IntS w B C a n X) :
    Calls Tryz.prog 36 #[.slice a n cap, .int .i64 q] w fun r w' => r = .returned (.int .i64 (q + n)) ∧ IntS w' B C a n (fun i => q + i) ∧ Turned B C w w' := by
  go_enter Tryz.func36, Tryz.ntmps36
  go_wp2
  go_loopw [5, 1] (fun i q' wr => ∃ k : Nat, k ≤ n ∧ i = .int .i64 k ∧ q' = .int .i64 (q + k) ∧ IntS wr B C a n (fun i => if i < k then q + i else X i) ∧ Turned B C w wr) (fun i _ _ => n - (intOf i).toNat)
  case atStart => exact ⟨0, Nat.zero_le _, rfl, by simp, hs.congr (fun i _ => by simp), Turned.refl _ _ _⟩
  case round =>
    obtain ⟨k, hk, rfl, rfl, hi, ht⟩ := hrel
    by_cases hlt : k < n
    · rcases hi with h | ⟨g, rfl, hB, hC, hg, hx⟩
      · omega
      have hc := (hx k hlt).1
      have hf := (hx k hlt).2
      have hlt' : (k : Int) < (n : Int) := by omega
      have HH : Hid (IntS wr B C (some ⟨g, 0, none⟩) n (fun i => if i < k then q + i else X i) ∧ Turned B C w wr) := ⟨Or.inr ⟨g, rfl, hB, hC, hg, hx⟩, ht⟩
      clear hx ht hs
      go_wp2
      go_roundw
      case rel =>
        refine ⟨k + 1, by omega, by go_num, by go_num, (HH.out.1.set hlt).congr (fun i hi => ?_), HH.out.2.set hB hC _⟩
        by_cases e : i = k
        · subst e; simp
        · by_cases e2 : i < k
          · rw [if_neg e, if_pos e2, if_pos (by omega)]
          · rw [if_neg e, if_neg e2, if_neg (by omega)]
      case measure => simp [intOf]; omega
    · have hkn : k = n := by omega
      subst hkn
      have HH : Hid (IntS wr B C a k (fun i => q + i) ∧ Turned B C w wr) := ⟨hi.congr (fun i h => by simp [h]), ht⟩
      clear hi ht hs
      go_wp2
      go_ret
      exact ⟨rfl, HH.out⟩


/-- Block g holds n of them; it and their lists may be written. -/
def RuM (w : World) (g C n : Nat) (V : Nat → RuV) (A : Nat → RuA) : Prop :=
  Room w g (n * 7) ∧ g < w.heap.size ∧ C ≤ w.heap.size ∧ g < C ∧ (∀ i, i < n → w.cell? ⟨g, i * 7 + 2, none⟩ = some (.slice (A i).la (V i).ln (A i).lc) ∧ w.cell? ⟨g, i * 7 + 3, none⟩ = some (.slice (A i).ca (V i).cn (A i).cc)) ∧
  ∀ i, i < n → ∃ g1 g2 : Nat, A i = ⟨some ⟨g1, 0, none⟩, (V i).ln, some ⟨g2, 0, none⟩, (V i).cn⟩ ∧ (g < g1 ∧ g1 < C) ∧ (g < g2 ∧ g2 < C) ∧ Room w g1 ((V i).ln * 5) ∧ Room w g2 ((V i).cn * 2)
theorem RuR.rum {w : World} {B C g n : Nat} {V : Nat → RuV} {A : Nat → RuA} (h : RuR w B C g n V A) : RuM w g C n V A := by
  obtain ⟨⟨h1, h2, h3, h4⟩, h5, h6⟩ := h
  refine ⟨h2, by omega, h6, h4, fun i hi => ?_, fun i hi => ?_⟩
  · obtain ⟨_, _, c2, c3, _⟩ := ru_cells h1 hi
    rw [Nat.zero_add] at c2 c3
    exact ⟨c2, c3⟩
  · obtain ⟨g1, g2, e, q1, q2, q3, q4⟩ := h5 i hi
    exact ⟨g1, g2, e, ⟨by omega, q1.2⟩, ⟨by omega, q2.2⟩, q3.2.1, q4.2.1⟩
def RunMPost (g C n : Nat) (q : Int) (w : World) (r : Ending) (w' : World) : Prop := ∃ q' : Int, r = .returned (.int .i64 q') ∧ (q ≤ q' ∧ q' ≤ q + 7340037 * (n : Int)) ∧ TrR g C w w'
set_option maxRecDepth 100000 in
set_option maxHeartbeats 4000000 in
theorem markRunningS_in (g C n cap : Nat) (V : Nat → RuV) (A : Nat → RuA) (q : Int) (w : World) (hn : n ≤ 1048576) (hz : ∀ i, i < n → RuOk (V i)) (h0 : 0 < q) (h1 : q ≤ 8388608) (hs : RuM w g C n V A) :
    Calls Tryz.prog 35 #[.slice (some ⟨g, 0, none⟩) n cap, .int .i64 q] w fun r w' => RunMPost g C n q w r w' := by
  have HS : Hid (RuM w g C n V A ∧ ∀ i, i < n → RuOk (V i)) := ⟨hs, hz⟩
  have hgC : g < C := hs.2.2.2.1
  clear hs hz
  go_enter Tryz.func35, Tryz.ntmps35
  go_wp2
  go_loopw [5, 1] (fun i q' wr => ∃ (k : Nat) (y : Int), k ≤ n ∧ i = .int .i64 k ∧ q' = .int .i64 y ∧ (q ≤ y ∧ y ≤ q + 7340037 * (k : Int)) ∧ (∀ i, k ≤ i → i < n → wr.cell? ⟨g, i * 7 + 2, none⟩ = some (.slice (A i).la (V i).ln (A i).lc) ∧ wr.cell? ⟨g, i * 7 + 3, none⟩ = some (.slice (A i).ca (V i).cn (A i).cc)) ∧ TrR g C w wr) (fun i _ _ => n - (intOf i).toNat)
  case atStart => exact ⟨0, q, Nat.zero_le _, rfl, rfl, by omega, fun i _ hi => HS.out.1.2.2.2.2.1 i hi, TrR.refl _ _ _⟩
  case round =>
    obtain ⟨k, y, hk, rfl, rfl, hyq, hhd, ht⟩ := hrel
    by_cases hlt : k < n
    · have hlt' : (k : Int) < (n : Int) := by omega
      have hyb : 0 < y ∧ y ≤ 7705000000000 := by omega
      obtain ⟨g1, g2, hA, hg1, hg2, hR1, hR2⟩ := HS.out.1.2.2.2.2.2 k hlt
      have hok := HS.out.2 k hlt
      have hgw : g < w.heap.size := HS.out.1.2.1
      have hCw : C ≤ w.heap.size := HS.out.1.2.2.1
      have hw : w.heap.size ≤ wr.heap.size := ht.size
      have hRr : Room wr g (n * 7) := ht.2 g _ hgw HS.out.1.1
      obtain ⟨⟨x0, r0⟩, f0⟩ := hRr (k * 7) (by omega)
      obtain ⟨⟨x1, r1⟩, f1⟩ := hRr (k * 7 + 1) (by omega)
      have c2 := (hhd k (Nat.le_refl _) hlt).1
      have c3 := (hhd k (Nat.le_refl _) hlt).2
      rw [hA] at c2 c3
      simp only at c2 c3
      have hgr : g < wr.heap.size := by omega
      have H1 : Hid (TrR g C w ((wr.setCell ⟨g, k * 7, none⟩ (.int .i64 y)).setCell ⟨g, k * 7 + 1, none⟩ (.int .i64 (y + 1))) ∧ (((wr.setCell ⟨g, k * 7, none⟩ (.int .i64 y)).setCell ⟨g, k * 7 + 1, none⟩ (.int .i64 (y + 1)))).cell? ⟨g, k * 7 + 3, none⟩ = some (.slice (some ⟨g2, 0, none⟩) (V k).cn (V k).cn) ∧ (∀ i, k + 1 ≤ i → i < n → (((wr.setCell ⟨g, k * 7, none⟩ (.int .i64 y)).setCell ⟨g, k * 7 + 1, none⟩ (.int .i64 (y + 1)))).cell? ⟨g, i * 7 + 2, none⟩ = some (.slice (A i).la (V i).ln (A i).lc) ∧ (((wr.setCell ⟨g, k * 7, none⟩ (.int .i64 y)).setCell ⟨g, k * 7 + 1, none⟩ (.int .i64 (y + 1)))).cell? ⟨g, i * 7 + 3, none⟩ = some (.slice (A i).ca (V i).cn (A i).cc)) ∧ (((wr.setCell ⟨g, k * 7, none⟩ (.int .i64 y)).setCell ⟨g, k * 7 + 1, none⟩ (.int .i64 (y + 1)))).heap.size = wr.heap.size) := by
        refine ⟨(ht.set (p := ⟨g, k * 7, none⟩) (Nat.le_refl _) hgC _).set (p := ⟨g, k * 7 + 1, none⟩) (Nat.le_refl _) hgC _, ?_, fun i h1 h2 => ⟨?_, ?_⟩, by simp⟩
        · rw [World.cell?_setCell_other _ _ _ _ (addr_ne (by omega)), World.cell?_setCell_other _ _ _ _ (addr_ne (by omega))]; exact c3
        · rw [World.cell?_setCell_other _ _ _ _ (addr_ne (by omega)), World.cell?_setCell_other _ _ _ _ (addr_ne (by omega))]; exact (hhd i (by omega) h2).1
        · rw [World.cell?_setCell_other _ _ _ _ (addr_ne (by omega)), World.cell?_setCell_other _ _ _ _ (addr_ne (by omega))]; exact (hhd i (by omega) h2).2
      have e2 : (((wr.setCell ⟨g, k * 7, none⟩ (.int .i64 y)).setCell ⟨g, k * 7 + 1, none⟩ (.int .i64 (y + 1)))).cell? ⟨g, k * 7 + 2, none⟩ = some (.slice (some ⟨g1, 0, none⟩) (V k).ln (V k).ln) := by
        rw [World.cell?_setCell_other _ _ _ _ (addr_ne (by omega)), World.cell?_setCell_other _ _ _ _ (addr_ne (by omega))]; exact c2
      obtain ⟨F1, hF1⟩ := SRow.ofRoom (c := 5) (H1.out.1.2 g1 _ (by omega) hR1) (by rw [H1.out.2.2.2]; omega)
      have HF1 := (show Hid (SRow _ _ _ _ _ _ _) from hF1)
      have HR : Hid (Room w g1 ((V k).ln * 5) ∧ Room w g2 ((V k).cn * 2)) := ⟨hR1, hR2⟩
      clear hhd ht hRr c2 c3 hA hF1 hR1 hR2
      go_wp2_with fail
      refine (markLookS_row _ _ _ F1 _ g1 (g1 + 1) _ hok.1 (by omega) (by omega) HF1.out).mono ?_
      rintro r w2 ⟨rfl, _, ht2⟩
      obtain ⟨y2, hy2⟩ : ∃ y2, y2 = y + 1 + 1 + 5 * ((V k).ln : Int) := ⟨_, rfl⟩
      rw [← hy2]
      have hln := hok.1
      have hcn := hok.2
      have hy2b : y + 2 ≤ y2 ∧ y2 ≤ y + 5242882 := by omega
      have H2 : Hid (TrR g C w w2 ∧ (∀ i, k + 1 ≤ i → i < n → w2.cell? ⟨g, i * 7 + 2, none⟩ = some (.slice (A i).la (V i).ln (A i).lc) ∧ w2.cell? ⟨g, i * 7 + 3, none⟩ = some (.slice (A i).ca (V i).cn (A i).cc))) := by
        have hs1 := H1.out.2.2.2
        refine ⟨H1.out.1.trans (ht2.wide (by omega) (by omega)), fun i h1 h2 => ?_⟩
        rw [ht2.cell (by omega) (by omega), ht2.cell (by omega) (by omega)]
        exact H1.out.2.2.1 i h1 h2
      have e3 : w2.cell? ⟨g, k * 7 + 3, none⟩ = some (.slice (some ⟨g2, 0, none⟩) (V k).cn (V k).cn) := by
        have hs1 := H1.out.2.2.2
        rw [ht2.cell (by omega) (by omega)]; exact H1.out.2.1
      have hz2 : w.heap.size ≤ w2.heap.size := H2.out.1.size
      have hg2w : g < w2.heap.size := by omega
      obtain ⟨F2, hF2⟩ := SRow.ofRoom (c := 2) (H2.out.1.2 g2 _ (by omega) HR.out.2) (by omega)
      have HF2 := (show Hid (SRow _ _ _ _ _ _ _) from hF2)
      clear ht2 H1 e2 HF1 hF2 r0 r1 f0 f1 hy2
      go_wp2_with fail
      refine (markCellS_row _ _ _ F2 _ g2 (g2 + 1) _ hok.2 (by omega) (by omega) HF2.out).mono ?_
      rintro r w3 ⟨rfl, _, ht3⟩
      obtain ⟨y3, hy3⟩ : ∃ y3, y3 = y2 + 2 * ((V k).cn : Int) := ⟨_, rfl⟩
      rw [← hy3]
      have hy3b : y2 ≤ y3 ∧ y3 ≤ y2 + 2097152 := by omega
      have H3 : Hid (TrR g C w w3 ∧ (∀ i, k + 1 ≤ i → i < n → w3.cell? ⟨g, i * 7 + 2, none⟩ = some (.slice (A i).la (V i).ln (A i).lc) ∧ w3.cell? ⟨g, i * 7 + 3, none⟩ = some (.slice (A i).ca (V i).cn (A i).cc))) := by
        refine ⟨H2.out.1.trans (ht3.wide (by omega) (by omega)), fun i h1 h2 => ?_⟩
        rw [ht3.cell (by omega) (by omega), ht3.cell (by omega) (by omega)]
        exact H2.out.2 i h1 h2
      have hRr : Room w3 g (n * 7) := H3.out.1.2 g _ hgw HS.out.1.1
      obtain ⟨⟨x4, r4⟩, f4⟩ := hRr (k * 7 + 4) (by omega)
      obtain ⟨⟨x5, r5⟩, f5⟩ := hRr (k * 7 + 5) (by omega)
      obtain ⟨⟨x6, r6⟩, f6⟩ := hRr (k * 7 + 6) (by omega)
      have hz3 : w.heap.size ≤ w3.heap.size := H3.out.1.size
      have hg3w : g < w3.heap.size := by omega
      have HF : Hid (_ ∧ _) := ⟨((H3.out.1.set (p := ⟨g, k * 7 + 4, none⟩) (Nat.le_refl _) hgC (.int .i64 y3)).set (p := ⟨g, k * 7 + 5, none⟩) (Nat.le_refl _) hgC (.int .i64 (y3 + 1))).set (p := ⟨g, k * 7 + 6, none⟩) (Nat.le_refl _) hgC (.bool ((y3 + 1 + 1) % 3 == 0)), (fun i (h1 : k + 1 ≤ i) (h2 : i < n) => (⟨by rw [World.cell?_setCell_other _ _ _ _ (addr_ne (by omega)), World.cell?_setCell_other _ _ _ _ (addr_ne (by omega)), World.cell?_setCell_other _ _ _ _ (addr_ne (by omega))]; exact (H3.out.2 i h1 h2).1, by rw [World.cell?_setCell_other _ _ _ _ (addr_ne (by omega)), World.cell?_setCell_other _ _ _ _ (addr_ne (by omega)), World.cell?_setCell_other _ _ _ _ (addr_ne (by omega))]; exact (H3.out.2 i h1 h2).2⟩ : (((w3.setCell ⟨g, k * 7 + 4, none⟩ (.int .i64 y3)).setCell ⟨g, k * 7 + 5, none⟩ (.int .i64 (y3 + 1))).setCell ⟨g, k * 7 + 6, none⟩ (.bool ((y3 + 1 + 1) % 3 == 0))).cell? ⟨g, i * 7 + 2, none⟩ = some (.slice (A i).la (V i).ln (A i).lc) ∧ (((w3.setCell ⟨g, k * 7 + 4, none⟩ (.int .i64 y3)).setCell ⟨g, k * 7 + 5, none⟩ (.int .i64 (y3 + 1))).setCell ⟨g, k * 7 + 6, none⟩ (.bool ((y3 + 1 + 1) % 3 == 0))).cell? ⟨g, i * 7 + 3, none⟩ = some (.slice (A i).ca (V i).cn (A i).cc)))⟩
      clear ht3 H2 H3 e3 HF2 hRr HR hy3
      go_wp2
      go_roundw
      case rel => exact ⟨k + 1, y3 + 1 + 1 + 1, by omega, by go_num, rfl, by omega, HF.out.2, HF.out.1⟩
      case measure => simp [intOf]; omega
    · have hkn : k = n := by omega
      subst hkn
      have HT : Hid (TrR g C w wr) := ht
      clear hhd ht
      go_wp2
      go_ret
      exact ⟨y, rfl, hyq, HT.out⟩

def StMPost (B C : Nat) (w : World) (r : Ending) (w' : World) : Prop := ∃ q : Int, r = .returned (.int .i64 q) ∧ 0 < q ∧ Trn B C w w'
set_option maxRecDepth 100000 in
set_option maxHeartbeats 4000000 in
theorem markStore_at (g1 g2 g3 : Nat) (U : Nat → RuA) (V : StV) (B C : Nat) (w : World) (hz : StOk V) (hg : B ≤ g1 ∧ g1 < g2 ∧ g2 < g3 ∧ g3 < C) (hR : RecordR w g1 V.rn V.R) (hU : RuR w g2 g3 g2 V.tn V.T U) (hI : IntS w g3 (g3 + 1) (some ⟨g3, 0, none⟩) V.on V.O) (hC : C ≤ w.heap.size) :
    Calls Tryz.prog 12 #[.agg #[.int .i64 V.ep, .slice (some ⟨g1, 0, none⟩) V.rn V.rn, .slice (some ⟨g2, 0, none⟩) V.tn V.tn, .slice (some ⟨g3, 0, none⟩) V.on V.on], .int .i64 1] w fun r w' => StMPost B C w r w' := by
  have hrn := hz.1
  have htn := hz.2.1.1
  have hon := hz.2.2
  have HZ : Hid (∀ i, i < V.tn → RuOk (V.T i)) := hz.2.1.2
  have H0 : Hid (Bx (w.alloc (.cells #[.int .i64 V.ep, .slice (some ⟨g1, 0, none⟩) V.rn V.rn, .slice (some ⟨g2, 0, none⟩) V.tn V.tn, .slice (some ⟨g3, 0, none⟩) V.on V.on] 34)) w.heap.size [.int .i64 V.ep, .slice (some ⟨g1, 0, none⟩) V.rn V.rn, .slice (some ⟨g2, 0, none⟩) V.tn V.tn, .slice (some ⟨g3, 0, none⟩) V.on V.on] ∧ RecordR (w.alloc (.cells #[.int .i64 V.ep, .slice (some ⟨g1, 0, none⟩) V.rn V.rn, .slice (some ⟨g2, 0, none⟩) V.tn V.tn, .slice (some ⟨g3, 0, none⟩) V.on V.on] 34)) g1 V.rn V.R ∧ RuR (w.alloc (.cells #[.int .i64 V.ep, .slice (some ⟨g1, 0, none⟩) V.rn V.rn, .slice (some ⟨g2, 0, none⟩) V.tn V.tn, .slice (some ⟨g3, 0, none⟩) V.on V.on] 34)) g2 g3 g2 V.tn V.T U ∧ IntS (w.alloc (.cells #[.int .i64 V.ep, .slice (some ⟨g1, 0, none⟩) V.rn V.rn, .slice (some ⟨g2, 0, none⟩) V.tn V.tn, .slice (some ⟨g3, 0, none⟩) V.on V.on] 34)) g3 (g3 + 1) (some ⟨g3, 0, none⟩) V.on V.O ∧ Trn B C w (w.alloc (.cells #[.int .i64 V.ep, .slice (some ⟨g1, 0, none⟩) V.rn V.rn, .slice (some ⟨g2, 0, none⟩) V.tn V.tn, .slice (some ⟨g3, 0, none⟩) V.on V.on] 34))) :=
    ⟨Bx.new w [.int .i64 V.ep, .slice (some ⟨g1, 0, none⟩) V.rn V.rn, .slice (some ⟨g2, 0, none⟩) V.tn V.tn, .slice (some ⟨g3, 0, none⟩) V.on V.on] _, hR.next (Go.Joins.below_alloc1 _ _), hU.next (Go.Joins.below_alloc1 _ _), hI.below (Go.Joins.below_alloc1 _ _) (by omega), (Trn.refl _ _ _).next (Go.Joins.below_alloc1 _ _)⟩
  clear hz hR hU hI
  have hz0 : ((w.alloc (.cells #[.int .i64 V.ep, .slice (some ⟨g1, 0, none⟩) V.rn V.rn, .slice (some ⟨g2, 0, none⟩) V.tn V.tn, .slice (some ⟨g3, 0, none⟩) V.on V.on] 34))).heap.size = w.heap.size + 1 := by simp
  go_enter Tryz.func12, Tryz.ntmps12
  go_wp2_with fail
  refine (markRecordS_row _ _ _ (recordF V.R) _ g1 (g1 + 1) _ hrn (by omega) (by omega) ⟨Or.inr ⟨g1, rfl, Nat.le_refl _, Nat.lt_succ_self _, H0.out.2.1.2.2, H0.out.2.1.1, H0.out.2.1.2.1⟩, by rw [hz0]; omega⟩).mono ?_
  rintro r w1 ⟨rfl, _, ht1⟩
  have hz1 : w.heap.size + 1 ≤ w1.heap.size := by have := ht1.size; rw [hz0] at this; exact this
  obtain ⟨q1, hq1⟩ : ∃ q1, q1 = 1 + 6 * (V.rn : Int) := ⟨_, rfl⟩
  rw [← hq1]
  have hq1b : 0 < q1 ∧ q1 ≤ 6291457 := by omega
  have H1 : Hid (Bx w1 w.heap.size [.int .i64 V.ep, .slice (some ⟨g1, 0, none⟩) V.rn V.rn, .slice (some ⟨g2, 0, none⟩) V.tn V.tn, .slice (some ⟨g3, 0, none⟩) V.on V.on] ∧ RuR w1 g2 g3 g2 V.tn V.T U ∧ IntS w1 g3 (g3 + 1) (some ⟨g3, 0, none⟩) V.on V.O ∧ Trn B C w w1) :=
    ⟨H0.out.1.trn ht1.1 (by omega), H0.out.2.2.1.trn ht1.1 (by omega), Turned.ints (show Turned g1 (g1 + 1) _ w1 from ht1.1) H0.out.2.2.2.1 (by omega), H0.out.2.2.2.2.trans (ht1.1.wide (by omega) (by omega))⟩
  clear H0 ht1 hq1 hz0
  have c2 := H1.out.1.cell 2 rfl
  have cz := H1.out.1.2
  go_wp2_with fail
  refine (markRunningS_in g2 g3 V.tn V.tn V.T U q1 _ htn HZ.out (by omega) (by omega) H1.out.2.1.rum).mono ?_
  rintro r w2 ⟨q2, rfl, hq2, ht2⟩
  have hz2 : w1.heap.size ≤ w2.heap.size := ht2.size
  have H2 : Hid (Bx w2 w.heap.size [.int .i64 V.ep, .slice (some ⟨g1, 0, none⟩) V.rn V.rn, .slice (some ⟨g2, 0, none⟩) V.tn V.tn, .slice (some ⟨g3, 0, none⟩) V.on V.on] ∧ IntS w2 g3 (g3 + 1) (some ⟨g3, 0, none⟩) V.on V.O ∧ Trn B C w w2) :=
    ⟨H1.out.1.trn ht2.1 (by omega), Turned.ints (show Turned g2 g3 _ w2 from ht2.1) H1.out.2.2.1 (by omega), H1.out.2.2.2.trans (ht2.1.wide (by omega) (by omega))⟩
  clear H1 ht2 c2 cz
  have c3 := H2.out.1.cell 3 rfl
  have cz := H2.out.1.2
  go_wp2_with fail
  refine (markIntS_any _ _ _ V.O _ g3 (g3 + 1) _ hon (by omega) (by omega) H2.out.2.1).mono ?_
  rintro r w3 ⟨rfl, _, ht3⟩
  have H3 : Hid (Trn B C w w3) := H2.out.2.2.trans ((show Trn g3 (g3 + 1) w2 w3 from ht3).wide (by omega) (by omega))
  clear H2 ht3 c3 cz
  go_wp2
  go_ret
  exact ⟨_, rfl, by omega, H3.out⟩
theorem markStore_in (A : StA) (V : StV) (B C : Nat) (w : World) (hz : StOk V) (hs : StIn w B C A V) :
    Calls Tryz.prog 12 #[.agg #[.int .i64 V.ep, .slice A.ra V.rn A.rc, .slice A.ta V.tn A.tc, .slice A.oa V.on A.oc], .int .i64 1] w fun r w' => StMPost B C w r w' := by
  obtain ⟨g1, g2, g3, hA, hg, hR, hU, hI, hC⟩ := hs
  have e1 : A.ra = some ⟨g1, 0, none⟩ := by rw [hA]
  have e2 : A.rc = V.rn := by rw [hA]
  have e3 : A.ta = some ⟨g2, 0, none⟩ := by rw [hA]
  have e4 : A.tc = V.tn := by rw [hA]
  have e5 : A.oa = some ⟨g3, 0, none⟩ := by rw [hA]
  have e6 : A.oc = V.on := by rw [hA]
  rw [e1, e2, e3, e4, e5, e6]
  exact markStore_at g1 g2 g3 A.U V B C w hz hg hR hU hI hC
end Go.Proofs.YtenfaofhoheleaaGreat
