/- The law's own markOpS and heldOpS at a list that an answer owns. -/
import Derived.Test.YthbpjmnlgfahmaaPr
import Derived.Deep.RegionWith
import Derived.Deep.DeepCutAuto
namespace Go.Proofs.Ythbpjmnlgfahmaa
open Go.RowKit
set_option linter.unusedVariables false

def mkK (q : Int) (i : Nat) : Int := q + 3 * i
def mkT (q : Int) (i : Nat) : Int := q + 3 * i + 1
def mkS (q : Int) (i : Nat) : ByteArray := mtx (q + 3 * i + 1 + 1)
theorem mk3_vs {q y : Int} {k : Nat} (hy : y = q + 3 * k) : ∀ j, j < 3 → ([.int .i64 y, .int .i64 (y + 1), .string (mtx (y + 1 + 1))] : List Value)[j]? = some (opF (mkK q) (mkT q) (mkS q) k j) := by
  subst hy
  intro j hj
  match j, hj with
  | 0, _ => rfl
  | 1, _ => rfl
  | 2, _ => rfl

set_option maxRecDepth 100000 in
set_option maxHeartbeats 2000000 in
theorem markOpS_row (a : Option Addr) (n cap : Nat) (F : Nat → Nat → Value) (q : Int) (B C : Nat) (w : World) (hn : n ≤ 1048576) (h0 : 0 < q) (h1 : q ≤ 1099511627776) (hs : SRow w B C a n 3 F) :
    Calls Try.prog 52 #[.slice a n cap, .int .i64 q] w fun r w' => r = .returned (.int .i64 (q + 3 * n)) ∧ SRow w' B C a n 3 (opF (mkK q) (mkT q) (mkS q)) ∧ Turned B C w w' := by
  rcases hs.1 with hz | ⟨g, rfl, hB, hC, hg, hE, hR⟩
  · subst hz
    have HC : Hid (C ≤ w.heap.size) := hs.2
    clear hs
    go_enter Try.func52, Try.ntmps52
    go_wp2
    go_loopw [5, 1] (fun i q' wr => i = .int .i64 0 ∧ q' = .int .i64 q ∧ wr = w) (fun _ _ _ => 0)
    case atStart => exact ⟨rfl, rfl, rfl⟩
    case round =>
      obtain ⟨rfl, rfl, rfl⟩ := hrel
      go_wp2
      go_ret
      exact ⟨by simp, ⟨Or.inl rfl, HC.out⟩, Trn.refl _ _ _⟩
  have HC : Hid (C ≤ w.heap.size) := hs.2
  clear hs hE
  go_enter Try.func52, Try.ntmps52
  go_wp2
  go_loopw [5, 1] (fun i q' wr => ∃ k : Nat, k ≤ n ∧ i = .int .i64 k ∧ q' = .int .i64 (q + 3 * k) ∧ Elems wr g 0 k 3 (opF (mkK q) (mkT q) (mkS q)) ∧ Room wr g (n * 3) ∧ g < wr.heap.size ∧ Trn B C w wr) (fun i _ _ => n - (intOf i).toNat)
  case atStart => exact ⟨0, Nat.zero_le _, rfl, by simp, fun i hi => absurd hi (by omega), hR, hg, Trn.refl _ _ _⟩
  case round =>
    obtain ⟨k, hk, rfl, rfl, hEr, hRr, hgr, ht⟩ := hrel
    clear hR hg
    by_cases hlt : k < n
    · have hlt' : (k : Int) < (n : Int) := by omega
      obtain ⟨y, hy⟩ : ∃ y, y = q + 3 * (k : Int) := ⟨_, rfl⟩
      rw [← hy]
      have hyb : 0 < y ∧ y ≤ 2199023255552 := by omega
      have HY : Hid (y = q + 3 * (k : Int)) := hy
      clear hy
      obtain ⟨⟨x0, r0⟩, f0⟩ := hRr (k * 3) (by omega)
      obtain ⟨⟨x1, r1⟩, f1⟩ := hRr (k * 3 + 1) (by omega)
      have P0 : Part wr g n 3 k 0 [.int .i64 y, .int .i64 (y + 1), .string (mtx (y + 1 + 1))] (opF (mkK q) (mkT q) (mkS q)) := Part.start hEr hRr hgr
      have HP : Hid (Part ((wr.setCell ⟨g, k * 3, none⟩ (.int .i64 y)).setCell ⟨g, k * 3 + 1, none⟩ (.int .i64 (y + 1))) g n 3 k 2 [.int .i64 y, .int .i64 (y + 1), .string (mtx (y + 1 + 1))] (opF (mkK q) (mkT q) (mkS q)) ∧ Trn B C w ((wr.setCell ⟨g, k * 3, none⟩ (.int .i64 y)).setCell ⟨g, k * 3 + 1, none⟩ (.int .i64 (y + 1)))) :=
        ⟨(P0.set hlt (by omega) rfl).set hlt (by omega) rfl, (ht.set (p := ⟨g, k * 3, none⟩) hB hC _).set (p := ⟨g, k * 3 + 1, none⟩) hB hC _⟩
      clear P0 hEr hRr ht
      go_wp2_with fail
      refine (markText_any _ _ (by omega) (by omega)).mono ?_
      rintro r w2 ⟨rfl, hb2⟩
      have P2 := HP.out.1.next hb2
      have t2 := HP.out.2.next hb2
      clear hb2 HP r0 r1 f0 f1
      obtain ⟨⟨x2, r2⟩, f2⟩ := P2.2.2.1 (k * 3 + 2) (by omega)
      have hg2 : g < w2.heap.size := P2.2.2.2
      have HF : Hid (_ ∧ _) := ⟨(P2.set (v := .string (mtx (y + 1 + 1))) hlt (by omega) rfl).done (mk3_vs HY.out), t2.set (p := ⟨g, k * 3 + 2, none⟩) hB hC (.string (mtx (y + 1 + 1)))⟩
      clear P2 t2
      go_wp2
      go_roundw
      case rel => exact ⟨k + 1, by omega, by go_num, by have := HY.out; congr 1; omega, HF.out.1.1, HF.out.1.2.1, HF.out.1.2.2, HF.out.2⟩
      case measure => simp [intOf]; omega
    · have hkn : k = n := by omega
      subst hkn
      have HH : Hid (Elems wr g 0 k 3 (opF (mkK q) (mkT q) (mkS q)) ∧ Room wr g (k * 3) ∧ g < wr.heap.size ∧ Trn B C w wr) := ⟨hEr, hRr, hgr, ht⟩
      clear hEr hRr ht
      go_wp2
      go_ret
      exact ⟨rfl, ⟨Or.inr ⟨g, rfl, hB, hC, HH.out.2.2.1, HH.out.1, HH.out.2.1⟩, Nat.le_trans HC.out HH.out.2.2.2.2.2.2.1⟩, HH.out.2.2.2⟩

theorem mk3_cells {w : World} {b off n k : Nat} {q y : Int} (h : Elems w b off n 3 (opF (mkK q) (mkT q) (mkS q))) (hk : k < n) (hy : y = q + 3 * k) : w.cell? ⟨b, off + k * 3, none⟩ = some (.int .i64 y) ∧ w.cell? ⟨b, off + k * 3 + 1, none⟩ = some (.int .i64 (y + 1)) ∧ w.cell? ⟨b, off + k * 3 + 2, none⟩ = some (.string (mtx (y + 1 + 1))) := by
  subst hy
  exact op_cells h hk

set_option maxRecDepth 100000 in
set_option maxHeartbeats 4000000 in
theorem heldOpS_any (a : Option Addr) (n cap : Nat) (q : Int) (w : World) (hn : n ≤ 1048576) (h0 : 0 < q) (h1 : q ≤ 1099511627776) (hs : Sl w a n 3 (opF (mkK q) (mkT q) (mkS q))) :
    Calls Try.prog 57 #[.slice a n cap, .int .i64 q] w fun r w' => r = .returned (.int .i64 (q + 3 * n)) ∧ Below w.heap.size w w' := by
  have HS : Hid (Sl w a n 3 (opF (mkK q) (mkT q) (mkS q))) := hs
  clear hs
  go_enter Try.func57, Try.ntmps57
  go_wp2
  go_loopw [5, 1] (fun i q' wr => ∃ k : Nat, k ≤ n ∧ i = .int .i64 k ∧ q' = .int .i64 (q + 3 * k) ∧ Below w.heap.size w wr) (fun i _ _ => n - (intOf i).toNat)
  case atStart => exact ⟨0, Nat.zero_le _, rfl, by simp, Below.refl _ _⟩
  case round =>
    obtain ⟨k, hk, rfl, rfl, hBr⟩ := hrel
    by_cases hlt : k < n
    · rcases HS.out.below hBr (Nat.le_refl _) with h | ⟨b, off, rfl, hbs, hE⟩
      · omega
      have hlt' : (k : Int) < (n : Int) := by omega
      obtain ⟨y, hy⟩ : ∃ y, y = q + 3 * (k : Int) := ⟨_, rfl⟩
      rw [← hy]
      have hyb : 0 < y ∧ y ≤ 2199023255552 := by omega
      have HY : Hid (y = q + 3 * (k : Int)) := hy
      clear hy
      have HE : Hid (Below w.heap.size w wr) := hBr
      have hz : w.heap.size ≤ wr.heap.size := hBr.size
      obtain ⟨c0, c1, c2⟩ := mk3_cells hE hlt HY.out
      clear hE hBr
      go_upto_region 10 with fail
      go_cut [37] (fun s37 wx => s37 = .bool false ∧ Below wr.heap.size wr wx)
      case first =>
        go_region_with (go_at_call 94; refine (markText_any _ _ (by omega) (by omega)).mono ?_; rintro e w1 ⟨rfl, hb⟩; have d2 := (hb.cell (p := ⟨b, off + k * 3 + 2, none⟩) hbs).trans c2)
        all_goals (go_wp2_with fail; go_meet; exact ⟨rfl, (Below.refl _ _).drew.trans hb⟩)
      case rest =>
        obtain ⟨rfl, hb2⟩ := hcut
        have HB2 : Hid (Below w.heap.size w wc) := HE.out.trans (hb2.mono hz)
        clear c0 c1 c2 hb2
        go_wp2
        go_roundw
        case rel => exact ⟨k + 1, by omega, by go_num, by have := HY.out; congr 1; omega, HB2.out⟩
        case measure => simp [intOf]; omega
    · have hkn : k = n := by omega
      subst hkn
      go_wp2
      go_ret
      exact ⟨rfl, hBr⟩
end Go.Proofs.Ythbpjmnlgfahmaa
