/- The law's own markMsgS and heldMsgS. -/
import Derived.Test.YtbklhmeaoigneaaMsgS
import Derived.Test.YtbklhmeaoigneaaTurn
import Derived.Test.YtbklhmeaoigneaaMarkT
import Derived.Deep.RegionWith
import Derived.Deep.DeepCutAuto
namespace Go.Proofs.Ytbklhmeaoigneaa
open Go.RowKit
set_option linter.unusedVariables false

/-- The marks of message i, from q on. -/
def mkM (q : Int) (i : Nat) : MsgV := let y := q + 9 * i; ⟨y, y + 1, y + 1 + 1, y + 1 + 1 + 1, mtx (y + 1 + 1 + 1 + 1), mtx (y + 1 + 1 + 1 + 1 + 1), y + 1 + 1 + 1 + 1 + 1 + 1, y + 1 + 1 + 1 + 1 + 1 + 1 + 1, (y + 1 + 1 + 1 + 1 + 1 + 1 + 1 + 1) % 3 == 0⟩
theorem mkM_vs {q y : Int} {k : Nat} (hy : y = q + 9 * k) : ∀ j, j < 9 → ([.int .i64 y, .int .i64 (y + 1), .int .i64 (y + 1 + 1), .int .i64 (y + 1 + 1 + 1), .string (mtx (y + 1 + 1 + 1 + 1)), .string (mtx (y + 1 + 1 + 1 + 1 + 1)), .int .i64 (y + 1 + 1 + 1 + 1 + 1 + 1), .int .i64 (y + 1 + 1 + 1 + 1 + 1 + 1 + 1), .bool ((y + 1 + 1 + 1 + 1 + 1 + 1 + 1 + 1) % 3 == 0)] : List Value)[j]? = some (msgF (mkM q) k j) := by
  subst hy
  intro j hj
  match j, hj with
  | 0, _ => rfl
  | 1, _ => rfl
  | 2, _ => rfl
  | 3, _ => rfl
  | 4, _ => rfl
  | 5, _ => rfl
  | 6, _ => rfl
  | 7, _ => rfl
  | 8, _ => rfl
theorem Part.room {w : World} {g n k j : Nat} {vs : List Value} {F : Nat → Nat → Value} (h : Part w g n 9 k j vs F) (hk : k < n) : (∃ x, w.cell? ⟨g, k * 9, none⟩ = some x) ∧ w.frozen? ⟨g, k * 9, none⟩ = false ∧ (∃ x, w.cell? ⟨g, k * 9 + 1, none⟩ = some x) ∧ w.frozen? ⟨g, k * 9 + 1, none⟩ = false ∧ (∃ x, w.cell? ⟨g, k * 9 + 2, none⟩ = some x) ∧ w.frozen? ⟨g, k * 9 + 2, none⟩ = false ∧ (∃ x, w.cell? ⟨g, k * 9 + 3, none⟩ = some x) ∧ w.frozen? ⟨g, k * 9 + 3, none⟩ = false ∧ (∃ x, w.cell? ⟨g, k * 9 + 4, none⟩ = some x) ∧ w.frozen? ⟨g, k * 9 + 4, none⟩ = false ∧ (∃ x, w.cell? ⟨g, k * 9 + 5, none⟩ = some x) ∧ w.frozen? ⟨g, k * 9 + 5, none⟩ = false ∧ (∃ x, w.cell? ⟨g, k * 9 + 6, none⟩ = some x) ∧ w.frozen? ⟨g, k * 9 + 6, none⟩ = false ∧ (∃ x, w.cell? ⟨g, k * 9 + 7, none⟩ = some x) ∧ w.frozen? ⟨g, k * 9 + 7, none⟩ = false ∧ (∃ x, w.cell? ⟨g, k * 9 + 8, none⟩ = some x) ∧ w.frozen? ⟨g, k * 9 + 8, none⟩ = false := room9 h.2.2.1 hk

set_option maxRecDepth 100000 in
set_option maxHeartbeats 4000000 in
theorem markMsgS_any (a : Option Addr) (n cap : Nat) (M : Nat → MsgV) (q : Int) (B C : Nat) (w : World) (hn : n ≤ 1048576) (h0 : 0 ≤ q) (h1 : q ≤ 1099511627776) (hs : SRow w B C a n 9 (msgF M)) :
    Calls Try.prog 52 #[.slice a n cap, .int .i64 q] w fun r w' => r = .returned (.int .i64 (q + 9 * n)) ∧ SRow w' B C a n 9 (msgF (mkM q)) ∧ Trn B C w w' := by
  rcases hs.1 with hz | ⟨g, rfl, hB, hC, hg, hE, hR⟩
  · subst hz
    have HC : Hid (C ≤ w.heap.size) := hs.2
    clear hs
    go_enter Try.func52, Try.ntmps52
    go_wp2
    go_loopw [5, 1] (fun i q' wr => i = .int .i64 0 ∧ q' = .int .i64 q ∧ wr = w) (fun _ _ _ => 0)
    case atStart => exact ⟨rfl, rfl, rfl⟩
    case round =>
      obtain ⟨rfl, rfl, rfl⟩ := hrel
      go_wp2
      go_ret
      exact ⟨by simp, ⟨Or.inl rfl, HC.out⟩, Trn.refl _ _ _⟩
  have HC : Hid (C ≤ w.heap.size) := hs.2
  clear hs hE
  go_enter Try.func52, Try.ntmps52
  go_wp2
  go_loopw [5, 1] (fun i q' wr => ∃ k : Nat, k ≤ n ∧ i = .int .i64 k ∧ q' = .int .i64 (q + 9 * k) ∧ Elems wr g 0 k 9 (msgF (mkM q)) ∧ Room wr g (n * 9) ∧ g < wr.heap.size ∧ Trn B C w wr) (fun i _ _ => n - (intOf i).toNat)
  case atStart => exact ⟨0, Nat.zero_le _, rfl, by simp, fun i hi => absurd hi (by omega), hR, hg, Trn.refl _ _ _⟩
  case round =>
    obtain ⟨k, hk, rfl, rfl, hEr, hRr, hgr, ht⟩ := hrel
    clear hR hg
    by_cases hlt : k < n
    · have hlt' : (k : Int) < (n : Int) := by omega
      obtain ⟨y, hy⟩ : ∃ y, y = q + 9 * (k : Int) := ⟨_, rfl⟩
      rw [← hy]
      have hyb : 0 ≤ y ∧ y ≤ 2199023255552 := by omega
      have HY : Hid (y = q + 9 * (k : Int)) := hy
      clear hy
      have P0 : Part wr g n 9 k 0 [.int .i64 y, .int .i64 (y + 1), .int .i64 (y + 1 + 1), .int .i64 (y + 1 + 1 + 1), .string (mtx (y + 1 + 1 + 1 + 1)), .string (mtx (y + 1 + 1 + 1 + 1 + 1)), .int .i64 (y + 1 + 1 + 1 + 1 + 1 + 1), .int .i64 (y + 1 + 1 + 1 + 1 + 1 + 1 + 1), .bool ((y + 1 + 1 + 1 + 1 + 1 + 1 + 1 + 1) % 3 == 0)] (msgF (mkM q)) := Part.start hEr hRr hgr
      obtain ⟨⟨x0, r0⟩, f0, ⟨x1, r1⟩, f1, ⟨x2, r2⟩, f2, ⟨x3, r3⟩, f3, _⟩ := P0.room hlt
      have HP : Hid (Part ((((wr.setCell ⟨g, k * 9, none⟩ (.int .i64 y)).setCell ⟨g, k * 9 + 1, none⟩ (.int .i64 (y + 1))).setCell ⟨g, k * 9 + 2, none⟩ (.int .i64 (y + 1 + 1))).setCell ⟨g, k * 9 + 3, none⟩ (.int .i64 (y + 1 + 1 + 1))) g n 9 k 4 [.int .i64 y, .int .i64 (y + 1), .int .i64 (y + 1 + 1), .int .i64 (y + 1 + 1 + 1), .string (mtx (y + 1 + 1 + 1 + 1)), .string (mtx (y + 1 + 1 + 1 + 1 + 1)), .int .i64 (y + 1 + 1 + 1 + 1 + 1 + 1), .int .i64 (y + 1 + 1 + 1 + 1 + 1 + 1 + 1), .bool ((y + 1 + 1 + 1 + 1 + 1 + 1 + 1 + 1) % 3 == 0)] (msgF (mkM q)) ∧ Trn B C w ((((wr.setCell ⟨g, k * 9, none⟩ (.int .i64 y)).setCell ⟨g, k * 9 + 1, none⟩ (.int .i64 (y + 1))).setCell ⟨g, k * 9 + 2, none⟩ (.int .i64 (y + 1 + 1))).setCell ⟨g, k * 9 + 3, none⟩ (.int .i64 (y + 1 + 1 + 1)))) :=
        ⟨(((P0.set hlt (by omega) rfl).set hlt (by omega) rfl).set hlt (by omega) rfl).set hlt (by omega) rfl, (((ht.set (p := ⟨g, k * 9, none⟩) hB hC _).set (p := ⟨g, k * 9 + 1, none⟩) hB hC _).set (p := ⟨g, k * 9 + 2, none⟩) hB hC _).set (p := ⟨g, k * 9 + 3, none⟩) hB hC _⟩
      clear P0 hEr hRr ht
      go_wp2_with fail
      refine (markText_any _ _ (by omega) (by omega)).mono ?_
      rintro r w2 ⟨rfl, hb2⟩
      have P2 := HP.out.1.next hb2
      have t2 := HP.out.2.next hb2
      clear hb2 HP r0 r1 r2 r3 f0 f1 f2 f3
      obtain ⟨_, _, _, _, _, _, _, _, ⟨x4, r4⟩, f4, _⟩ := P2.room hlt
      have hg2 : g < w2.heap.size := P2.2.2.2
      have HP : Hid (Part (w2.setCell ⟨g, k * 9 + 4, none⟩ (.string (mtx (y + 1 + 1 + 1 + 1)))) g n 9 k 5 [.int .i64 y, .int .i64 (y + 1), .int .i64 (y + 1 + 1), .int .i64 (y + 1 + 1 + 1), .string (mtx (y + 1 + 1 + 1 + 1)), .string (mtx (y + 1 + 1 + 1 + 1 + 1)), .int .i64 (y + 1 + 1 + 1 + 1 + 1 + 1), .int .i64 (y + 1 + 1 + 1 + 1 + 1 + 1 + 1), .bool ((y + 1 + 1 + 1 + 1 + 1 + 1 + 1 + 1) % 3 == 0)] (msgF (mkM q)) ∧ Trn B C w (w2.setCell ⟨g, k * 9 + 4, none⟩ (.string (mtx (y + 1 + 1 + 1 + 1))))) := ⟨P2.set hlt (by omega) rfl, t2.set (p := ⟨g, k * 9 + 4, none⟩) hB hC _⟩
      clear P2 t2
      go_wp2_with fail
      refine (markText_any _ _ (by omega) (by omega)).mono ?_
      rintro r w3 ⟨rfl, hb3⟩
      have P3 := HP.out.1.next hb3
      have t3 := HP.out.2.next hb3
      clear hb3 HP r4 f4
      obtain ⟨_, _, _, _, _, _, _, _, _, _, ⟨x5, r5⟩, f5, ⟨x6, r6⟩, f6, ⟨x7, r7⟩, f7, ⟨x8, r8⟩, f8⟩ := P3.room hlt
      have hg3 : g < w3.heap.size := P3.2.2.2
      have P9 := (((P3.set (v := .string (mtx (y + 1 + 1 + 1 + 1 + 1))) hlt (by omega) rfl).set (v := .int .i64 (y + 1 + 1 + 1 + 1 + 1 + 1)) hlt (by omega) rfl).set (v := .int .i64 (y + 1 + 1 + 1 + 1 + 1 + 1 + 1)) hlt (by omega) rfl).set (v := .bool ((y + 1 + 1 + 1 + 1 + 1 + 1 + 1 + 1) % 3 == 0)) hlt (by omega) rfl
      have HF : Hid (_ ∧ _) := ⟨P9.done (mkM_vs HY.out), (((t3.set (p := ⟨g, k * 9 + 5, none⟩) hB hC (.string (mtx (y + 1 + 1 + 1 + 1 + 1)))).set (p := ⟨g, k * 9 + 6, none⟩) hB hC (.int .i64 (y + 1 + 1 + 1 + 1 + 1 + 1))).set (p := ⟨g, k * 9 + 7, none⟩) hB hC (.int .i64 (y + 1 + 1 + 1 + 1 + 1 + 1 + 1))).set (p := ⟨g, k * 9 + 8, none⟩) hB hC (.bool ((y + 1 + 1 + 1 + 1 + 1 + 1 + 1 + 1) % 3 == 0))⟩
      clear P3 P9 t3
      go_wp2
      refine ⟨⟨k + 1, by omega, by go_num, by have := HY.out; congr 1; omega, HF.out.1.1, HF.out.1.2.1, HF.out.1.2.2, HF.out.2⟩, ?_⟩
      simp [intOf]; omega
    · have hkn : k = n := by omega
      subst hkn
      have HH : Hid (Elems wr g 0 k 9 (msgF (mkM q)) ∧ Room wr g (k * 9) ∧ g < wr.heap.size ∧ Trn B C w wr) := ⟨hEr, hRr, hgr, ht⟩
      clear hEr hRr ht
      go_wp2
      go_ret
      exact ⟨rfl, ⟨Or.inr ⟨g, rfl, hB, hC, HH.out.2.2.1, HH.out.1, HH.out.2.1⟩, Nat.le_trans HC.out HH.out.2.2.2.2.2.2.1⟩, HH.out.2.2.2⟩

theorem mk_cells {w : World} {b off n k : Nat} {q y : Int} (h : Elems w b off n 9 (msgF (mkM q))) (hk : k < n) (hy : y = q + 9 * k) : w.cell? ⟨b, off + k * 9, none⟩ = some (.int .i64 y) ∧ w.cell? ⟨b, off + k * 9 + 1, none⟩ = some (.int .i64 (y + 1)) ∧ w.cell? ⟨b, off + k * 9 + 2, none⟩ = some (.int .i64 (y + 1 + 1)) ∧ w.cell? ⟨b, off + k * 9 + 3, none⟩ = some (.int .i64 (y + 1 + 1 + 1)) ∧ w.cell? ⟨b, off + k * 9 + 4, none⟩ = some (.string (mtx (y + 1 + 1 + 1 + 1))) ∧ w.cell? ⟨b, off + k * 9 + 5, none⟩ = some (.string (mtx (y + 1 + 1 + 1 + 1 + 1))) ∧ w.cell? ⟨b, off + k * 9 + 6, none⟩ = some (.int .i64 (y + 1 + 1 + 1 + 1 + 1 + 1)) ∧ w.cell? ⟨b, off + k * 9 + 7, none⟩ = some (.int .i64 (y + 1 + 1 + 1 + 1 + 1 + 1 + 1)) ∧ w.cell? ⟨b, off + k * 9 + 8, none⟩ = some (.bool ((y + 1 + 1 + 1 + 1 + 1 + 1 + 1 + 1) % 3 == 0)) := by
  subst hy
  exact msg_cells h hk

set_option maxRecDepth 100000 in
set_option maxHeartbeats 4000000 in
theorem heldMsgS_any (a : Option Addr) (n cap : Nat) (q : Int) (w : World) (hn : n ≤ 1048576) (h0 : 0 ≤ q) (h1 : q ≤ 1099511627776) (hs : Sl w a n 9 (msgF (mkM q))) :
    Calls Try.prog 53 #[.slice a n cap, .int .i64 q] w fun r w' => r = .returned (.int .i64 (q + 9 * n)) ∧ Below w.heap.size w w' := by
  have HS : Hid (Sl w a n 9 (msgF (mkM q))) := hs
  clear hs
  go_enter Try.func53, Try.ntmps53
  go_wp2
  go_loopw [5, 1] (fun i q' wr => ∃ k : Nat, k ≤ n ∧ i = .int .i64 k ∧ q' = .int .i64 (q + 9 * k) ∧ Below w.heap.size w wr) (fun i _ _ => n - (intOf i).toNat)
  case atStart => exact ⟨0, Nat.zero_le _, rfl, by simp, Below.refl _ _⟩
  case round =>
    obtain ⟨k, hk, rfl, rfl, hBr⟩ := hrel
    by_cases hlt : k < n
    · rcases HS.out.below hBr (Nat.le_refl _) with h | ⟨b, off, rfl, hbs, hE⟩
      · omega
      have hlt' : (k : Int) < (n : Int) := by omega
      obtain ⟨y, hy⟩ : ∃ y, y = q + 9 * (k : Int) := ⟨_, rfl⟩
      rw [← hy]
      have hyb : 0 ≤ y ∧ y ≤ 2199023255552 := by omega
      have HY : Hid (y = q + 9 * (k : Int)) := hy
      clear hy
      have HE : Hid (Elems wr b off n 9 (msgF (mkM q)) ∧ Below w.heap.size w wr) := ⟨hE, hBr⟩
      have hz : w.heap.size ≤ wr.heap.size := hBr.size
      obtain ⟨c0, c1, c2, c3, c4, c5, c6, c7, c8⟩ := mk_cells hE hlt HY.out
      clear hE hBr
      go_upto_region 16 with fail
      go_cut [55] (fun s55 wx => s55 = .bool false ∧ Below wr.heap.size wr wx)
      case first =>
        go_region_with (go_at_call 76; refine (markText_any _ _ (by omega) (by omega)).mono ?_; rintro e w1 ⟨rfl, hb⟩; have d4 := (hb.cell (p := ⟨b, off + k * 9 + 4, none⟩) hbs).trans c4)
        all_goals (go_wp2_with fail; go_meet; exact ⟨rfl, (Below.refl _ _).drew.trans hb⟩)
      case rest =>
        obtain ⟨rfl, hb2⟩ := hcut
        have hE2 := HE.out.1.below hb2 hbs
        have HB2 : Hid (Below wr.heap.size wr wc) := hb2
        have hbc : b < wc.heap.size := Nat.lt_of_lt_of_le hbs hb2.size
        clear c0 c1 c2 c3 c4 c5 c6 c7 c8
        obtain ⟨c0, c1, c2, c3, c4, c5, c6, c7, c8⟩ := mk_cells hE2 hlt HY.out
        have HE2 : Hid (Elems wc b off n 9 (msgF (mkM q))) := hE2
        clear hE2 hb2
        obtain ⟨wd, hwd⟩ : ∃ x, x = wc := ⟨wc, rfl⟩
        subst hwd
        go_upto_region 19 with fail
        go_cut [65] (fun s65 wx => s65 = .bool false ∧ Below wd.heap.size wd wx)
        case first =>
          go_region_with (go_at_call 76; refine (markText_any _ _ (by omega) (by omega)).mono ?_; rintro e w1 ⟨rfl, hb⟩; have d5 := (hb.cell (p := ⟨b, off + k * 9 + 5, none⟩) hbc).trans c5)
          all_goals (go_wp2_with fail; go_meet; exact ⟨rfl, (Below.refl _ _).drew.trans hb⟩)
        case rest =>
          obtain ⟨rfl, hb3⟩ := hcut
          have HB3 : Hid (Below w.heap.size w wc) := HE.out.2.trans ((HB2.out.trans (hb3.mono HB2.out.size)).mono hz)
          have hE3 := HE2.out.below hb3 hbc
          clear c0 c1 c2 c3 c4 c5 c6 c7 c8
          obtain ⟨c0, c1, c2, c3, c4, c5, c6, c7, c8⟩ := mk_cells hE3 hlt HY.out
          clear hE3 hb3
          go_wp2
          go_roundw
          case rel => exact ⟨k + 1, by omega, by go_num, by have := HY.out; congr 1; omega, HB3.out⟩
          case measure => simp [intOf]; omega
    · have hkn : k = n := by omega
      subst hkn
      have HB : Hid (Below w.heap.size w wr) := hBr
      clear hBr
      go_wp2
      go_ret
      exact ⟨rfl, HB.out⟩
end Go.Proofs.Ytbklhmeaoigneaa
