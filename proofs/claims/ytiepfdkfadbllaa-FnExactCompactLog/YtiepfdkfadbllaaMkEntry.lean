/- The law's own markEntryS and heldEntryS. Written by tools/mkMk.py. -/
import Derived.Test.YtiepfdkfadbllaaRwEntry
import Derived.Test.YtiepfdkfadbllaaMarkT
import Derived.Test.YtiepfdkfadbllaaTrR
import Derived.Deep.RegionWith
import Derived.Deep.DeepCutAuto
namespace Go.Proofs.Ytiepfdkfadbllaa
open Go.RowKit
set_option linter.unusedVariables false

def mkEntry (q : Int) (i : Nat) : EntryV := let y := q + 6 * i; ⟨y, mtx (y + 1), mtx (y + 1 + 1), (y + 1 + 1 + 1), (y + 1 + 1 + 1 + 1), (y + 1 + 1 + 1 + 1 + 1) % 3 == 0⟩
theorem mkEntry_vs {q y : Int} {k : Nat} (hy : y = q + 6 * k) : ∀ j, j < 6 → ([.int .i64 y, .string (mtx (y + 1)), .string (mtx (y + 1 + 1)), .int .i64 (y + 1 + 1 + 1), .int .i64 (y + 1 + 1 + 1 + 1), .bool ((y + 1 + 1 + 1 + 1 + 1) % 3 == 0)] : List Value)[j]? = some (entryF (mkEntry q) k j) := by
  subst hy
  intro j hj
  match j, hj with
  | 0, _ => rfl
  | 1, _ => rfl
  | 2, _ => rfl
  | 3, _ => rfl
  | 4, _ => rfl
  | 5, _ => rfl

set_option maxRecDepth 100000 in
set_option maxHeartbeats 4000000 in
theorem markEntryS_row (a : Option Addr) (n cap : Nat) (G : Nat → Nat → Value) (q : Int) (B C : Nat) (w : World) (hn : n ≤ 1048576) (h0 : 0 < q) (h1 : q ≤ 8796000000000) (hs : SRow w B C a n 6 G) :
    Calls Try.prog 28 #[.slice a n cap, .int .i64 q] w fun r w' => r = .returned (.int .i64 (q + 6 * n)) ∧ SRow w' B C a n 6 (entryF (mkEntry q)) ∧ TrR B C w w' := by
  rcases hs.1 with hz | ⟨g, rfl, hB, hC, hg, hE, hR⟩
  · subst hz
    have HC : Hid (C ≤ w.heap.size) := hs.2
    clear hs
    go_enter Try.func28, Try.ntmps28
    go_wp2
    go_loopw [5, 1] (fun i q' wr => i = .int .i64 0 ∧ q' = .int .i64 q ∧ wr = w) (fun _ _ _ => 0)
    case atStart => exact ⟨rfl, rfl, rfl⟩
    case round =>
      obtain ⟨rfl, rfl, rfl⟩ := hrel
      go_wp2
      go_ret
      exact ⟨by simp, ⟨Or.inl rfl, HC.out⟩, TrR.refl _ _ _⟩
  have HC : Hid (C ≤ w.heap.size) := hs.2
  clear hs hE
  go_enter Try.func28, Try.ntmps28
  go_wp2
  go_loopw [5, 1] (fun i q' wr => ∃ k : Nat, k ≤ n ∧ i = .int .i64 k ∧ q' = .int .i64 (q + 6 * k) ∧ Elems wr g 0 k 6 (entryF (mkEntry q)) ∧ Room wr g (n * 6) ∧ g < wr.heap.size ∧ TrR B C w wr) (fun i _ _ => n - (intOf i).toNat)
  case atStart => exact ⟨0, Nat.zero_le _, rfl, by simp, fun i hi => absurd hi (by omega), hR, hg, TrR.refl _ _ _⟩
  case round =>
    obtain ⟨k, hk, rfl, rfl, hEr, hRr, hgr, ht⟩ := hrel
    clear hR hg
    by_cases hlt : k < n
    · have hlt' : (k : Int) < (n : Int) := by omega
      obtain ⟨y, hy⟩ : ∃ y, y = q + 6 * (k : Int) := ⟨_, rfl⟩
      rw [← hy]
      have hyb : 0 < y ∧ y ≤ 8796080000000 := by omega
      have HY : Hid (y = q + 6 * (k : Int)) := hy
      clear hy
      have P0 : Part wr g n 6 k 0 [.int .i64 y, .string (mtx (y + 1)), .string (mtx (y + 1 + 1)), .int .i64 (y + 1 + 1 + 1), .int .i64 (y + 1 + 1 + 1 + 1), .bool ((y + 1 + 1 + 1 + 1 + 1) % 3 == 0)] (entryF (mkEntry q)) := Part.start hEr hRr hgr
      have t0 : TrR B C w wr := ht
      clear hEr hRr ht
      obtain ⟨⟨x0, r0⟩, f0⟩ := P0.2.2.1 (k * 6) (by omega)
      have HP : Hid (Part (wr.setCell ⟨g, k * 6, none⟩ (.int .i64 y)) g n 6 k 1 [.int .i64 y, .string (mtx (y + 1)), .string (mtx (y + 1 + 1)), .int .i64 (y + 1 + 1 + 1), .int .i64 (y + 1 + 1 + 1 + 1), .bool ((y + 1 + 1 + 1 + 1 + 1) % 3 == 0)] (entryF (mkEntry q)) ∧ TrR B C w (wr.setCell ⟨g, k * 6, none⟩ (.int .i64 y))) := ⟨(P0.set (v := .int .i64 y) hlt (by omega) rfl), (t0.set (p := ⟨g, k * 6, none⟩) hB hC (.int .i64 y))⟩
      clear P0 t0
      go_wp2_with fail
      refine (markText_any _ _ (by omega) (by omega)).mono ?_
      rintro r w2 ⟨rfl, hb2⟩
      have Q0 := HP.out.1.next hb2
      have u0 := HP.out.2.next hb2
      clear hb2 HP r0 f0
      obtain ⟨⟨x1, r1⟩, f1⟩ := Q0.2.2.1 (k * 6 + 1) (by omega)
      have hg0 : g < w2.heap.size := Q0.2.2.2
      have P1 : Part (w2.setCell ⟨g, k * 6 + 1, none⟩ (.string (mtx (y + 1)))) g n 6 k 2 [.int .i64 y, .string (mtx (y + 1)), .string (mtx (y + 1 + 1)), .int .i64 (y + 1 + 1 + 1), .int .i64 (y + 1 + 1 + 1 + 1), .bool ((y + 1 + 1 + 1 + 1 + 1) % 3 == 0)] (entryF (mkEntry q)) := (Q0.set (v := .string (mtx (y + 1))) hlt (by omega) rfl)
      have t1 : TrR B C w (w2.setCell ⟨g, k * 6 + 1, none⟩ (.string (mtx (y + 1)))) := (u0.set (p := ⟨g, k * 6 + 1, none⟩) hB hC (.string (mtx (y + 1))))
      clear Q0 u0
      have HP : Hid (Part (w2.setCell ⟨g, k * 6 + 1, none⟩ (.string (mtx (y + 1)))) g n 6 k 2 [.int .i64 y, .string (mtx (y + 1)), .string (mtx (y + 1 + 1)), .int .i64 (y + 1 + 1 + 1), .int .i64 (y + 1 + 1 + 1 + 1), .bool ((y + 1 + 1 + 1 + 1 + 1) % 3 == 0)] (entryF (mkEntry q)) ∧ TrR B C w (w2.setCell ⟨g, k * 6 + 1, none⟩ (.string (mtx (y + 1))))) := ⟨P1, t1⟩
      clear P1 t1
      go_wp2_with fail
      refine (markText_any _ _ (by omega) (by omega)).mono ?_
      rintro r w3 ⟨rfl, hb2⟩
      have Q1 := HP.out.1.next hb2
      have u1 := HP.out.2.next hb2
      clear hb2 HP r1 f1
      obtain ⟨⟨x2, r2⟩, f2⟩ := Q1.2.2.1 (k * 6 + 2) (by omega)
      have hg1 : g < w3.heap.size := Q1.2.2.2
      obtain ⟨⟨x3, r3⟩, f3⟩ := Q1.2.2.1 (k * 6 + 3) (by omega)
      obtain ⟨⟨x4, r4⟩, f4⟩ := Q1.2.2.1 (k * 6 + 4) (by omega)
      obtain ⟨⟨x5, r5⟩, f5⟩ := Q1.2.2.1 (k * 6 + 5) (by omega)
      have HF : Hid (_ ∧ _) := ⟨((((Q1.set (v := .string (mtx (y + 1 + 1))) hlt (by omega) rfl).set (v := .int .i64 (y + 1 + 1 + 1)) hlt (by omega) rfl).set (v := .int .i64 (y + 1 + 1 + 1 + 1)) hlt (by omega) rfl).set (v := .bool ((y + 1 + 1 + 1 + 1 + 1) % 3 == 0)) hlt (by omega) rfl).done (mkEntry_vs HY.out), ((((u1.set (p := ⟨g, k * 6 + 2, none⟩) hB hC (.string (mtx (y + 1 + 1)))).set (p := ⟨g, k * 6 + 3, none⟩) hB hC (.int .i64 (y + 1 + 1 + 1))).set (p := ⟨g, k * 6 + 4, none⟩) hB hC (.int .i64 (y + 1 + 1 + 1 + 1))).set (p := ⟨g, k * 6 + 5, none⟩) hB hC (.bool ((y + 1 + 1 + 1 + 1 + 1) % 3 == 0)))⟩
      clear Q1 u1
      go_wp2
      go_roundw
      case rel => exact ⟨k + 1, by omega, by go_num, by have := HY.out; congr 1; omega, HF.out.1.1, HF.out.1.2.1, HF.out.1.2.2, HF.out.2⟩
      case measure => simp [intOf]; omega
    · have hkn : k = n := by omega
      subst hkn
      have HH : Hid (Elems wr g 0 k 6 (entryF (mkEntry q)) ∧ Room wr g (k * 6) ∧ g < wr.heap.size ∧ TrR B C w wr) := ⟨hEr, hRr, hgr, ht⟩
      clear hEr hRr ht
      go_wp2
      go_ret
      exact ⟨rfl, ⟨Or.inr ⟨g, rfl, hB, hC, HH.out.2.2.1, HH.out.1, HH.out.2.1⟩, Nat.le_trans HC.out HH.out.2.2.2.size⟩, HH.out.2.2.2⟩

theorem mkEntry_cells {w : World} {b off n k : Nat} {q y : Int} (h : Elems w b off n 6 (entryF (mkEntry q))) (hk : k < n) (hy : y = q + 6 * k) : w.cell? ⟨b, off + k * 6, none⟩ = some (.int .i64 y) ∧ w.cell? ⟨b, off + k * 6 + 1, none⟩ = some (.string (mtx (y + 1))) ∧ w.cell? ⟨b, off + k * 6 + 2, none⟩ = some (.string (mtx (y + 1 + 1))) ∧ w.cell? ⟨b, off + k * 6 + 3, none⟩ = some (.int .i64 (y + 1 + 1 + 1)) ∧ w.cell? ⟨b, off + k * 6 + 4, none⟩ = some (.int .i64 (y + 1 + 1 + 1 + 1)) ∧ w.cell? ⟨b, off + k * 6 + 5, none⟩ = some (.bool ((y + 1 + 1 + 1 + 1 + 1) % 3 == 0)) := by
  subst hy
  exact entry_cells h hk

set_option maxRecDepth 100000 in
set_option maxHeartbeats 4000000 in
theorem heldEntryS_any (a : Option Addr) (n cap : Nat) (q : Int) (w : World) (hn : n ≤ 1048576) (h0 : 0 < q) (h1 : q ≤ 8796000000000) (hs : Sl w a n 6 (entryF (mkEntry q))) :
    Calls Try.prog 32 #[.slice a n cap, .int .i64 q] w fun r w' => r = .returned (.int .i64 (q + 6 * n)) ∧ Below w.heap.size w w' := by
  have HS : Hid (Sl w a n 6 (entryF (mkEntry q))) := hs
  clear hs
  go_enter Try.func32, Try.ntmps32
  go_wp2
  go_loopw [5, 1] (fun i q' wr => ∃ k : Nat, k ≤ n ∧ i = .int .i64 k ∧ q' = .int .i64 (q + 6 * k) ∧ Below w.heap.size w wr) (fun i _ _ => n - (intOf i).toNat)
  case atStart => exact ⟨0, Nat.zero_le _, rfl, by simp, Below.refl _ _⟩
  case round =>
    obtain ⟨k, hk, rfl, rfl, hBr⟩ := hrel
    by_cases hlt : k < n
    · rcases HS.out.below hBr (Nat.le_refl _) with h | ⟨b, off, rfl, hbs, hE⟩
      · omega
      have hlt' : (k : Int) < (n : Int) := by omega
      obtain ⟨y, hy⟩ : ∃ y, y = q + 6 * (k : Int) := ⟨_, rfl⟩
      rw [← hy]
      have hyb : 0 < y ∧ y ≤ 8796080000000 := by omega
      have HY : Hid (y = q + 6 * (k : Int)) := hy
      clear hy
      have HE : Hid (Below w.heap.size w wr) := hBr
      have hz : w.heap.size ≤ wr.heap.size := hBr.size
      obtain ⟨c0, c1, c2, c3, c4, c5⟩ := mkEntry_cells hE hlt HY.out
      clear hE hBr
      go_upto_region 7 with fail
      go_cut [28] (fun s28 wx => s28 = .bool false ∧ Below wr.heap.size wr wx)
      case first =>
        go_region_with (go_at_call 52; refine (markText_any _ _ (by omega) (by omega)).mono ?_; rintro e w1 ⟨rfl, hb⟩; have d2 := (hb.cell (p := ⟨b, off + k * 6 + 1, none⟩) hbs).trans c1)
        all_goals (go_wp2_with fail; go_meet; exact ⟨rfl, (Below.refl _ _).drew.trans hb⟩)
      case rest =>
        obtain ⟨rfl, hb2⟩ := hcut
        obtain ⟨v1, hv⟩ : ∃ x, x = wc := ⟨wc, rfl⟩
        subst hv
        have HE1 : Hid (Below w.heap.size w v1) := HE.out.trans (hb2.mono hz)
        replace c2 := (hb2.cell (p := ⟨b, off + k * 6 + 2, none⟩) hbs).trans c2
        replace c3 := (hb2.cell (p := ⟨b, off + k * 6 + 3, none⟩) hbs).trans c3
        replace c4 := (hb2.cell (p := ⟨b, off + k * 6 + 4, none⟩) hbs).trans c4
        replace c5 := (hb2.cell (p := ⟨b, off + k * 6 + 5, none⟩) hbs).trans c5
        replace hbs := Nat.lt_of_lt_of_le hbs hb2.size
        replace hz := Nat.le_trans hz hb2.size
        clear hb2 c1 HE
        go_upto_region 10 with fail
        go_cut [38] (fun s38 wx => s38 = .bool false ∧ Below v1.heap.size v1 wx)
        case first =>
          go_region_with (go_at_call 52; refine (markText_any _ _ (by omega) (by omega)).mono ?_; rintro e w1 ⟨rfl, hb⟩; have d2 := (hb.cell (p := ⟨b, off + k * 6 + 2, none⟩) hbs).trans c2)
          all_goals (go_wp2_with fail; go_meet; exact ⟨rfl, (Below.refl _ _).drew.trans hb⟩)
        case rest =>
          obtain ⟨rfl, hb2⟩ := hcut
          obtain ⟨v2, hv⟩ : ∃ x, x = wc := ⟨wc, rfl⟩
          subst hv
          have HE2 : Hid (Below w.heap.size w v2) := HE1.out.trans (hb2.mono hz)
          replace c3 := (hb2.cell (p := ⟨b, off + k * 6 + 3, none⟩) hbs).trans c3
          replace c4 := (hb2.cell (p := ⟨b, off + k * 6 + 4, none⟩) hbs).trans c4
          replace c5 := (hb2.cell (p := ⟨b, off + k * 6 + 5, none⟩) hbs).trans c5
          replace hbs := Nat.lt_of_lt_of_le hbs hb2.size
          replace hz := Nat.le_trans hz hb2.size
          clear hb2 c2 HE1
          go_wp2
          go_roundw
          case rel => exact ⟨k + 1, by omega, by go_num, by have := HY.out; congr 1; omega, HE2.out⟩
          case measure => simp [intOf]; omega
    · have hkn : k = n := by omega
      subst hkn
      go_wp2
      go_ret
      exact ⟨rfl, hBr⟩
end Go.Proofs.Ytiepfdkfadbllaa
