/- Lists of Cell: the law's own functions szCell, szCellS, toCell, toCellS, eqCell, eqCellS; how a list that came in is read. Written by tools/mkRow.py. -/
import Derived.Test.YtenfaofhoheleaaGreatMem
import Derived.Test.YtenfaofhoheleaaGreatOpenE
import Derived.Test.YtenfaofhoheleaaGreatRwSz
namespace Go.Proofs.YtenfaofhoheleaaGreat
open Go.RowKit Go.Deep
set_option linter.unusedVariables false
set_option linter.unusedSimpArgs false

structure CellV where
  f0 : ByteArray
  f1 : ByteArray
  deriving Inhabited
def cellF (V : Nat → CellV) (i j : Nat) : Value := if j = 0 then .string (V i).f0 else .string (V i).f1
theorem cell_cells {w : World} {b off n k : Nat} {V : Nat → CellV} (h : Elems w b off n 2 (cellF V)) (hk : k < n) :
    w.cell? ⟨b, off + k * 2, none⟩ = some (.string (V k).f0) ∧ w.cell? ⟨b, off + k * 2 + 1, none⟩ = some (.string (V k).f1) :=
  ⟨h k hk 0 (by omega), h k hk 1 (by omega)⟩
set_option maxHeartbeats 1000000 in
theorem toCell_any (v : CellV) (w : World) :
    Calls Tryz.prog 103 #[.agg #[.string v.f0, .string v.f1]] w fun r w' => r = .returned (.agg #[.string v.f0, .string v.f1]) ∧ Below w.heap.size w w' := by
  obtain ⟨x0, x1⟩ := v
  go_enter Tryz.func103, Tryz.ntmps103
  go_wp2
  exact bodyPost_ret (v := .agg #[.string x0, .string x1]) (by simp [results, Tryz.results103, go_sem]) rfl ⟨rfl, (by repeat (first | refine Below.setCell ?_ (by (try simp) <;> omega) _ | refine Below.alloc ?_ (by (try simp) <;> omega) _ | refine Below.drew ?_ | assumption | exact Below.refl _ _ | refine Below.trans ?_ (Below.mono (by assumption) (by (try simp) <;> omega))))⟩
set_option maxHeartbeats 1000000 in
theorem eqCell_same (v : CellV) (w : World) :
    Calls Tryz.prog 30 #[.agg #[.string v.f0, .string v.f1], .agg #[.string v.f0, .string v.f1]] w fun r w' => r = .returned (.bool true) ∧ Below w.heap.size w w' := by
  obtain ⟨x0, x1⟩ := v
  go_enter Tryz.func30, Tryz.ntmps30
  go_wp2
  go_ret
  exact ⟨rfl, (by repeat (first | refine Below.setCell ?_ (by (try simp) <;> omega) _ | refine Below.alloc ?_ (by (try simp) <;> omega) _ | refine Below.drew ?_ | assumption | exact Below.refl _ _ | refine Below.trans ?_ (Below.mono (by assumption) (by (try simp) <;> omega))))⟩
set_option maxHeartbeats 1000000 in
theorem szCell_any (v : CellV) (l : Int) (w : World) (h0 : v.f0.size ≤ maxLen) (h1 : v.f1.size ≤ maxLen) (h0 : 0 ≤ l) (hl : l ≤ 1048576) :
    Calls Tryz.prog 101 #[.agg #[.string v.f0, .string v.f1], .int .i64 l] w fun r w' => r = .returned (.int .i64 (szN l (v.f0.size + v.f1.size))) ∧ Below w.heap.size w w' := by
  obtain ⟨x0, x1⟩ := v
  simp only at h0 h1
  unfold maxLen at h0 h1
  by_cases c0 : l - (x0.size : Int) < 0
  · have E : Hid (szN l (x0.size + x1.size) = -1) := by show szN l (x0.size + x1.size) = -1; unfold szN; rw [if_pos (by omega)]
    go_enter Tryz.func101, Tryz.ntmps101
    go_wp2
    go_ret
    exact ⟨by rw [E.out]; rfl, (by repeat (first | refine Below.setCell ?_ (by (try simp) <;> omega) _ | refine Below.alloc ?_ (by (try simp) <;> omega) _ | refine Below.drew ?_ | assumption | exact Below.refl _ _ | refine Below.trans ?_ (Below.mono (by assumption) (by (try simp) <;> omega))))⟩
  by_cases c1 : l - (x0.size : Int) - (x1.size : Int) < 0
  · have E : Hid (szN l (x0.size + x1.size) = -1) := by show szN l (x0.size + x1.size) = -1; unfold szN; rw [if_pos (by omega)]
    go_enter Tryz.func101, Tryz.ntmps101
    go_wp2
    go_ret
    exact ⟨by rw [E.out]; rfl, (by repeat (first | refine Below.setCell ?_ (by (try simp) <;> omega) _ | refine Below.alloc ?_ (by (try simp) <;> omega) _ | refine Below.drew ?_ | assumption | exact Below.refl _ _ | refine Below.trans ?_ (Below.mono (by assumption) (by (try simp) <;> omega))))⟩
  have E : Hid (szN l (x0.size + x1.size) = l - (x0.size : Int) - (x1.size : Int)) := by show szN l (x0.size + x1.size) = _; unfold szN; rw [if_neg (by omega)]; omega
  go_enter Tryz.func101, Tryz.ntmps101
  go_wp2
  go_ret
  exact ⟨by rw [E.out]; rfl, (by repeat (first | refine Below.setCell ?_ (by (try simp) <;> omega) _ | refine Below.alloc ?_ (by (try simp) <;> omega) _ | refine Below.drew ?_ | assumption | exact Below.refl _ _ | refine Below.trans ?_ (Below.mono (by assumption) (by (try simp) <;> omega))))⟩
/-- Block g holds n of them in a row that may be written. -/
def CellR (w : World) (g n : Nat) (V : Nat → CellV) : Prop := Elems w g 0 n 2 (cellF V) ∧ Room w g (n * 2) ∧ g < w.heap.size
theorem CellR.sl {w : World} {g n : Nat} {V : Nat → CellV} (h : CellR w g n V) : Sl w (some ⟨g, 0, none⟩) n 2 (cellF V) := Or.inr ⟨g, 0, rfl, h.2.2, h.1⟩
theorem CellR.next {w w' : World} {g n : Nat} {V : Nat → CellV} (h : CellR w g n V) (hb : Below w.heap.size w w') : CellR w' g n V := ⟨h.1.below hb h.2.2, h.2.1.below hb h.2.2, Nat.lt_of_lt_of_le h.2.2 hb.size⟩
theorem info_cell : (Tryz.prog.info? 55).map (fun i => (i.zero, i.size, i.bytes)) = some (some (.agg #[.string ⟨#[]⟩, .string ⟨#[]⟩]), 2, 32) := by kernel_rfl

set_option maxHeartbeats 1000000 in
theorem szCellS_any (a : Option Addr) (n cap : Nat) (V : Nat → CellV) (l : Int) (w : World) (hn : n ≤ maxLen) (h0 : 0 ≤ l) (hl : l ≤ 1048576) (hs : Sl w a n 2 (cellF V)) (hz : ∀ i, i < n → (V i).f0.size ≤ maxLen ∧ (V i).f1.size ≤ maxLen) :
    Calls Tryz.prog 77 #[.slice a n cap, .int .i64 l] w fun r w' => ∃ l' : Int, r = .returned (.int .i64 l') ∧ (-1 ≤ l' ∧ l' ≤ 1048576) ∧ (0 ≤ l' → n ≤ 1048576) ∧ Below w.heap.size w w' := by
  have hm := hn
  unfold maxLen at hm
  by_cases h : l - (n : Int) < 0
  · clear hs hz
    go_enter Tryz.func77, Tryz.ntmps77
    go_wp2
    go_ret
    exact ⟨-1, rfl, by omega, fun h => absurd h (by omega), Below.refl _ _⟩
  · have hn' : n ≤ 1048576 := by omega
    have HZ : Hid (∀ i, i < n → (V i).f0.size ≤ maxLen ∧ (V i).f1.size ≤ maxLen) := hz
    clear hz
    go_enter Tryz.func77, Tryz.ntmps77
    go_wp2
    go_loopw [1, 5] (fun l i wr => ∃ (k : Nat) (x : Int), k ≤ n ∧ i = .int .i64 k ∧ l = .int .i64 x ∧ 0 ≤ x ∧ x ≤ 1048576 ∧ Below w.heap.size w wr) (fun _ i _ => n - (intOf i).toNat)
    case atStart => exact ⟨0, _, Nat.zero_le _, rfl, rfl, by omega, by omega, Below.refl _ _⟩
    case round =>
      obtain ⟨k, x, hk, rfl, rfl, hx0, hx1, hBr⟩ := hrel
      by_cases hlt : k < n
      · rcases hs.below hBr (Nat.le_refl _) with h | ⟨b, off, rfl, hbs, hE⟩
        · omega
        obtain ⟨c0, c1⟩ := cell_cells hE hlt
        have hlt' : (k : Int) < (n : Int) := by omega
        have HB : Hid (Below w.heap.size w wr) := hBr
        have hsb := szN_bd x ((V k).f0.size + (V k).f1.size) hx0 hx1
        clear hs hE hBr
        go_wp2_with fail
        refine (szCell_any (V k) _ _ (HZ.out k hlt).1 (HZ.out k hlt).2 hx0 hx1).mono ?_
        rintro r w2 ⟨rfl, hb2⟩
        have HB2 : Hid (Below w.heap.size w w2) := HB.out.trans (hb2.mono HB.out.size)
        clear hb2 c0 c1
        generalize szN x ((V k).f0.size + (V k).f1.size) = y at *
        by_cases hy : y < 0
        · go_wp2
          go_ret
          exact ⟨-1, rfl, by omega, fun h => absurd h (by omega), HB2.out⟩
        · go_wp2
          go_roundw
          case rel => exact ⟨k + 1, y, by omega, by go_num, rfl, by omega, hsb.2, HB2.out⟩
          case measure => simp [intOf]; omega
      · have HB : Hid (Below w.heap.size w wr) := hBr
        clear hs hBr
        go_wp2
        go_ret
        exact ⟨x, rfl, by omega, fun _ => hn', HB.out⟩

set_option maxHeartbeats 1000000 in
theorem toCellS_any (a : Option Addr) (n cap : Nat) (V : Nat → CellV) (w : World) (hn : n ≤ 1048576) (hs : Sl w a n 2 (cellF V)) :
    Calls Tryz.prog 81 #[.slice a n cap] w fun r w' => r = .returned (.slice (some ⟨w.heap.size, 0, none⟩) n n) ∧ CellR w' w.heap.size n V ∧ w.heap.size < w'.heap.size ∧ Below w.heap.size w w' := by
  obtain ⟨i0, hi, hz0, hz1, hz2⟩ := info_parts info_cell
  go_enter Tryz.func81, Tryz.ntmps81
  go_wp2_with (at_make; refine wpList_make_full _ rfl (.tmp 6) (.tmp 6) 28 rfl w.heap.size 55 i0 (.agg #[.string ⟨#[]⟩, .string ⟨#[]⟩]) 2 Tryz.underlying28 hi hz0 hz1 .i64 .i64 _ _ n rfl rfl rfl rfl (by rw [hz2]; omega) (by unfold maxLen; omega) (Nat.le_refl _) ?_; intro w1 hown hgrow)
  have hR := room_made hown
  have hB : Below w.heap.size w w1 := (Below.refl _ _).grown hgrow (Nat.le_refl _) (fun k hk => by cases hk)
  have hG : w.heap.size < w1.heap.size := by
    obtain ⟨_, h | ⟨g', cap', cur, hv, hb, hh, _⟩⟩ := hown
    · exact absurd h.1 (by simp)
    · simp only [Value.slice.injEq, Option.some.injEq, Addr.mk.injEq, and_true, true_and] at hv
      obtain ⟨rfl, rfl⟩ := hv
      rcases Nat.lt_or_ge w.heap.size w1.heap.size with h | h
      · exact h
      · rw [Array.getElem?_eq_none h] at hh; cases hh
  clear hown hgrow hi hz0 hz1 hz2
  go_loopw [4] (fun i wr => ∃ k : Nat, k ≤ n ∧ i = .int .i64 k ∧ Room wr w.heap.size (n * 2) ∧ Elems wr w.heap.size 0 k 2 (cellF V) ∧ w.heap.size < wr.heap.size ∧ Below w.heap.size w wr) (fun i _ => n - (intOf i).toNat)
  case atStart => exact ⟨0, Nat.zero_le _, rfl, hR, fun i hi => absurd hi (by omega), hG, hB⟩
  case round =>
    obtain ⟨k, hk, rfl, hRr, hEr, hGr, hBr⟩ := hrel
    clear hR hB hG
    by_cases hlt : k < n
    · rcases hs.below hBr (Nat.le_refl _) with h | ⟨b, off, rfl, hbs, hE⟩
      · omega
      obtain ⟨c0, c1⟩ := cell_cells hE hlt
      have hlt' : (k : Int) < (n : Int) := by omega
      have HH : Hid (Room wr w.heap.size (n * 2) ∧ Elems wr w.heap.size 0 k 2 (cellF V) ∧ Below w.heap.size w wr) := ⟨hRr, hEr, hBr⟩
      clear hRr hEr hBr hs hE
      go_wp2_with fail
      refine (toCell_any (V k) _).mono ?_
      rintro e w2 ⟨rfl, hb2⟩
      obtain ⟨hRr, hEr, hBr⟩ := HH.out
      have hR2 := hRr.below hb2 hGr
      have hE2 := hEr.below hb2 hGr
      have hB2 : Below w.heap.size w w2 := hBr.trans (hb2.mono (by omega))
      have hG2 : w.heap.size < w2.heap.size := Nat.lt_of_lt_of_le hGr hb2.size
      obtain ⟨⟨y0, r0⟩, g0⟩ := hR2 (k * 2 + 0) (by omega)
      obtain ⟨⟨y1, r1⟩, g1⟩ := hR2 (k * 2 + 1) (by omega)
      rw [Nat.add_zero] at r0 g0
      have R : Hid (Room (put w2 w.heap.size (k * 2) [.string (V k).f0, .string (V k).f1]) w.heap.size (n * 2) ∧ Elems (put w2 w.heap.size (k * 2) [.string (V k).f0, .string (V k).f1]) w.heap.size 0 (k + 1) 2 (cellF V) ∧ w.heap.size < (put w2 w.heap.size (k * 2) [.string (V k).f0, .string (V k).f1]).heap.size ∧ Below w.heap.size w (put w2 w.heap.size (k * 2) [.string (V k).f0, .string (V k).f1])) :=
        ⟨put_room _ _ _ hR2 (by simp; omega), hE2.step hR2 hlt rfl (fun j hj => by match j, hj with | 0, _ => rfl | 1, _ => rfl), by rw [put_size]; exact hG2, put_below (Nat.le_refl _) _ _ _ _ hB2⟩
      clear HH hRr hEr hBr hR2 hE2 hB2 hb2
      go_wp2
      go_roundw
      case rel => exact ⟨k + 1, by omega, by go_num, R.out⟩
      case measure => simp [intOf]; omega
    · have hkn : k = n := by omega
      subst hkn
      have HH : Hid (CellR wr w.heap.size k V ∧ w.heap.size < wr.heap.size ∧ Below w.heap.size w wr) := ⟨⟨hEr, hRr, hGr⟩, hGr, hBr⟩
      clear hs hRr hEr hBr
      go_wp2
      go_ret
      exact ⟨rfl, HH.out⟩

set_option maxHeartbeats 1000000 in
theorem eqCellS_same (a a' : Option Addr) (n cap cap' : Nat) (V : Nat → CellV) (w : World) (hn : n ≤ 1048576) (hs : Sl w a n 2 (cellF V)) (hs' : Sl w a' n 2 (cellF V)) :
    Calls Tryz.prog 10 #[.slice a n cap, .slice a' n cap'] w fun r w' => r = .returned (.bool true) ∧ Below w.heap.size w w' := by
  go_enter Tryz.func10, Tryz.ntmps10
  go_wp2
  go_loopw [5] (fun i wr => ∃ k : Nat, k ≤ n ∧ i = .int .i64 k ∧ Below w.heap.size w wr) (fun i _ => n - (intOf i).toNat)
  case atStart => exact ⟨0, Nat.zero_le _, rfl, Below.refl _ _⟩
  case round =>
    obtain ⟨k, hk, rfl, hBr⟩ := hrel
    by_cases hlt : k < n
    · rcases hs.below hBr (Nat.le_refl _) with h | ⟨b, off, rfl, hbs, hE⟩
      · omega
      rcases hs'.below hBr (Nat.le_refl _) with h | ⟨b', off', rfl, hbs', hE'⟩
      · omega
      obtain ⟨c0, c1⟩ := cell_cells hE hlt
      obtain ⟨d0, d1⟩ := cell_cells hE' hlt
      have hlt' : (k : Int) < (n : Int) := by omega
      clear hs hs' hE hE'
      go_upto_region 6 with fail
      go_cut [26] (fun s26 wx => s26 = .bool false ∧ Below w.heap.size w wx)
      case first =>
        go_region_with (go_at_call 30; refine (eqCell_same (V k) _).mono ?_; rintro e w1 ⟨rfl, hb⟩)
        all_goals (go_wp2_with fail; go_meet; exact ⟨rfl, hBr.drew.trans (hb.mono hBr.size)⟩)
      case rest =>
        obtain ⟨rfl, hb2⟩ := hcut
        go_wp2
        go_roundw
        case rel => exact ⟨k + 1, by omega, by go_num, hb2⟩
        case measure => simp [intOf]; omega
    · have hkn : k = n := by omega
      subst hkn
      clear hs hs'
      go_wp2
      go_ret
      exact ⟨rfl, hBr⟩

theorem list_cell {α : Type} {l : List α} (h : l.length = 2) : ∃ v0 v1, l = [v0, v1] := by
  match l, h with
  | [v0, v1], _ => exact ⟨v0, v1, rfl⟩
theorem cells_lawsCell : Tryz.prog.cellsOf 132 = 2 := by kernel_rfl
theorem read_cell {H : Type} {enc : TypeId × Value → H} {w : World} {sp : Nat → Bool} {hd : Bool} {n : Nat} {cs : List Value} {y : DataW H × List MemPlace} (h : DataW.trod enc Tryz.prog w 0 sp hd n 132 cs = some y) :
    ∃ v : CellV, cs = [.string v.f0, .string v.f1] ∧ v.f0.size ≤ maxLen ∧ v.f1.size ≤ maxLen := by
  obtain ⟨xs, m, _, _, hl, hlen, hf⟩ := DataW.trod_struct Tryz.underlying132 h
  rw [cells_lawsCell] at hl
  have hx : xs.length = 2 := hlen
  obtain ⟨v0, v1, rfl⟩ := list_cell hl
  have g0 := hf 0 _ rfl
  have g1 := hf 1 _ rfl
  rw [List.getElem?_eq_getElem (by omega)] at g0 g1
  obtain ⟨n0, q0, _, z0⟩ := DataW.trod_string Tryz.underlying9 g0
  obtain ⟨n1, q1, _, z1⟩ := DataW.trod_string Tryz.underlying9 g1
  simp [cells_int, cells_str, cells_bool] at q0 q1
  exact ⟨⟨n0, n1⟩, by simp [q0, q1], z0, z1⟩
theorem open_cells {H : Type} {enc : TypeId × Value → H} {w : World} {a : Option Addr} {len cap : Nat} {d : DataW H} {p : List MemPlace}
    (h : DataW.Trod enc Tryz.prog w 0 (fun _ => true) true 81 (.slice a len cap) d p) : len ≤ maxLen ∧ ∃ V, Sl w a len 2 (cellF V) ∧ ∀ i, i < len → (V i).f0.size ≤ maxLen ∧ (V i).f1.size ≤ maxLen := by
  obtain ⟨hl, h | ⟨b, off, rfl, hb, hel⟩⟩ := open_elems Tryz.underlying81 cells_lawsCell (by omega) h
  · exact ⟨hl, fun _ => ⟨⟨#[]⟩, ⟨#[]⟩⟩, Or.inl h, fun i hi => absurd hi (by omega)⟩
  · have each : ∀ i, i < len → ∃ v : CellV, (∀ j, j < 2 → w.cell? ⟨b, off + i * 2 + j, none⟩ = [Value.string v.f0, .string v.f1][j]?) ∧ v.f0.size ≤ maxLen ∧ v.f1.size ≤ maxLen := by
      intro i hi
      obtain ⟨cs, n, y, _, hc, ht⟩ := hel i hi
      obtain ⟨v, rfl, hz⟩ := read_cell ht
      exact ⟨v, hc, hz⟩
    obtain ⟨V, hq⟩ := choose_lt each
    refine ⟨hl, V, Or.inr ⟨b, off, rfl, hb, fun i hi j hj => ?_⟩, fun i hi => (hq i hi).2⟩
    rw [(hq i hi).1 j hj]
    match j, hj with
    | 0, _ => rfl
    | 1, _ => rfl
end Go.Proofs.YtenfaofhoheleaaGreat
