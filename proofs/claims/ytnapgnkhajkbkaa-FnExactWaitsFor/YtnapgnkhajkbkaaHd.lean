/- Lists of holds: the contracts of the law's own functions toHold, toHoldS, szHoldS, eqHold, eqHoldS. -/
import Derived.Test.YtnapgnkhajkbkaaIn
import Derived.Test.YtnapgnkhajkbkaaTurn
import Derived.Deep.RegionWith
import Derived.Deep.DeepCutAuto
namespace Go.Proofs.Ytnapgnkhajkbkaa
open Go.RowKit
set_option linter.unusedVariables false

def hdF (T M : Nat → Int) (i j : Nat) : Value := if j = 0 then .int .i64 (T i) else .int .i64 (M i)
theorem hd_cells {w : World} {b off n k : Nat} {T M : Nat → Int} (h : Elems w b off n 2 (hdF T M)) (hk : k < n) :
    w.cell? ⟨b, off + k * 2, none⟩ = some (.int .i64 (T k)) ∧ w.cell? ⟨b, off + k * 2 + 1, none⟩ = some (.int .i64 (M k)) := ⟨h k hk 0 (by omega), h k hk 1 (by omega)⟩
theorem room2 {w : World} {g n k : Nat} (h : Room w g (n * 2)) (hk : k < n) :
    ∃ x y, w.cell? ⟨g, k * 2, none⟩ = some x ∧ w.cell? ⟨g, k * 2 + 1, none⟩ = some y ∧ w.frozen? ⟨g, k * 2, none⟩ = false ∧ w.frozen? ⟨g, k * 2 + 1, none⟩ = false := by
  obtain ⟨⟨x, hx⟩, fx⟩ := h (k * 2) (by omega)
  obtain ⟨⟨y, hy⟩, fy⟩ := h (k * 2 + 1) (by omega)
  exact ⟨x, y, hx, hy, fx, fy⟩
theorem info_hold : (Try.prog.info? 50).map (fun i => (i.zero, i.size, i.bytes)) = some (some (.agg #[.int .i64 0, .int .i64 0]), 2, 16) := by kernel_rfl
/-- What came in is as it was. -/
theorem below_next {b w w' : World} (h : Below b.heap.size b w) (hb : Below w.heap.size w w') : Below b.heap.size b w' := h.trans (hb.mono h.size)
theorem Sl.kept {b w : World} {a : Option Addr} {n c : Nat} {F : Nat → Nat → Value} (h : Sl b a n c F) (hb : Below b.heap.size b w) : Sl w a n c F := h.below hb (Nat.le_refl _)

set_option maxHeartbeats 400000 in
theorem toHold_any (t m : Int) (w : World) :
    Calls Try.prog 129 #[.agg #[.int .i64 t, .int .i64 m]] w fun r w' => r = .returned (.agg #[.int .i64 t, .int .i64 m]) ∧ Below w.heap.size w w' := by
  go_enter Try.func129, Try.ntmps129
  go_wp2
  exact bodyPost_ret (v := .agg #[.int .i64 t, .int .i64 m]) (by simp [results, Try.results129, go_sem]) rfl ⟨rfl, (by repeat (first | refine Below.setCell ?_ (by (try simp) <;> omega) _ | refine Below.alloc ?_ (by (try simp) <;> omega) _ | refine Below.drew ?_ | assumption | exact Below.refl _ _ | refine Below.trans ?_ (Below.mono (by assumption) (by (try simp) <;> omega))))⟩

set_option maxHeartbeats 400000 in
theorem eqHold_same (t m : Int) (w : World) :
    Calls Try.prog 130 #[.agg #[.int .i64 t, .int .i64 m], .agg #[.int .i64 t, .int .i64 m]] w fun r w' => r = .returned (.bool true) ∧ Below w.heap.size w w' := by
  go_enter Try.func130, Try.ntmps130
  go_wp2
  go_ret
  exact ⟨rfl, (by repeat (first | refine Below.setCell ?_ (by (try simp) <;> omega) _ | refine Below.alloc ?_ (by (try simp) <;> omega) _ | refine Below.drew ?_ | assumption | exact Below.refl _ _ | refine Below.trans ?_ (Below.mono (by assumption) (by (try simp) <;> omega))))⟩

set_option maxHeartbeats 400000 in
theorem szHoldS_any (a : Option Addr) (n cap : Nat) (l : Int) (w : World) (hn : n ≤ maxLen) (h0 : 0 ≤ l) (h1 : l ≤ 1048576) :
    Calls Try.prog 109 #[.slice a n cap, .int .i64 l] w fun r w' => (∃ l' : Int, r = .returned (.int .i64 l') ∧ -1 ≤ l' ∧ l' ≤ l ∧ (0 ≤ l' → n ≤ 1048576)) ∧ w' = w := by
  have hm := hn
  unfold maxLen at hm
  by_cases h : l - (n : Int) < 0
  · go_enter Try.func109, Try.ntmps109
    go_wp2
    go_ret
    exact ⟨⟨-1, rfl, by omega, by omega, fun h => absurd h (by omega)⟩, rfl⟩
  · go_enter Try.func109, Try.ntmps109
    go_wp2
    go_ret
    exact ⟨⟨l - n, rfl, by omega, by omega, fun _ => by omega⟩, rfl⟩

set_option maxHeartbeats 400000 in
theorem toHoldS_any (a : Option Addr) (n cap : Nat) (T M : Nat → Int) (w : World) (hn : n ≤ 1048576) (hs : Sl w a n 2 (hdF T M)) :
    Calls Try.prog 110 #[.slice a n cap] w fun r w' => r = .returned (.slice (some ⟨w.heap.size, 0, none⟩) n n) ∧ (Elems w' w.heap.size 0 n 2 (hdF T M) ∧ Room w' w.heap.size (n * 2)) ∧ w.heap.size < w'.heap.size ∧ Below w.heap.size w w' := by
  obtain ⟨i0, hi, hz0, hz1, hz2⟩ := info_parts info_hold
  go_enter Try.func110, Try.ntmps110
  go_wp2_with (at_make; refine wpList_make_full _ rfl (.tmp 6) (.tmp 6) 46 rfl w.heap.size 50 i0 (.agg #[.int .i64 0, .int .i64 0]) 2 Try.underlying46 hi hz0 hz1 .i64 .i64 _ _ n rfl rfl rfl rfl (by rw [hz2]; omega) (by unfold maxLen; omega) (Nat.le_refl _) ?_; intro w1 hown hgrow)
  have hR := room_made hown
  have hB : Below w.heap.size w w1 := (Below.refl _ _).grown hgrow (Nat.le_refl _) (fun k hk => by cases hk)
  have hG : w.heap.size < w1.heap.size := by
    obtain ⟨_, h | ⟨g', cap', cur, hv, hb, hh, _⟩⟩ := hown
    · exact absurd h.1 (by simp)
    · simp only [Value.slice.injEq, Option.some.injEq, Addr.mk.injEq, and_true, true_and] at hv
      obtain ⟨rfl, rfl⟩ := hv
      rcases Nat.lt_or_ge w.heap.size w1.heap.size with h | h
      · exact h
      · rw [Array.getElem?_eq_none h] at hh; cases hh
  clear hown hgrow hi hz0 hz1 hz2
  go_loopw [4] (fun i wr => ∃ k : Nat, k ≤ n ∧ i = .int .i64 k ∧ Room wr w.heap.size (n * 2) ∧ Elems wr w.heap.size 0 k 2 (hdF T M) ∧ w.heap.size < wr.heap.size ∧ Below w.heap.size w wr) (fun i _ => n - (intOf i).toNat)
  case atStart => exact ⟨0, Nat.zero_le _, rfl, hR, fun i hi => absurd hi (by omega), hG, hB⟩
  case round =>
    obtain ⟨k, hk, rfl, hRr, hEr, hGr, hBr⟩ := hrel
    clear hR hB hG
    by_cases hlt : k < n
    · rcases hs.below hBr (Nat.le_refl _) with h | ⟨b, off, rfl, hbs, hE⟩
      · omega
      obtain ⟨c0, c1⟩ := hd_cells hE hlt
      have hlt' : (k : Int) < (n : Int) := by omega
      have HH : Hid (Room wr w.heap.size (n * 2) ∧ Elems wr w.heap.size 0 k 2 (hdF T M) ∧ Below w.heap.size w wr) := ⟨hRr, hEr, hBr⟩
      clear hRr hEr hBr hs hE
      go_wp2_with fail
      refine (toHold_any _ _ _).mono ?_
      rintro e w2 ⟨rfl, hb2⟩
      obtain ⟨hRr, hEr, hBr⟩ := HH.out
      have hR2 := hRr.below hb2 hGr
      have hE2 := hEr.below hb2 hGr
      have hB2 : Below w.heap.size w w2 := hBr.trans (hb2.mono (by omega))
      have hG2 : w.heap.size < w2.heap.size := Nat.lt_of_lt_of_le hGr hb2.size
      obtain ⟨x, y, r0, r1, f0, f1⟩ := room2 hR2 hlt
      have R : Hid (Room (put w2 w.heap.size (k * 2) [.int .i64 (T k), .int .i64 (M k)]) w.heap.size (n * 2) ∧ Elems (put w2 w.heap.size (k * 2) [.int .i64 (T k), .int .i64 (M k)]) w.heap.size 0 (k + 1) 2 (hdF T M) ∧ w.heap.size < (put w2 w.heap.size (k * 2) [.int .i64 (T k), .int .i64 (M k)]).heap.size ∧ Below w.heap.size w (put w2 w.heap.size (k * 2) [.int .i64 (T k), .int .i64 (M k)])) :=
        ⟨put_room _ _ _ hR2 (by simp; omega), hE2.step hR2 hlt rfl (fun j hj => by match j, hj with | 0, _ => rfl | 1, _ => rfl), by rw [put_size]; exact hG2, put_below (Nat.le_refl _) _ _ _ _ hB2⟩
      clear HH hRr hEr hBr hR2 hE2 hB2 hb2
      go_wp2
      go_roundw
      case rel => exact ⟨k + 1, by omega, by go_num, R.out⟩
      case measure => simp [intOf]; omega
    · have hkn : k = n := by omega
      subst hkn
      have HH : Hid ((Elems wr w.heap.size 0 k 2 (hdF T M) ∧ Room wr w.heap.size (k * 2)) ∧ w.heap.size < wr.heap.size ∧ Below w.heap.size w wr) := ⟨⟨hEr, hRr⟩, hGr, hBr⟩
      clear hs hRr hEr hBr
      go_wp2
      go_ret
      exact ⟨rfl, HH.out⟩

set_option maxHeartbeats 1000000 in
theorem eqHoldS_same (a a' : Option Addr) (n cap cap' : Nat) (T M : Nat → Int) (w : World) (hn : n ≤ 1048576) (hs : Sl w a n 2 (hdF T M)) (hs' : Sl w a' n 2 (hdF T M)) :
    Calls Try.prog 111 #[.slice a n cap, .slice a' n cap'] w fun r w' => r = .returned (.bool true) ∧ Below w.heap.size w w' := by
  go_enter Try.func111, Try.ntmps111
  go_wp2
  go_loopw [5] (fun i wr => ∃ k : Nat, k ≤ n ∧ i = .int .i64 k ∧ Below w.heap.size w wr) (fun i _ => n - (intOf i).toNat)
  case atStart => exact ⟨0, Nat.zero_le _, rfl, Below.refl _ _⟩
  case round =>
    obtain ⟨k, hk, rfl, hBr⟩ := hrel
    by_cases hlt : k < n
    · rcases hs.below hBr (Nat.le_refl _) with h | ⟨b, off, rfl, hbs, hE⟩
      · omega
      rcases hs'.below hBr (Nat.le_refl _) with h | ⟨b', off', rfl, hbs', hE'⟩
      · omega
      obtain ⟨c0, c1⟩ := hd_cells hE hlt
      obtain ⟨d0, d1⟩ := hd_cells hE' hlt
      have hlt' : (k : Int) < (n : Int) := by omega
      clear hs hs' hE hE'
      go_upto_region 6 with fail
      go_cut [26] (fun s26 wx => s26 = .bool false ∧ Below w.heap.size w wx)
      case first =>
        go_region_with (go_at_call 130; refine (eqHold_same _ _ _).mono ?_; rintro e w1 ⟨rfl, hb⟩)
        all_goals (go_wp2_with fail; go_meet; exact ⟨rfl, hBr.drew.trans (hb.mono hBr.size)⟩)
      case rest =>
        obtain ⟨rfl, hb2⟩ := hcut
        go_wp2
        go_roundw
        case rel => exact ⟨k + 1, by omega, by go_num, hb2⟩
        case measure => simp [intOf]; omega
    · have hkn : k = n := by omega
      subst hkn
      clear hs hs'
      go_wp2
      go_ret
      exact ⟨rfl, hBr⟩
end Go.Proofs.Ytnapgnkhajkbkaa
