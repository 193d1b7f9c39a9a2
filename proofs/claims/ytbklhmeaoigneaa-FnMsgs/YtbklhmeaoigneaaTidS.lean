/- The contracts of the law's own functions on lists of tids: toTidS, eqTidS, szTidS. -/
import Derived.Test.YtbklhmeaoigneaaTidC
import Derived.Test.YtbklhmeaoigneaaMem
import Derived.Deep.RegionWith
import Derived.Deep.DeepCutAuto
namespace Go.Proofs.Ytbklhmeaoigneaa
open Go.RowKit
set_option linter.unusedVariables false

def tidF (E S : Nat → Int) (B : Nat → Bool) (i j : Nat) : Value := if j = 0 then .int .i64 (E i) else if j = 1 then .int .i64 (S i) else .bool (B i)
theorem tid_cells {w : World} {b off n k : Nat} {E S : Nat → Int} {B : Nat → Bool} (h : Elems w b off n 3 (tidF E S B)) (hk : k < n) :
    w.cell? ⟨b, off + k * 3, none⟩ = some (.int .i64 (E k)) ∧ w.cell? ⟨b, off + k * 3 + 1, none⟩ = some (.int .i64 (S k)) ∧ w.cell? ⟨b, off + k * 3 + 2, none⟩ = some (.bool (B k)) :=
  ⟨h k hk 0 (by omega), h k hk 1 (by omega), h k hk 2 (by omega)⟩
theorem room3 {w : World} {g n k : Nat} (h : Room w g (n * 3)) (hk : k < n) :
    ∃ x y z, w.cell? ⟨g, k * 3, none⟩ = some x ∧ w.cell? ⟨g, k * 3 + 1, none⟩ = some y ∧ w.cell? ⟨g, k * 3 + 2, none⟩ = some z ∧
      w.frozen? ⟨g, k * 3, none⟩ = false ∧ w.frozen? ⟨g, k * 3 + 1, none⟩ = false ∧ w.frozen? ⟨g, k * 3 + 2, none⟩ = false := by
  obtain ⟨⟨x, hx⟩, fx⟩ := h (k * 3) (by omega)
  obtain ⟨⟨y, hy⟩, fy⟩ := h (k * 3 + 1) (by omega)
  obtain ⟨⟨z, hz⟩, fz⟩ := h (k * 3 + 2) (by omega)
  exact ⟨x, y, z, hx, hy, hz, fx, fy, fz⟩
theorem info_tid : (Try.prog.info? 24).map (fun i => (i.zero, i.size, i.bytes)) = some (some (.agg #[.int .i64 0, .int .i64 0, .bool false]), 3, 24) := by kernel_rfl

set_option maxHeartbeats 400000 in
theorem szTidS_any (a : Option Addr) (n cap : Nat) (l : Int) (w : World) (hn : n ≤ maxLen) (h0 : 0 ≤ l) (h1 : l ≤ 1048576) :
    Calls Try.prog 39 #[.slice a n cap, .int .i64 l] w fun r w' => r = .returned (.int .i64 (if l < n then -1 else l - n)) ∧ w' = w := by
  unfold maxLen at hn
  by_cases h : l < n
  · have h' : l - (n : Int) < 0 := by omega
    go_enter Try.func39, Try.ntmps39
    go_wp2
    go_ret
    exact ⟨by simp, rfl⟩
  · have h' : ¬ l - (n : Int) < 0 := by omega
    go_enter Try.func39, Try.ntmps39
    go_wp2
    go_ret
    exact ⟨by simp, rfl⟩

set_option maxHeartbeats 400000 in
theorem toTidS_any (a : Option Addr) (n cap : Nat) (E S : Nat → Int) (B : Nat → Bool) (w : World) (hn : n ≤ 1048576) (hs : Sl w a n 3 (tidF E S B)) :
    Calls Try.prog 40 #[.slice a n cap] w fun r w' => r = .returned (.slice (some ⟨w.heap.size, 0, none⟩) n n) ∧ Elems w' w.heap.size 0 n 3 (tidF E S B) ∧ w.heap.size < w'.heap.size ∧ Below w.heap.size w w' := by
  obtain ⟨i0, hi, hz0, hz1, hz2⟩ := info_parts info_tid
  go_enter Try.func40, Try.ntmps40
  go_wp2_with (at_make; refine wpList_make_full _ rfl (.tmp 6) (.tmp 6) 37 rfl w.heap.size 24 i0 (.agg #[.int .i64 0, .int .i64 0, .bool false]) 3 Try.underlying37 hi hz0 hz1 .i64 .i64 _ _ n rfl rfl rfl rfl (by rw [hz2]; omega) (by unfold maxLen; omega) (Nat.le_refl _) ?_; intro w1 hown hgrow)
  have hR := room_made hown
  have hB : Below w.heap.size w w1 := (Below.refl _ _).grown hgrow (Nat.le_refl _) (fun k hk => by cases hk)
  have hG : w.heap.size < w1.heap.size := by
    obtain ⟨_, h | ⟨g', cap', cur, hv, hb, hh, _⟩⟩ := hown
    · exact absurd h.1 (by simp)
    · simp only [Value.slice.injEq, Option.some.injEq, Addr.mk.injEq, and_true, true_and] at hv
      obtain ⟨rfl, rfl⟩ := hv
      rcases Nat.lt_or_ge w.heap.size w1.heap.size with h | h
      · exact h
      · rw [Array.getElem?_eq_none h] at hh; cases hh
  clear hown hgrow hi hz0 hz1 hz2
  go_loopw [4] (fun i wr => ∃ k : Nat, k ≤ n ∧ i = .int .i64 k ∧ Room wr w.heap.size (n * 3) ∧ Elems wr w.heap.size 0 k 3 (tidF E S B) ∧ w.heap.size < wr.heap.size ∧ Below w.heap.size w wr) (fun i _ => n - (intOf i).toNat)
  case atStart => exact ⟨0, Nat.zero_le _, rfl, hR, fun i hi => absurd hi (by omega), hG, hB⟩
  case round =>
    obtain ⟨k, hk, rfl, hRr, hEr, hGr, hBr⟩ := hrel
    clear hR hB hG
    by_cases hlt : k < n
    · rcases hs.below hBr (Nat.le_refl _) with h | ⟨b, off, rfl, hbs, hE⟩
      · omega
      obtain ⟨c0, c1, c2⟩ := tid_cells hE hlt
      have hlt' : (k : Int) < (n : Int) := by omega
      have HH : Hid (Room wr w.heap.size (n * 3) ∧ Elems wr w.heap.size 0 k 3 (tidF E S B) ∧ Below w.heap.size w wr) := ⟨hRr, hEr, hBr⟩
      clear hRr hEr hBr hs hE
      go_wp2_with fail
      refine (toTid_any _ _ _ _).mono ?_
      rintro e w2 ⟨rfl, hb2⟩
      obtain ⟨hRr, hEr, hBr⟩ := HH.out
      have hR2 := hRr.below hb2 hGr
      have hE2 := hEr.below hb2 hGr
      have hB2 : Below w.heap.size w w2 := hBr.trans (hb2.mono (by omega))
      have hG2 : w.heap.size < w2.heap.size := Nat.lt_of_lt_of_le hGr hb2.size
      obtain ⟨x, y, z, r0, r1, r2, f0, f1, f2⟩ := room3 hR2 hlt
      have R : Hid (Room (put w2 w.heap.size (k * 3) [.int .i64 (E k), .int .i64 (S k), .bool (B k)]) w.heap.size (n * 3) ∧ Elems (put w2 w.heap.size (k * 3) [.int .i64 (E k), .int .i64 (S k), .bool (B k)]) w.heap.size 0 (k + 1) 3 (tidF E S B) ∧ w.heap.size < (put w2 w.heap.size (k * 3) [.int .i64 (E k), .int .i64 (S k), .bool (B k)]).heap.size ∧ Below w.heap.size w (put w2 w.heap.size (k * 3) [.int .i64 (E k), .int .i64 (S k), .bool (B k)])) :=
        ⟨put_room _ _ _ hR2 (by simp; omega), hE2.step hR2 hlt rfl (fun j hj => by match j, hj with | 0, _ => rfl | 1, _ => rfl | 2, _ => rfl), by rw [put_size]; exact hG2, put_below (Nat.le_refl _) _ _ _ _ hB2⟩
      clear HH hRr hEr hBr hR2 hE2 hB2 hb2
      go_wp2
      go_roundw
      case rel => exact ⟨k + 1, by omega, by go_num, R.out⟩
      case measure => simp [intOf]; omega
    · have hkn : k = n := by omega
      subst hkn
      clear hs hRr
      have HH : Hid (Elems wr w.heap.size 0 k 3 (tidF E S B) ∧ w.heap.size < wr.heap.size ∧ Below w.heap.size w wr) := ⟨hEr, hGr, hBr⟩
      clear hEr hBr
      go_wp2
      go_ret
      exact ⟨rfl, HH.out⟩

set_option maxHeartbeats 1000000 in
theorem eqTidS_same (a a' : Option Addr) (n cap cap' : Nat) (E S : Nat → Int) (B : Nat → Bool) (w : World) (hn : n ≤ 1048576) (hs : Sl w a n 3 (tidF E S B)) (hs' : Sl w a' n 3 (tidF E S B)) :
    Calls Try.prog 41 #[.slice a n cap, .slice a' n cap'] w fun r w' => r = .returned (.bool true) ∧ Below w.heap.size w w' := by
  go_enter Try.func41, Try.ntmps41
  go_wp2
  go_loopw [5] (fun i wr => ∃ k : Nat, k ≤ n ∧ i = .int .i64 k ∧ Below w.heap.size w wr) (fun i _ => n - (intOf i).toNat)
  case atStart => exact ⟨0, Nat.zero_le _, rfl, Below.refl _ _⟩
  case round =>
    obtain ⟨k, hk, rfl, hBr⟩ := hrel
    by_cases hlt : k < n
    · rcases hs.below hBr (Nat.le_refl _) with h | ⟨b, off, rfl, hbs, hE⟩
      · omega
      rcases hs'.below hBr (Nat.le_refl _) with h | ⟨b', off', rfl, hbs', hE'⟩
      · omega
      obtain ⟨c0, c1, c2⟩ := tid_cells hE hlt
      obtain ⟨d0, d1, d2⟩ := tid_cells hE' hlt
      have hlt' : (k : Int) < (n : Int) := by omega
      clear hs hs' hE hE'
      go_upto_region 6 with fail
      go_cut [26] (fun s26 wx => s26 = .bool false ∧ Below w.heap.size w wx)
      case first =>
        go_region_with (go_at_call 38; refine (eqTid_same _ _ _ _).mono ?_; rintro e w1 ⟨rfl, hb⟩)
        all_goals (go_wp2_with fail; go_meet; exact ⟨rfl, hBr.drew.trans (hb.mono hBr.size)⟩)
      case rest =>
        obtain ⟨rfl, hb2⟩ := hcut
        go_wp2
        go_roundw
        case rel => exact ⟨k + 1, by omega, by go_num, hb2⟩
        case measure => simp [intOf]; omega
    · have hkn : k = n := by omega
      subst hkn
      clear hs hs'
      go_wp2
      go_ret
      exact ⟨rfl, hBr⟩
end Go.Proofs.Ytbklhmeaoigneaa
