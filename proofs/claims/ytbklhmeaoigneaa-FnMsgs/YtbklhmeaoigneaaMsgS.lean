/- The contracts of the law's own functions on lists of messages: szMsgS, toMsgS, eqMsg, eqMsgS. -/
import Derived.Test.YtbklhmeaoigneaaMsgT
import Derived.Deep.RegionWith
import Derived.Deep.DeepCutAuto
namespace Go.Proofs.Ytbklhmeaoigneaa
open Go.RowKit
set_option linter.unusedVariables false

structure MsgV where
  kd : Int
  fr : Int
  dt : Int
  tx : Int
  key : ByteArray
  val : ByteArray
  e : Int
  s : Int
  b : Bool
def msgF (M : Nat → MsgV) (i : Nat) : Nat → Value
  | 0 => .int .i64 (M i).kd
  | 1 => .int .i64 (M i).fr
  | 2 => .int .i64 (M i).dt
  | 3 => .int .i64 (M i).tx
  | 4 => .string (M i).key
  | 5 => .string (M i).val
  | 6 => .int .i64 (M i).e
  | 7 => .int .i64 (M i).s
  | _ => .bool (M i).b
theorem msg_cells {w : World} {b off n k : Nat} {M : Nat → MsgV} (h : Elems w b off n 9 (msgF M)) (hk : k < n) : w.cell? ⟨b, off + k * 9, none⟩ = some (.int .i64 (M k).kd) ∧ w.cell? ⟨b, off + k * 9 + 1, none⟩ = some (.int .i64 (M k).fr) ∧ w.cell? ⟨b, off + k * 9 + 2, none⟩ = some (.int .i64 (M k).dt) ∧ w.cell? ⟨b, off + k * 9 + 3, none⟩ = some (.int .i64 (M k).tx) ∧ w.cell? ⟨b, off + k * 9 + 4, none⟩ = some (.string (M k).key) ∧ w.cell? ⟨b, off + k * 9 + 5, none⟩ = some (.string (M k).val) ∧ w.cell? ⟨b, off + k * 9 + 6, none⟩ = some (.int .i64 (M k).e) ∧ w.cell? ⟨b, off + k * 9 + 7, none⟩ = some (.int .i64 (M k).s) ∧ w.cell? ⟨b, off + k * 9 + 8, none⟩ = some (.bool (M k).b) :=
  ⟨h k hk 0 (by omega), h k hk 1 (by omega), h k hk 2 (by omega), h k hk 3 (by omega), h k hk 4 (by omega), h k hk 5 (by omega), h k hk 6 (by omega), h k hk 7 (by omega), h k hk 8 (by omega)⟩
theorem room9 {w : World} {g n k : Nat} (h : Room w g (n * 9)) (hk : k < n) : (∃ x, w.cell? ⟨g, k * 9, none⟩ = some x) ∧ w.frozen? ⟨g, k * 9, none⟩ = false ∧ (∃ x, w.cell? ⟨g, k * 9 + 1, none⟩ = some x) ∧ w.frozen? ⟨g, k * 9 + 1, none⟩ = false ∧ (∃ x, w.cell? ⟨g, k * 9 + 2, none⟩ = some x) ∧ w.frozen? ⟨g, k * 9 + 2, none⟩ = false ∧ (∃ x, w.cell? ⟨g, k * 9 + 3, none⟩ = some x) ∧ w.frozen? ⟨g, k * 9 + 3, none⟩ = false ∧ (∃ x, w.cell? ⟨g, k * 9 + 4, none⟩ = some x) ∧ w.frozen? ⟨g, k * 9 + 4, none⟩ = false ∧ (∃ x, w.cell? ⟨g, k * 9 + 5, none⟩ = some x) ∧ w.frozen? ⟨g, k * 9 + 5, none⟩ = false ∧ (∃ x, w.cell? ⟨g, k * 9 + 6, none⟩ = some x) ∧ w.frozen? ⟨g, k * 9 + 6, none⟩ = false ∧ (∃ x, w.cell? ⟨g, k * 9 + 7, none⟩ = some x) ∧ w.frozen? ⟨g, k * 9 + 7, none⟩ = false ∧ (∃ x, w.cell? ⟨g, k * 9 + 8, none⟩ = some x) ∧ w.frozen? ⟨g, k * 9 + 8, none⟩ = false :=
  ⟨(h (k * 9) (by omega)).1, (h (k * 9) (by omega)).2, (h (k * 9 + 1) (by omega)).1, (h (k * 9 + 1) (by omega)).2, (h (k * 9 + 2) (by omega)).1, (h (k * 9 + 2) (by omega)).2, (h (k * 9 + 3) (by omega)).1, (h (k * 9 + 3) (by omega)).2, (h (k * 9 + 4) (by omega)).1, (h (k * 9 + 4) (by omega)).2, (h (k * 9 + 5) (by omega)).1, (h (k * 9 + 5) (by omega)).2, (h (k * 9 + 6) (by omega)).1, (h (k * 9 + 6) (by omega)).2, (h (k * 9 + 7) (by omega)).1, (h (k * 9 + 7) (by omega)).2, (h (k * 9 + 8) (by omega)).1, (h (k * 9 + 8) (by omega)).2⟩
theorem info_msg : (Try.prog.info? 43).map (fun i => (i.zero, i.size, i.bytes)) = some (some (.agg #[.int .i64 0, .int .i64 0, .int .i64 0, .int .i64 0, .string ⟨#[]⟩, .string ⟨#[]⟩, .int .i64 0, .int .i64 0, .bool false]), 9, 88) := by kernel_rfl

theorem szM_bd (l : Int) (k v : Nat) (h0 : 0 ≤ l) (h1 : l ≤ 1048576) : -1 ≤ szM l k v ∧ szM l k v ≤ 1048576 := by
  unfold szM; split
  · omega
  · split <;> omega

set_option maxHeartbeats 1000000 in
theorem szMsgS_any (a : Option Addr) (n cap : Nat) (M : Nat → MsgV) (w : World) (hn : n ≤ maxLen) (hs : Sl w a n 9 (msgF M)) (hz : ∀ i, i < n → (M i).key.size ≤ maxLen ∧ (M i).val.size ≤ maxLen) :
    Calls Try.prog 48 #[.slice a n cap, .int .i64 1048576] w fun r w' => ∃ l : Int, r = .returned (.int .i64 l) ∧ (0 ≤ l → n ≤ 1048576) ∧ Below w.heap.size w w' := by
  have hm := hn
  unfold maxLen at hm
  by_cases h : (1048576 : Int) - (n : Int) < 0
  · clear hs hz
    go_enter Try.func48, Try.ntmps48
    go_wp2
    go_ret
    exact ⟨-1, rfl, fun h => absurd h (by omega), Below.refl _ _⟩
  · have hn' : n ≤ 1048576 := by omega
    have HZ : Hid (∀ i, i < n → (M i).key.size ≤ maxLen ∧ (M i).val.size ≤ maxLen) := hz
    clear hz
    go_enter Try.func48, Try.ntmps48
    go_wp2
    go_loopw [1, 5] (fun l i wr => ∃ (k : Nat) (x : Int), k ≤ n ∧ i = .int .i64 k ∧ l = .int .i64 x ∧ 0 ≤ x ∧ x ≤ 1048576 ∧ Below w.heap.size w wr) (fun _ i _ => n - (intOf i).toNat)
    case atStart => exact ⟨0, _, Nat.zero_le _, rfl, rfl, by omega, by omega, Below.refl _ _⟩
    case round =>
      obtain ⟨k, x, hk, rfl, rfl, hx0, hx1, hBr⟩ := hrel
      by_cases hlt : k < n
      · rcases hs.below hBr (Nat.le_refl _) with h | ⟨b, off, rfl, hbs, hE⟩
        · omega
        obtain ⟨c0, c1, c2, c3, c4, c5, c6, c7, c8⟩ := msg_cells hE hlt
        have hlt' : (k : Int) < (n : Int) := by omega
        have HB : Hid (Below w.heap.size w wr) := hBr
        have hsb := szM_bd x (M k).key.size (M k).val.size hx0 hx1
        clear hs hE hBr
        go_wp2_with fail
        refine (szMsg_any _ _ _ _ _ _ _ _ _ _ _ (HZ.out k hlt).1 (HZ.out k hlt).2 hx0 hx1).mono ?_
        rintro r w2 ⟨rfl, hb2⟩
        have HB2 : Hid (Below w.heap.size w w2) := HB.out.trans (hb2.mono HB.out.size)
        clear hb2 c0 c1 c2 c3 c4 c5 c6 c7 c8
        generalize szM x (M k).key.size (M k).val.size = y at *
        by_cases hy : y < 0
        · go_wp2
          go_ret
          exact ⟨-1, rfl, fun h => absurd h (by omega), HB2.out⟩
        · go_wp2
          go_roundw
          case rel => exact ⟨k + 1, y, by omega, by go_num, rfl, by omega, hsb.2, HB2.out⟩
          case measure => simp [intOf]; omega
      · have HB : Hid (Below w.heap.size w wr) := hBr
        clear hs hBr
        go_wp2
        go_ret
        exact ⟨x, rfl, fun _ => hn', HB.out⟩

set_option maxHeartbeats 2000000 in
theorem toMsgS_any (a : Option Addr) (n cap : Nat) (M : Nat → MsgV) (w : World) (hn : n ≤ 1048576) (hs : Sl w a n 9 (msgF M)) :
    Calls Try.prog 49 #[.slice a n cap] w fun r w' => r = .returned (.slice (some ⟨w.heap.size, 0, none⟩) n n) ∧ Elems w' w.heap.size 0 n 9 (msgF M) ∧ w.heap.size < w'.heap.size ∧ Below w.heap.size w w' := by
  obtain ⟨i0, hi, hz0, hz1, hz2⟩ := info_parts info_msg
  go_enter Try.func49, Try.ntmps49
  go_wp2_with (at_make; refine wpList_make_full _ rfl (.tmp 6) (.tmp 6) 49 rfl w.heap.size 43 i0 (.agg #[.int .i64 0, .int .i64 0, .int .i64 0, .int .i64 0, .string ⟨#[]⟩, .string ⟨#[]⟩, .int .i64 0, .int .i64 0, .bool false]) 9 Try.underlying49 hi hz0 hz1 .i64 .i64 _ _ n rfl rfl rfl rfl (by rw [hz2]; omega) (by unfold maxLen; omega) (Nat.le_refl _) ?_; intro w1 hown hgrow)
  have hR := room_made hown
  have hB : Below w.heap.size w w1 := (Below.refl _ _).grown hgrow (Nat.le_refl _) (fun k hk => by cases hk)
  have hG : w.heap.size < w1.heap.size := by
    obtain ⟨_, h | ⟨g', cap', cur, hv, hb, hh, _⟩⟩ := hown
    · exact absurd h.1 (by simp)
    · simp only [Value.slice.injEq, Option.some.injEq, Addr.mk.injEq, and_true, true_and] at hv
      obtain ⟨rfl, rfl⟩ := hv
      rcases Nat.lt_or_ge w.heap.size w1.heap.size with h | h
      · exact h
      · rw [Array.getElem?_eq_none h] at hh; cases hh
  clear hown hgrow hi hz0 hz1 hz2
  go_loopw [4] (fun i wr => ∃ k : Nat, k ≤ n ∧ i = .int .i64 k ∧ Room wr w.heap.size (n * 9) ∧ Elems wr w.heap.size 0 k 9 (msgF M) ∧ w.heap.size < wr.heap.size ∧ Below w.heap.size w wr) (fun i _ => n - (intOf i).toNat)
  case atStart => exact ⟨0, Nat.zero_le _, rfl, hR, fun i hi => absurd hi (by omega), hG, hB⟩
  case round =>
    obtain ⟨k, hk, rfl, hRr, hEr, hGr, hBr⟩ := hrel
    clear hR hB hG
    by_cases hlt : k < n
    · rcases hs.below hBr (Nat.le_refl _) with h | ⟨b, off, rfl, hbs, hE⟩
      · omega
      obtain ⟨c0, c1, c2, c3, c4, c5, c6, c7, c8⟩ := msg_cells hE hlt
      have hlt' : (k : Int) < (n : Int) := by omega
      have HH : Hid (Room wr w.heap.size (n * 9) ∧ Elems wr w.heap.size 0 k 9 (msgF M) ∧ Below w.heap.size w wr) := ⟨hRr, hEr, hBr⟩
      clear hRr hEr hBr hs hE
      go_wp2_with fail
      refine (toMsg_any _ _ _ _ _ _ _ _ _ _).mono ?_
      rintro r w2 ⟨rfl, hb2⟩
      obtain ⟨hRr, hEr, hBr⟩ := HH.out
      have hR2 := hRr.below hb2 hGr
      have hE2 := hEr.below hb2 hGr
      have hB2 : Below w.heap.size w w2 := hBr.trans (hb2.mono (by omega))
      have hG2 : w.heap.size < w2.heap.size := Nat.lt_of_lt_of_le hGr hb2.size
      obtain ⟨⟨x0, r0⟩, f0, ⟨x1, r1⟩, f1, ⟨x2, r2⟩, f2, ⟨x3, r3⟩, f3, ⟨x4, r4⟩, f4, ⟨x5, r5⟩, f5, ⟨x6, r6⟩, f6, ⟨x7, r7⟩, f7, ⟨x8, r8⟩, f8⟩ := room9 hR2 hlt
      have R : Hid (Room (put w2 w.heap.size (k * 9) [.int .i64 (M k).kd, .int .i64 (M k).fr, .int .i64 (M k).dt, .int .i64 (M k).tx, .string (M k).key, .string (M k).val, .int .i64 (M k).e, .int .i64 (M k).s, .bool (M k).b]) w.heap.size (n * 9) ∧ Elems (put w2 w.heap.size (k * 9) [.int .i64 (M k).kd, .int .i64 (M k).fr, .int .i64 (M k).dt, .int .i64 (M k).tx, .string (M k).key, .string (M k).val, .int .i64 (M k).e, .int .i64 (M k).s, .bool (M k).b]) w.heap.size 0 (k + 1) 9 (msgF M) ∧ w.heap.size < (put w2 w.heap.size (k * 9) [.int .i64 (M k).kd, .int .i64 (M k).fr, .int .i64 (M k).dt, .int .i64 (M k).tx, .string (M k).key, .string (M k).val, .int .i64 (M k).e, .int .i64 (M k).s, .bool (M k).b]).heap.size ∧ Below w.heap.size w (put w2 w.heap.size (k * 9) [.int .i64 (M k).kd, .int .i64 (M k).fr, .int .i64 (M k).dt, .int .i64 (M k).tx, .string (M k).key, .string (M k).val, .int .i64 (M k).e, .int .i64 (M k).s, .bool (M k).b])) :=
        ⟨put_room _ _ _ hR2 (by simp; omega), hE2.step hR2 hlt rfl (fun j hj => by match j, hj with | 0, _ => rfl | 1, _ => rfl | 2, _ => rfl | 3, _ => rfl | 4, _ => rfl | 5, _ => rfl | 6, _ => rfl | 7, _ => rfl | 8, _ => rfl), by rw [put_size]; exact hG2, put_below (Nat.le_refl _) _ _ _ _ hB2⟩
      clear HH hRr hEr hBr hR2 hE2 hB2 hb2 c0 c1 c2 c3 c4 c5 c6 c7 c8
      go_wp2
      go_roundw
      case rel => exact ⟨k + 1, by omega, by go_num, R.out⟩
      case measure => simp [intOf]; omega
    · have hkn : k = n := by omega
      subst hkn
      clear hs hRr
      have HH : Hid (Elems wr w.heap.size 0 k 9 (msgF M) ∧ w.heap.size < wr.heap.size ∧ Below w.heap.size w wr) := ⟨hEr, hGr, hBr⟩
      clear hEr hBr
      go_wp2
      go_ret
      exact ⟨rfl, HH.out⟩

set_option maxHeartbeats 1000000 in
theorem eqMsg_same (kd fr dt tx : Int) (key val : ByteArray) (e s : Int) (b : Bool) (w : World) :
    Calls Try.prog 47 #[.agg #[.int .i64 kd, .int .i64 fr, .int .i64 dt, .int .i64 tx, .string key, .string val, .int .i64 e, .int .i64 s, .bool b], .agg #[.int .i64 kd, .int .i64 fr, .int .i64 dt, .int .i64 tx, .string key, .string val, .int .i64 e, .int .i64 s, .bool b]] w fun r w' => r = .returned (.bool true) ∧ Below w.heap.size w w' := by
  go_enter Try.func47, Try.ntmps47
  go_wp2_with (go_at_call 38; refine (eqTid_same _ _ _ _).mono ?_; rintro r w1 ⟨rfl, hb⟩)
  go_ret
  exact ⟨rfl, (by repeat (first | refine Below.setCell ?_ (by (try simp) <;> omega) _ | refine Below.alloc ?_ (by (try simp) <;> omega) _ | refine Below.drew ?_ | assumption | exact Below.refl _ _ | refine Below.trans ?_ (Below.mono (by assumption) (by (try simp) <;> omega))))⟩

set_option maxHeartbeats 2000000 in
theorem eqMsgS_same (a a' : Option Addr) (n cap cap' : Nat) (M : Nat → MsgV) (w : World) (hn : n ≤ 1048576) (hs : Sl w a n 9 (msgF M)) (hs' : Sl w a' n 9 (msgF M)) :
    Calls Try.prog 50 #[.slice a n cap, .slice a' n cap'] w fun r w' => r = .returned (.bool true) ∧ Below w.heap.size w w' := by
  go_enter Try.func50, Try.ntmps50
  go_wp2
  go_loopw [5] (fun i wr => ∃ k : Nat, k ≤ n ∧ i = .int .i64 k ∧ Below w.heap.size w wr) (fun i _ => n - (intOf i).toNat)
  case atStart => exact ⟨0, Nat.zero_le _, rfl, Below.refl _ _⟩
  case round =>
    obtain ⟨k, hk, rfl, hBr⟩ := hrel
    by_cases hlt : k < n
    · rcases hs.below hBr (Nat.le_refl _) with h | ⟨b, off, rfl, hbs, hE⟩
      · omega
      rcases hs'.below hBr (Nat.le_refl _) with h | ⟨b', off', rfl, hbs', hE'⟩
      · omega
      obtain ⟨c0, c1, c2, c3, c4, c5, c6, c7, c8⟩ := msg_cells hE hlt
      obtain ⟨d0, d1, d2, d3, d4, d5, d6, d7, d8⟩ := msg_cells hE' hlt
      have hlt' : (k : Int) < (n : Int) := by omega
      clear hs hs' hE hE'
      go_upto_region 6 with fail
      go_cut [26] (fun s26 wx => s26 = .bool false ∧ Below w.heap.size w wx)
      case first =>
        go_region_with (go_at_call 47; refine (eqMsg_same _ _ _ _ _ _ _ _ _ _).mono ?_; rintro e w1 ⟨rfl, hb⟩)
        all_goals (go_wp2_with fail; go_meet; exact ⟨rfl, hBr.drew.trans (hb.mono hBr.size)⟩)
      case rest =>
        obtain ⟨rfl, hb2⟩ := hcut
        go_wp2
        go_roundw
        case rel => exact ⟨k + 1, by omega, by go_num, hb2⟩
        case measure => simp [intOf]; omega
    · have hkn : k = n := by omega
      subst hkn
      clear hs hs'
      go_wp2
      go_ret
      exact ⟨rfl, hBr⟩
end Go.Proofs.Ytbklhmeaoigneaa
