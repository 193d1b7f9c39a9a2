/- Lists of Entry: the law's own functions szEntry, szEntryS, toEntry, toEntryS, eqEntry, eqEntryS; how a list that came in is read. Written by tools/mkRow.py. -/
import Derived.Test.YtiepfdkfadbllaaMem
import Derived.Test.YtiepfdkfadbllaaOpenE
import Derived.Test.YtiepfdkfadbllaaRwTid
namespace Go.Proofs.Ytiepfdkfadbllaa
open Go.RowKit Go.Deep
set_option linter.unusedVariables false
set_option linter.unusedSimpArgs false

structure EntryV where
  f0 : Int
  f1 : ByteArray
  f2 : ByteArray
  f3 : Int
  f4 : Int
  f5 : Bool
  deriving Inhabited
def entryF (V : Nat → EntryV) (i j : Nat) : Value := if j = 0 then .int .i64 (V i).f0 else if j = 1 then .string (V i).f1 else if j = 2 then .string (V i).f2 else if j = 3 then .int .i64 (V i).f3 else if j = 4 then .int .i64 (V i).f4 else .bool (V i).f5
theorem entry_cells {w : World} {b off n k : Nat} {V : Nat → EntryV} (h : Elems w b off n 6 (entryF V)) (hk : k < n) :
    w.cell? ⟨b, off + k * 6, none⟩ = some (.int .i64 (V k).f0) ∧ w.cell? ⟨b, off + k * 6 + 1, none⟩ = some (.string (V k).f1) ∧ w.cell? ⟨b, off + k * 6 + 2, none⟩ = some (.string (V k).f2) ∧ w.cell? ⟨b, off + k * 6 + 3, none⟩ = some (.int .i64 (V k).f3) ∧ w.cell? ⟨b, off + k * 6 + 4, none⟩ = some (.int .i64 (V k).f4) ∧ w.cell? ⟨b, off + k * 6 + 5, none⟩ = some (.bool (V k).f5) :=
  ⟨h k hk 0 (by omega), h k hk 1 (by omega), h k hk 2 (by omega), h k hk 3 (by omega), h k hk 4 (by omega), h k hk 5 (by omega)⟩
set_option maxHeartbeats 1000000 in
theorem toEntry_any (v : EntryV) (w : World) :
    Calls Try.prog 48 #[.agg #[.int .i64 v.f0, .string v.f1, .string v.f2, .int .i64 v.f3, .int .i64 v.f4, .bool v.f5]] w fun r w' => r = .returned (.agg #[.int .i64 v.f0, .string v.f1, .string v.f2, .int .i64 v.f3, .int .i64 v.f4, .bool v.f5]) ∧ Below w.heap.size w w' := by
  obtain ⟨x0, x1, x2, x3, x4, x5⟩ := v
  go_enter Try.func48, Try.ntmps48
  go_wp2_with fail
  refine (toTid_any _ _ _ _).mono ?_
  rintro _ w1 ⟨rfl, hb⟩
  obtain ⟨W, hW⟩ : ∃ W, W = ((w.alloc (.cells #[.int .i64 x0, .string x1, .string x2, .int .i64 x3, .int .i64 x4, .bool x5] 77)).alloc (.cells #[.int .i64 0, .string ⟨#[]⟩, .string ⟨#[]⟩, .int .i64 0, .int .i64 0, .bool false] 33)).alloc (.cells #[.int .i64 x0, .string x1, .string x2, .int .i64 0, .int .i64 0, .bool false] 33) := ⟨_, rfl⟩
  rw [← hW] at hb
  have HB : Hid (Below w.heap.size w w1) := by
    refine Below.trans ?_ (hb.mono (by rw [hW]; simp; omega))
    rw [hW]; exact (((Below.refl _ _).alloc (Nat.le_refl _) _).alloc (by simp) _).alloc (by simp; omega) _
  have hlt : w.heap.size + 1 + 1 < w1.heap.size := Nat.lt_of_lt_of_le (by rw [hW]; simp) hb.size
  have b0 := (((Bx.new w [.int .i64 x0, .string x1, .string x2, .int .i64 x3, .int .i64 x4, .bool x5] 77).alloc (.cells #[.int .i64 0, .string ⟨#[]⟩, .string ⟨#[]⟩, .int .i64 0, .int .i64 0, .bool false] 33)).alloc (.cells #[.int .i64 x0, .string x1, .string x2, .int .i64 0, .int .i64 0, .bool false] 33))
  have b1 := (Bx.new (w.alloc (.cells #[.int .i64 x0, .string x1, .string x2, .int .i64 x3, .int .i64 x4, .bool x5] 77)) [.int .i64 0, .string ⟨#[]⟩, .string ⟨#[]⟩, .int .i64 0, .int .i64 0, .bool false] 33).alloc (.cells #[.int .i64 x0, .string x1, .string x2, .int .i64 0, .int .i64 0, .bool false] 33)
  have b2 := Bx.new ((w.alloc (.cells #[.int .i64 x0, .string x1, .string x2, .int .i64 x3, .int .i64 x4, .bool x5] 77)).alloc (.cells #[.int .i64 0, .string ⟨#[]⟩, .string ⟨#[]⟩, .int .i64 0, .int .i64 0, .bool false] 33)) [.int .i64 x0, .string x1, .string x2, .int .i64 0, .int .i64 0, .bool false] 33
  rw [World.size_alloc] at b1
  rw [World.size_alloc, World.size_alloc] at b2
  replace b0 := Bx.next (w := W) (by rw [hW]; exact b0) hb
  replace b1 := Bx.next (w := W) (by rw [hW]; exact b1) hb
  replace b2 := Bx.next (w := W) (by rw [hW]; exact b2) hb
  have a0_0 := b0.cell 0 rfl
  have a0_1 := b0.cell 1 rfl
  have a0_2 := b0.cell 2 rfl
  have a0_3 := b0.cell 3 rfl
  have a0_4 := b0.cell 4 rfl
  have a0_5 := b0.cell 5 rfl
  have a1_0 := b1.cell 0 rfl
  have z1_0 := b1.frz 0 (by simp)
  have a1_1 := b1.cell 1 rfl
  have z1_1 := b1.frz 1 (by simp)
  have a1_2 := b1.cell 2 rfl
  have z1_2 := b1.frz 2 (by simp)
  have a1_3 := b1.cell 3 rfl
  have z1_3 := b1.frz 3 (by simp)
  have a1_4 := b1.cell 4 rfl
  have z1_4 := b1.frz 4 (by simp)
  have a1_5 := b1.cell 5 rfl
  have z1_5 := b1.frz 5 (by simp)
  have a2_0 := b2.cell 0 rfl
  have z2_0 := b2.frz 0 (by simp)
  have a2_1 := b2.cell 1 rfl
  have z2_1 := b2.frz 1 (by simp)
  have a2_2 := b2.cell 2 rfl
  have z2_2 := b2.frz 2 (by simp)
  have a2_3 := b2.cell 3 rfl
  have z2_3 := b2.frz 3 (by simp)
  have a2_4 := b2.cell 4 rfl
  have z2_4 := b2.frz 4 (by simp)
  have a2_5 := b2.cell 5 rfl
  have z2_5 := b2.frz 5 (by simp)
  clear b0 b1 b2
  clear hb hW
  go_wp2
  refine bodyPost_ret (v := .agg #[.int .i64 x0, .string x1, .string x2, .int .i64 x3, .int .i64 x4, .bool x5]) (by simp [results, Try.results48, go_sem, *]) rfl ⟨rfl, ?_⟩
  repeat (refine Below.setCell ?_ (by dsimp only; omega) _)
  exact HB.out
set_option maxHeartbeats 1000000 in
theorem eqEntry_same (v : EntryV) (w : World) :
    Calls Try.prog 50 #[.agg #[.int .i64 v.f0, .string v.f1, .string v.f2, .int .i64 v.f3, .int .i64 v.f4, .bool v.f5], .agg #[.int .i64 v.f0, .string v.f1, .string v.f2, .int .i64 v.f3, .int .i64 v.f4, .bool v.f5]] w fun r w' => r = .returned (.bool true) ∧ Below w.heap.size w w' := by
  obtain ⟨x0, x1, x2, x3, x4, x5⟩ := v
  go_enter Try.func50, Try.ntmps50
  go_wp2_with fail
  refine (eqTid_same _ _ _ _).mono ?_
  rintro _ w1 ⟨rfl, hb⟩
  obtain ⟨W, hW⟩ : ∃ W, W = (w.alloc (.cells #[.int .i64 x0, .string x1, .string x2, .int .i64 x3, .int .i64 x4, .bool x5] 33)).alloc (.cells #[.int .i64 x0, .string x1, .string x2, .int .i64 x3, .int .i64 x4, .bool x5] 33) := ⟨_, rfl⟩
  rw [← hW] at hb
  have HB : Hid (Below w.heap.size w w1) := by
    refine Below.trans ?_ (hb.mono (by rw [hW]; simp; omega))
    rw [hW]; exact ((Below.refl _ _).alloc (Nat.le_refl _) _).alloc (by simp) _
  have hlt : w.heap.size + 1 < w1.heap.size := Nat.lt_of_lt_of_le (by rw [hW]; simp) hb.size
  have b0 := (Bx.new w [.int .i64 x0, .string x1, .string x2, .int .i64 x3, .int .i64 x4, .bool x5] 33).alloc (.cells #[.int .i64 x0, .string x1, .string x2, .int .i64 x3, .int .i64 x4, .bool x5] 33)
  have b1 := Bx.new (w.alloc (.cells #[.int .i64 x0, .string x1, .string x2, .int .i64 x3, .int .i64 x4, .bool x5] 33)) [.int .i64 x0, .string x1, .string x2, .int .i64 x3, .int .i64 x4, .bool x5] 33
  rw [World.size_alloc] at b1
  replace b0 := Bx.next (w := W) (by rw [hW]; exact b0) hb
  replace b1 := Bx.next (w := W) (by rw [hW]; exact b1) hb
  clear b0 b1
  clear hb hW
  go_wp2
  go_ret
  exact ⟨rfl, HB.out⟩
set_option maxHeartbeats 1000000 in
theorem szEntry_any (v : EntryV) (l : Int) (w : World) (h1 : v.f1.size ≤ maxLen) (h2 : v.f2.size ≤ maxLen) (h0 : 0 ≤ l) (hl : l ≤ 1048576) :
    Calls Try.prog 46 #[.agg #[.int .i64 v.f0, .string v.f1, .string v.f2, .int .i64 v.f3, .int .i64 v.f4, .bool v.f5], .int .i64 l] w fun r w' => r = .returned (.int .i64 (szN l (v.f1.size + v.f2.size))) ∧ Below w.heap.size w w' := by
  obtain ⟨x0, x1, x2, x3, x4, x5⟩ := v
  simp only at h1 h2
  unfold maxLen at h1 h2
  by_cases c0 : l - (x1.size : Int) < 0
  · have E : Hid (szN l (x1.size + x2.size) = -1) := by show szN l (x1.size + x2.size) = -1; unfold szN; rw [if_pos (by omega)]
    go_enter Try.func46, Try.ntmps46
    go_wp2
    go_ret
    exact ⟨by rw [E.out]; rfl, (by repeat (first | refine Below.setCell ?_ (by (try simp) <;> omega) _ | refine Below.alloc ?_ (by (try simp) <;> omega) _ | refine Below.drew ?_ | assumption | exact Below.refl _ _ | refine Below.trans ?_ (Below.mono (by assumption) (by (try simp) <;> omega))))⟩
  by_cases c1 : l - (x1.size : Int) - (x2.size : Int) < 0
  · have E : Hid (szN l (x1.size + x2.size) = -1) := by show szN l (x1.size + x2.size) = -1; unfold szN; rw [if_pos (by omega)]
    go_enter Try.func46, Try.ntmps46
    go_wp2
    go_ret
    exact ⟨by rw [E.out]; rfl, (by repeat (first | refine Below.setCell ?_ (by (try simp) <;> omega) _ | refine Below.alloc ?_ (by (try simp) <;> omega) _ | refine Below.drew ?_ | assumption | exact Below.refl _ _ | refine Below.trans ?_ (Below.mono (by assumption) (by (try simp) <;> omega))))⟩
  have E : Hid (szN l (x1.size + x2.size) = l - (x1.size : Int) - (x2.size : Int)) := by show szN l (x1.size + x2.size) = _; unfold szN; rw [if_neg (by omega)]; omega
  go_enter Try.func46, Try.ntmps46
  go_wp2
  go_ret
  exact ⟨by rw [E.out]; rfl, (by repeat (first | refine Below.setCell ?_ (by (try simp) <;> omega) _ | refine Below.alloc ?_ (by (try simp) <;> omega) _ | refine Below.drew ?_ | assumption | exact Below.refl _ _ | refine Below.trans ?_ (Below.mono (by assumption) (by (try simp) <;> omega))))⟩
/-- Block g holds n of them in a row that may be written. -/
def EntryR (w : World) (g n : Nat) (V : Nat → EntryV) : Prop := Elems w g 0 n 6 (entryF V) ∧ Room w g (n * 6) ∧ g < w.heap.size
theorem EntryR.sl {w : World} {g n : Nat} {V : Nat → EntryV} (h : EntryR w g n V) : Sl w (some ⟨g, 0, none⟩) n 6 (entryF V) := Or.inr ⟨g, 0, rfl, h.2.2, h.1⟩
theorem EntryR.next {w w' : World} {g n : Nat} {V : Nat → EntryV} (h : EntryR w g n V) (hb : Below w.heap.size w w') : EntryR w' g n V := ⟨h.1.below hb h.2.2, h.2.1.below hb h.2.2, Nat.lt_of_lt_of_le h.2.2 hb.size⟩
theorem info_entry : (Try.prog.info? 33).map (fun i => (i.zero, i.size, i.bytes)) = some (some (.agg #[.int .i64 0, .string ⟨#[]⟩, .string ⟨#[]⟩, .int .i64 0, .int .i64 0, .bool false]), 6, 64) := by kernel_rfl

set_option maxHeartbeats 1000000 in
theorem szEntryS_any (a : Option Addr) (n cap : Nat) (V : Nat → EntryV) (l : Int) (w : World) (hn : n ≤ maxLen) (h0 : 0 ≤ l) (hl : l ≤ 1048576) (hs : Sl w a n 6 (entryF V)) (hz : ∀ i, i < n → (V i).f1.size ≤ maxLen ∧ (V i).f2.size ≤ maxLen) :
    Calls Try.prog 22 #[.slice a n cap, .int .i64 l] w fun r w' => ∃ l' : Int, r = .returned (.int .i64 l') ∧ (-1 ≤ l' ∧ l' ≤ 1048576) ∧ (0 ≤ l' → n ≤ 1048576) ∧ Below w.heap.size w w' := by
  have hm := hn
  unfold maxLen at hm
  by_cases h : l - (n : Int) < 0
  · clear hs hz
    go_enter Try.func22, Try.ntmps22
    go_wp2
    go_ret
    exact ⟨-1, rfl, by omega, fun h => absurd h (by omega), Below.refl _ _⟩
  · have hn' : n ≤ 1048576 := by omega
    have HZ : Hid (∀ i, i < n → (V i).f1.size ≤ maxLen ∧ (V i).f2.size ≤ maxLen) := hz
    clear hz
    go_enter Try.func22, Try.ntmps22
    go_wp2
    go_loopw [1, 5] (fun l i wr => ∃ (k : Nat) (x : Int), k ≤ n ∧ i = .int .i64 k ∧ l = .int .i64 x ∧ 0 ≤ x ∧ x ≤ 1048576 ∧ Below w.heap.size w wr) (fun _ i _ => n - (intOf i).toNat)
    case atStart => exact ⟨0, _, Nat.zero_le _, rfl, rfl, by omega, by omega, Below.refl _ _⟩
    case round =>
      obtain ⟨k, x, hk, rfl, rfl, hx0, hx1, hBr⟩ := hrel
      by_cases hlt : k < n
      · rcases hs.below hBr (Nat.le_refl _) with h | ⟨b, off, rfl, hbs, hE⟩
        · omega
        obtain ⟨c0, c1, c2, c3, c4, c5⟩ := entry_cells hE hlt
        have hlt' : (k : Int) < (n : Int) := by omega
        have HB : Hid (Below w.heap.size w wr) := hBr
        have hsb := szN_bd x ((V k).f1.size + (V k).f2.size) hx0 hx1
        clear hs hE hBr
        go_wp2_with fail
        refine (szEntry_any (V k) _ _ (HZ.out k hlt).1 (HZ.out k hlt).2 hx0 hx1).mono ?_
        rintro r w2 ⟨rfl, hb2⟩
        have HB2 : Hid (Below w.heap.size w w2) := HB.out.trans (hb2.mono HB.out.size)
        clear hb2 c0 c1 c2 c3 c4 c5
        generalize szN x ((V k).f1.size + (V k).f2.size) = y at *
        by_cases hy : y < 0
        · go_wp2
          go_ret
          exact ⟨-1, rfl, by omega, fun h => absurd h (by omega), HB2.out⟩
        · go_wp2
          go_roundw
          case rel => exact ⟨k + 1, y, by omega, by go_num, rfl, by omega, hsb.2, HB2.out⟩
          case measure => simp [intOf]; omega
      · have HB : Hid (Below w.heap.size w wr) := hBr
        clear hs hBr
        go_wp2
        go_ret
        exact ⟨x, rfl, by omega, fun _ => hn', HB.out⟩

set_option maxHeartbeats 1000000 in
theorem toEntryS_any (a : Option Addr) (n cap : Nat) (V : Nat → EntryV) (w : World) (hn : n ≤ 1048576) (hs : Sl w a n 6 (entryF V)) :
    Calls Try.prog 24 #[.slice a n cap] w fun r w' => r = .returned (.slice (some ⟨w.heap.size, 0, none⟩) n n) ∧ EntryR w' w.heap.size n V ∧ w.heap.size < w'.heap.size ∧ Below w.heap.size w w' := by
  obtain ⟨i0, hi, hz0, hz1, hz2⟩ := info_parts info_entry
  go_enter Try.func24, Try.ntmps24
  go_wp2_with (at_make; refine wpList_make_full _ rfl (.tmp 6) (.tmp 6) 23 rfl w.heap.size 33 i0 (.agg #[.int .i64 0, .string ⟨#[]⟩, .string ⟨#[]⟩, .int .i64 0, .int .i64 0, .bool false]) 6 Try.underlying23 hi hz0 hz1 .i64 .i64 _ _ n rfl rfl rfl rfl (by rw [hz2]; omega) (by unfold maxLen; omega) (Nat.le_refl _) ?_; intro w1 hown hgrow)
  have hR := room_made hown
  have hB : Below w.heap.size w w1 := (Below.refl _ _).grown hgrow (Nat.le_refl _) (fun k hk => by cases hk)
  have hG : w.heap.size < w1.heap.size := by
    obtain ⟨_, h | ⟨g', cap', cur, hv, hb, hh, _⟩⟩ := hown
    · exact absurd h.1 (by simp)
    · simp only [Value.slice.injEq, Option.some.injEq, Addr.mk.injEq, and_true, true_and] at hv
      obtain ⟨rfl, rfl⟩ := hv
      rcases Nat.lt_or_ge w.heap.size w1.heap.size with h | h
      · exact h
      · rw [Array.getElem?_eq_none h] at hh; cases hh
  clear hown hgrow hi hz0 hz1 hz2
  go_loopw [4] (fun i wr => ∃ k : Nat, k ≤ n ∧ i = .int .i64 k ∧ Room wr w.heap.size (n * 6) ∧ Elems wr w.heap.size 0 k 6 (entryF V) ∧ w.heap.size < wr.heap.size ∧ Below w.heap.size w wr) (fun i _ => n - (intOf i).toNat)
  case atStart => exact ⟨0, Nat.zero_le _, rfl, hR, fun i hi => absurd hi (by omega), hG, hB⟩
  case round =>
    obtain ⟨k, hk, rfl, hRr, hEr, hGr, hBr⟩ := hrel
    clear hR hB hG
    by_cases hlt : k < n
    · rcases hs.below hBr (Nat.le_refl _) with h | ⟨b, off, rfl, hbs, hE⟩
      · omega
      obtain ⟨c0, c1, c2, c3, c4, c5⟩ := entry_cells hE hlt
      have hlt' : (k : Int) < (n : Int) := by omega
      have HH : Hid (Room wr w.heap.size (n * 6) ∧ Elems wr w.heap.size 0 k 6 (entryF V) ∧ Below w.heap.size w wr) := ⟨hRr, hEr, hBr⟩
      clear hRr hEr hBr hs hE
      go_wp2_with fail
      refine (toEntry_any (V k) _).mono ?_
      rintro e w2 ⟨rfl, hb2⟩
      obtain ⟨hRr, hEr, hBr⟩ := HH.out
      have hR2 := hRr.below hb2 hGr
      have hE2 := hEr.below hb2 hGr
      have hB2 : Below w.heap.size w w2 := hBr.trans (hb2.mono (by omega))
      have hG2 : w.heap.size < w2.heap.size := Nat.lt_of_lt_of_le hGr hb2.size
      obtain ⟨⟨y0, r0⟩, g0⟩ := hR2 (k * 6 + 0) (by omega)
      obtain ⟨⟨y1, r1⟩, g1⟩ := hR2 (k * 6 + 1) (by omega)
      obtain ⟨⟨y2, r2⟩, g2⟩ := hR2 (k * 6 + 2) (by omega)
      obtain ⟨⟨y3, r3⟩, g3⟩ := hR2 (k * 6 + 3) (by omega)
      obtain ⟨⟨y4, r4⟩, g4⟩ := hR2 (k * 6 + 4) (by omega)
      obtain ⟨⟨y5, r5⟩, g5⟩ := hR2 (k * 6 + 5) (by omega)
      rw [Nat.add_zero] at r0 g0
      have R : Hid (Room (put w2 w.heap.size (k * 6) [.int .i64 (V k).f0, .string (V k).f1, .string (V k).f2, .int .i64 (V k).f3, .int .i64 (V k).f4, .bool (V k).f5]) w.heap.size (n * 6) ∧ Elems (put w2 w.heap.size (k * 6) [.int .i64 (V k).f0, .string (V k).f1, .string (V k).f2, .int .i64 (V k).f3, .int .i64 (V k).f4, .bool (V k).f5]) w.heap.size 0 (k + 1) 6 (entryF V) ∧ w.heap.size < (put w2 w.heap.size (k * 6) [.int .i64 (V k).f0, .string (V k).f1, .string (V k).f2, .int .i64 (V k).f3, .int .i64 (V k).f4, .bool (V k).f5]).heap.size ∧ Below w.heap.size w (put w2 w.heap.size (k * 6) [.int .i64 (V k).f0, .string (V k).f1, .string (V k).f2, .int .i64 (V k).f3, .int .i64 (V k).f4, .bool (V k).f5])) :=
        ⟨put_room _ _ _ hR2 (by simp; omega), hE2.step hR2 hlt rfl (fun j hj => by match j, hj with | 0, _ => rfl | 1, _ => rfl | 2, _ => rfl | 3, _ => rfl | 4, _ => rfl | 5, _ => rfl), by rw [put_size]; exact hG2, put_below (Nat.le_refl _) _ _ _ _ hB2⟩
      clear HH hRr hEr hBr hR2 hE2 hB2 hb2
      go_wp2
      go_roundw
      case rel => exact ⟨k + 1, by omega, by go_num, R.out⟩
      case measure => simp [intOf]; omega
    · have hkn : k = n := by omega
      subst hkn
      have HH : Hid (EntryR wr w.heap.size k V ∧ w.heap.size < wr.heap.size ∧ Below w.heap.size w wr) := ⟨⟨hEr, hRr, hGr⟩, hGr, hBr⟩
      clear hs hRr hEr hBr
      go_wp2
      go_ret
      exact ⟨rfl, HH.out⟩

set_option maxHeartbeats 1000000 in
theorem eqEntryS_same (a a' : Option Addr) (n cap cap' : Nat) (V : Nat → EntryV) (w : World) (hn : n ≤ 1048576) (hs : Sl w a n 6 (entryF V)) (hs' : Sl w a' n 6 (entryF V)) :
    Calls Try.prog 26 #[.slice a n cap, .slice a' n cap'] w fun r w' => r = .returned (.bool true) ∧ Below w.heap.size w w' := by
  go_enter Try.func26, Try.ntmps26
  go_wp2
  go_loopw [5] (fun i wr => ∃ k : Nat, k ≤ n ∧ i = .int .i64 k ∧ Below w.heap.size w wr) (fun i _ => n - (intOf i).toNat)
  case atStart => exact ⟨0, Nat.zero_le _, rfl, Below.refl _ _⟩
  case round =>
    obtain ⟨k, hk, rfl, hBr⟩ := hrel
    by_cases hlt : k < n
    · rcases hs.below hBr (Nat.le_refl _) with h | ⟨b, off, rfl, hbs, hE⟩
      · omega
      rcases hs'.below hBr (Nat.le_refl _) with h | ⟨b', off', rfl, hbs', hE'⟩
      · omega
      obtain ⟨c0, c1, c2, c3, c4, c5⟩ := entry_cells hE hlt
      obtain ⟨d0, d1, d2, d3, d4, d5⟩ := entry_cells hE' hlt
      have hlt' : (k : Int) < (n : Int) := by omega
      clear hs hs' hE hE'
      go_upto_region 6 with fail
      go_cut [26] (fun s26 wx => s26 = .bool false ∧ Below w.heap.size w wx)
      case first =>
        go_region_with (go_at_call 50; refine (eqEntry_same (V k) _).mono ?_; rintro e w1 ⟨rfl, hb⟩)
        all_goals (go_wp2_with fail; go_meet; exact ⟨rfl, hBr.drew.trans (hb.mono hBr.size)⟩)
      case rest =>
        obtain ⟨rfl, hb2⟩ := hcut
        go_wp2
        go_roundw
        case rel => exact ⟨k + 1, by omega, by go_num, hb2⟩
        case measure => simp [intOf]; omega
    · have hkn : k = n := by omega
      subst hkn
      clear hs hs'
      go_wp2
      go_ret
      exact ⟨rfl, hBr⟩

theorem list_entry {α : Type} {l : List α} (h : l.length = 6) : ∃ v0 v1 v2 v3 v4 v5, l = [v0, v1, v2, v3, v4, v5] := by
  match l, h with
  | [v0, v1, v2, v3, v4, v5], _ => exact ⟨v0, v1, v2, v3, v4, v5, rfl⟩
theorem cells_lawsEntry : Try.prog.cellsOf 77 = 6 := by kernel_rfl
theorem read_entry {H : Type} {enc : TypeId × Value → H} {w : World} {sp : Nat → Bool} {hd : Bool} {n : Nat} {cs : List Value} {y : DataW H × List MemPlace} (h : DataW.trod enc Try.prog w 0 sp hd n 77 cs = some y) :
    ∃ v : EntryV, cs = [.int .i64 v.f0, .string v.f1, .string v.f2, .int .i64 v.f3, .int .i64 v.f4, .bool v.f5] ∧ v.f1.size ≤ maxLen ∧ v.f2.size ≤ maxLen := by
  obtain ⟨xs, m, _, _, hl, hlen, hf⟩ := DataW.trod_struct Try.underlying77 h
  rw [cells_lawsEntry] at hl
  have hx : xs.length = 4 := hlen
  obtain ⟨v0, v1, v2, v3, v4, v5, rfl⟩ := list_entry hl
  have g0 := hf 0 _ rfl
  have g1 := hf 1 _ rfl
  have g2 := hf 2 _ rfl
  have g3 := hf 3 _ rfl
  rw [List.getElem?_eq_getElem (by omega)] at g0 g1 g2 g3
  obtain ⟨n0, q0, _⟩ := DataW.trod_int Try.underlying3 g0
  obtain ⟨n1, q1, _, z1⟩ := DataW.trod_string Try.underlying9 g1
  obtain ⟨n2, q2, _, z2⟩ := DataW.trod_string Try.underlying9 g2
  obtain ⟨n3, q3⟩ := read_tid g3
  simp [cells_int, cells_str, cells_bool, cells_lawsTid] at q0 q1 q2 q3
  exact ⟨⟨n0, n1, n2, n3.1, n3.2.1, n3.2.2⟩, by simp [q0, q1, q2, q3], z1, z2⟩
theorem open_entrys {H : Type} {enc : TypeId × Value → H} {w : World} {a : Option Addr} {len cap : Nat} {d : DataW H} {p : List MemPlace}
    (h : DataW.Trod enc Try.prog w 0 (fun _ => true) true 44 (.slice a len cap) d p) : len ≤ maxLen ∧ ∃ V, Sl w a len 6 (entryF V) ∧ ∀ i, i < len → (V i).f1.size ≤ maxLen ∧ (V i).f2.size ≤ maxLen := by
  obtain ⟨hl, h | ⟨b, off, rfl, hb, hel⟩⟩ := open_elems Try.underlying44 cells_lawsEntry (by omega) h
  · exact ⟨hl, fun _ => ⟨0, ⟨#[]⟩, ⟨#[]⟩, 0, 0, false⟩, Or.inl h, fun i hi => absurd hi (by omega)⟩
  · have each : ∀ i, i < len → ∃ v : EntryV, (∀ j, j < 6 → w.cell? ⟨b, off + i * 6 + j, none⟩ = [Value.int .i64 v.f0, .string v.f1, .string v.f2, .int .i64 v.f3, .int .i64 v.f4, .bool v.f5][j]?) ∧ v.f1.size ≤ maxLen ∧ v.f2.size ≤ maxLen := by
      intro i hi
      obtain ⟨cs, n, y, _, hc, ht⟩ := hel i hi
      obtain ⟨v, rfl, hz⟩ := read_entry ht
      exact ⟨v, hc, hz⟩
    obtain ⟨V, hq⟩ := choose_lt each
    refine ⟨hl, V, Or.inr ⟨b, off, rfl, hb, fun i hi j hj => ?_⟩, fun i hi => (hq i hi).2⟩
    rw [(hq i hi).1 j hj]
    match j, hj with
    | 0, _ => rfl
    | 1, _ => rfl
    | 2, _ => rfl
    | 3, _ => rfl
    | 4, _ => rfl
    | 5, _ => rfl
end Go.Proofs.Ytiepfdkfadbllaa
