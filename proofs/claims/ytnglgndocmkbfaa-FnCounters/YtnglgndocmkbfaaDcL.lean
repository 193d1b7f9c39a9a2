/- Draws of counters, two of them, and one with an actor and a number; the laws' own sameCounters; counters put together in any order. Written by hand; the part on sameInts as in chapter 12. -/
import Derived.Test.YtnglgndocmkbfaaDcT
import Derived.Test.YtnglgndocmkbfaaCtN
import Derived.Test.YtnglgndocmkbfaaCtV
namespace Go.Proofs.Ytnglgndocmkbfaa
open Go.RowKit
set_option linter.unusedVariables false
set_option linter.unusedSimpArgs false

set_option maxHeartbeats 1000000 in
theorem sameInts_same (a a' : Option Addr) (n cap cap' : Nat) (X : Nat → Int) (w : World) (hn : n ≤ 1048576) (hs : Sl w a n 1 (intF X)) (hs' : Sl w a' n 1 (intF X)) :
    Calls Try.prog 65 #[.slice a n cap, .slice a' n cap'] w fun r w' => r = .returned (.bool true) ∧ Below w.heap.size w w' := by
  go_enter Try.func65, Try.ntmps65
  go_wp2
  go_loopw [13] (fun i wr => ∃ k : Nat, k ≤ n ∧ i = .int .i64 k ∧ Below w.heap.size w wr) (fun i _ => n - (intOf i).toNat)
  case atStart => exact ⟨0, Nat.zero_le _, rfl, Below.refl _ _⟩
  case round =>
    obtain ⟨k, hk, rfl, hBr⟩ := hrel
    by_cases hlt : k < n
    · rcases hs.below hBr (Nat.le_refl _) with h | ⟨b, off, rfl, hbs, hE⟩
      · omega
      rcases hs'.below hBr (Nat.le_refl _) with h | ⟨b', off', rfl, hbs', hE'⟩
      · omega
      have hc := int_cell hE hlt
      have hc' := int_cell hE' hlt
      have hlt' : (k : Int) < (n : Int) := by omega
      have HB : Hid (Below w.heap.size w wr) := hBr
      clear hs hs' hE hE' hBr
      go_upto_region 6 with fail
      go_quiet (fail)
      go_wp2
      go_roundw
      case rel => exact ⟨k + 1, by omega, by go_num, below_dN HB.out _⟩
      case measure => simp [intOf]; omega
    · have hkn : k = n := by omega
      subst hkn
      clear hs hs'
      go_wp2
      go_ret
      exact ⟨rfl, hBr⟩
theorem sameI (a a' : Option Addr) (cap cap' : Nat) (D : List (Sh.T .int)) (w : World) (hn : D.length ≤ 1048576) (h : Lies w (.list .int) [.slice a D.length cap] D) (h' : Lies w (.list .int) [.slice a' D.length cap'] D) :
    Calls Try.prog 65 #[.slice a D.length cap, .slice a' D.length cap'] w fun r w' => r = .returned (.bool true) ∧ Below w.heap.size w w' := sameInts_same a a' D.length cap cap' (atI D) w hn (lies_sl h) (lies_sl h')

theorem ls_pair {w : World} {a1 a2 : Option Addr} {k1 k2 : Nat} {u d : List (Sh.T .int)} (h : Lies w shCounter [.slice a1 u.length k1, .slice a2 d.length k2] (u, d, ())) : Lies w (.list .int) [.slice a1 u.length k1] u ∧ Lies w (.list .int) [.slice a2 d.length k2] d := by
  obtain ⟨b1, j1, b2, j2, e, h1, h2⟩ := lies_Counter h
  simp only [List.cons.injEq, Value.slice.injEq, and_true, true_and] at e
  obtain ⟨⟨e1, e2⟩, e3, e4⟩ := e
  subst e1 e2 e3 e4
  exact ⟨h1, h2⟩
set_option maxRecDepth 100000 in
set_option maxHeartbeats 1000000 in
theorem sameC (a1 : Option Addr) (k1 : Nat) (a2 : Option Addr) (k2 : Nat) (b1 : Option Addr) (j1 : Nat) (b2 : Option Addr) (j2 : Nat) (u d : List (Sh.T .int)) (w : World) (hu : u.length ≤ 1048576) (hd : d.length ≤ 1048576) (h : Lies w shCounter [.slice a1 u.length k1, .slice a2 d.length k2] (u, d, ())) (h' : Lies w shCounter [.slice b1 u.length j1, .slice b2 d.length j2] (u, d, ())) :
    Calls Try.prog 20 #[.agg #[.slice a1 u.length k1, .slice a2 d.length k2], .agg #[.slice b1 u.length j1, .slice b2 d.length j2]] w fun r w' => r = .returned (.bool true) ∧ Below w.heap.size w w' := by
  have HL : Hid ((Lies w (.list .int) [.slice a1 u.length k1] u ∧ Lies w (.list .int) [.slice a2 d.length k2] d) ∧ (Lies w (.list .int) [.slice b1 u.length j1] u ∧ Lies w (.list .int) [.slice b2 d.length j2] d)) := ⟨ls_pair h, ls_pair h'⟩
  clear h h'
  obtain ⟨w0, hw0⟩ : ∃ x, x = (w.alloc (.cells #[.slice a1 u.length k1, .slice a2 d.length k2] 25)).alloc (.cells #[.slice b1 u.length j1, .slice b2 d.length j2] 25) := ⟨_, rfl⟩
  have HB0 : Hid (Bx w0 w.heap.size [.slice a1 u.length k1, .slice a2 d.length k2] ∧ Bx w0 (w.heap.size + 1) [.slice b1 u.length j1, .slice b2 d.length j2] ∧ Below w.heap.size w w0) := ⟨hw0 ▸ (Bx.new w [_, _] _).alloc _, hw0 ▸ Bx.newAt (by simp), hw0 ▸ ((Below.refl _ _).alloc (Nat.le_refl _) _).alloc (by simp) _⟩
  have s0 := (HB0.out.1).cell 0 rfl; have s1 := (HB0.out.1).cell 1 rfl; have sz := (HB0.out.1).2
  have t0 := (HB0.out.2.1).cell 0 rfl; have t1 := (HB0.out.2.1).cell 1 rfl; have tz := (HB0.out.2.1).2
  go_enter Try.func20, Try.ntmps20
  go_upto_region 1 with fail
  rw [← hw0]
  clear hw0
  go_wp2_with fail
  refine (sameI a1 b1 k1 j1 u w0 hu (HL.out.1.1.next HB0.out.2.2) (HL.out.2.1.next HB0.out.2.2)).mono ?_
  rintro r w1 ⟨rfl, hb⟩
  have HB1 : Hid (Bx w1 w.heap.size [.slice a1 u.length k1, .slice a2 d.length k2] ∧ Bx w1 (w.heap.size + 1) [.slice b1 u.length j1, .slice b2 d.length j2] ∧ Below w.heap.size w w1) := ⟨HB0.out.1.next hb, HB0.out.2.1.next hb, below_next HB0.out.2.2 hb⟩
  clear hb s0 s1 sz t0 t1 tz HB0
  have s0 := (HB1.out.1).cell 0 rfl; have s1 := (HB1.out.1).cell 1 rfl; have sz := (HB1.out.1).2
  have t0 := (HB1.out.2.1).cell 0 rfl; have t1 := (HB1.out.2.1).cell 1 rfl; have tz := (HB1.out.2.1).2
  go_wp2_with fail
  refine (sameI a2 b2 k2 j2 d w1 hd (HL.out.1.2.next HB1.out.2.2) (HL.out.2.2.next HB1.out.2.2)).mono ?_
  rintro r w2 ⟨rfl, hb⟩
  have HE := Hid.intro (below_next HB1.out.2.2 hb)
  clear hb
  go_wp2
  go_ret
  exact ⟨rfl, HE.out⟩
theorem lies_c {W : World} {a1 a2 : Option Addr} {k1 k2 : Nat} {u d : List (Sh.T .int)} (h : Lies W (.list .int) [.slice a1 u.length k1] u ∧ Lies W (.list .int) [.slice a2 d.length k2] d) : Lies W shCounter [.slice a1 u.length k1, .slice a2 d.length k2] (u, d, ()) := mk_Counter h.1 h.2
/-- What a draw of two counters makes. -/
def DmP (w : World) (r : Ending) (w' : World) : Prop := ∃ (u d : List (Sh.T .int)) (a1 : Option Addr) (k1 : Nat) (a2 : Option Addr) (k2 : Nat) (u' d' : List (Sh.T .int)) (b1 : Option Addr) (j1 : Nat) (b2 : Option Addr) (j2 : Nat), (u.length ≤ 6 ∧ d.length ≤ 6 ∧ u'.length ≤ 6 ∧ d'.length ≤ 6) ∧ r = .returned (.tuple #[.agg #[.slice a1 u.length k1, .slice a2 d.length k2], .agg #[.slice b1 u'.length j1, .slice b2 d'.length j2]]) ∧ Lies w' shCounter [.slice a1 u.length k1, .slice a2 d.length k2] (u, d, ()) ∧ Lies w' shCounter [.slice b1 u'.length j1, .slice b2 d'.length j2] (u', d', ()) ∧ Below w.heap.size w w'
def DnP (w : World) (r : Ending) (w' : World) : Prop := ∃ (u d : List (Sh.T .int)) (a1 : Option Addr) (k1 : Nat) (a2 : Option Addr) (k2 : Nat) (x y : Int), (u.length ≤ 6 ∧ d.length ≤ 6) ∧ r = .returned (.tuple #[.agg #[.slice a1 u.length k1, .slice a2 d.length k2], .int .i64 x, .int .i64 y]) ∧ Lies w' shCounter [.slice a1 u.length k1, .slice a2 d.length k2] (u, d, ()) ∧ Below w.heap.size w w'
set_option maxRecDepth 100000 in
set_option maxHeartbeats 2000000 in
theorem drawMergeC_any (a : Option Addr) (n cap : Nat) (X : Nat → Int) (w : World) (hn : n ≤ 9223372036854775807) (hs : Sl w a n 1 (byF X)) (hX : ∀ i, i < n → 0 ≤ X i ∧ X i ≤ 255) :
    Calls Try.prog 16 #[.slice a n cap] w (DmP w) := by
  obtain ⟨w0, hw0⟩ : ∃ x, x = ((w.alloc (.cells #[.slice none 0 0, .slice none 0 0] 25)).alloc (.cells #[.slice none 0 0, .slice none 0 0] 25)).alloc (.cells #[.slice a n cap, .int .i64 0, .int .u64 0] 90) := ⟨_, rfl⟩
  obtain ⟨wb, hwb⟩ : ∃ x, x = (w.alloc (.cells #[.slice none 0 0, .slice none 0 0] 25)).alloc (.cells #[.slice none 0 0, .slice none 0 0] 25) := ⟨_, rfl⟩
  have hbz : wb.heap.size = w.heap.size + 1 + 1 := by rw [hwb]; simp
  have hbb : Below w.heap.size w wb := hwb ▸ ((Below.refl _ _).alloc (Nat.le_refl _) _).alloc (by simp) _
  have hb0 : Below wb.heap.size wb w0 := by rw [hw0, ← hwb]; exact Go.Joins.below_alloc1 _ _
  have hC : Cur w0 (w.heap.size + 1 + 1) a n cap X 0 := by rw [hw0, ← hwb, ← hbz]; exact Cur.new _ (hs.kept hbb) hn hX
  have HZ : Hid (Cur w0 (w.heap.size + 1 + 1) a n cap X 0 ∧ Bx w0 w.heap.size [.slice none 0 0, .slice none 0 0] ∧ Bx w0 (w.heap.size + 1) [.slice none 0 0, .slice none 0 0] ∧ Below w.heap.size w w0) := ⟨hC, (hwb ▸ (Bx.new w [_, _] _).alloc _ : Bx wb _ _).next hb0, (hwb ▸ Bx.newAt (by simp) : Bx wb (w.heap.size + 1) _).next hb0, below_next hbb hb0⟩
  clear hs hX hC hb0 hbb hwb hbz wb
  go_enter Try.func16, Try.ntmps16
  go_wp2_with fail
  rw [← hw0]
  clear hw0
  refine (counter_any _ a n cap X 0 _ (by omega) HZ.out.1).mono ?_
  rintro r w1 ⟨u, d, a1, k1, a2, k2, hl, rfl, hls, hd⟩
  have H1 : Hid (Cur w1 (w.heap.size + 1 + 1) a n cap X 60 ∧ Bx w1 w.heap.size [.slice none 0 0, .slice none 0 0] ∧ Bx w1 (w.heap.size + 1) [.slice none 0 0, .slice none 0 0] ∧ Below w.heap.size w w1) := ⟨hd.1, HZ.out.2.1.trn hd.2 (by omega), HZ.out.2.2.1.trn hd.2 (by omega), HZ.out.2.2.2.trans (TurnS.below (S := fun k => k = w.heap.size + 1 + 1) (drew_turnC hd) (fun k e => by have e : k = w.heap.size + 1 + 1 := e; omega) HZ.out.2.2.2.size)⟩
  have HA := Hid.intro (show (u.length ≤ 6 ∧ d.length ≤ 6) ∧ _ from ⟨hl, hls⟩)
  have hz01 : w.heap.size + 1 + 1 < w0.heap.size ∧ w0.heap.size ≤ w1.heap.size := ⟨HZ.out.1.2.2.2.2.2.1, (drew_turnC hd).size⟩
  clear hd HZ hl hls
  go_wp2_with fail
  refine (counter_any _ a n cap X 60 _ (by omega) H1.out.1).mono ?_
  rintro r w2 ⟨u', d', b1, j1, b2, j2, hl, rfl, hls, hd⟩
  have H2 : Hid (Bx w2 w.heap.size [.slice none 0 0, .slice none 0 0] ∧ Bx w2 (w.heap.size + 1) [.slice none 0 0, .slice none 0 0] ∧ Below w.heap.size w w2) := ⟨H1.out.2.1.trn hd.2 (by omega), H1.out.2.2.1.trn hd.2 (by omega), H1.out.2.2.2.trans (TurnS.below (S := fun k => k = w.heap.size + 1 + 1) (drew_turnC hd) (fun k e => by have e : k = w.heap.size + 1 + 1 := e; omega) H1.out.2.2.2.size)⟩
  have HLB := Hid.intro hls
  have HTD := Hid.intro (drew_turnC hd)
  have HW01 : Hid (w.heap.size + 1 + 1 < w0.heap.size ∧ w0.heap.size ≤ w1.heap.size) := Hid.intro hz01
  have HLN : Hid (u.length ≤ 6 ∧ d.length ≤ 6 ∧ u'.length ≤ 6 ∧ d'.length ≤ 6) := ⟨HA.out.1.1, HA.out.1.2, hl.1, hl.2⟩
  clear hd H1 hl hls hz01
  have s0 := (H2.out.1).cell 0 rfl; have s1 := (H2.out.1).cell 1 rfl; have sz := (H2.out.1).2
  have f0 := H2.out.1.frz 0 (by simp)
  have f1 := H2.out.1.frz 1 (by simp)
  have r0 := (H2.out.2.1).cell 0 rfl; have r1 := (H2.out.2.1).cell 1 rfl; have rz := (H2.out.2.1).2
  have g0 := H2.out.2.1.frz 0 (by simp)
  have g1 := H2.out.2.1.frz 1 (by simp)
  have HS : Hid (∀ v0 v1 v2 v3, TurnS (fun k => k = w.heap.size ∨ k = w.heap.size + 1) w2 ((((w2.setCell ⟨w.heap.size, 0, none⟩ v0).setCell ⟨w.heap.size, 1, none⟩ v1).setCell ⟨w.heap.size + 1, 0, none⟩ v2).setCell ⟨w.heap.size + 1, 1, none⟩ v3)) := Hid.intro (fun v0 v1 v2 v3 => ((set2 w2 w.heap.size v0 v1).wide (fun k e => Or.inl e)).trans ((set2 _ (w.heap.size + 1) v2 v3).wide (fun k e => Or.inr e)))
  go_wp2
  exact bodyPost_ret (v := .tuple #[.agg #[.slice a1 u.length k1, .slice a2 d.length k2], .agg #[.slice b1 u'.length j1, .slice b2 d'.length j2]]) (by simp [results, Try.results16, go_sem, *]) rfl ⟨u, d, a1, k1, a2, k2, u', d', b1, j1, b2, j2, HLN.out, rfl, lies_c (HA.out.2 _ _ ((HTD.out.wide (S' := fun k => k ≤ w.heap.size + 1 + 1) (fun k e => by have e : k = w.heap.size + 1 + 1 := e; omega)).trans ((HS.out _ _ _ _).wide (fun k e => by have e : k = w.heap.size ∨ k = w.heap.size + 1 := e; omega))) (fun k e => by have := HW01.out; omega)), lies_c (HLB.out _ _ (HS.out _ _ _ _) (fun k e => by have e : k = w.heap.size ∨ k = w.heap.size + 1 := e; have := HW01.out; omega)), H2.out.2.2.trans ((HS.out _ _ _ _).below (fun k e => by have e : k = w.heap.size ∨ k = w.heap.size + 1 := e; omega) H2.out.2.2.size)⟩

set_option maxRecDepth 100000 in
set_option maxHeartbeats 2000000 in
theorem drawCountC_any (a : Option Addr) (n cap : Nat) (X : Nat → Int) (w : World) (hn : n ≤ 9223372036854775807) (hs : Sl w a n 1 (byF X)) (hX : ∀ i, i < n → 0 ≤ X i ∧ X i ≤ 255) :
    Calls Try.prog 17 #[.slice a n cap] w (DnP w) := by
  obtain ⟨w0, hw0⟩ : ∃ x, x = (w.alloc (.cells #[.slice none 0 0, .slice none 0 0] 25)).alloc (.cells #[.slice a n cap, .int .i64 0, .int .u64 0] 90) := ⟨_, rfl⟩
  obtain ⟨wb, hwb⟩ : ∃ x, x = w.alloc (.cells #[.slice none 0 0, .slice none 0 0] 25) := ⟨_, rfl⟩
  have hbz : wb.heap.size = w.heap.size + 1 := by rw [hwb]; simp
  have hbb : Below w.heap.size w wb := hwb ▸ Go.Joins.below_alloc1 _ _
  have hb0 : Below wb.heap.size wb w0 := by rw [hw0, ← hwb]; exact Go.Joins.below_alloc1 _ _
  have hC : Cur w0 (w.heap.size + 1) a n cap X 0 := by rw [hw0, ← hwb, ← hbz]; exact Cur.new _ (hs.kept hbb) hn hX
  have HZ : Hid (Cur w0 (w.heap.size + 1) a n cap X 0 ∧ Bx w0 w.heap.size [.slice none 0 0, .slice none 0 0] ∧ Below w.heap.size w w0) := ⟨hC, (hwb ▸ Bx.new w [_, _] _ : Bx wb _ _).next hb0, below_next hbb hb0⟩
  clear hs hX hC hb0 hbb hwb hbz wb
  go_enter Try.func17, Try.ntmps17
  go_wp2_with fail
  rw [← hw0]
  clear hw0
  refine (counter_any _ a n cap X 0 _ (by omega) HZ.out.1).mono ?_
  rintro r w1 ⟨u, d, a1, k1, a2, k2, hl, rfl, hls, hd⟩
  have H1 : Hid (Cur w1 (w.heap.size + 1) a n cap X 60 ∧ Bx w1 w.heap.size [.slice none 0 0, .slice none 0 0] ∧ Below w.heap.size w w1) := ⟨hd.1, HZ.out.2.1.trn hd.2 (by omega), HZ.out.2.2.trans (TurnS.below (S := fun k => k = w.heap.size + 1) (drew_turnC hd) (fun k e => by have e : k = w.heap.size + 1 := e; omega) HZ.out.2.2.size)⟩
  have HA := Hid.intro (show (u.length ≤ 6 ∧ d.length ≤ 6) ∧ _ from ⟨hl, hls⟩)
  have HW0 : Hid (w.heap.size + 1 < w0.heap.size) := Hid.intro HZ.out.1.2.2.2.2.2.1
  clear hd HZ hl hls
  go_wp2_with fail
  refine (pick_any _ a n cap X 60 _ _ (by omega) (by omega) H1.out.1).mono ?_
  rintro r w2 ⟨x, hx, rfl, hd⟩
  have H2 : Hid (Cur w2 (w.heap.size + 1) a n cap X 62 ∧ Bx w2 w.heap.size [.slice none 0 0, .slice none 0 0] ∧ Below w.heap.size w w2 ∧ TurnS (fun k => k = w.heap.size + 1) w1 w2) := ⟨hd.1, H1.out.2.1.trn hd.2 (by omega), H1.out.2.2.trans (TurnS.below (S := fun k => k = w.heap.size + 1) (drew_turnC hd) (fun k e => by have e : k = w.heap.size + 1 := e; omega) H1.out.2.2.size), drew_turnC hd⟩
  clear hd H1 hx
  go_wp2_with fail
  refine (pick_any _ a n cap X 62 _ _ (by omega) (by omega) H2.out.1).mono ?_
  rintro r w3 ⟨y, hy, rfl, hd⟩
  have H3 : Hid (Bx w3 w.heap.size [.slice none 0 0, .slice none 0 0] ∧ Below w.heap.size w w3 ∧ TurnS (fun k => k = w.heap.size + 1) w1 w3) := ⟨H2.out.2.1.trn hd.2 (by omega), H2.out.2.2.1.trans (TurnS.below (S := fun k => k = w.heap.size + 1) (drew_turnC hd) (fun k e => by have e : k = w.heap.size + 1 := e; omega) H2.out.2.2.1.size), H2.out.2.2.2.trans (drew_turnC hd)⟩
  clear hd H2 hy
  have s0 := (H3.out.1).cell 0 rfl; have s1 := (H3.out.1).cell 1 rfl; have sz := (H3.out.1).2
  have f0 := H3.out.1.frz 0 (by simp)
  have f1 := H3.out.1.frz 1 (by simp)
  have HS : Hid (∀ v0 v1, TurnS (fun k => k = w.heap.size) w3 ((w3.setCell ⟨w.heap.size, 0, none⟩ v0).setCell ⟨w.heap.size, 1, none⟩ v1)) := Hid.intro (fun v0 v1 => set2 w3 w.heap.size v0 v1)
  obtain ⟨xx, hxx⟩ : ∃ q, q = IntKind.i64.wrap (x - 1) := ⟨_, rfl⟩
  obtain ⟨yy, hyy⟩ : ∃ q, q = IntKind.i64.wrap (y - 1050) := ⟨_, rfl⟩
  go_wp2
  exact bodyPost_ret (v := .tuple #[.agg #[.slice a1 u.length k1, .slice a2 d.length k2], .int .i64 _, .int .i64 _]) (by simp [results, Try.results17, go_sem, *] <;> exact ⟨rfl, rfl⟩) rfl ⟨u, d, a1, k1, a2, k2, _, _, HA.out.1, rfl, lies_c (HA.out.2 _ _ ((H3.out.2.2.wide (S' := fun k => k ≤ w.heap.size + 1) (fun k e => by have e : k = w.heap.size + 1 := e; omega)).trans ((HS.out _ _).wide (fun k e => by have e : k = w.heap.size := e; omega))) (fun k e => by have := HW0.out; omega)), H3.out.2.1.trans ((HS.out _ _).below (fun k e => by have e : k = w.heap.size := e; omega) H3.out.2.1.size)⟩

end Go.Proofs.Ytnglgndocmkbfaa
