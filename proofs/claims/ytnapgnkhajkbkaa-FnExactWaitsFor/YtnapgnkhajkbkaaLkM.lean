/- The mark of a list of locks: only blocks of its own turn. -/
import Derived.Test.YtnapgnkhajkbkaaLkL
import Derived.Test.YtnapgnkhajkbkaaMarkT
namespace Go.Proofs.Ytnapgnkhajkbkaa
open Go.RowKit
set_option linter.unusedVariables false

/-- What could be written can be written. -/
def RK (w w' : World) : Prop := w.heap.size ≤ w'.heap.size ∧ ∀ g m, g < w.heap.size → Room w g m → Room w' g m
theorem RK.refl (w : World) : RK w w := ⟨Nat.le_refl _, fun _ _ _ h => h⟩
theorem RK.trans {a b c : World} (h : RK a b) (k : RK b c) : RK a c := ⟨Nat.le_trans h.1 k.1, fun g m hg hr => k.2 g m (Nat.lt_of_lt_of_le hg h.1) (h.2 g m hg hr)⟩
theorem RK.next {a w w' : World} (h : RK a w) (hb : Below w.heap.size w w') : RK a w' := h.trans ⟨hb.size, fun g m hg hr => hr.below hb hg⟩
theorem RK.set {a w : World} (h : RK a w) (p : Addr) (v : Value) : RK a (w.setCell p v) := h.trans ⟨by simp, fun g m hg hr q hq => by
  obtain ⟨⟨u, hu⟩, hf⟩ := hr q hq
  obtain ⟨u', hu'⟩ := cell?_setCell_some (p := p) (x := v) hu
  exact ⟨⟨u', hu'⟩, by simpa using hf⟩⟩

set_option maxRecDepth 100000 in
set_option maxHeartbeats 2000000 in
theorem markHoldS_any (g n cap : Nat) (q : Int) (w : World) (hn : n ≤ 1048576) (h0 : 0 < q) (h1 : q ≤ 8796093022208) (hR : Room w g (n * 2)) (hg : g < w.heap.size) :
    Calls Try.prog 82 #[.slice (some ⟨g, 0, none⟩) n cap, .int .i64 q] w fun r w' => r = .returned (.int .i64 (q + 2 * n)) ∧ RK w w' ∧ Trn g (g + 1) w w' := by
  go_enter Try.func82, Try.ntmps82
  go_wp2
  go_loopw [5, 1] (fun i q' wr => ∃ k : Nat, k ≤ n ∧ i = .int .i64 k ∧ q' = .int .i64 (q + 2 * k) ∧ RK w wr ∧ Trn g (g + 1) w wr) (fun i _ _ => n - (intOf i).toNat)
  case atStart => exact ⟨0, Nat.zero_le _, rfl, by simp, RK.refl _, Trn.refl _ _ _⟩
  case round =>
    obtain ⟨k, hk, rfl, rfl, hrk, ht⟩ := hrel
    by_cases hlt : k < n
    · have hlt' : (k : Int) < (n : Int) := by omega
      obtain ⟨y, hy⟩ : ∃ y, y = q + 2 * (k : Int) := ⟨_, rfl⟩
      rw [← hy]
      have hyb : 0 < y ∧ y ≤ 17592186044416 := by omega
      have HY : Hid (y = q + 2 * (k : Int)) := hy
      clear hy
      have hRr := hrk.2 g _ hg hR
      have hgr : g < wr.heap.size := Nat.lt_of_lt_of_le hg hrk.1
      obtain ⟨⟨x0, r0⟩, f0⟩ := hRr (k * 2) (by omega)
      obtain ⟨⟨x1, r1⟩, f1⟩ := hRr (k * 2 + 1) (by omega)
      have HF : Hid (RK w ((wr.setCell ⟨g, k * 2, none⟩ (.int .i64 y)).setCell ⟨g, k * 2 + 1, none⟩ (.int .i64 (y + 1))) ∧ Trn g (g + 1) w ((wr.setCell ⟨g, k * 2, none⟩ (.int .i64 y)).setCell ⟨g, k * 2 + 1, none⟩ (.int .i64 (y + 1)))) :=
        ⟨(hrk.set _ _).set _ _, (ht.set (p := ⟨g, k * 2, none⟩) (Nat.le_refl _) (by simp) _).set (p := ⟨g, k * 2 + 1, none⟩) (Nat.le_refl _) (by simp) _⟩
      clear hRr hrk ht hR
      go_wp2
      go_roundw
      case rel => exact ⟨k + 1, by omega, by go_num, by have := HY.out; congr 1; omega, HF.out.1, HF.out.2⟩
      case measure => simp [intOf]; omega
    · have hkn : k = n := by omega
      subst hkn
      have HF : Hid (RK w wr ∧ Trn g (g + 1) w wr) := ⟨hrk, ht⟩
      clear hrk ht hR
      go_wp2
      go_ret
      exact ⟨rfl, HF.out⟩

/-- Block g's n locks, as far as a mark wants them: where their lists lie, and that all may be written. -/
def LkW (w : World) (g C n : Nat) (V : Nat → LkV) (A : Nat → LkA) : Prop :=
  (Room w g (n * 3) ∧ g < C ∧ C ≤ w.heap.size) ∧ ∀ i, i < n → (w.cell? ⟨g, i * 3 + 1, none⟩ = some (.slice (A i).ha (V i).h.n (A i).hc) ∧ w.cell? ⟨g, i * 3 + 2, none⟩ = some (.slice (A i).wa (V i).w.n (A i).wc)) ∧
    ∃ g1 g2 : Nat, A i = ⟨some ⟨g1, 0, none⟩, (V i).h.n, some ⟨g2, 0, none⟩, (V i).w.n⟩ ∧ (g < g1 ∧ g1 < C) ∧ (g < g2 ∧ g2 < C) ∧ Room w g1 ((V i).h.n * 2) ∧ Room w g2 ((V i).w.n * 2)
theorem LkR.toW {w : World} {B C g n : Nat} {V : Nat → LkV} {A : Nat → LkA} (h : LkR w B C g n V A) (hg : ∀ i, i < n → LkIn w (g + 1) C (A i) (V i)) : LkW w g C n V A := by
  obtain ⟨⟨h1, h2, h3, h4⟩, h5, h6⟩ := h
  refine ⟨⟨h2, h4, h6⟩, fun i hi => ⟨?_, ?_⟩⟩
  · obtain ⟨_, c1, c2⟩ := lk_cells h1 hi
    simp only [Nat.zero_add] at c1 c2
    exact ⟨c1, c2⟩
  · obtain ⟨g1, g2, e, k1, k2, k3, k4⟩ := hg i hi
    exact ⟨g1, g2, e, ⟨by omega, k1.2⟩, ⟨by omega, k2.2⟩, k3.2.1, k4.2.1⟩
theorem LkW.next {w w' : World} {g C n : Nat} {V : Nat → LkV} {A : Nat → LkA} (h : LkW w g C n V A) (hb : Below w.heap.size w w') : LkW w' g C n V A := by
  obtain ⟨⟨h1, h2, h3⟩, h4⟩ := h
  refine ⟨⟨h1.below hb (by omega), h2, Nat.le_trans h3 hb.size⟩, fun i hi => ?_⟩
  obtain ⟨⟨c1, c2⟩, g1, g2, e, k1, k2, r1, r2⟩ := h4 i hi
  exact ⟨⟨(hb.cell (p := ⟨g, i * 3 + 1, none⟩) (show g < w.heap.size by omega)).trans c1, (hb.cell (p := ⟨g, i * 3 + 2, none⟩) (show g < w.heap.size by omega)).trans c2⟩, g1, g2, e, k1, k2, r1.below hb (by omega), r2.below hb (by omega)⟩
theorem LkW.key {w : World} {g C n k : Nat} {V : Nat → LkV} {A : Nat → LkA} (h : LkW w g C n V A) (v : Value) : LkW (w.setCell ⟨g, k * 3, none⟩ v) g C n V A := by
  obtain ⟨⟨h1, h2, h3⟩, h4⟩ := h
  have hk := (RK.refl w).set ⟨g, k * 3, none⟩ v
  refine ⟨⟨hk.2 g _ (by omega) h1, h2, by simpa using h3⟩, fun i hi => ?_⟩
  obtain ⟨⟨c1, c2⟩, g1, g2, e, k1, k2, r1, r2⟩ := h4 i hi
  exact ⟨⟨by rw [World.cell?_setCell_other _ _ _ _ (addr_ne (by omega))]; exact c1, by rw [World.cell?_setCell_other _ _ _ _ (addr_ne (by omega))]; exact c2⟩, g1, g2, e, k1, k2, hk.2 g1 _ (by omega) r1, hk.2 g2 _ (by omega) r2⟩
theorem LkW.list {w w' : World} {g C n g1 : Nat} {V : Nat → LkV} {A : Nat → LkA} (h : LkW w g C n V A) (hk : RK w w') (ht : Trn g1 (g1 + 1) w w') (hg : g < g1) : LkW w' g C n V A := by
  obtain ⟨⟨h1, h2, h3⟩, h4⟩ := h
  have e0 := ht.2.2.2.2 g (by omega) (by omega)
  refine ⟨⟨hk.2 g _ (by omega) h1, h2, Nat.le_trans h3 hk.1⟩, fun i hi => ?_⟩
  obtain ⟨⟨c1, c2⟩, x1, x2, e, k1, k2, r1, r2⟩ := h4 i hi
  exact ⟨⟨(World.cell?_of_block (a := ⟨g, i * 3 + 1, none⟩) e0).trans c1, (World.cell?_of_block (a := ⟨g, i * 3 + 2, none⟩) e0).trans c2⟩, x1, x2, e, k1, k2, hk.2 x1 _ (by omega) r1, hk.2 x2 _ (by omega) r2⟩

def MarkPost (B C : Nat) (w : World) (r : Ending) (w' : World) : Prop := (∃ x : Int, r = .returned (.int .i64 x) ∧ 0 < x ∧ x ≤ 8796093022208) ∧ Trn B C w w'
set_option maxRecDepth 100000 in
set_option maxHeartbeats 4000000 in
theorem markLockS_any (g C n cap : Nat) (V : Nat → LkV) (A : Nat → LkA) (w : World) (hn : n ≤ 1048576) (hz : ∀ i, i < n → LkOk (V i)) (hs : LkW w g C n V A) :
    Calls Try.prog 29 #[.slice (some ⟨g, 0, none⟩) n cap, .int .i64 1] w (MarkPost g C w) := by
  have HZ : Hid (∀ i, i < n → LkOk (V i)) := hz
  clear hz
  go_enter Try.func29, Try.ntmps29
  go_wp2
  go_loopw [5, 1] (fun i q' wr => ∃ (k : Nat) (y : Int), k ≤ n ∧ i = .int .i64 k ∧ q' = .int .i64 y ∧ 0 < y ∧ y ≤ 1 + 4194305 * (k : Int) ∧ LkW wr g C n V A ∧ Trn g C w wr) (fun i _ _ => n - (intOf i).toNat)
  case atStart => exact ⟨0, 1, Nat.zero_le _, rfl, rfl, by omega, by omega, hs, Trn.refl _ _ _⟩
  case round =>
    obtain ⟨k, y, hk, rfl, rfl, hy0, hy1, hw, ht⟩ := hrel
    clear hs
    by_cases hlt : k < n
    · have hlt' : (k : Int) < (n : Int) := by omega
      obtain ⟨hok0, hok1, hok2⟩ := HZ.out k hlt
      have hyb : y ≤ 8796093022208 - 4194305 := by omega
      have HW : Hid (LkW wr g C n V A ∧ Trn g C w wr) := ⟨hw, ht⟩
      have hgC : g < C := hw.1.2.1
      clear hw ht
      go_wp2_with fail
      refine (markText_any _ _ hy0 (by omega)).mono ?_
      rintro r w2 ⟨rfl, hb2⟩
      have hw2 := HW.out.1.next hb2
      have t2 := HW.out.2.next hb2
      obtain ⟨⟨x0, r0⟩, f0⟩ := hw2.1.1 (k * 3) (by omega)
      have hg2 : g < w2.heap.size := by have := hw2.1.2.2; omega
      have hw3 := hw2.key (k := k) (.string (mtx y))
      have t3 := t2.set (p := ⟨g, k * 3, none⟩) (Nat.le_refl _) hgC (.string (mtx y))
      obtain ⟨⟨c1, c2⟩, g1, g2, hA, ⟨k1, k1'⟩, ⟨k2, k2'⟩, r1, r2⟩ := hw3.2 k hlt
      rw [hA] at c1 c2
      have H3 : Hid (LkW (w2.setCell ⟨g, k * 3, none⟩ (.string (mtx y))) g C n V A ∧ Trn g C w (w2.setCell ⟨g, k * 3, none⟩ (.string (mtx y))) ∧ Room (w2.setCell ⟨g, k * 3, none⟩ (.string (mtx y))) g1 ((V k).h.n * 2)) := ⟨hw3, t3, r1⟩
      have hC3 : C ≤ (w2.setCell ⟨g, k * 3, none⟩ (.string (mtx y))).heap.size := hw3.1.2.2
      have HA : Hid (A k = ⟨some ⟨g1, 0, none⟩, (V k).h.n, some ⟨g2, 0, none⟩, (V k).w.n⟩) := hA
      clear hb2 HW hw2 t2 hw3 t3 r1 r2 c2 hA
      go_wp2_with fail
      refine (markHoldS_any _ _ _ _ _ hok1 (by omega) (by omega) H3.out.2.2 (by omega)).mono ?_
      rintro r w4 ⟨rfl, hk4, ht4⟩
      have hw4 := H3.out.1.list hk4 ht4 k1
      have t4 : Trn g C w w4 := H3.out.2.1.trans (ht4.wide (by omega) (by omega))
      obtain ⟨⟨c1', c2'⟩, g1', g2', hA', ⟨_, _⟩, ⟨k2a, k2b⟩, _, r2'⟩ := hw4.2 k hlt
      have e2 : g2' = g2 := by have := congrArg LkA.wa (hA'.symm.trans HA.out); simpa using this
      subst e2
      rw [hA'] at c2'
      have H4 : Hid (LkW w4 g C n V A ∧ Trn g C w w4 ∧ Room w4 g2' ((V k).w.n * 2)) := ⟨hw4, t4, r2'⟩
      have hC4 : C ≤ w4.heap.size := hw4.1.2.2
      have hg4 : g < w4.heap.size := by omega
      clear H3 hk4 ht4 hw4 t4 c1' r2' hA' r0 f0 c1
      go_wp2_with fail
      refine (markHoldS_any _ _ _ _ _ hok2 (by omega) (by omega) H4.out.2.2 (by omega)).mono ?_
      rintro r w5 ⟨rfl, hk5, ht5⟩
      have H5 : Hid (LkW w5 g C n V A ∧ Trn g C w w5) := ⟨H4.out.1.list hk5 ht5 k2a, H4.out.2.1.trans (ht5.wide (by omega) (by omega))⟩
      clear H4 hk5 ht5 c2'
      go_wp2
      go_roundw
      case rel => exact ⟨k + 1, _, by omega, by go_num, rfl, by omega, by omega, H5.out.1, H5.out.2⟩
      case measure => simp [intOf]; omega
    · have hkn : k = n := by omega
      subst hkn
      have HF : Hid (Trn g C w wr) := ht
      clear hw ht
      go_wp2
      go_ret
      exact ⟨⟨y, rfl, hy0, by omega⟩, HF.out⟩

/-- A list of locks of the law's own: with their lists behind it. -/
def LkO (w : World) (B C g n : Nat) (V : Nat → LkV) (A : Nat → LkA) : Prop := LkR w B C g n V A ∧ ∀ i, i < n → LkIn w (g + 1) C (A i) (V i)
theorem LkO.next {w w' : World} {B C g n : Nat} {V : Nat → LkV} {A : Nat → LkA} (h : LkO w B C g n V A) (hb : Below w.heap.size w w') : LkO w' B C g n V A := ⟨h.1.next hb, fun i hi => (h.2 i hi).next hb (Nat.le_refl _)⟩
theorem LkO.lks {w : World} {B C g n : Nat} {V : Nat → LkV} {A : Nat → LkA} (h : LkO w B C g n V A) : LkS w (some ⟨g, 0, none⟩) n V A := h.1.lks
theorem LkO.toW {w : World} {B C g n : Nat} {V : Nat → LkV} {A : Nat → LkA} (h : LkO w B C g n V A) : LkW w g C n V A := h.1.toW h.2
def LocksPost2 (n : Nat) (V : Nat → LkV) (w : World) (r : Ending) (w' : World) : Prop :=
  ∃ A, r = .returned (.slice (some ⟨w.heap.size, 0, none⟩) n n) ∧ LkO w' w.heap.size w'.heap.size w.heap.size n V A ∧ Below w.heap.size w w'
set_option maxHeartbeats 1000000 in
theorem toLockS_own (a : Option Addr) (n cap : Nat) (V : Nat → LkV) (A : Nat → LkA) (w : World) (hn : n ≤ 1048576) (hz : ∀ i, i < n → LkOk (V i)) (hs : LkS w a n V A) :
    Calls Try.prog 27 #[.slice a n cap] w (LocksPost2 n V w) := by
  have HS : Hid ((∀ i, i < n → LkOk (V i)) ∧ LkS w a n V A) := ⟨hz, hs⟩
  clear hz hs
  obtain ⟨i0, hi, hz0, hz1, hz2⟩ := info_parts info_lock
  go_enter Try.func27, Try.ntmps27
  go_wp2_with (at_make; refine wpList_make_full _ rfl (.tmp 6) (.tmp 6) 25 rfl w.heap.size 48 i0 (.agg #[.string ⟨#[]⟩, .slice none 0 0, .slice none 0 0]) 3 Try.underlying25 hi hz0 hz1 .i64 .i64 _ _ n rfl rfl rfl rfl (by rw [hz2]; omega) (by unfold maxLen; omega) (Nat.le_refl _) ?_; intro w1 hown hgrow)
  have hR := room_made hown
  have hB : Below w.heap.size w w1 := (Below.refl _ _).grown hgrow (Nat.le_refl _) (fun k hk => by cases hk)
  have hG : w.heap.size < w1.heap.size := by
    obtain ⟨_, h | ⟨g', cap', cur, hv, hb, hh, _⟩⟩ := hown
    · exact absurd h.1 (by simp)
    · simp only [Value.slice.injEq, Option.some.injEq, Addr.mk.injEq, and_true, true_and] at hv
      obtain ⟨rfl, rfl⟩ := hv
      rcases Nat.lt_or_ge w.heap.size w1.heap.size with h | h
      · exact h
      · rw [Array.getElem?_eq_none h] at hh; cases hh
  clear hown hgrow hi hz0 hz1 hz2
  go_loopw [4] (fun i wr => ∃ (k : Nat) (A' : Nat → LkA), k ≤ n ∧ i = .int .i64 k ∧ (Room wr w.heap.size (n * 3) ∧ Elems wr w.heap.size 0 k 3 (lkF V A') ∧ (∀ i, i < k → LkIn wr (w.heap.size + 1) wr.heap.size (A' i) (V i))) ∧ w.heap.size < wr.heap.size ∧ Below w.heap.size w wr) (fun i _ => n - (intOf i).toNat)
  case atStart => exact ⟨0, A, Nat.zero_le _, rfl, ⟨hR, fun i hi => absurd hi (by omega), fun i hi => absurd hi (by omega)⟩, hG, hB⟩
  case round =>
    obtain ⟨k, A', hk, rfl, ⟨hRr, hEr, hIr⟩, hGr, hBr⟩ := hrel
    clear hR hB hG
    by_cases hlt : k < n
    · have hsr := HS.out.2.next hBr
      have hat := hsr.2 k hlt
      rcases hsr.1 with h | ⟨b, off, rfl, hbs, hE⟩
      · omega
      obtain ⟨c0, c1, c2⟩ := lk_cells hE hlt
      have hlt' : (k : Int) < (n : Int) := by omega
      have HH : Hid (Room wr w.heap.size (n * 3) ∧ Elems wr w.heap.size 0 k 3 (lkF V A') ∧ (∀ i, i < k → LkIn wr (w.heap.size + 1) wr.heap.size (A' i) (V i)) ∧ Below w.heap.size w wr) := ⟨hRr, hEr, hIr, hBr⟩
      have HT : Hid (HdAt wr (A k) (V k) ∧ LkOk (V k)) := ⟨hat, HS.out.1 k hlt⟩
      clear hRr hEr hIr hBr hsr hE hat
      go_wp2_with fail
      refine (toLock_any _ _ _ _ _ _ _ (V k).h.t (V k).h.m (V k).w.t (V k).w.m _ HT.out.2.2.1 HT.out.2.2.2 HT.out.1.1 HT.out.1.2.1).mono ?_
      rintro e w2 ⟨g1, g2, rfl, hn1, hn2, ⟨hg1, hg2⟩, hb2⟩
      obtain ⟨hRr, hEr, hIr, hBr⟩ := HH.out
      have hR2 := hRr.below hb2 hGr
      have hE2 := hEr.below hb2 hGr
      have hB2 : Below w.heap.size w w2 := hBr.trans (hb2.mono (by omega))
      have hG2 : w.heap.size < w2.heap.size := Nat.lt_of_lt_of_le hGr hb2.size
      obtain ⟨x, y, z, r0, r1, r2, f0, f1, f2⟩ := room3 hR2 hlt
      have R : Hid ((Room (put w2 w.heap.size (k * 3) [.string (V k).key, .slice (some ⟨g1, 0, none⟩) (V k).h.n (V k).h.n, .slice (some ⟨g2, 0, none⟩) (V k).w.n (V k).w.n]) w.heap.size (n * 3) ∧
          Elems (put w2 w.heap.size (k * 3) [.string (V k).key, .slice (some ⟨g1, 0, none⟩) (V k).h.n (V k).h.n, .slice (some ⟨g2, 0, none⟩) (V k).w.n (V k).w.n]) w.heap.size 0 (k + 1) 3 (lkF V (fun q => if q = k then ⟨some ⟨g1, 0, none⟩, (V k).h.n, some ⟨g2, 0, none⟩, (V k).w.n⟩ else A' q)) ∧
          (∀ i, i < k + 1 → LkIn (put w2 w.heap.size (k * 3) [.string (V k).key, .slice (some ⟨g1, 0, none⟩) (V k).h.n (V k).h.n, .slice (some ⟨g2, 0, none⟩) (V k).w.n (V k).w.n]) (w.heap.size + 1) (put w2 w.heap.size (k * 3) [.string (V k).key, .slice (some ⟨g1, 0, none⟩) (V k).h.n (V k).h.n, .slice (some ⟨g2, 0, none⟩) (V k).w.n (V k).w.n]).heap.size (if i = k then ⟨some ⟨g1, 0, none⟩, (V k).h.n, some ⟨g2, 0, none⟩, (V k).w.n⟩ else A' i) (V i))) ∧
          w.heap.size < (put w2 w.heap.size (k * 3) [.string (V k).key, .slice (some ⟨g1, 0, none⟩) (V k).h.n (V k).h.n, .slice (some ⟨g2, 0, none⟩) (V k).w.n (V k).w.n]).heap.size ∧ Below w.heap.size w (put w2 w.heap.size (k * 3) [.string (V k).key, .slice (some ⟨g1, 0, none⟩) (V k).h.n (V k).h.n, .slice (some ⟨g2, 0, none⟩) (V k).w.n (V k).w.n])) := by
        refine ⟨⟨put_room _ _ _ hR2 (by simp; omega), (hE2.congr (fun i j hi => lkF_upd i j hi)).step hR2 hlt rfl (fun j hj => by match j, hj with | 0, _ => rfl | 1, _ => simp [lkF] | 2, _ => simp [lkF]), ?_⟩, by rw [put_size]; exact hG2, put_below (Nat.le_refl _) _ _ _ _ hB2⟩
        have ht := put_trn (g := w.heap.size) [.string (V k).key, .slice (some ⟨g1, 0, none⟩) (V k).h.n (V k).h.n, .slice (some ⟨g2, 0, none⟩) (V k).w.n (V k).w.n] w2 (k * 3)
        rw [put_size]
        refine upto_succ (fun i hi => ?_) ?_
        · rw [if_neg (by omega)]
          exact ((hIr i hi).next hb2 hb2.size).trn ht (by omega)
        · rw [if_pos rfl]
          have := hn1.2.2
          have := hn2.2.2
          exact ⟨g1, g2, rfl, ⟨by omega, by omega⟩, ⟨by omega, by omega⟩, hn1.trn ht (by omega), hn2.trn ht (by omega)⟩
      clear HH hRr hEr hIr hBr hR2 hE2 hB2 hb2 hn1 hn2 hg1 hg2 HT
      go_wp2
      go_roundw
      case rel => exact ⟨k + 1, _, by omega, by go_num, R.out⟩
      case measure => simp [intOf]; omega
    · have hkn : k = n := by omega
      subst hkn
      have HH : Hid ((LkR wr w.heap.size wr.heap.size w.heap.size k V A' ∧ ∀ i, i < k → LkIn wr (w.heap.size + 1) wr.heap.size (A' i) (V i)) ∧ Below w.heap.size w wr) := ⟨⟨⟨⟨hEr, hRr, Nat.le_refl _, hGr⟩, fun i hi => by obtain ⟨g1, g2, e, h1, h2, h3⟩ := hIr i hi; exact ⟨g1, g2, e, ⟨by omega, h1.2⟩, ⟨by omega, h2.2⟩, h3⟩, Nat.le_refl _⟩, hIr⟩, hBr⟩
      clear hRr hEr hIr hBr
      go_wp2
      go_ret
      exact ⟨A', rfl, HH.out⟩

end Go.Proofs.Ytnapgnkhajkbkaa
