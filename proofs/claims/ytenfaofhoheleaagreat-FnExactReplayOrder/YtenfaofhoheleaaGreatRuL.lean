/- Lists of Running: the law's own function toRunningS. Written by tools/mkRuL.py. -/
import Derived.Test.YtenfaofhoheleaaGreatRuT
namespace Go.Proofs.YtenfaofhoheleaaGreat
open Go.RowKit
set_option linter.unusedVariables false

theorem put_trn {g : Nat} : ∀ (vs : List Value) (w : World) (o : Nat), Trn g (g + 1) w (put w g o vs)
  | [], w, _ => Trn.refl _ _ _
  | v :: vs, w, o => ((Trn.refl _ _ w).set (p := ⟨g, o, none⟩) (Nat.le_refl _) (by simp) v).trans (put_trn vs _ (o + 1))
/-- The two lists lie in blocks of B..C-1 that may be written. -/
def RuIn (w : World) (B C : Nat) (A : RuA) (V : RuV) : Prop :=
  ∃ g1 g2 : Nat, A = ⟨some ⟨g1, 0, none⟩, V.ln, some ⟨g2, 0, none⟩, V.cn⟩ ∧ (B ≤ g1 ∧ g1 < C) ∧ (B ≤ g2 ∧ g2 < C) ∧ LookR w g1 V.ln V.lk ∧ CellR w g2 V.cn V.cl
theorem RuIn.next {w w' : World} {B C C' : Nat} {A : RuA} {V : RuV} (h : RuIn w B C A V) (hb : Below w.heap.size w w') (hC : C ≤ C') : RuIn w' B C' A V := by
  obtain ⟨g1, g2, e, h1, h2, h3, h4⟩ := h
  exact ⟨g1, g2, e, ⟨h1.1, by omega⟩, ⟨h2.1, by omega⟩, h3.next hb, h4.next hb⟩
theorem RuIn.trn {w w' : World} {B C B' C' : Nat} {A : RuA} {V : RuV} (h : RuIn w B C A V) (ht : Trn B' C' w w') (ha : C ≤ B' ∨ C' ≤ B) : RuIn w' B C A V := by
  obtain ⟨g1, g2, e, h1, h2, h3, h4⟩ := h
  exact ⟨g1, g2, e, h1, h2, h3.trn ht (by omega), h4.trn ht (by omega)⟩
theorem RuIn.at {w : World} {B C : Nat} {A : RuA} {V : RuV} (h : RuIn w B C A V) : RuAt w A V := by
  obtain ⟨g1, g2, rfl, h1, h2, h3, h4⟩ := h
  exact ⟨h3.sl, h4.sl, Nat.le_refl _, Nat.le_refl _⟩
/-- Block g holds n of them; it and their lists lie in blocks of B..C-1 that may be written. -/
def RuR (w : World) (B C g n : Nat) (V : Nat → RuV) (A : Nat → RuA) : Prop :=
  (Elems w g 0 n 7 (ruF V A) ∧ Room w g (n * 7) ∧ B ≤ g ∧ g < C) ∧ (∀ i, i < n → RuIn w (g + 1) C (A i) (V i)) ∧ C ≤ w.heap.size
theorem RuR.next {w w' : World} {B C g n : Nat} {V : Nat → RuV} {A : Nat → RuA} (h : RuR w B C g n V A) (hb : Below w.heap.size w w') : RuR w' B C g n V A := by
  obtain ⟨⟨h1, h2, h3, h4⟩, h5, h6⟩ := h
  exact ⟨⟨h1.below hb (by omega), h2.below hb (by omega), h3, h4⟩, fun i hi => (h5 i hi).next hb (Nat.le_refl _), Nat.le_trans h6 hb.size⟩
theorem RuR.trn {w w' : World} {B C B' C' g n : Nat} {V : Nat → RuV} {A : Nat → RuA} (h : RuR w B C g n V A) (ht : Trn B' C' w w') (ha : C ≤ B' ∨ C' ≤ B) : RuR w' B C g n V A := by
  obtain ⟨⟨h1, h2, h3, h4⟩, h5, h6⟩ := h
  have e := ht.2.2.2.2 g (by omega) (by omega)
  exact ⟨⟨h1.same e, h2.same e, h3, h4⟩, fun i hi => (h5 i hi).trn ht (by omega), Nat.le_trans h6 ht.2.2.2.1⟩
theorem RuR.rus {w : World} {B C g n : Nat} {V : Nat → RuV} {A : Nat → RuA} (h : RuR w B C g n V A) : RuS w (some ⟨g, 0, none⟩) n V A :=
  ⟨Or.inr ⟨g, 0, rfl, by have := h.1.2.2.2; have := h.2.2; omega, h.1.1⟩, fun i hi => (h.2.1 i hi).at⟩
theorem ruF_upd {V : Nat → RuV} {A : Nat → RuA} {k : Nat} {x : RuA} : ∀ i j, i < k → ruF V A i j = ruF V (fun q => if q = k then x else A q) i j := by
  intro i j hi
  simp only [ruF, if_neg (show ¬ i = k by omega)]
def RunsPost (n : Nat) (V : Nat → RuV) (w : World) (r : Ending) (w' : World) : Prop :=
  ∃ A, r = .returned (.slice (some ⟨w.heap.size, 0, none⟩) n n) ∧ RuR w' w.heap.size w'.heap.size w.heap.size n V A ∧ Below w.heap.size w w'
theorem Elems.congr {w : World} {g off n c : Nat} {F G : Nat → Nat → Value} (h : Elems w g off n c F) (e : ∀ i j, i < n → F i j = G i j) : Elems w g off n c G := fun i hi j hj => by rw [← e i j hi]; exact h i hi j hj
theorem info_running : (Tryz.prog.info? 71).map (fun i => (i.zero, i.size, i.bytes)) = some (some (.agg #[.int .i64 0, .int .i64 0, .slice none 0 0, .slice none 0 0, .int .i64 0, .int .i64 0, .bool false]), 7, 88) := by kernel_rfl

set_option maxHeartbeats 2000000 in
theorem toRunningS_any (a : Option Addr) (n cap : Nat) (V : Nat → RuV) (A : Nat → RuA) (w : World) (hn : n ≤ 1048576) (hz : ∀ i, i < n → RuOk (V i)) (hs : RuS w a n V A) :
    Calls Tryz.prog 26 #[.slice a n cap] w (RunsPost n V w) := by
  have HS : Hid ((∀ i, i < n → RuOk (V i)) ∧ RuS w a n V A) := ⟨hz, hs⟩
  clear hz hs
  obtain ⟨i0, hi, hz0, hz1, hz2⟩ := info_parts info_running
  go_enter Tryz.func26, Tryz.ntmps26
  go_wp2_with (at_make; refine wpList_make_full _ rfl (.tmp 6) (.tmp 6) 32 rfl w.heap.size 71 i0 (.agg #[.int .i64 0, .int .i64 0, .slice none 0 0, .slice none 0 0, .int .i64 0, .int .i64 0, .bool false]) 7 Tryz.underlying32 hi hz0 hz1 .i64 .i64 _ _ n rfl rfl rfl rfl (by rw [hz2]; omega) (by unfold maxLen; omega) (Nat.le_refl _) ?_; intro w1 hown hgrow)
  have hR := room_made hown
  have hB : Below w.heap.size w w1 := (Below.refl _ _).grown hgrow (Nat.le_refl _) (fun k hk => by cases hk)
  have hG : w.heap.size < w1.heap.size := by
    obtain ⟨_, h | ⟨g', cap', cur, hv, hb, hh, _⟩⟩ := hown
    · exact absurd h.1 (by simp)
    · simp only [Value.slice.injEq, Option.some.injEq, Addr.mk.injEq, and_true, true_and] at hv
      obtain ⟨rfl, rfl⟩ := hv
      rcases Nat.lt_or_ge w.heap.size w1.heap.size with h | h
      · exact h
      · rw [Array.getElem?_eq_none h] at hh; cases hh
  clear hown hgrow hi hz0 hz1 hz2
  go_loopw [4] (fun i wr => ∃ (k : Nat) (A' : Nat → RuA), k ≤ n ∧ i = .int .i64 k ∧ (Room wr w.heap.size (n * 7) ∧ Elems wr w.heap.size 0 k 7 (ruF V A') ∧ (∀ i, i < k → RuIn wr (w.heap.size + 1) wr.heap.size (A' i) (V i))) ∧ w.heap.size < wr.heap.size ∧ Below w.heap.size w wr) (fun i _ => n - (intOf i).toNat)
  case atStart => exact ⟨0, A, Nat.zero_le _, rfl, ⟨hR, fun i hi => absurd hi (by omega), fun i hi => absurd hi (by omega)⟩, hG, hB⟩
  case round =>
    obtain ⟨k, A', hk, rfl, ⟨hRr, hEr, hIr⟩, hGr, hBr⟩ := hrel
    clear hR hB hG
    by_cases hlt : k < n
    · have hsr := HS.out.2.next hBr
      have hat := hsr.2 k hlt
      rcases hsr.1 with h | ⟨b, off, rfl, hbs, hE⟩
      · omega
      obtain ⟨c0, c1, c2, c3, c4, c5, c6⟩ := ru_cells hE hlt
      have hlt' : (k : Int) < (n : Int) := by omega
      have HH : Hid (Room wr w.heap.size (n * 7) ∧ Elems wr w.heap.size 0 k 7 (ruF V A') ∧ (∀ i, i < k → RuIn wr (w.heap.size + 1) wr.heap.size (A' i) (V i)) ∧ Below w.heap.size w wr) := ⟨hRr, hEr, hIr, hBr⟩
      have HT : Hid (RuAt wr (A k) (V k) ∧ RuOk (V k)) := ⟨hat, HS.out.1 k hlt⟩
      clear hRr hEr hIr hBr hsr hE hat
      go_wp2_with fail
      refine (toRunning_any _ _ _ _ _ _ _ _ _ _ _ (V k).lk (V k).cl _ HT.out.2.1 HT.out.2.2 HT.out.1.1 HT.out.1.2.1).mono ?_
      rintro e w2 ⟨g1, g2, rfl, hn1, hn2, ⟨hg1, hg2⟩, hb2⟩
      obtain ⟨hRr, hEr, hIr, hBr⟩ := HH.out
      have hR2 := hRr.below hb2 hGr
      have hE2 := hEr.below hb2 hGr
      have hB2 : Below w.heap.size w w2 := hBr.trans (hb2.mono (by omega))
      have hG2 : w.heap.size < w2.heap.size := Nat.lt_of_lt_of_le hGr hb2.size
      obtain ⟨⟨y0, r0⟩, f0⟩ := hR2 (k * 7 + 0) (by omega)
      obtain ⟨⟨y1, r1⟩, f1⟩ := hR2 (k * 7 + 1) (by omega)
      obtain ⟨⟨y2, r2⟩, f2⟩ := hR2 (k * 7 + 2) (by omega)
      obtain ⟨⟨y3, r3⟩, f3⟩ := hR2 (k * 7 + 3) (by omega)
      obtain ⟨⟨y4, r4⟩, f4⟩ := hR2 (k * 7 + 4) (by omega)
      obtain ⟨⟨y5, r5⟩, f5⟩ := hR2 (k * 7 + 5) (by omega)
      obtain ⟨⟨y6, r6⟩, f6⟩ := hR2 (k * 7 + 6) (by omega)
      rw [Nat.add_zero] at r0 f0
      have R : Hid ((Room (put w2 w.heap.size (k * 7) [.int .i64 (V k).id, .int .i64 (V k).st, .slice (some ⟨g1, 0, none⟩) (V k).ln (V k).ln, .slice (some ⟨g2, 0, none⟩) (V k).cn (V k).cn, .int .i64 (V k).e, .int .i64 (V k).s, .bool (V k).b]) w.heap.size (n * 7) ∧
          Elems (put w2 w.heap.size (k * 7) [.int .i64 (V k).id, .int .i64 (V k).st, .slice (some ⟨g1, 0, none⟩) (V k).ln (V k).ln, .slice (some ⟨g2, 0, none⟩) (V k).cn (V k).cn, .int .i64 (V k).e, .int .i64 (V k).s, .bool (V k).b]) w.heap.size 0 (k + 1) 7 (ruF V (fun q => if q = k then ⟨some ⟨g1, 0, none⟩, (V k).ln, some ⟨g2, 0, none⟩, (V k).cn⟩ else A' q)) ∧
          (∀ i, i < k + 1 → RuIn (put w2 w.heap.size (k * 7) [.int .i64 (V k).id, .int .i64 (V k).st, .slice (some ⟨g1, 0, none⟩) (V k).ln (V k).ln, .slice (some ⟨g2, 0, none⟩) (V k).cn (V k).cn, .int .i64 (V k).e, .int .i64 (V k).s, .bool (V k).b]) (w.heap.size + 1) (put w2 w.heap.size (k * 7) [.int .i64 (V k).id, .int .i64 (V k).st, .slice (some ⟨g1, 0, none⟩) (V k).ln (V k).ln, .slice (some ⟨g2, 0, none⟩) (V k).cn (V k).cn, .int .i64 (V k).e, .int .i64 (V k).s, .bool (V k).b]).heap.size (if i = k then ⟨some ⟨g1, 0, none⟩, (V k).ln, some ⟨g2, 0, none⟩, (V k).cn⟩ else A' i) (V i))) ∧
          w.heap.size < (put w2 w.heap.size (k * 7) [.int .i64 (V k).id, .int .i64 (V k).st, .slice (some ⟨g1, 0, none⟩) (V k).ln (V k).ln, .slice (some ⟨g2, 0, none⟩) (V k).cn (V k).cn, .int .i64 (V k).e, .int .i64 (V k).s, .bool (V k).b]).heap.size ∧ Below w.heap.size w (put w2 w.heap.size (k * 7) [.int .i64 (V k).id, .int .i64 (V k).st, .slice (some ⟨g1, 0, none⟩) (V k).ln (V k).ln, .slice (some ⟨g2, 0, none⟩) (V k).cn (V k).cn, .int .i64 (V k).e, .int .i64 (V k).s, .bool (V k).b])) := by
        refine ⟨⟨put_room _ _ _ hR2 (by simp; omega), (hE2.congr (fun i j hi => ruF_upd i j hi)).step hR2 hlt rfl (fun j hj => by match j, hj with | 0, _ => rfl | 1, _ => rfl | 2, _ => simp [ruF] | 3, _ => simp [ruF] | 4, _ => rfl | 5, _ => rfl | 6, _ => rfl), ?_⟩, by rw [put_size]; exact hG2, put_below (Nat.le_refl _) _ _ _ _ hB2⟩
        have ht := put_trn (g := w.heap.size) [.int .i64 (V k).id, .int .i64 (V k).st, .slice (some ⟨g1, 0, none⟩) (V k).ln (V k).ln, .slice (some ⟨g2, 0, none⟩) (V k).cn (V k).cn, .int .i64 (V k).e, .int .i64 (V k).s, .bool (V k).b] w2 (k * 7)
        rw [put_size]
        refine upto_succ (fun i hi => ?_) ?_
        · rw [if_neg (by omega)]
          exact ((hIr i hi).next hb2 hb2.size).trn ht (by omega)
        · rw [if_pos rfl]
          have := hn1.2.2
          have := hn2.2.2
          exact ⟨g1, g2, rfl, ⟨by omega, by omega⟩, ⟨by omega, by omega⟩, hn1.trn ht (by omega), hn2.trn ht (by omega)⟩
      clear HH hRr hEr hIr hBr hR2 hE2 hB2 hb2 hn1 hn2 hg1 hg2 HT
      go_wp2
      go_roundw
      case rel => exact ⟨k + 1, _, by omega, by go_num, R.out⟩
      case measure => simp [intOf]; omega
    · have hkn : k = n := by omega
      subst hkn
      have HH : Hid (RuR wr w.heap.size wr.heap.size w.heap.size k V A' ∧ Below w.heap.size w wr) := ⟨⟨⟨hEr, hRr, Nat.le_refl _, hGr⟩, hIr, Nat.le_refl _⟩, hBr⟩
      clear hRr hEr hIr hBr
      go_wp2
      go_ret
      exact ⟨A', rfl, HH.out⟩
end Go.Proofs.YtenfaofhoheleaaGreat
