/- Lists of locks: the contracts of the law's own functions szLockS, toLockS, eqLockS. -/
import Derived.Test.YtnapgnkhajkbkaaLk
namespace Go.Proofs.Ytnapgnkhajkbkaa
open Go.RowKit
set_option linter.unusedVariables false

set_option maxHeartbeats 1000000 in
theorem szLockS_any (a : Option Addr) (n cap : Nat) (V : Nat → LkV) (A : Nat → LkA) (w : World) (hn : n ≤ maxLen) (hs : LkS w a n V A) (hz : ∀ i, i < n → LkLen (V i)) :
    Calls Try.prog 26 #[.slice a n cap, .int .i64 1048576] w fun r w' => ∃ l : Int, r = .returned (.int .i64 l) ∧ (0 ≤ l → n ≤ 1048576 ∧ ∀ i, i < n → LkOk (V i)) ∧ Below w.heap.size w w' := by
  have hm := hn
  unfold maxLen at hm
  by_cases h : (1048576 : Int) - (n : Int) < 0
  · clear hs hz
    go_enter Try.func26, Try.ntmps26
    go_wp2
    go_ret
    exact ⟨-1, rfl, fun h => absurd h (by omega), Below.refl _ _⟩
  · have hn' : n ≤ 1048576 := by omega
    have HZ : Hid ((∀ i, i < n → LkLen (V i)) ∧ LkS w a n V A) := ⟨hz, hs⟩
    clear hz hs
    go_enter Try.func26, Try.ntmps26
    go_wp2
    go_loopw [1, 5] (fun l i wr => ∃ (k : Nat) (x : Int), k ≤ n ∧ i = .int .i64 k ∧ l = .int .i64 x ∧ 0 ≤ x ∧ x ≤ 1048576 ∧ (∀ i, i < k → LkOk (V i)) ∧ Below w.heap.size w wr) (fun _ i _ => n - (intOf i).toNat)
    case atStart => exact ⟨0, _, Nat.zero_le _, rfl, rfl, by omega, by omega, fun i hi => absurd hi (by omega), Below.refl _ _⟩
    case round =>
      obtain ⟨k, x, hk, rfl, rfl, hx0, hx1, hall, hBr⟩ := hrel
      by_cases hlt : k < n
      · rcases (HZ.out.2.next hBr).1 with h | ⟨b, off, rfl, hbs, hE⟩
        · omega
        obtain ⟨c0, c1, c2⟩ := lk_cells hE hlt
        have hlt' : (k : Int) < (n : Int) := by omega
        have HB : Hid (Below w.heap.size w wr ∧ (∀ i, i < k → LkOk (V i))) := ⟨hBr, hall⟩
        have hL := HZ.out.1 k hlt
        clear hE hBr hall
        go_wp2_with fail
        refine (szLock_any _ _ _ _ _ _ _ _ _ hL.1 hL.2.1 hL.2.2 hx0 hx1).mono ?_
        rintro r w2 ⟨y, rfl, hy0, hy1, hy2, hb2⟩
        have HB2 : Hid (Below w.heap.size w w2) := HB.out.1.trans (hb2.mono HB.out.1.size)
        clear hb2 c0 c1 c2
        by_cases hy : y < 0
        · go_wp2
          go_ret
          exact ⟨-1, rfl, fun h => absurd h (by omega), HB2.out⟩
        · have HY : Hid (LkOk (V k)) := hy2 (by omega)
          clear hy2
          go_wp2
          go_roundw
          case rel => exact ⟨k + 1, y, by omega, by go_num, rfl, by omega, by omega, upto_succ HB.out.2 HY.out, HB2.out⟩
          case measure => simp [intOf]; omega
      · have hkn : k = n := by omega
        subst hkn
        have HB : Hid (Below w.heap.size w wr ∧ (∀ i, i < k → LkOk (V i))) := ⟨hBr, hall⟩
        clear hBr hall
        go_wp2
        go_ret
        exact ⟨x, rfl, fun _ => ⟨hn', HB.out.2⟩, HB.out.1⟩

theorem put_trn {g : Nat} : ∀ (vs : List Value) (w : World) (o : Nat), Trn g (g + 1) w (put w g o vs)
  | [], w, _ => Trn.refl _ _ _
  | v :: vs, w, o => ((Trn.refl _ _ w).set (p := ⟨g, o, none⟩) (Nat.le_refl _) (by simp) v).trans (put_trn vs _ (o + 1))
theorem HdNew.trn {w w' : World} {B C g n : Nat} {T M : Nat → Int} (h : HdNew w g n T M) (ht : Trn B C w w') (ha : g < B ∨ C ≤ g) : HdNew w' g n T M :=
  ⟨h.1.same (ht.2.2.2.2 g h.2.2 ha), h.2.1.same (ht.2.2.2.2 g h.2.2 ha), Nat.lt_of_lt_of_le h.2.2 ht.2.2.2.1⟩
/-- A lock's two lists lie in blocks of B..C-1 that may be written. -/
def LkIn (w : World) (B C : Nat) (A : LkA) (V : LkV) : Prop :=
  ∃ g1 g2 : Nat, A = ⟨some ⟨g1, 0, none⟩, V.h.n, some ⟨g2, 0, none⟩, V.w.n⟩ ∧ (B ≤ g1 ∧ g1 < C) ∧ (B ≤ g2 ∧ g2 < C) ∧ HdNew w g1 V.h.n V.h.t V.h.m ∧ HdNew w g2 V.w.n V.w.t V.w.m
theorem LkIn.next {w w' : World} {B C C' : Nat} {A : LkA} {V : LkV} (h : LkIn w B C A V) (hb : Below w.heap.size w w') (hC : C ≤ C') : LkIn w' B C' A V := by
  obtain ⟨g1, g2, e, h1, h2, h3, h4⟩ := h
  exact ⟨g1, g2, e, ⟨h1.1, by omega⟩, ⟨h2.1, by omega⟩, h3.next hb, h4.next hb⟩
theorem LkIn.trn {w w' : World} {B C B' C' : Nat} {A : LkA} {V : LkV} (h : LkIn w B C A V) (ht : Trn B' C' w w') (ha : C ≤ B' ∨ C' ≤ B) : LkIn w' B C A V := by
  obtain ⟨g1, g2, e, h1, h2, h3, h4⟩ := h
  exact ⟨g1, g2, e, h1, h2, h3.trn ht (by omega), h4.trn ht (by omega)⟩
theorem LkIn.at {w : World} {B C : Nat} {A : LkA} {V : LkV} (h : LkIn w B C A V) : HdAt w A V := by
  obtain ⟨g1, g2, rfl, h1, h2, h3, h4⟩ := h
  exact ⟨h3.sl, h4.sl, Nat.le_refl _, Nat.le_refl _⟩
/-- Block g holds n locks; it and their lists lie in blocks of B..C-1 that may be written. -/
def LkR (w : World) (B C g n : Nat) (V : Nat → LkV) (A : Nat → LkA) : Prop :=
  (Elems w g 0 n 3 (lkF V A) ∧ Room w g (n * 3) ∧ B ≤ g ∧ g < C) ∧ (∀ i, i < n → LkIn w B C (A i) (V i)) ∧ C ≤ w.heap.size
theorem LkR.next {w w' : World} {B C g n : Nat} {V : Nat → LkV} {A : Nat → LkA} (h : LkR w B C g n V A) (hb : Below w.heap.size w w') : LkR w' B C g n V A := by
  obtain ⟨⟨h1, h2, h3, h4⟩, h5, h6⟩ := h
  exact ⟨⟨h1.below hb (by omega), h2.below hb (by omega), h3, h4⟩, fun i hi => (h5 i hi).next hb (Nat.le_refl _), Nat.le_trans h6 hb.size⟩
theorem LkR.trn {w w' : World} {B C B' C' g n : Nat} {V : Nat → LkV} {A : Nat → LkA} (h : LkR w B C g n V A) (ht : Trn B' C' w w') (ha : C ≤ B' ∨ C' ≤ B) : LkR w' B C g n V A := by
  obtain ⟨⟨h1, h2, h3, h4⟩, h5, h6⟩ := h
  have e := ht.2.2.2.2 g (by omega) (by omega)
  exact ⟨⟨h1.same e, h2.same e, h3, h4⟩, fun i hi => (h5 i hi).trn ht ha, Nat.le_trans h6 ht.2.2.2.1⟩
theorem LkR.lks {w : World} {B C g n : Nat} {V : Nat → LkV} {A : Nat → LkA} (h : LkR w B C g n V A) : LkS w (some ⟨g, 0, none⟩) n V A :=
  ⟨Or.inr ⟨g, 0, rfl, by have := h.1.2.2.2; have := h.2.2; omega, h.1.1⟩, fun i hi => (h.2.1 i hi).at⟩
theorem lkF_upd {V : Nat → LkV} {A : Nat → LkA} {k : Nat} {x : LkA} : ∀ i j, i < k → lkF V A i j = lkF V (fun q => if q = k then x else A q) i j := by
  intro i j hi
  simp only [lkF, if_neg (show ¬ i = k by omega)]
def LocksPost (n : Nat) (V : Nat → LkV) (w : World) (r : Ending) (w' : World) : Prop :=
  ∃ A, r = .returned (.slice (some ⟨w.heap.size, 0, none⟩) n n) ∧ LkR w' w.heap.size w'.heap.size w.heap.size n V A ∧ Below w.heap.size w w'
theorem Elems.congr {w : World} {g off n c : Nat} {F G : Nat → Nat → Value} (h : Elems w g off n c F) (e : ∀ i j, i < n → F i j = G i j) : Elems w g off n c G := fun i hi j hj => by rw [← e i j hi]; exact h i hi j hj

set_option maxHeartbeats 1000000 in
theorem toLockS_any (a : Option Addr) (n cap : Nat) (V : Nat → LkV) (A : Nat → LkA) (w : World) (hn : n ≤ 1048576) (hz : ∀ i, i < n → LkOk (V i)) (hs : LkS w a n V A) :
    Calls Try.prog 27 #[.slice a n cap] w (LocksPost n V w) := by
  have HS : Hid ((∀ i, i < n → LkOk (V i)) ∧ LkS w a n V A) := ⟨hz, hs⟩
  clear hz hs
  obtain ⟨i0, hi, hz0, hz1, hz2⟩ := info_parts info_lock
  go_enter Try.func27, Try.ntmps27
  go_wp2_with (at_make; refine wpList_make_full _ rfl (.tmp 6) (.tmp 6) 25 rfl w.heap.size 48 i0 (.agg #[.string ⟨#[]⟩, .slice none 0 0, .slice none 0 0]) 3 Try.underlying25 hi hz0 hz1 .i64 .i64 _ _ n rfl rfl rfl rfl (by rw [hz2]; omega) (by unfold maxLen; omega) (Nat.le_refl _) ?_; intro w1 hown hgrow)
  have hR := room_made hown
  have hB : Below w.heap.size w w1 := (Below.refl _ _).grown hgrow (Nat.le_refl _) (fun k hk => by cases hk)
  have hG : w.heap.size < w1.heap.size := by
    obtain ⟨_, h | ⟨g', cap', cur, hv, hb, hh, _⟩⟩ := hown
    · exact absurd h.1 (by simp)
    · simp only [Value.slice.injEq, Option.some.injEq, Addr.mk.injEq, and_true, true_and] at hv
      obtain ⟨rfl, rfl⟩ := hv
      rcases Nat.lt_or_ge w.heap.size w1.heap.size with h | h
      · exact h
      · rw [Array.getElem?_eq_none h] at hh; cases hh
  clear hown hgrow hi hz0 hz1 hz2
  go_loopw [4] (fun i wr => ∃ (k : Nat) (A' : Nat → LkA), k ≤ n ∧ i = .int .i64 k ∧ (Room wr w.heap.size (n * 3) ∧ Elems wr w.heap.size 0 k 3 (lkF V A') ∧ (∀ i, i < k → LkIn wr (w.heap.size + 1) wr.heap.size (A' i) (V i))) ∧ w.heap.size < wr.heap.size ∧ Below w.heap.size w wr) (fun i _ => n - (intOf i).toNat)
  case atStart => exact ⟨0, A, Nat.zero_le _, rfl, ⟨hR, fun i hi => absurd hi (by omega), fun i hi => absurd hi (by omega)⟩, hG, hB⟩
  case round =>
    obtain ⟨k, A', hk, rfl, ⟨hRr, hEr, hIr⟩, hGr, hBr⟩ := hrel
    clear hR hB hG
    by_cases hlt : k < n
    · have hsr := HS.out.2.next hBr
      have hat := hsr.2 k hlt
      rcases hsr.1 with h | ⟨b, off, rfl, hbs, hE⟩
      · omega
      obtain ⟨c0, c1, c2⟩ := lk_cells hE hlt
      have hlt' : (k : Int) < (n : Int) := by omega
      have HH : Hid (Room wr w.heap.size (n * 3) ∧ Elems wr w.heap.size 0 k 3 (lkF V A') ∧ (∀ i, i < k → LkIn wr (w.heap.size + 1) wr.heap.size (A' i) (V i)) ∧ Below w.heap.size w wr) := ⟨hRr, hEr, hIr, hBr⟩
      have HT : Hid (HdAt wr (A k) (V k) ∧ LkOk (V k)) := ⟨hat, HS.out.1 k hlt⟩
      clear hRr hEr hIr hBr hsr hE hat
      go_wp2_with fail
      refine (toLock_any _ _ _ _ _ _ _ (V k).h.t (V k).h.m (V k).w.t (V k).w.m _ HT.out.2.2.1 HT.out.2.2.2 HT.out.1.1 HT.out.1.2.1).mono ?_
      rintro e w2 ⟨g1, g2, rfl, hn1, hn2, ⟨hg1, hg2⟩, hb2⟩
      obtain ⟨hRr, hEr, hIr, hBr⟩ := HH.out
      have hR2 := hRr.below hb2 hGr
      have hE2 := hEr.below hb2 hGr
      have hB2 : Below w.heap.size w w2 := hBr.trans (hb2.mono (by omega))
      have hG2 : w.heap.size < w2.heap.size := Nat.lt_of_lt_of_le hGr hb2.size
      obtain ⟨x, y, z, r0, r1, r2, f0, f1, f2⟩ := room3 hR2 hlt
      have R : Hid ((Room (put w2 w.heap.size (k * 3) [.string (V k).key, .slice (some ⟨g1, 0, none⟩) (V k).h.n (V k).h.n, .slice (some ⟨g2, 0, none⟩) (V k).w.n (V k).w.n]) w.heap.size (n * 3) ∧
          Elems (put w2 w.heap.size (k * 3) [.string (V k).key, .slice (some ⟨g1, 0, none⟩) (V k).h.n (V k).h.n, .slice (some ⟨g2, 0, none⟩) (V k).w.n (V k).w.n]) w.heap.size 0 (k + 1) 3 (lkF V (fun q => if q = k then ⟨some ⟨g1, 0, none⟩, (V k).h.n, some ⟨g2, 0, none⟩, (V k).w.n⟩ else A' q)) ∧
          (∀ i, i < k + 1 → LkIn (put w2 w.heap.size (k * 3) [.string (V k).key, .slice (some ⟨g1, 0, none⟩) (V k).h.n (V k).h.n, .slice (some ⟨g2, 0, none⟩) (V k).w.n (V k).w.n]) (w.heap.size + 1) (put w2 w.heap.size (k * 3) [.string (V k).key, .slice (some ⟨g1, 0, none⟩) (V k).h.n (V k).h.n, .slice (some ⟨g2, 0, none⟩) (V k).w.n (V k).w.n]).heap.size (if i = k then ⟨some ⟨g1, 0, none⟩, (V k).h.n, some ⟨g2, 0, none⟩, (V k).w.n⟩ else A' i) (V i))) ∧
          w.heap.size < (put w2 w.heap.size (k * 3) [.string (V k).key, .slice (some ⟨g1, 0, none⟩) (V k).h.n (V k).h.n, .slice (some ⟨g2, 0, none⟩) (V k).w.n (V k).w.n]).heap.size ∧ Below w.heap.size w (put w2 w.heap.size (k * 3) [.string (V k).key, .slice (some ⟨g1, 0, none⟩) (V k).h.n (V k).h.n, .slice (some ⟨g2, 0, none⟩) (V k).w.n (V k).w.n])) := by
        refine ⟨⟨put_room _ _ _ hR2 (by simp; omega), (hE2.congr (fun i j hi => lkF_upd i j hi)).step hR2 hlt rfl (fun j hj => by match j, hj with | 0, _ => rfl | 1, _ => simp [lkF] | 2, _ => simp [lkF]), ?_⟩, by rw [put_size]; exact hG2, put_below (Nat.le_refl _) _ _ _ _ hB2⟩
        have ht := put_trn (g := w.heap.size) [.string (V k).key, .slice (some ⟨g1, 0, none⟩) (V k).h.n (V k).h.n, .slice (some ⟨g2, 0, none⟩) (V k).w.n (V k).w.n] w2 (k * 3)
        rw [put_size]
        refine upto_succ (fun i hi => ?_) ?_
        · rw [if_neg (by omega)]
          exact ((hIr i hi).next hb2 hb2.size).trn ht (by omega)
        · rw [if_pos rfl]
          have := hn1.2.2
          have := hn2.2.2
          exact ⟨g1, g2, rfl, ⟨by omega, by omega⟩, ⟨by omega, by omega⟩, hn1.trn ht (by omega), hn2.trn ht (by omega)⟩
      clear HH hRr hEr hIr hBr hR2 hE2 hB2 hb2 hn1 hn2 hg1 hg2 HT
      go_wp2
      go_roundw
      case rel => exact ⟨k + 1, _, by omega, by go_num, R.out⟩
      case measure => simp [intOf]; omega
    · have hkn : k = n := by omega
      subst hkn
      have HH : Hid (LkR wr w.heap.size wr.heap.size w.heap.size k V A' ∧ Below w.heap.size w wr) := ⟨⟨⟨hEr, hRr, Nat.le_refl _, hGr⟩, fun i hi => by obtain ⟨g1, g2, e, h1, h2, h3⟩ := hIr i hi; exact ⟨g1, g2, e, ⟨by omega, h1.2⟩, ⟨by omega, h2.2⟩, h3⟩, Nat.le_refl _⟩, hBr⟩
      clear hRr hEr hIr hBr
      go_wp2
      go_ret
      exact ⟨A', rfl, HH.out⟩

set_option maxHeartbeats 1000000 in
theorem eqLockS_same (a a' : Option Addr) (n cap cap' : Nat) (V : Nat → LkV) (A A' : Nat → LkA) (w : World) (hn : n ≤ 1048576) (hz : ∀ i, i < n → LkOk (V i)) (hs : LkS w a n V A) (hs' : LkS w a' n V A') :
    Calls Try.prog 28 #[.slice a n cap, .slice a' n cap'] w fun r w' => r = .returned (.bool true) ∧ Below w.heap.size w w' := by
  have HS : Hid ((∀ i, i < n → LkOk (V i)) ∧ LkS w a n V A ∧ LkS w a' n V A') := ⟨hz, hs, hs'⟩
  clear hz hs hs'
  go_enter Try.func28, Try.ntmps28
  go_wp2
  go_loopw [5] (fun i wr => ∃ k : Nat, k ≤ n ∧ i = .int .i64 k ∧ Below w.heap.size w wr) (fun i _ => n - (intOf i).toNat)
  case atStart => exact ⟨0, Nat.zero_le _, rfl, Below.refl _ _⟩
  case round =>
    obtain ⟨k, hk, rfl, hBr⟩ := hrel
    by_cases hlt : k < n
    · have h1 := HS.out.2.1.next hBr
      have h2 := HS.out.2.2.next hBr
      have HT : Hid (HdAt wr (A k) (V k) ∧ HdAt wr (A' k) (V k) ∧ LkOk (V k)) := ⟨h1.2 k hlt, h2.2 k hlt, HS.out.1 k hlt⟩
      rcases h1.1 with h | ⟨b, off, rfl, hbs, hE⟩
      · omega
      rcases h2.1 with h | ⟨b', off', rfl, hbs', hE'⟩
      · omega
      obtain ⟨c0, c1, c2⟩ := lk_cells hE hlt
      obtain ⟨d0, d1, d2⟩ := lk_cells hE' hlt
      have hlt' : (k : Int) < (n : Int) := by omega
      clear h1 h2 hE hE'
      go_upto_region 6 with fail
      go_cut [26] (fun s26 wx => s26 = .bool false ∧ Below w.heap.size w wx)
      case first =>
        go_region_with (go_at_call 80; refine (eqLock_same _ _ _ _ _ _ _ _ _ _ _ (V k).h.t (V k).h.m (V k).w.t (V k).w.m _ HT.out.2.2.2.1 HT.out.2.2.2.2 (HT.out.1.1.kept (below_drewN (Below.refl _ _) _)) (HT.out.1.2.1.kept (below_drewN (Below.refl _ _) _)) (HT.out.2.1.1.kept (below_drewN (Below.refl _ _) _)) (HT.out.2.1.2.1.kept (below_drewN (Below.refl _ _) _))).mono ?_; rintro e w1 ⟨rfl, hb⟩)
        all_goals (go_wp2_with fail; go_meet; exact ⟨rfl, hBr.drew.trans (hb.mono hBr.size)⟩)
      case rest =>
        obtain ⟨rfl, hb2⟩ := hcut
        go_wp2
        go_roundw
        case rel => exact ⟨k + 1, by omega, by go_num, hb2⟩
        case measure => simp [intOf]; omega
    · have hkn : k = n := by omega
      subst hkn
      go_wp2
      go_ret
      exact ⟨rfl, hBr⟩
end Go.Proofs.Ytnapgnkhajkbkaa
