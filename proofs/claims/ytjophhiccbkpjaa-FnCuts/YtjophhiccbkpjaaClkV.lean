/- Lists of clocks of six numbers, each in a block of its own: eqClockS, markClockS, heldClockS. -/
import Derived.Test.YtjophhiccbkpjaaClkL
import Derived.Test.YtjophhiccbkpjaaVecF
import Derived.Deep.RegionWith
import Derived.Deep.DeepCutAuto
namespace Go.Proofs.Ytjophhiccbkpjaa
open Go.RowKit
set_option linter.unusedVariables false

theorem Vec.intS {w : World} {g : Nat} {x : Nat → Int} (h : Vec w g x) : IntS w g (g + 1) (some ⟨g, 0, none⟩) 6 x := Or.inr ⟨g, rfl, Nat.le_refl _, by omega, h.2, fun i hi => h.1 i hi⟩
theorem IntS.vec {w : World} {B C g : Nat} {x : Nat → Int} (h : IntS w B C (some ⟨g, 0, none⟩) 6 x) : Vec w g x := by
  rcases h with h | ⟨g', e, _, _, hg, hc⟩
  · omega
  · have : g = g' := by simpa using e
    subst this
    exact ⟨hc, hg⟩
theorem Vec.same {w w' : World} {g : Nat} {x : Nat → Int} (h : Vec w g x) (hs : w.heap.size ≤ w'.heap.size) (e : w'.heap[g]? = w.heap[g]?) : Vec w' g x :=
  ⟨fun i hi => ⟨(World.cell?_of_block (a := ⟨g, i, none⟩) e).trans (h.1 i hi).1, (World.frozen?_of_block (a := ⟨g, i, none⟩) e).trans (h.1 i hi).2⟩, Nat.lt_of_lt_of_le h.2 hs⟩
/-- n clocks, the list and each clock's numbers in blocks of B..C-1. -/
def ClkR (w : World) (B C : Nat) (a : Option Addr) (n : Nat) (F : Nat → Nat → Int) : Prop :=
  (n = 0 ∨ ∃ (g : Nat) (h cp : Nat → Nat), a = some ⟨g, 0, none⟩ ∧ B ≤ g ∧ g < C ∧ g < w.heap.size ∧ (∀ i, i < n → w.cell? ⟨g, i, none⟩ = some (.slice (some ⟨h i, 0, none⟩) 6 (cp i)) ∧ B ≤ h i ∧ h i < C ∧ h i ≠ g ∧ Vec w (h i) (F i)) ∧ ∀ i j, i < j → j < n → h i < h j) ∧ C ≤ w.heap.size
theorem ClkR.next {w w' : World} {B C : Nat} {a : Option Addr} {n : Nat} {F : Nat → Nat → Int} (h : ClkR w B C a n F) (hb : Below w.heap.size w w') : ClkR w' B C a n F := by
  refine ⟨?_, Nat.le_trans h.2 hb.size⟩
  rcases h.1 with h | ⟨g, hh, cp, e, h1, h2, h3, h4, h5⟩
  · exact Or.inl h
  · exact Or.inr ⟨g, hh, cp, e, h1, h2, Nat.lt_of_lt_of_le h3 hb.size, fun i hi => ⟨(hb.cell (p := ⟨g, i, none⟩) h3).trans (h4 i hi).1, (h4 i hi).2.1, (h4 i hi).2.2.1, (h4 i hi).2.2.2.1, (h4 i hi).2.2.2.2.below hb (h4 i hi).2.2.2.2.2⟩, h5⟩
theorem ClkR.turn {w w' : World} {B C B' C' : Nat} {a : Option Addr} {n : Nat} {F : Nat → Nat → Int} (h : ClkR w B C a n F) (ht : Turned B' C' w w') (ha : C ≤ B' ∨ C' ≤ B) : ClkR w' B C a n F := by
  refine ⟨?_, Nat.le_trans h.2 ht.2.2.2.1⟩
  rcases h.1 with h | ⟨g, hh, cp, e, h1, h2, h3, h4, h5⟩
  · exact Or.inl h
  · refine Or.inr ⟨g, hh, cp, e, h1, h2, Nat.lt_of_lt_of_le h3 ht.2.2.2.1, fun i hi => ?_, h5⟩
    obtain ⟨q1, q2, q3, q4, q5⟩ := h4 i hi
    exact ⟨(World.cell?_of_block (a := ⟨g, i, none⟩) (ht.2.2.2.2 g h3 (by omega))).trans q1, q2, q3, q4, q5.same ht.2.2.2.1 (ht.2.2.2.2 (hh i) q5.2 (by omega))⟩
theorem ClkR.congr {w : World} {B C : Nat} {a : Option Addr} {n : Nat} {F G : Nat → Nat → Int} (h : ClkR w B C a n F) (e : ∀ i, i < n → ∀ p, p < 6 → F i p = G i p) : ClkR w B C a n G := by
  refine ⟨?_, h.2⟩
  rcases h.1 with h | ⟨g, hh, cp, e1, h1, h2, h3, h4, h5⟩
  · exact Or.inl h
  · exact Or.inr ⟨g, hh, cp, e1, h1, h2, h3, fun i hi => ⟨(h4 i hi).1, (h4 i hi).2.1, (h4 i hi).2.2.1, (h4 i hi).2.2.2.1, (h4 i hi).2.2.2.2.congr (e i hi)⟩, h5⟩
/-- One clock's block has turned. -/
theorem clk_mark {w w' : World} {B C g k n : Nat} {h cp : Nat → Nat} {F : Nat → Nat → Int} {y : Nat → Int} (hk : k < n) (hB : B ≤ g) (hC : g < C) (hg : g < w.heap.size) (hCs : C ≤ w.heap.size)
    (h4 : ∀ i, i < n → w.cell? ⟨g, i, none⟩ = some (.slice (some ⟨h i, 0, none⟩) 6 (cp i)) ∧ B ≤ h i ∧ h i < C ∧ h i ≠ g ∧ Vec w (h i) (F i)) (h5 : ∀ i j, i < j → j < n → h i < h j)
    (ht : Turned (h k) (h k + 1) w w') (hi : IntS w' (h k) (h k + 1) (some ⟨h k, 0, none⟩) 6 y) : ClkR w' B C (some ⟨g, 0, none⟩) n (fun i p => if i = k then y p else F i p) := by
  refine ⟨Or.inr ⟨g, h, cp, rfl, hB, hC, Nat.lt_of_lt_of_le hg ht.2.2.2.1, fun i hin => ?_, h5⟩, Nat.le_trans hCs ht.2.2.2.1⟩
  obtain ⟨q1, q2, q3, q4, q5⟩ := h4 i hin
  have hkg := (h4 k hk).2.2.2.1
  refine ⟨(World.cell?_of_block (a := ⟨g, i, none⟩) (ht.2.2.2.2 g hg (by omega))).trans q1, q2, q3, q4, ?_⟩
  by_cases e : i = k
  · subst e
    simp only [if_true]
    exact hi.vec
  · simp only [if_neg e]
    have hne : h i ≠ h k := by
      rcases Nat.lt_or_gt_of_ne e with l | l
      · have := h5 i k l hk; omega
      · have := h5 k i l hin; omega
    exact q5.same ht.2.2.2.1 (ht.2.2.2.2 (h i) q5.2 (by omega))

set_option maxRecDepth 100000 in
set_option maxHeartbeats 2000000 in
theorem eqClockS_same (a a' : Option Addr) (n cap cap' : Nat) (F : Nat → Nat → Int) (B C B' C' : Nat) (w : World) (hn : n ≤ 1048576) (hs : ClkR w B C a n F) (hs' : ClkR w B' C' a' n F) :
    Calls Try.prog 42 #[.slice a n cap, .slice a' n cap'] w fun r w' => r = .returned (.bool true) ∧ Below w.heap.size w w' := by
  have HS : Hid (ClkR w B C a n F ∧ ClkR w B' C' a' n F) := ⟨hs, hs'⟩
  clear hs hs'
  go_enter Try.func42, Try.ntmps42
  go_wp2
  go_loopw [5] (fun i wr => ∃ k : Nat, k ≤ n ∧ i = .int .i64 k ∧ Below w.heap.size w wr) (fun i _ => n - (intOf i).toNat)
  case atStart => exact ⟨0, Nat.zero_le _, rfl, Below.refl _ _⟩
  case round =>
    obtain ⟨k, hk, rfl, hBr⟩ := hrel
    by_cases hlt : k < n
    · rcases (HS.out.1.next hBr).1 with h | ⟨g, h, cp, rfl, _, _, hg, h4, _⟩
      · omega
      rcases (HS.out.2.next hBr).1 with h' | ⟨g', h', cp', rfl, _, _, hg', h4', _⟩
      · omega
      have c1 := (h4 k hlt).1
      have c2 := (h4' k hlt).1
      have HV : Hid (Vec wr (h k) (F k) ∧ Vec wr (h' k) (F k)) := ⟨(h4 k hlt).2.2.2.2, (h4' k hlt).2.2.2.2⟩
      have hlt' : (k : Int) < (n : Int) := by omega
      clear h4 h4'
      obtain ⟨hk1, ehk⟩ : ∃ z, z = h k := ⟨_, rfl⟩
      obtain ⟨hk2, ehk'⟩ : ∃ z, z = h' k := ⟨_, rfl⟩
      obtain ⟨ck1, eck⟩ : ∃ z, z = cp k := ⟨_, rfl⟩
      obtain ⟨ck2, eck'⟩ : ∃ z, z = cp' k := ⟨_, rfl⟩
      rw [← ehk, ← eck] at c1
      rw [← ehk', ← eck'] at c2
      rw [← ehk, ← ehk'] at HV
      clear ehk ehk' eck eck'
      go_upto_region 6 with fail
      go_cut [26] (fun s26 wx => s26 = .bool false ∧ Below w.heap.size w wx)
      case first =>
        go_region_with (go_at_call 48; refine (eqClock_same _ _ _ _ _ (F k) _ (by omega) (by first | exact HV.out.1.intS.sl | exact (HV.out.1.below (Below.refl _ _).drew HV.out.1.2).intS.sl) (by first | exact HV.out.2.intS.sl | exact (HV.out.2.below (Below.refl _ _).drew HV.out.2.2).intS.sl)).mono ?_; rintro e w1 ⟨rfl, hb⟩)
        all_goals (go_wp2_with fail; go_meet; exact ⟨rfl, by first | exact below_next hBr hb | exact below_next hBr ((Below.refl _ _).drew.trans hb)⟩)
      case rest =>
        obtain ⟨rfl, hb2⟩ := hcut
        go_wp2
        go_roundw
        case rel => exact ⟨k + 1, by omega, by go_num, hb2⟩
        case measure => simp [intOf]; omega
    · have hkn : k = n := by omega
      subst hkn
      go_wp2
      go_ret
      exact ⟨rfl, hBr⟩

set_option maxRecDepth 100000 in
set_option maxHeartbeats 2000000 in
theorem markClockS_any (a : Option Addr) (n cap : Nat) (F : Nat → Nat → Int) (q : Int) (B C : Nat) (w : World) (hn : n ≤ 1048576) (h0 : 0 ≤ q) (h1 : q ≤ 1099511) (hs : ClkR w B C a n F) :
    Calls Try.prog 43 #[.slice a n cap, .int .i64 q] w fun r w' => r = .returned (.int .i64 (q + 6 * n)) ∧ ClkR w' B C a n (fun i p => q + 6 * i + p) ∧ Turned B C w w' := by
  go_enter Try.func43, Try.ntmps43
  go_wp2
  go_loopw [5, 1] (fun i q' wr => ∃ k : Nat, k ≤ n ∧ i = .int .i64 k ∧ q' = .int .i64 (q + 6 * k) ∧ ClkR wr B C a n (fun i p => if i < k then q + 6 * i + p else F i p) ∧ Turned B C w wr) (fun i _ _ => n - (intOf i).toNat)
  case atStart => exact ⟨0, Nat.zero_le _, rfl, by simp, hs.congr (fun i _ p _ => by simp), Turned.refl _ _ _⟩
  case round =>
    obtain ⟨k, hk, rfl, rfl, hL, ht⟩ := hrel
    clear hs
    by_cases hlt : k < n
    · rcases hL.1 with h | ⟨g, h, cp, rfl, g1, g2, hg, h4, h5⟩
      · omega
      have c1 := (h4 k hlt).1
      have hlt' : (k : Int) < (n : Int) := by omega
      have HH : Hid ((∀ i, i < n → wr.cell? ⟨g, i, none⟩ = some (.slice (some ⟨h i, 0, none⟩) 6 (cp i)) ∧ B ≤ h i ∧ h i < C ∧ h i ≠ g ∧ Vec wr (h i) (fun p => if i < k then q + 6 * i + p else F i p)) ∧ (∀ i j, i < j → j < n → h i < h j) ∧ C ≤ wr.heap.size ∧ Turned B C w wr) := ⟨h4, h5, hL.2, ht⟩
      clear hL h4 h5 ht
      obtain ⟨y, hy⟩ : ∃ y, y = q + 6 * (k : Int) := ⟨_, rfl⟩
      rw [← hy]
      have hyb : 0 ≤ y ∧ y ≤ 1099511627776 := by omega
      have HY : Hid (y = q + 6 * (k : Int)) := hy
      clear hy
      go_wp2_with fail
      refine (markIntS_any _ 6 _ _ y (h k) (h k + 1) _ (by omega) hyb.1 hyb.2 (HH.out.1 k hlt).2.2.2.2.intS).mono ?_
      rintro r w2 ⟨rfl, hi2, ht2⟩
      obtain ⟨q4, q5, q6, q7⟩ := HH.out
      have HF : Hid (ClkR w2 B C (some ⟨g, 0, none⟩) n (fun i p => if i < k + 1 then q + 6 * i + p else F i p) ∧ Turned B C w w2) := by
        refine ⟨(clk_mark hlt g1 g2 hg q6 q4 q5 ht2 hi2).congr (fun i _ p _ => ?_), q7.trans (ht2.wide (q4 k hlt).2.1 (by have := (q4 k hlt).2.2.1; omega))⟩
        by_cases e : i = k
        · subst e; simp [HY.out]
        · by_cases e2 : i < k
          · rw [if_neg e, if_pos e2, if_pos (by omega)]
          · rw [if_neg e, if_neg e2, if_neg (by omega)]
      clear hi2 ht2 q4 q5 q6 q7 HH c1
      go_wp2
      go_roundw
      case rel => exact ⟨k + 1, by omega, by go_num, by have := HY.out; congr 1; omega, HF.out⟩
      case measure => simp [intOf]; omega
    · have hkn : k = n := by omega
      subst hkn
      have HF : Hid (ClkR wr B C a k (fun i p => q + 6 * i + p) ∧ Turned B C w wr) := ⟨hL.congr (fun i hi p _ => by simp [hi]), ht⟩
      clear hL ht
      go_wp2
      go_ret
      exact ⟨rfl, HF.out⟩

set_option maxRecDepth 100000 in
set_option maxHeartbeats 2000000 in
theorem heldClockS_any (a : Option Addr) (n cap : Nat) (q : Int) (B C : Nat) (w : World) (hn : n ≤ 1048576) (h0 : 0 ≤ q) (h1 : q ≤ 1099511) (hs : ClkR w B C a n (fun i p => q + 6 * i + p)) :
    Calls Try.prog 44 #[.slice a n cap, .int .i64 q] w fun r w' => r = .returned (.int .i64 (q + 6 * n)) ∧ w' = w := by
  have HS : Hid (ClkR w B C a n (fun i p => q + 6 * i + p)) := hs
  clear hs
  go_enter Try.func44, Try.ntmps44
  go_wp2
  go_loopw [5, 1] (fun i q' wr => ∃ k : Nat, k ≤ n ∧ i = .int .i64 k ∧ q' = .int .i64 (q + 6 * k) ∧ wr = w) (fun i _ _ => n - (intOf i).toNat)
  case atStart => exact ⟨0, Nat.zero_le _, rfl, by simp, rfl⟩
  case round =>
    obtain ⟨k, hk, rfl, rfl, rfl⟩ := hrel
    by_cases hlt : k < n
    · rcases HS.out.1 with h | ⟨g, h, cp, rfl, g1, g2, hg, h4, h5⟩
      · omega
      have c1 := (h4 k hlt).1
      have hlt' : (k : Int) < (n : Int) := by omega
      obtain ⟨y, hy⟩ : ∃ y, y = q + 6 * (k : Int) := ⟨_, rfl⟩
      have HV : Hid (Vec wr (h k) (fun p => y + p)) := by rw [hy]; exact (h4 k hlt).2.2.2.2
      rw [← hy]
      have hyb : 0 ≤ y ∧ y ≤ 1099511627776 := by omega
      have HY : Hid (y = q + 6 * (k : Int)) := hy
      clear hy h4 h5
      go_wp2_with fail
      refine (heldIntS_any _ 6 _ y _ (by omega) hyb.1 hyb.2 HV.out.intS.sl).mono ?_
      rintro r w2 ⟨rfl, hw⟩
      have hw := hw.symm
      subst hw
      have hpos : ¬ (y + 6 < 0) := by omega
      go_wp2
      go_roundw
      case rel => exact ⟨k + 1, by omega, by go_num, by have := HY.out; congr 1; omega, trivial⟩
      case measure => simp [intOf]; omega
    · have hkn : k = n := by omega
      subst hkn
      go_wp2
      go_ret
      exact ⟨rfl, rfl⟩
end Go.Proofs.Ytjophhiccbkpjaa
