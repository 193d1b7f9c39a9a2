/- Counters: impl.areCounts, impl.GoodCounter, spec.l14Row, spec.GoodCounter. -/
import Derived.Test.YtnglgndocmkbfaaCtG
import Derived.Test.YtnglgndocmkbfaaBx
import Derived.Test.YtnglgndocmkbfaaRg2
import Derived.Test.YtnglgndocmkbfaaRowS
import Derived.Test.YtnglgndocmkbfaaProg
import Derived.WalkKit
import Derived.WalkSpells
import Derived.WalkLawsBesides
import Derived.Deep.QuietTactic
import Derived.BigQuiet
import Derived.Deep.RegionWith
import Derived.Deep.DeepCutAuto
namespace Go.Proofs.Ytnglgndocmkbfaa
open Go.RowKit
set_option linter.unusedVariables false
set_option linter.unusedSimpArgs false

theorem ret_int {a b : Int} (h : a = b) : Ending.returned (.int .i64 a) = .returned (.int .i64 b) := by rw [h]
theorem lies_at {w : World} {a : Option Addr} {cap k : Nat} {l : List (Sh.T .int)} (h : Lies w (.list .int) [.slice a l.length cap] l) (hk : k < l.length) : ∃ g o, a = some ⟨g, o, none⟩ ∧ w.cell? ⟨g, o + k, none⟩ = some (.int .i64 (atI l k)) ∧ g < w.heap.size := by
  rcases lies_sl h with q | ⟨b, off, rfl, hbs, hE⟩
  · omega
  · exact ⟨b, off, rfl, int_cell hE hk, hbs⟩

set_option maxRecDepth 100000 in
set_option maxHeartbeats 1000000 in
theorem areCounts_n (a : Option Addr) (cap : Nat) (l : List (Sh.T .int)) (w : World) (hn : l.length ≤ 1073741824) (h : Lies w (.list .int) [.slice a l.length cap] l) :
    Calls Try.prog 95 #[.slice a l.length cap] w fun r w' => r = .returned (.bool (tf (cntR l))) ∧ w' = w := by
  have HL := Hid.intro h
  clear h
  by_cases hn2 : l.length = 6
  case neg =>
    have hn3 : ((l.length : Int) != 6) = true := by simp; omega
    have HN : Hid (tf (cntR l) = false) := tf_no (fun q => by have := q.1; omega)
    go_enter Try.func95, Try.ntmps95
    go_wp2
    go_ret
    exact ⟨ret_bool HN.out.symm, rfl⟩
  have HN6 := Hid.intro hn2
  rw [hn2]
  clear hn2 hn
  go_enter Try.func95, Try.ntmps95
  go_wp2
  go_loopw [10] (fun i wr => ∃ k : Nat, k ≤ 6 ∧ i = .int .i64 k ∧ (∀ j, j < k → cntK (atI l j)) ∧ wr = w) (fun i _ => 6 - (intOf i).toNat)
  case atStart => exact ⟨0, Nat.zero_le _, rfl, fun j hj => absurd hj (Nat.not_lt_zero j), rfl⟩
  case round =>
    obtain ⟨k, hk, rfl, hall, rfl⟩ := hrel
    have HA := Hid.intro hall
    clear hall
    by_cases hlt : k < 6
    · have hlt' : (k : Int) < 6 := by omega
      have hltl : k < l.length := by rw [HN6.out]; exact hlt
      obtain ⟨gr, og, har, hcr, hgr⟩ := lies_at HL.out hltl
      subst har
      have HY : Hid (inR (atI l k) 0 1000000 = true ↔ cntK (atI l k)) := Hid.intro inR_iff
      obtain ⟨y, hy⟩ : ∃ y, y = atI l k := ⟨_, rfl⟩
      have HE := Hid.intro hy
      rw [← hy] at hcr HY
      clear hy
      cases c : inR y 0 1000000
      · have HN : Hid (tf (cntR l) = false) := tf_no (fun q => by have := q.2 k hltl; rw [← HE.out] at this; rw [HY.out.2 this] at c; cases c)
        go_wp2_with (go_at_call 67; refine (inRange_any _ _ _ _).mono ?_; rintro e w' ⟨rfl, hw⟩; have hw := hw.symm; subst hw; rw [c])
        go_ret
        exact ⟨ret_bool HN.out.symm, rfl⟩
      · have HS : Hid (cntK (atI l k)) := Hid.intro (by rw [← HE.out]; exact HY.out.1 c)
        go_wp2_with (go_at_call 67; refine (inRange_any _ _ _ _).mono ?_; rintro e w' ⟨rfl, hw⟩; have hw := hw.symm; subst hw; rw [c])
        go_roundw
        case rel => exact ⟨k + 1, by omega, by go_num, fun j hj => (by by_cases e : j = k; exact e ▸ HS.out; exact HA.out j (by omega)), trivial⟩
        case measure => simp [intOf]; omega
    · have HN : Hid (tf (cntR l) = true) := tf_yes ⟨HN6.out, fun j hj => HA.out j (by rw [HN6.out] at hj; omega)⟩
      go_wp2
      go_ret
      exact ⟨ret_bool HN.out.symm, rfl⟩

set_option maxRecDepth 100000 in
set_option maxHeartbeats 1000000 in
theorem l14Row_n (a : Option Addr) (cap : Nat) (l : List (Sh.T .int)) (w : World) (hn : l.length ≤ 1073741824) (h : Lies w (.list .int) [.slice a l.length cap] l) :
    Calls Try.prog 70 #[.slice a l.length cap] w fun r w' => r = .returned (.bool (tf (cntR l))) ∧ w' = w := by
  have HL := Hid.intro h
  clear h
  go_enter Try.func70, Try.ntmps70
  go_wp2
  go_loopw [7] (fun i wr => ∃ k : Nat, k ≤ l.length ∧ i = .int .i64 k ∧ (∀ j, j < k → cntK (atI l j)) ∧ wr = w) (fun i _ => l.length - (intOf i).toNat)
  case atStart => exact ⟨0, Nat.zero_le _, rfl, fun j hj => absurd hj (Nat.not_lt_zero j), rfl⟩
  case round =>
    obtain ⟨k, hk, rfl, hall, rfl⟩ := hrel
    have HA := Hid.intro hall
    clear hall
    by_cases hlt : k < l.length
    · have hlt' : (k : Int) < (l.length : Int) := by omega
      obtain ⟨gr, og, har, hcr, hgr⟩ := lies_at HL.out hlt
      subst har
      have HY : Hid (inR (atI l k) 0 1000000 = true ↔ cntK (atI l k)) := Hid.intro inR_iff
      obtain ⟨y, hy⟩ : ∃ y, y = atI l k := ⟨_, rfl⟩
      have HE := Hid.intro hy
      rw [← hy] at hcr HY
      clear hy
      cases c : inR y 0 1000000
      · have HN : Hid (tf (cntR l) = false) := tf_no (fun q => by have := q.2 k hlt; rw [← HE.out] at this; rw [HY.out.2 this] at c; cases c)
        go_wp2_with (go_at_call 68; refine (l1In_any _ _ _ _).mono ?_; rintro e w' ⟨rfl, hw⟩; have hw := hw.symm; subst hw; rw [c])
        go_ret
        exact ⟨ret_bool HN.out.symm, rfl⟩
      · have HS : Hid (cntK (atI l k)) := Hid.intro (by rw [← HE.out]; exact HY.out.1 c)
        go_wp2_with (go_at_call 68; refine (l1In_any _ _ _ _).mono ?_; rintro e w' ⟨rfl, hw⟩; have hw := hw.symm; subst hw; rw [c])
        go_roundw
        case rel => exact ⟨k + 1, by omega, by go_num, fun j hj => (by by_cases e : j = k; exact e ▸ HS.out; exact HA.out j (by omega)), trivial⟩
        case measure => simp [intOf]; omega
    · by_cases hn2 : l.length = 6
      · have HN : Hid (tf (cntR l) = true) := tf_yes ⟨by omega, fun j hj => HA.out j (by omega)⟩
        have hn3 : ((l.length : Int) == 6) = true := by simp; omega
        go_wp2
        go_ret
        exact ⟨ret_bool HN.out.symm, rfl⟩
      · have HN : Hid (tf (cntR l) = false) := tf_no (fun q => by have := q.1; omega)
        have hn3 : ((l.length : Int) == 6) = false := by simp; omega
        go_wp2
        go_ret
        exact ⟨ret_bool HN.out.symm, rfl⟩

theorem ct_sizes {u d : List (Sh.T .int)} (h : szD shCounter (u, d, ()) ≤ 1073741824) : u.length ≤ 1073741824 ∧ d.length ≤ 1073741824 := by
  have e : szD shCounter (u, d, ()) = (u.length + (u.map (szD .int)).sum) + ((d.length + (d.map (szD .int)).sum) + 0) := rfl
  omega

set_option maxRecDepth 100000 in
set_option maxHeartbeats 1000000 in
theorem goodCounter_n (cs : List Value) (u d : List (Sh.T .int)) (w : World) (hz : szD shCounter (u, d, ()) ≤ 1073741824) (h : Lies w shCounter cs (u, d, ())) :
    Calls Try.prog 42 #[.agg cs.toArray] w fun r w' => r = .returned (.bool (tf (goodC u d))) ∧ Below w.heap.size w w' := by
  obtain ⟨a1, k1, a2, k2, rfl, h1, h2⟩ := lies_Counter h
  have hz2 := ct_sizes hz
  have HL : Hid ((u.length ≤ 1073741824 ∧ d.length ≤ 1073741824) ∧ Lies w (.list .int) [.slice a1 u.length k1] u ∧ Lies w (.list .int) [.slice a2 d.length k2] d) := ⟨hz2, h1, h2⟩
  clear h h1 h2 hz hz2
  obtain ⟨w0, hw0⟩ : ∃ x, x = w.alloc (.cells #[.slice a1 u.length k1, .slice a2 d.length k2] 25) := ⟨_, rfl⟩
  have HB0 : Hid (Bx w0 w.heap.size [.slice a1 u.length k1, .slice a2 d.length k2] ∧ Below w.heap.size w w0) := ⟨hw0 ▸ Bx.new w [_, _] _, hw0 ▸ Go.Joins.below_alloc1 _ _⟩
  have s0 := HB0.out.1.cell 0 rfl
  have s1 := HB0.out.1.cell 1 rfl
  have sz := HB0.out.1.2
  have HE := Hid.intro (@goodC_tf u d)
  cases c : tf (cntR u)
  · have HN : Hid (tf (goodC u d) = false) := Hid.intro (by rw [HE.out, c]; rfl)
    have HC : Hid (Calls Try.prog 95 #[.slice a1 u.length k1] w0 (fun r w' => r = .returned (.bool false) ∧ w' = w0)) := Hid.intro ((areCounts_n a1 k1 u w0 HL.out.1.1 (HL.out.2.1.next HB0.out.2)).mono (fun r w' q => by rw [c] at q; exact q))
    clear c
    go_enter Try.func42, Try.ntmps42
    go_upto_region 1 with fail
    rw [← hw0]
    clear hw0
    go_wp2_with (go_at_call 95; refine HC.out.mono ?_; rintro e w' ⟨rfl, hw⟩; have hw := hw.symm; subst hw)
    go_ret
    exact ⟨ret_bool HN.out.symm, HB0.out.2⟩
  · have HN : Hid (tf (goodC u d) = tf (cntR d)) := Hid.intro (by rw [HE.out, c]; rfl)
    have HC : Hid (Calls Try.prog 95 #[.slice a1 u.length k1] w0 (fun r w' => r = .returned (.bool true) ∧ w' = w0)) := Hid.intro ((areCounts_n a1 k1 u w0 HL.out.1.1 (HL.out.2.1.next HB0.out.2)).mono (fun r w' q => by rw [c] at q; exact q))
    clear c
    go_enter Try.func42, Try.ntmps42
    go_upto_region 1 with fail
    rw [← hw0]
    clear hw0
    go_wp2_with fail
    refine HC.out.mono ?_
    rintro e w' ⟨rfl, hw⟩
    have hw := hw.symm
    subst hw
    go_wp2_with fail
    refine (areCounts_n a2 k2 d w0 HL.out.1.2 (HL.out.2.2.next HB0.out.2)).mono ?_
    rintro e w' ⟨rfl, hw⟩
    have hw := hw.symm
    subst hw
    go_wp2
    go_ret
    exact ⟨ret_bool HN.out.symm, HB0.out.2⟩

set_option maxRecDepth 100000 in
set_option maxHeartbeats 1000000 in
theorem specGoodCounter_n (cs : List Value) (u d : List (Sh.T .int)) (w : World) (hz : szD shCounter (u, d, ()) ≤ 1073741824) (h : Lies w shCounter cs (u, d, ())) :
    Calls Try.prog 24 #[.agg cs.toArray] w fun r w' => r = .returned (.bool (tf (goodC u d))) ∧ Below w.heap.size w w' := by
  obtain ⟨a1, k1, a2, k2, rfl, h1, h2⟩ := lies_Counter h
  have hz2 := ct_sizes hz
  have HL : Hid ((u.length ≤ 1073741824 ∧ d.length ≤ 1073741824) ∧ Lies w (.list .int) [.slice a1 u.length k1] u ∧ Lies w (.list .int) [.slice a2 d.length k2] d) := ⟨hz2, h1, h2⟩
  clear h h1 h2 hz hz2
  obtain ⟨w0, hw0⟩ : ∃ x, x = w.alloc (.cells #[.slice a1 u.length k1, .slice a2 d.length k2] 25) := ⟨_, rfl⟩
  have HB0 : Hid (Bx w0 w.heap.size [.slice a1 u.length k1, .slice a2 d.length k2] ∧ Below w.heap.size w w0) := ⟨hw0 ▸ Bx.new w [_, _] _, hw0 ▸ Go.Joins.below_alloc1 _ _⟩
  have s0 := HB0.out.1.cell 0 rfl
  have s1 := HB0.out.1.cell 1 rfl
  have sz := HB0.out.1.2
  have HE := Hid.intro (@goodC_tf u d)
  cases c : tf (cntR u)
  · have HN : Hid (tf (goodC u d) = false) := Hid.intro (by rw [HE.out, c]; rfl)
    have HC : Hid (Calls Try.prog 70 #[.slice a1 u.length k1] w0 (fun r w' => r = .returned (.bool false) ∧ w' = w0)) := Hid.intro ((l14Row_n a1 k1 u w0 HL.out.1.1 (HL.out.2.1.next HB0.out.2)).mono (fun r w' q => by rw [c] at q; exact q))
    clear c
    go_enter Try.func24, Try.ntmps24
    go_upto_region 1 with fail
    rw [← hw0]
    clear hw0
    go_wp2_with (go_at_call 70; refine HC.out.mono ?_; rintro e w' ⟨rfl, hw⟩; have hw := hw.symm; subst hw)
    go_ret
    exact ⟨ret_bool HN.out.symm, HB0.out.2⟩
  · have HN : Hid (tf (goodC u d) = tf (cntR d)) := Hid.intro (by rw [HE.out, c]; rfl)
    have HC : Hid (Calls Try.prog 70 #[.slice a1 u.length k1] w0 (fun r w' => r = .returned (.bool true) ∧ w' = w0)) := Hid.intro ((l14Row_n a1 k1 u w0 HL.out.1.1 (HL.out.2.1.next HB0.out.2)).mono (fun r w' q => by rw [c] at q; exact q))
    clear c
    go_enter Try.func24, Try.ntmps24
    go_upto_region 1 with fail
    rw [← hw0]
    clear hw0
    go_wp2_with fail
    refine HC.out.mono ?_
    rintro e w' ⟨rfl, hw⟩
    have hw := hw.symm
    subst hw
    go_wp2_with fail
    refine (l14Row_n a2 k2 d w0 HL.out.1.2 (HL.out.2.2.next HB0.out.2)).mono ?_
    rintro e w' ⟨rfl, hw⟩
    have hw := hw.symm
    subst hw
    go_wp2
    go_ret
    exact ⟨ret_bool HN.out.symm, HB0.out.2⟩
end Go.Proofs.Ytnglgndocmkbfaa
