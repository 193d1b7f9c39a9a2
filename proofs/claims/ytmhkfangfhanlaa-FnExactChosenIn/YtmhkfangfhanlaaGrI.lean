/- The contracts of has, with, setFrom, GoodGroup, IsMajority, on both sides. -/
import Derived.Test.YtmhkfangfhanlaaGrG
namespace Go.Proofs.Ytmhkfangfhanlaa
open Go.RowKit
set_option linter.unusedVariables false

theorem wraps_u16 (n : Int) (h0 : 0 ≤ n) (h1 : n < 2 ^ 16) : IntKind.u16.wrap n = n := by
  have e : IntKind.u16.wrap n = n % 65536 := by simp [IntKind.wrap, IntKind.bits, IntKind.signed]
  rw [e]; omega
theorem and_u16 (a b : Nat) (ha : a < 65536) (hb : b < 65536) : bits .and .u16 (a : Int) (b : Int) = ((a &&& b : Nat) : Int) := (bits_nat .u16 16 (by decide) wraps_u16 a b ha hb).1
theorem or_u16 (a b : Nat) (ha : a < 65536) (hb : b < 65536) : bits .or .u16 (a : Int) (b : Int) = ((a ||| b : Nat) : Int) := (bits_nat .u16 16 (by decide) wraps_u16 a b ha hb).2
theorem has_bit (s j : Nat) (hs : s < 65536) : (bits .and .u16 ((s : Int) / 2 ^ j) 1 == 1) = s.testBit j := by
  have e : ((s : Int) / 2 ^ j) = ((s / 2 ^ j : Nat) : Int) := by simp
  have hl : s / 2 ^ j < 65536 := Nat.lt_of_le_of_lt (Nat.div_le_self _ _) hs
  rw [e, show (1 : Int) = ((1 : Nat) : Int) from rfl, and_u16 _ _ hl (by decide), Nat.and_one_is_mod, Nat.testBit_eq_decide_div_mod_eq, Bool.eq_iff_iff]
  simp only [beq_iff_eq, decide_eq_true_eq]
  omega
theorem with_bit (s j : Nat) (hs : s < 65536) (hj : j < 16) : bits .or .u16 (s : Int) (IntKind.u16.wrap (1 * 2 ^ j)) = ((s ||| 2 ^ j : Nat) : Int) := by
  have hp : 2 ^ j < 65536 := Nat.pow_lt_pow_right (a := 2) (n := 16) (by omega) hj
  have e : (1 * 2 ^ j : Int) = ((2 ^ j : Nat) : Int) := by simp
  rw [e, wraps_u16 _ (Int.natCast_nonneg _) (by exact_mod_cast hp), or_u16 _ _ hs hp]



set_option maxHeartbeats 400000 in
theorem with_any (s j : Nat) (w : World) (hs : s < 65536) (hj : j < 16) :
    Calls Try.prog 128 #[.int .u16 s, .int .i64 j] w fun e w' => e = .returned (.int .u16 ((s ||| 2 ^ j : Nat) : Int)) ∧ w' = w := by
  have HE : Hid (bits .or .u16 (s : Int) (IntKind.u16.wrap (1 * 2 ^ j)) = ((s ||| 2 ^ j : Nat) : Int)) := with_bit s j hs hj
  go_enter Try.func128, Try.ntmps128
  go_wp2
  go_ret
  refine ⟨?_, rfl⟩
  have := HE.out
  simpa using this

theorem ret2 {a b c d : Value} (h : a = c) (k : b = d) : Ending.returned (.tuple #[a, b]) = .returned (.tuple #[c, d]) := by rw [h, k]
/-- The word of a good group, 0 of any other one. -/
def grW (X : Nat → Int) (n : Nat) (m : Int) : Nat := if grB X n m then wd X n else 0
theorem grW_lt {X : Nat → Int} {n : Nat} {m : Int} : grW X n m < 4096 := by
  unfold grW
  split
  case isTrue h => exact wd_lt (gr_in (grB_iff.1 h).2 (grB_iff.1 h).1.2)
  case isFalse => omega
def SfPost (X : Nat → Int) (n : Nat) (m : Int) (w : World) (r : Ending) (w' : World) : Prop := r = .returned (.tuple #[.int .u16 (grW X n m : Nat), .bool (grB X n m)]) ∧ Below w.heap.size w w'
theorem sf_no {X : Nat → Int} {n : Nat} {m : Int} {w w' : World} (h : grB X n m = false) (hb : Below w.heap.size w w') : SfPost X n m w (.returned (.tuple #[.int .u16 0, .bool false])) w' := ⟨by simp [grW, h], hb⟩
theorem sf_yes {X : Nat → Int} {n : Nat} {m : Int} {w w' : World} (h : grB X n m = true) (hb : Below w.heap.size w w') : SfPost X n m w (.returned (.tuple #[.int .u16 (wd X n : Nat), .bool true])) w' := ⟨by simp [grW, h], hb⟩
/-- One more than the last of the first k. -/
def leastOf (X : Nat → Int) (k : Nat) : Int := if k = 0 then 0 else X (k - 1) + 1
theorem least_succ (X : Nat → Int) (k : Nat) : X k + 1 = leastOf X (k + 1) := by simp [leastOf]
theorem least_in {X : Nat → Int} {m : Int} {k : Nat} (h : grP X m k) : inR (X k) (leastOf X k) (m - 1) = true ↔ (0 ≤ X k ∧ X k ≤ m - 1) ∧ (0 < k → X (k - 1) < X k) := by
  rw [inR_iff]
  by_cases e : k = 0
  · subst e; simp [leastOf]
  · have := (h (k - 1) (by omega)).1
    simp only [leastOf, if_neg e]
    omega
theorem least_bd {X : Nat → Int} {m : Int} {k : Nat} (h : grP X m k) (hm : 1 ≤ m ∧ m ≤ 12) : 0 ≤ leastOf X k ∧ leastOf X k ≤ 12 := by
  unfold leastOf
  split
  · omega
  · have := (h (k - 1) (by omega)).1
    omega

set_option maxRecDepth 100000 in
set_option maxHeartbeats 1000000 in
theorem setFrom_any (a : Option Addr) (n cap : Nat) (X : Nat → Int) (m : Int) (w : World) (hn : n ≤ 1073741824) (hs : Sl w a n 1 (intF X)) :
    Calls Try.prog 114 #[.agg #[.slice a n cap], .int .i64 m] w (SfPost X n m w) := by
  have HS : Hid (Sl w a n 1 (intF X)) := hs
  clear hs
  cases hm : inR m 1 12
  · have HN : Hid (grB X n m = false) := grB_out (fun q => by rw [inR_iff.2 q] at hm; cases hm)
    go_enter Try.func114, Try.ntmps114
    go_wp2_with (go_at_call 54; refine (inRange_any _ _ _ _).mono ?_; rintro e w' ⟨rfl, rfl⟩)
    go_ret2
    exact sf_no HN.out (Go.Joins.below_alloc1 _ _)
  have hm' := inR_iff.1 hm
  have HM : Hid (1 ≤ m ∧ m ≤ 12) := hm'
  go_enter Try.func114, Try.ntmps114
  go_wp2_with (go_at_call 54; refine (inRange_any _ _ _ _).mono ?_; rintro e w' ⟨rfl, rfl⟩)
  clear hm
  go_loopw [16, 6, 7] (fun i s l wr => ∃ k : Nat, k ≤ n ∧ i = .int .i64 k ∧ s = .int .u16 (wd X k : Nat) ∧ l = .int .i64 (leastOf X k) ∧ grP X m k ∧ Below w.heap.size w wr) (fun i _ _ _ => n - (intOf i).toNat)
  case atStart => exact ⟨0, Nat.zero_le _, rfl, rfl, rfl, fun i hi => absurd hi (by omega), Go.Joins.below_alloc1 _ _⟩
  case round =>
    obtain ⟨k, hk, rfl, rfl, rfl, hP, hBr⟩ := hrel
    have HH : Hid (grP X m k ∧ Below w.heap.size w wr) := ⟨hP, hBr⟩
    by_cases hlt : k < n
    · rcases HS.out.below hBr (Nat.le_refl _) with h | ⟨b, off, rfl, hbs, hE⟩
      · omega
      have hlt' : (k : Int) < (n : Int) := by omega
      have hc := int_cell hE hlt
      have hL := least_bd hP hm'
      have HI : Hid (inR (X k) (leastOf X k) (m - 1) = true ↔ (0 ≤ X k ∧ X k ≤ m - 1) ∧ (0 < k → X (k - 1) < X k)) := least_in hP
      have hw : wd X k < 65536 := Nat.lt_trans (wd_lt (gr_in hP hm'.2)) (by omega)
      have HW : Hid (wd X k < 65536) := hw
      have HL : Hid (leastOf X (k + 1) = X k + 1 ∧ wd X (k + 1) = wd X k ||| 2 ^ (X k).toNat) := ⟨(least_succ X k).symm, rfl⟩
      clear hP hBr hE
      generalize leastOf X k = l at *
      generalize wd X k = s at *
      cases hg : inR (X k) l (m - 1)
      · have HN : Hid (grB X n m = false) := grB_bad hlt (fun q => by rw [HI.out.2 q] at hg; cases hg)
        go_wp2_with (go_at_call 54; refine (inRange_any _ _ _ _).mono ?_; rintro e w' ⟨rfl, rfl⟩)
        go_ret2
        exact sf_no HN.out HH.out.2
      · have hx := HI.out.1 hg
        have HX : Hid ((0 ≤ X k ∧ X k ≤ m - 1) ∧ (0 < k → X (k - 1) < X k)) := hx
        obtain ⟨x, hxx⟩ : ∃ x : Nat, X k = (x : Int) := ⟨(X k).toNat, by omega⟩
        have hx15 : x < 16 := by omega
        have HLX : Hid (leastOf X (k + 1) = (x : Int) + 1 ∧ wd X (k + 1) = s ||| 2 ^ x) := Hid.intro (by have := HL.out; rw [hxx] at this; simpa using this)
        clear hx
        rw [hxx] at hc hg
        clear hxx HL
        go_wp2_with (first
          | (go_at_call 54; refine (inRange_any _ _ _ _).mono ?_; rintro e w' ⟨rfl, rfl⟩)
          | (go_at_call 128; refine (with_any _ _ _ HW.out hx15).mono ?_; rintro e w' ⟨rfl, rfl⟩))
        go_roundw
        case rel => exact ⟨k + 1, by omega, by go_num, by rw [HLX.out.2], by rw [HLX.out.1], grP_succ HH.out.1 HX.out, HH.out.2⟩
        case measure => simp [intOf]; omega
    · have hkn : k = n := by omega
      subst hkn
      have HY : Hid (grB X k m = true) := grB_iff.2 ⟨HM.out, hP⟩
      clear hP hBr
      go_wp2
      go_ret2
      exact sf_yes HY.out HH.out.2

set_option maxHeartbeats 400000 in
theorem goodGroup_any (a : Option Addr) (n cap : Nat) (X : Nat → Int) (m : Int) (w : World) (hn : n ≤ 1073741824) (hs : Sl w a n 1 (intF X)) :
    Calls Try.prog 93 #[.agg #[.slice a n cap], .int .i64 m] w fun r w' => r = .returned (.bool (grB X n m)) ∧ Below w.heap.size w w' := by
  go_enter Try.func93, Try.ntmps93
  go_wp2_with fail
  have hba : Below w.heap.size w (w.alloc (.cells #[.slice a n cap] 132)) := Go.Joins.below_alloc1 _ _
  refine (setFrom_any _ _ _ X m _ hn (hs.below hba (Nat.le_refl _))).mono ?_
  rintro r w1 ⟨rfl, hb1⟩
  have HB1 : Hid (Below w.heap.size w w1) := below_next hba hb1
  clear hb1 hba hs
  generalize grW X n m = s
  obtain ⟨b, hbb⟩ : ∃ b, grB X n m = b := ⟨_, rfl⟩
  rw [hbb]
  have HR : Hid (grB X n m = b) := hbb
  clear hbb
  go_wp2
  go_ret
  exact ⟨ret_bool HR.out.symm, HB1.out⟩
set_option maxHeartbeats 400000 in
theorem l8Nodes_any (n : Int) (w : World) :
    Calls Try.prog 57 #[.int .i64 n] w fun e w' => e = .returned (.bool (inR n 1 12)) ∧ w' = w := by
  go_enter Try.func57, Try.ntmps57
  go_wp2_with (go_at_call 58; refine (l1In_any _ _ _ _).mono ?_; rintro e w' ⟨rfl, rfl⟩)
  go_ret
  exact ⟨rfl, rfl⟩

end Go.Proofs.Ytmhkfangfhanlaa
