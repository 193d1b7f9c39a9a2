/- The contracts of WeightOf, on both sides. -/
import Derived.Test.YtalnmollgielcaaWtG
namespace Go.Proofs.Ytalnmollgielcaa
open Go.RowKit
set_option linter.unusedVariables false

set_option maxHeartbeats 1000000 in
theorem sumOf_any (a : Option Addr) (p cap : Nat) (V : Nat → Int) (w : World) (hp : p ≤ 12) (hV : allV V p) (hs : Sl w a p 1 (intF V)) :
    Calls Try.prog 82 #[.slice a p cap] w fun r w' => r = .returned (.int .i64 (sumTo V p)) ∧ w' = w := by
  have HS : Hid (Sl w a p 1 (intF V) ∧ allV V p) := ⟨hs, hV⟩
  clear hs hV
  go_enter Try.func82, Try.ntmps82
  go_wp2
  go_loop [8, 3] (fun i s => ∃ k : Nat, k ≤ p ∧ i = .int .i64 k ∧ s = .int .i64 (sumTo V k)) (fun i _ => p - (intOf i).toNat)
  case atStart => exact ⟨0, Nat.zero_le _, rfl, rfl⟩
  case round =>
    obtain ⟨k, hk, rfl, rfl⟩ := hrel
    have hb := sumTo_bd (V := V) (k := k) (fun i hi => HS.out.2 i (by omega))
    by_cases hlt : k < p
    · rcases HS.out.1 with h | ⟨b, off, rfl, hbs, hE⟩
      · omega
      have hlt' : (k : Int) < (p : Int) := by omega
      have hc := int_cell hE hlt
      have hv := HS.out.2 k hlt
      have HN : Hid (sumTo V (k + 1) = sumTo V k + V k) := rfl
      clear hE
      generalize sumTo V k = s at *
      generalize V k = v at *
      go_wp2
      go_round
      case rel => exact ⟨k + 1, by omega, by go_num, by rw [HN.out]⟩
      case measure => simp [intOf]; omega
    · have hkn : k = p := by omega
      subst hkn
      go_wp2
      go_ret
      exact ⟨rfl, rfl⟩

set_option maxRecDepth 100000 in
set_option maxHeartbeats 1000000 in
theorem areVotes_any (a : Option Addr) (p cap : Nat) (V : Nat → Int) (w : World) (hp : p ≤ 1073741824) (hs : Sl w a p 1 (intF V)) :
    Calls Try.prog 56 #[.slice a p cap] w fun r w' => r = .returned (.bool (vtB V p)) ∧ w' = w := by
  have HS : Hid (Sl w a p 1 (intF V)) := hs
  clear hs
  cases hr : inR (p : Int) 1 12
  · have HN : Hid (vtB V p = false) := vtB_no (fun q => by rw [inR_iff.2 (by omega)] at hr; cases hr)
    go_enter Try.func56, Try.ntmps56
    go_wp2_with (go_at_call 71; refine (inRange_any _ _ _ _).mono ?_; rintro e w' ⟨rfl, rfl⟩)
    go_ret
    exact ⟨ret_bool HN.out.symm, rfl⟩
  have hp12 : p ≤ 12 := by have := (inR_iff.1 hr).2; omega
  have HP : Hid (1 ≤ p ∧ p ≤ 12) := ⟨by have := (inR_iff.1 hr).1; omega, hp12⟩
  go_enter Try.func56, Try.ntmps56
  go_wp2_with (go_at_call 71; refine (inRange_any _ _ _ _).mono ?_; rintro e w' ⟨rfl, rfl⟩)
  clear hr
  go_loop [11] (fun i => ∃ k : Nat, k ≤ p ∧ i = .int .i64 k ∧ allV V k) (fun i => p - (intOf i).toNat)
  case atStart => exact ⟨0, Nat.zero_le _, rfl, fun i hi => absurd hi (by omega)⟩
  case round =>
    obtain ⟨k, hk, rfl, hV⟩ := hrel
    have HV : Hid (allV V k) := hV
    clear hV
    by_cases hlt : k < p
    · rcases HS.out with h | ⟨b, off, rfl, hbs, hE⟩
      · omega
      have hlt' : (k : Int) < (p : Int) := by omega
      have hc := int_cell hE hlt
      clear hE
      cases hg : inR (V k) 0 100
      · have HN : Hid (vtB V p = false) := vt_bad hlt hg
        go_wp2_with (go_at_call 71; refine (inRange_any _ _ _ _).mono ?_; rintro e w' ⟨rfl, rfl⟩)
        go_ret
        exact ⟨ret_bool HN.out.symm, rfl⟩
      · have HN : Hid (allV V (k + 1)) := allV_succ HV.out hg
        go_wp2_with (go_at_call 71; refine (inRange_any _ _ _ _).mono ?_; rintro e w' ⟨rfl, rfl⟩)
        go_round
        case rel => exact ⟨k + 1, by omega, by go_num, HN.out⟩
        case measure => simp [intOf]; omega
    · have hkn : k = p := by omega
      subst hkn
      have HN : Hid (decide (1 ≤ sumTo V k) = vtB V k) := by
        show decide (1 ≤ sumTo V k) = vtB V k
        rw [Bool.eq_iff_iff, vtB_iff, decide_eq_true_eq]
        exact ⟨fun q => ⟨HP.out, HV.out, q⟩, fun q => q.2.2⟩
      go_wp2_with (go_at_call 82; refine (sumOf_any _ _ _ V _ hp12 HV.out HS.out).mono ?_; rintro e w' ⟨rfl, rfl⟩)
      go_ret
      exact ⟨ret_bool HN.out, rfl⟩

set_option maxRecDepth 100000 in
set_option maxHeartbeats 1000000 in
theorem weightOf_any (a : Option Addr) (p cap : Nat) (V : Nat → Int) (a' : Option Addr) (n cap' : Nat) (X : Nat → Int) (w : World) (hp : p ≤ 1073741824) (hn : n ≤ 1073741824) (hs : Sl w a p 1 (intF V)) (hs' : Sl w a' n 1 (intF X)) :
    Calls Try.prog 21 #[.slice a p cap, .agg #[.slice a' n cap']] w fun r w' => r = .returned (.tuple #[.int .i64 (wtN V p X n), .bool (wtB V p X n)]) ∧ Below w.heap.size w w' := by
  have HS : Hid (Sl w a p 1 (intF V) ∧ Sl w a' n 1 (intF X)) := ⟨hs, hs'⟩
  clear hs hs'
  have H0 : Hid (BoxS (w.alloc (.cells #[.slice a' n cap'] 25)) w.heap.size (.slice a' n cap') ∧ Below w.heap.size w (w.alloc (.cells #[.slice a' n cap'] 25))) := ⟨BoxS.new _ _ _, Go.Joins.below_alloc1 _ _⟩
  cases hv : vtB V p
  · have HN : Hid (wtB V p X n = false) := by show wtB V p X n = false; simp [wtB, hv]
    go_enter Try.func21, Try.ntmps21
    go_wp2_with fail
    refine (areVotes_any _ _ _ V _ hp (HS.out.1.kept H0.out.2)).mono ?_
    rintro r w1 ⟨rfl, hw⟩
    have hw := hw.symm
    subst hw
    rw [hv]
    go_wp2
    go_ret2
    exact ⟨wt_no HN.out, H0.out.2⟩
  obtain ⟨hp12, hV, h1⟩ := vtB_iff.1 hv
  have HV : Hid (allV V p ∧ p ≤ 12) := ⟨hV, hp12.2⟩
  have hpp : p ≤ 12 := hp12.2
  clear hV h1 hp12
  go_enter Try.func21, Try.ntmps21
  go_wp2_with fail
  refine (areVotes_any _ _ _ V _ hp (HS.out.1.kept H0.out.2)).mono ?_
  rintro r w1 ⟨rfl, hw⟩
  have hw := hw.symm
  subst hw
  rw [hv]
  go_wp2_with fail
  refine (setFrom_any _ _ _ X _ _ hn (HS.out.2.kept H0.out.2)).mono ?_
  rintro r w1 ⟨rfl, hb1⟩
  have HB1 : Hid (Below w.heap.size w w1) := below_next H0.out.2 hb1
  clear hb1 H0
  cases hg : grB X n p
  · have HN : Hid (wtB V p X n = false) := by show wtB V p X n = false; simp [wtB, hg]
    generalize grW X n p = s
    go_wp2
    go_ret2
    exact ⟨wt_no HN.out, HB1.out⟩
  have HY : Hid (wtB V p X n = true ∧ bsum (grW X n p) V p = wsum X V n) := by
    refine ⟨by simp [wtB, hv, hg], ?_⟩
    rw [show grW X n p = wd X n by simp [grW, hg]]
    exact bsum_wd rfl (grB_iff.1 hg).2
  have HL : Hid (grW X n p < 65536) := Nat.lt_trans grW_lt (by omega)
  clear hg hv
  generalize grW X n p = s at *
  go_wp2
  go_loopw [25, 8] (fun i t wr => ∃ k : Nat, k ≤ p ∧ i = .int .i64 k ∧ t = .int .i64 (bsum s V k) ∧ Below w.heap.size w wr) (fun i _ _ => p - (intOf i).toNat)
  case atStart => exact ⟨0, Nat.zero_le _, rfl, rfl, HB1.out⟩
  case round =>
    obtain ⟨k, hk, rfl, rfl, hBr⟩ := hrel
    have HB : Hid (Below w.heap.size w wr) := hBr
    by_cases hlt : k < p
    · rcases HS.out.1.below hBr (Nat.le_refl _) with h | ⟨b, off, rfl, hbs, hE⟩
      · omega
      have hlt' : (k : Int) < (p : Int) := by omega
      have hk16 : k < 16 := by omega
      have hc := int_cell hE hlt
      have hvk := HV.out.1 k hlt
      have hbd := bsum_bd (s := s) (j := k) (fun i hi => HV.out.1 i (by omega))
      have HN : Hid (bsum s V (k + 1) = bsum s V k + (if s.testBit k then V k else 0)) := rfl
      clear hE hBr HB1
      generalize bsum s V k = t at *
      generalize V k = v at *
      cases hbit : s.testBit k
      · have HN2 : Hid (bsum s V (k + 1) = t) := Hid.intro (by have := HN.out; rw [hbit] at this; simpa using this)
        go_wp2_with (go_at_call 58; refine (has_any _ _ _ HL.out hk16).mono ?_; rintro e w' ⟨rfl, rfl⟩)
        go_roundw
        case rel => exact ⟨k + 1, by omega, by go_num, by rw [HN2.out], HB.out⟩
        case measure => simp [intOf]; omega
      · have HN2 : Hid (bsum s V (k + 1) = t + v) := Hid.intro (by have := HN.out; rw [hbit] at this; simpa using this)
        go_wp2_with (go_at_call 58; refine (has_any _ _ _ HL.out hk16).mono ?_; rintro e w' ⟨rfl, rfl⟩)
        go_roundw
        case rel => exact ⟨k + 1, by omega, by go_num, by rw [HN2.out], HB.out⟩
        case measure => simp [intOf]; omega
    · have hkn : k = p := by omega
      subst hkn
      clear hBr HB1
      go_wp2
      go_ret2
      exact ⟨wt_yes HY.out.1 HY.out.2, HB.out⟩
end Go.Proofs.Ytalnmollgielcaa
