/- The contracts of the specification's WeightOf, and of IsRead and IsWrite on both sides. -/
import Derived.Test.YtalnmollgielcaaWtI
namespace Go.Proofs.Ytalnmollgielcaa
open Go.RowKit
set_option linter.unusedVariables false

set_option maxRecDepth 100000 in
set_option maxHeartbeats 1000000 in
theorem l8Votes_any (a : Option Addr) (p cap : Nat) (V : Nat → Int) (w : World) (hp : p ≤ 1073741824) (hs : Sl w a p 1 (intF V)) :
    Calls Try.prog 76 #[.slice a p cap] w fun r w' => ∃ s : Int, r = .returned (.tuple #[.int .i64 s, .bool (vtB V p)]) ∧ (vtB V p = true → s = sumTo V p) ∧ w' = w := by
  have HS : Hid (Sl w a p 1 (intF V)) := hs
  clear hs
  go_enter Try.func76, Try.ntmps76
  go_wp2
  go_loop [9, 4] (fun i s => ∃ k : Nat, k ≤ p ∧ i = .int .i64 k ∧ s = .int .i64 (sumTo V k) ∧ allV V k) (fun i _ => p - (intOf i).toNat)
  case atStart => exact ⟨0, Nat.zero_le _, rfl, rfl, fun i hi => absurd hi (by omega)⟩
  case round =>
    obtain ⟨k, hk, rfl, rfl, hV⟩ := hrel
    have HV : Hid (allV V k) := hV
    have hbd := sumTo_bd hV
    clear hV
    by_cases hlt : k < p
    · rcases HS.out with h | ⟨b, off, rfl, hbs, hE⟩
      · omega
      have hlt' : (k : Int) < (p : Int) := by omega
      have hc := int_cell hE hlt
      have HN : Hid (sumTo V (k + 1) = sumTo V k + V k) := rfl
      clear hE
      generalize sumTo V k = s at *
      cases hg : inR (V k) 0 100
      · have HX : Hid (vtB V p = false) := vt_bad hlt hg
        go_wp2_with (go_at_call 73; refine (l1In_any _ _ _ _).mono ?_; rintro e w' ⟨rfl, rfl⟩)
        go_ret2
        exact ⟨0, by rw [HX.out]; rfl, fun q => absurd q (by rw [HX.out]; simp), rfl⟩
      · have HX : Hid (allV V (k + 1)) := allV_succ HV.out hg
        have hv := inR_iff.1 hg
        go_wp2_with (go_at_call 73; refine (l1In_any _ _ _ _).mono ?_; rintro e w' ⟨rfl, rfl⟩)
        go_round
        case rel => exact ⟨k + 1, by omega, by go_num, by rw [HN.out], HX.out⟩
        case measure => simp [intOf]; omega
    · have hkn : k = p := by omega
      subst hkn
      obtain ⟨s, hsk⟩ : ∃ s, sumTo V k = s := ⟨_, rfl⟩
      have HK : Hid (sumTo V k = s) := hsk
      rw [hsk] at hbd ⊢
      clear hsk
      cases hr : inR (k : Int) 1 12
      · have HX : Hid (vtB V k = false) := vtB_no (fun q => by rw [inR_iff.2 (by omega)] at hr; cases hr)
        go_wp2_with (go_at_call 75; refine (l8Nodes_any _ _).mono ?_; rintro e w' ⟨rfl, rfl⟩)
        go_ret2
        exact ⟨s, by rw [HX.out]; rfl, fun _ => HK.out.symm, rfl⟩
      · have HX : Hid (decide (0 < s) = vtB V k) := by
          show decide (0 < s) = vtB V k
          have := inR_iff.1 hr
          rw [Bool.eq_iff_iff, vtB_iff, decide_eq_true_eq, HK.out]
          exact ⟨fun q => ⟨by omega, HV.out, by omega⟩, fun q => by omega⟩
        go_wp2_with (go_at_call 75; refine (l8Nodes_any _ _).mono ?_; rintro e w' ⟨rfl, rfl⟩)
        go_ret2
        exact ⟨s, by rw [← HX.out]; rfl, fun _ => HK.out.symm, rfl⟩

set_option maxRecDepth 100000 in
set_option maxHeartbeats 1000000 in
theorem l8Weight_any (a : Option Addr) (p cap : Nat) (V : Nat → Int) (a' : Option Addr) (n cap' : Nat) (X : Nat → Int) (m : Int) (w : World) (hm : m = (p : Int)) (hp : p ≤ 12) (hV : allV V p) (hg : grP X m n) (hn : n ≤ 12) (hs : Sl w a p 1 (intF V)) (hs' : Sl w a' n 1 (intF X)) :
    Calls Try.prog 77 #[.slice a p cap, .agg #[.slice a' n cap']] w fun r w' => r = .returned (.int .i64 (wsum X V n)) ∧ Below w.heap.size w w' := by
  have HS : Hid (Sl w a p 1 (intF V) ∧ Sl w a' n 1 (intF X) ∧ allV V p ∧ grP X m n ∧ m = (p : Int)) := ⟨hs, hs', hV, hg, hm⟩
  clear hs hs' hV hg hm
  go_enter Try.func77, Try.ntmps77
  go_wp2
  go_loopw [11, 5] (fun i t wr => ∃ k : Nat, k ≤ n ∧ i = .int .i64 k ∧ t = .int .i64 (wsum X V k) ∧ Below w.heap.size w wr) (fun i _ _ => n - (intOf i).toNat)
  case atStart => exact ⟨0, Nat.zero_le _, rfl, rfl, Go.Joins.below_alloc1 _ _⟩
  case round =>
    obtain ⟨k, hk, rfl, rfl, hBr⟩ := hrel
    have HB : Hid (Below w.heap.size w wr) := hBr
    by_cases hlt : k < n
    · rcases HS.out.2.1.below hBr (Nat.le_refl _) with h | ⟨b, off, rfl, hbs, hE⟩
      · omega
      have hlt' : (k : Int) < (n : Int) := by omega
      have hc := int_cell hE hlt
      have hx := (HS.out.2.2.2.1 k hlt).1
      have hmp := HS.out.2.2.2.2
      obtain ⟨x, hxx⟩ : ∃ x : Nat, X k = (x : Int) := ⟨(X k).toNat, by omega⟩
      have hxp : x < p := by omega
      rcases HS.out.1.below hBr (Nat.le_refl _) with h | ⟨b', off', rfl, hbs', hE'⟩
      · omega
      have hd := int_cell hE' hxp
      have hxp' : (x : Int) < (p : Int) := by omega
      have hv := HS.out.2.2.1 x hxp
      have hbd := wsum_bd hmp HS.out.2.2.1 (n := k) (fun i hi => HS.out.2.2.2.1 i (by omega))
      have HN : Hid (wsum X V (k + 1) = wsum X V k + V x) := Hid.intro (by show wsum X V k + V (X k).toNat = _; rw [hxx]; simp)
      rw [hxx] at hc
      clear hE hE' hBr hx hmp hxx
      generalize wsum X V k = t at *
      generalize V x = v at *
      go_wp2
      go_roundw
      case rel => exact ⟨k + 1, by omega, by go_num, by rw [HN.out], HB.out⟩
      case measure => simp [intOf]; omega
    · have hkn : k = n := by omega
      subst hkn
      clear hBr
      go_wp2
      go_ret
      exact ⟨rfl, HB.out⟩

set_option maxRecDepth 100000 in
set_option maxHeartbeats 1000000 in
theorem specWeightOf_any (a : Option Addr) (p cap : Nat) (V : Nat → Int) (a' : Option Addr) (n cap' : Nat) (X : Nat → Int) (w : World) (hp : p ≤ 1073741824) (hn : n ≤ 1073741824) (hs : Sl w a p 1 (intF V)) (hs' : Sl w a' n 1 (intF X)) :
    Calls Try.prog 41 #[.slice a p cap, .agg #[.slice a' n cap']] w fun r w' => r = .returned (.tuple #[.int .i64 (wtN V p X n), .bool (wtB V p X n)]) ∧ Below w.heap.size w w' := by
  have HS : Hid (Sl w a p 1 (intF V) ∧ Sl w a' n 1 (intF X)) := ⟨hs, hs'⟩
  clear hs hs'
  have H0 : Hid (BoxS (w.alloc (.cells #[.slice a' n cap'] 25)) w.heap.size (.slice a' n cap') ∧ Below w.heap.size w (w.alloc (.cells #[.slice a' n cap'] 25))) := ⟨BoxS.new _ _ _, Go.Joins.below_alloc1 _ _⟩
  go_enter Try.func41, Try.ntmps41
  go_wp2_with fail
  refine (l8Votes_any _ _ _ V _ hp (HS.out.1.kept H0.out.2)).mono ?_
  rintro r w1 ⟨s, rfl, _, hw⟩
  have hw := hw.symm
  subst hw
  cases hv : vtB V p
  · have HN : Hid (wtB V p X n = false) := by show wtB V p X n = false; simp [wtB, hv]
    go_wp2
    go_ret2
    exact ⟨wt_no HN.out, H0.out.2⟩
  go_wp2_with fail
  refine (specGoodGroup_any _ _ _ X _ _ hn (by omega) (by omega) (HS.out.2.kept H0.out.2)).mono ?_
  rintro r w1 ⟨rfl, hb1⟩
  have HB1 : Hid (Below w.heap.size w w1) := below_next H0.out.2 hb1
  have c0 := (H0.out.1.next hb1).1
  have z0 := (H0.out.1.next hb1).2
  clear hb1 H0
  cases hg : grB X n p
  · have HN : Hid (wtB V p X n = false) := by show wtB V p X n = false; simp [wtB, hg]
    go_wp2
    go_ret2
    exact ⟨wt_no HN.out, HB1.out⟩
  have HY : Hid (wtB V p X n = true) := by show wtB V p X n = true; simp [wtB, hv, hg]
  have HV : Hid (allV V p ∧ p ≤ 12 ∧ grP X p n ∧ n ≤ 12) := by
    obtain ⟨h1, h2, _⟩ := vtB_iff.1 hv
    obtain ⟨h3, h4⟩ := grB_iff.1 hg
    have := grP_len h4 h3
    exact ⟨h2, h1.2, h4, by omega⟩
  clear hg hv
  go_wp2_with fail
  refine (l8Weight_any _ _ _ V _ _ _ X (p : Int) _ rfl HV.out.2.1 HV.out.1 HV.out.2.2.1 HV.out.2.2.2 (HS.out.1.kept HB1.out) (HS.out.2.kept HB1.out)).mono ?_
  rintro r w2 ⟨rfl, hb2⟩
  have HB2 : Hid (Below w.heap.size w w2) := below_next HB1.out hb2
  clear hb2 HB1 c0 z0
  obtain ⟨t, htt⟩ : ∃ t, wsum X V n = t := ⟨_, rfl⟩
  have HT : Hid (wsum X V n = t) := htt
  rw [htt]
  clear htt
  go_wp2
  go_ret2
  exact ⟨wt_yes HY.out HT.out.symm, HB2.out⟩

set_option maxRecDepth 100000 in
set_option maxHeartbeats 1000000 in
theorem hasVotes_any (a : Option Addr) (p cap : Nat) (V : Nat → Int) (t : Int) (a' : Option Addr) (n cap' : Nat) (X : Nat → Int) (w : World) (hp : p ≤ 1073741824) (hn : n ≤ 1073741824) (hs : Sl w a p 1 (intF V)) (hs' : Sl w a' n 1 (intF X)) :
    Calls Try.prog 54 #[.slice a p cap, .int .i64 t, .agg #[.slice a' n cap']] w fun r w' => r = .returned (.tuple #[.bool (enB V p t X n), .bool (enOk V p t X n)]) ∧ Below w.heap.size w w' := by
  have HS : Hid (Sl w a p 1 (intF V) ∧ Sl w a' n 1 (intF X)) := ⟨hs, hs'⟩
  clear hs hs'
  go_enter Try.func54, Try.ntmps54
  go_wp2_with fail
  have hba : Below w.heap.size w (w.alloc (.cells #[.slice a' n cap'] 25)) := Go.Joins.below_alloc1 _ _
  refine (weightOf_any _ _ _ V _ _ _ X _ hp hn (HS.out.1.kept hba) (HS.out.2.kept hba)).mono ?_
  rintro r w1 ⟨rfl, hb1⟩
  have HB1 : Hid (Below w.heap.size w w1) := below_next hba hb1
  clear hb1 hba
  cases hg : wtB V p X n
  · have HN : Hid (enOk V p t X n = false) := by show enOk V p t X n = false; simp [enOk, hg]
    generalize wtN V p X n = z
    go_wp2
    go_ret2
    exact ⟨en_no HN.out, HB1.out⟩
  have HT : Hid (wtN V p X n = wsum X V n) := by show wtN V p X n = wsum X V n; simp [wtN, hg]
  have HV : Hid (allV V p ∧ p ≤ 12) := by
    have h : vtB V p = true := by have := hg; simp only [wtB, Bool.and_eq_true] at this; exact this.1
    exact ⟨(vtB_iff.1 h).2.1, (vtB_iff.1 h).1.2⟩
  have HG : Hid (wtB V p X n = true) := hg
  clear hg
  generalize wtN V p X n = z at *
  cases hr : inR t 1 (sumTo V p)
  · have HN : Hid (enOk V p t X n = false) := by show enOk V p t X n = false; simp [enOk, hr]
    go_wp2_with (first
      | (go_at_call 82; refine (sumOf_any _ _ _ V _ HV.out.2 HV.out.1 (HS.out.1.kept HB1.out)).mono ?_; rintro e w' ⟨rfl, rfl⟩)
      | (go_at_call 71; refine (inRange_any _ _ _ _).mono ?_; rintro e w' ⟨rfl, rfl⟩))
    go_ret2
    exact ⟨en_no HN.out, HB1.out⟩
  · have HN : Hid (enOk V p t X n = true) := by show enOk V p t X n = true; simp [enOk, hr, HG.out]
    go_wp2_with (first
      | (go_at_call 82; refine (sumOf_any _ _ _ V _ HV.out.2 HV.out.1 (HS.out.1.kept HB1.out)).mono ?_; rintro e w' ⟨rfl, rfl⟩)
      | (go_at_call 71; refine (inRange_any _ _ _ _).mono ?_; rintro e w' ⟨rfl, rfl⟩))
    go_ret2
    exact ⟨en_yes HN.out (by rw [HT.out]), HB1.out⟩

set_option maxRecDepth 100000 in
set_option maxHeartbeats 1000000 in
theorem l8Enough_any (a : Option Addr) (p cap : Nat) (V : Nat → Int) (t : Int) (a' : Option Addr) (n cap' : Nat) (X : Nat → Int) (w : World) (hp : p ≤ 1073741824) (hn : n ≤ 1073741824) (hs : Sl w a p 1 (intF V)) (hs' : Sl w a' n 1 (intF X)) :
    Calls Try.prog 55 #[.slice a p cap, .int .i64 t, .agg #[.slice a' n cap']] w fun r w' => r = .returned (.tuple #[.bool (enB V p t X n), .bool (enOk V p t X n)]) ∧ Below w.heap.size w w' := by
  have HS : Hid (Sl w a p 1 (intF V) ∧ Sl w a' n 1 (intF X)) := ⟨hs, hs'⟩
  clear hs hs'
  have H0 : Hid (BoxS (w.alloc (.cells #[.slice a' n cap'] 25)) w.heap.size (.slice a' n cap') ∧ Below w.heap.size w (w.alloc (.cells #[.slice a' n cap'] 25))) := ⟨BoxS.new _ _ _, Go.Joins.below_alloc1 _ _⟩
  go_enter Try.func55, Try.ntmps55
  go_wp2_with fail
  refine (l8Votes_any _ _ _ V _ hp (HS.out.1.kept H0.out.2)).mono ?_
  rintro r w1 ⟨s, rfl, hsum, hw⟩
  have hw := hw.symm
  subst hw
  cases hv : vtB V p
  · have HN : Hid (enOk V p t X n = false) := by show enOk V p t X n = false; simp [enOk, wtB, hv]
    clear hsum
    go_wp2
    go_ret2
    exact ⟨en_no HN.out, H0.out.2⟩
  have HSum : Hid (s = sumTo V p) := hsum hv
  clear hsum
  go_wp2_with fail
  refine (specGoodGroup_any _ _ _ X _ _ hn (by omega) (by omega) (HS.out.2.kept H0.out.2)).mono ?_
  rintro r w1 ⟨rfl, hb1⟩
  have HB1 : Hid (Below w.heap.size w w1) := below_next H0.out.2 hb1
  have c0 := (H0.out.1.next hb1).1
  have z0 := (H0.out.1.next hb1).2
  clear hb1 H0
  cases hg : grB X n p
  · have HN : Hid (enOk V p t X n = false) := by show enOk V p t X n = false; simp [enOk, wtB, hg]
    go_wp2
    go_ret2
    exact ⟨en_no HN.out, HB1.out⟩
  have HY : Hid (wtB V p X n = true) := by show wtB V p X n = true; simp [wtB, hv, hg]
  have HV : Hid (allV V p ∧ p ≤ 12 ∧ grP X p n ∧ n ≤ 12) := by
    obtain ⟨h1, h2, _⟩ := vtB_iff.1 hv
    obtain ⟨h3, h4⟩ := grB_iff.1 hg
    have := grP_len h4 h3
    exact ⟨h2, h1.2, h4, by omega⟩
  clear hg hv
  cases hr : inR t 1 s
  · have HN : Hid (enOk V p t X n = false) := by show enOk V p t X n = false; rw [HSum.out] at hr; simp [enOk, hr]
    go_wp2_with (go_at_call 73; refine (l1In_any _ _ _ _).mono ?_; rintro e w' ⟨rfl, rfl⟩)
    go_ret2
    exact ⟨en_no HN.out, HB1.out⟩
  have HN : Hid (enOk V p t X n = true) := by show enOk V p t X n = true; rw [HSum.out] at hr; simp [enOk, hr, HY.out]
  go_wp2_with (go_at_call 73; refine (l1In_any _ _ _ _).mono ?_; rintro e w' ⟨rfl, rfl⟩)
  refine (l8Weight_any _ _ _ V _ _ _ X (p : Int) _ rfl HV.out.2.1 HV.out.1 HV.out.2.2.1 HV.out.2.2.2 (HS.out.1.kept HB1.out) (HS.out.2.kept HB1.out)).mono ?_
  rintro r w2 ⟨rfl, hb2⟩
  have HB2 : Hid (Below w.heap.size w w2) := below_next HB1.out hb2
  clear hb2 HB1 c0 z0
  obtain ⟨u, htt⟩ : ∃ t, wsum X V n = t := ⟨_, rfl⟩
  have HT : Hid (wsum X V n = u) := htt
  rw [htt]
  clear htt
  go_wp2
  go_ret2
  exact ⟨en_yes HN.out (by rw [HT.out]), HB2.out⟩

set_option maxRecDepth 100000 in
set_option maxHeartbeats 400000 in
theorem isRead_any (a : Option Addr) (p cap : Nat) (V : Nat → Int) (t : Int) (a' : Option Addr) (n cap' : Nat) (X : Nat → Int) (w : World) (hp : p ≤ 1073741824) (hn : n ≤ 1073741824) (hs : Sl w a p 1 (intF V)) (hs' : Sl w a' n 1 (intF X)) :
    Calls Try.prog 16 #[.slice a p cap, .int .i64 t, .agg #[.slice a' n cap']] w fun r w' => r = .returned (.tuple #[.bool (enB V p t X n), .bool (enOk V p t X n)]) ∧ Below w.heap.size w w' := by
  have HS : Hid (Sl w a p 1 (intF V) ∧ Sl w a' n 1 (intF X)) := ⟨hs, hs'⟩
  clear hs hs'
  go_enter Try.func16, Try.ntmps16
  go_wp2_with fail
  have hba : Below w.heap.size w (w.alloc (.cells #[.slice a' n cap'] 25)) := Go.Joins.below_alloc1 _ _
  refine (hasVotes_any _ _ _ V t _ _ _ X _ hp hn (HS.out.1.kept hba) (HS.out.2.kept hba)).mono ?_
  rintro r w1 ⟨rfl, hb1⟩
  have HB1 : Hid (Below w.heap.size w w1) := below_next hba hb1
  clear hb1 hba
  obtain ⟨y, hy⟩ : ∃ y, enB V p t X n = y := ⟨_, rfl⟩
  obtain ⟨z, hz⟩ : ∃ z, enOk V p t X n = z := ⟨_, rfl⟩
  have HR : Hid (enB V p t X n = y ∧ enOk V p t X n = z) := ⟨hy, hz⟩
  rw [hy, hz]
  clear hy hz
  go_wp2
  go_ret2
  exact ⟨by rw [HR.out.1, HR.out.2]; rfl, HB1.out⟩

set_option maxRecDepth 100000 in
set_option maxHeartbeats 400000 in
theorem isWrite_any (a : Option Addr) (p cap : Nat) (V : Nat → Int) (t : Int) (a' : Option Addr) (n cap' : Nat) (X : Nat → Int) (w : World) (hp : p ≤ 1073741824) (hn : n ≤ 1073741824) (hs : Sl w a p 1 (intF V)) (hs' : Sl w a' n 1 (intF X)) :
    Calls Try.prog 19 #[.slice a p cap, .int .i64 t, .agg #[.slice a' n cap']] w fun r w' => r = .returned (.tuple #[.bool (enB V p t X n), .bool (enOk V p t X n)]) ∧ Below w.heap.size w w' := by
  have HS : Hid (Sl w a p 1 (intF V) ∧ Sl w a' n 1 (intF X)) := ⟨hs, hs'⟩
  clear hs hs'
  go_enter Try.func19, Try.ntmps19
  go_wp2_with fail
  have hba : Below w.heap.size w (w.alloc (.cells #[.slice a' n cap'] 25)) := Go.Joins.below_alloc1 _ _
  refine (hasVotes_any _ _ _ V t _ _ _ X _ hp hn (HS.out.1.kept hba) (HS.out.2.kept hba)).mono ?_
  rintro r w1 ⟨rfl, hb1⟩
  have HB1 : Hid (Below w.heap.size w w1) := below_next hba hb1
  clear hb1 hba
  obtain ⟨y, hy⟩ : ∃ y, enB V p t X n = y := ⟨_, rfl⟩
  obtain ⟨z, hz⟩ : ∃ z, enOk V p t X n = z := ⟨_, rfl⟩
  have HR : Hid (enB V p t X n = y ∧ enOk V p t X n = z) := ⟨hy, hz⟩
  rw [hy, hz]
  clear hy hz
  go_wp2
  go_ret2
  exact ⟨by rw [HR.out.1, HR.out.2]; rfl, HB1.out⟩

set_option maxRecDepth 100000 in
set_option maxHeartbeats 400000 in
theorem specIsRead_any (a : Option Addr) (p cap : Nat) (V : Nat → Int) (t : Int) (a' : Option Addr) (n cap' : Nat) (X : Nat → Int) (w : World) (hp : p ≤ 1073741824) (hn : n ≤ 1073741824) (hs : Sl w a p 1 (intF V)) (hs' : Sl w a' n 1 (intF X)) :
    Calls Try.prog 17 #[.slice a p cap, .int .i64 t, .agg #[.slice a' n cap']] w fun r w' => r = .returned (.tuple #[.bool (enB V p t X n), .bool (enOk V p t X n)]) ∧ Below w.heap.size w w' := by
  have HS : Hid (Sl w a p 1 (intF V) ∧ Sl w a' n 1 (intF X)) := ⟨hs, hs'⟩
  clear hs hs'
  go_enter Try.func17, Try.ntmps17
  go_wp2_with fail
  have hba : Below w.heap.size w (w.alloc (.cells #[.slice a' n cap'] 25)) := Go.Joins.below_alloc1 _ _
  refine (l8Enough_any _ _ _ V t _ _ _ X _ hp hn (HS.out.1.kept hba) (HS.out.2.kept hba)).mono ?_
  rintro r w1 ⟨rfl, hb1⟩
  have HB1 : Hid (Below w.heap.size w w1) := below_next hba hb1
  clear hb1 hba
  obtain ⟨y, hy⟩ : ∃ y, enB V p t X n = y := ⟨_, rfl⟩
  obtain ⟨z, hz⟩ : ∃ z, enOk V p t X n = z := ⟨_, rfl⟩
  have HR : Hid (enB V p t X n = y ∧ enOk V p t X n = z) := ⟨hy, hz⟩
  rw [hy, hz]
  clear hy hz
  go_wp2
  go_ret2
  exact ⟨by rw [HR.out.1, HR.out.2]; rfl, HB1.out⟩

set_option maxRecDepth 100000 in
set_option maxHeartbeats 400000 in
theorem specIsWrite_any (a : Option Addr) (p cap : Nat) (V : Nat → Int) (t : Int) (a' : Option Addr) (n cap' : Nat) (X : Nat → Int) (w : World) (hp : p ≤ 1073741824) (hn : n ≤ 1073741824) (hs : Sl w a p 1 (intF V)) (hs' : Sl w a' n 1 (intF X)) :
    Calls Try.prog 20 #[.slice a p cap, .int .i64 t, .agg #[.slice a' n cap']] w fun r w' => r = .returned (.tuple #[.bool (enB V p t X n), .bool (enOk V p t X n)]) ∧ Below w.heap.size w w' := by
  have HS : Hid (Sl w a p 1 (intF V) ∧ Sl w a' n 1 (intF X)) := ⟨hs, hs'⟩
  clear hs hs'
  go_enter Try.func20, Try.ntmps20
  go_wp2_with fail
  have hba : Below w.heap.size w (w.alloc (.cells #[.slice a' n cap'] 25)) := Go.Joins.below_alloc1 _ _
  refine (l8Enough_any _ _ _ V t _ _ _ X _ hp hn (HS.out.1.kept hba) (HS.out.2.kept hba)).mono ?_
  rintro r w1 ⟨rfl, hb1⟩
  have HB1 : Hid (Below w.heap.size w w1) := below_next hba hb1
  clear hb1 hba
  obtain ⟨y, hy⟩ : ∃ y, enB V p t X n = y := ⟨_, rfl⟩
  obtain ⟨z, hz⟩ : ∃ z, enOk V p t X n = z := ⟨_, rfl⟩
  have HR : Hid (enB V p t X n = y ∧ enOk V p t X n = z) := ⟨hy, hz⟩
  rw [hy, hz]
  clear hy hz
  go_wp2
  go_ret2
  exact ⟨by rw [HR.out.1, HR.out.2]; rfl, HB1.out⟩
end Go.Proofs.Ytalnmollgielcaa
