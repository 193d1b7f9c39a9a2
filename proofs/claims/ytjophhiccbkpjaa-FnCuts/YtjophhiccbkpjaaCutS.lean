/- The contracts of the specification's l2Cut, l2Place and GoodCut. -/
import Derived.Test.YtjophhiccbkpjaaCut
import Derived.Test.YtjophhiccbkpjaaCau
import Derived.Deep.RegionWith
import Derived.Deep.DeepCutAuto
import Derived.BigQuiet
import Derived.Deep.QuietTactic
namespace Go.Proofs.Ytjophhiccbkpjaa
open Go.RowKit
set_option linter.unusedVariables false

def gcOk (K P M : Nat → Int) (n : Nat) (X : Nat → Int) (n' : Nat) : Bool := goodE K P M n && (decide (n' = 6) && fits P X n 6)
def gcB (K P M : Nat → Int) (n : Nat) (X : Nat → Int) (n' : Nat) : Bool := gcOk K P M n X n' && cutAll K P M X n
def GcPost (K P M : Nat → Int) (n : Nat) (X : Nat → Int) (n' : Nat) (w : World) (r : Ending) (w' : World) : Prop := r = .returned (.tuple #[.bool (gcB K P M n X n'), .bool (gcOk K P M n X n')]) ∧ Below w.heap.size w w'
theorem gc_no {K P M : Nat → Int} {n : Nat} {X : Nat → Int} {n' : Nat} {w w' : World} (h : gcOk K P M n X n' = false) (hb : Below w.heap.size w w') : GcPost K P M n X n' w (.returned (.tuple #[.bool false, .bool false])) w' := ⟨by simp [gcB, h], hb⟩
theorem gc_yes {K P M : Nat → Int} {n : Nat} {X : Nat → Int} {n' : Nat} {w w' : World} {b : Bool} (h : gcOk K P M n X n' = true) (e : b = cutAll K P M X n) (hb : Below w.heap.size w w') : GcPost K P M n X n' w (.returned (.tuple #[.bool b, .bool true])) w' := ⟨by simp [gcB, h, e], hb⟩

set_option maxRecDepth 100000 in
set_option maxHeartbeats 4000000 in
theorem l2Place_any (a : Option Addr) (n cap i q : Nat) (K P M : Nat → Int) (w : World) (hn : n ≤ 1048576) (hcap : n ≤ cap) (hin : i < n) (hq : P i = (q : Int)) (hs : Sl w a n 3 (evF K P M)) :
    Calls Try.prog 68 #[.slice a n cap, .int .i64 i] w fun r w' => r = .returned (.int .i64 (cnt P q (i + 1))) ∧ Below w.heap.size w w' := by
  rcases hs with h | ⟨b, off, rfl, hbs, hE⟩
  · omega
  have HE : Hid (Elems w b off n 3 (evF K P M)) := hE
  have HQ : Hid (P i = (q : Int)) := hq
  clear hE hq
  have hic : (i : Int) + 1 ≤ (cap : Int) := by omega
  have hin' : (i : Int) < (n : Int) := by omega
  go_enter Try.func68, Try.ntmps68
  go_wp2
  go_loopw [13, 5] (fun t o wr => ∃ j : Nat, j ≤ i + 1 ∧ t = .int .i64 j ∧ o = .int .i64 (cnt P q j) ∧ Below w.heap.size w wr) (fun t _ _ => i + 1 - (intOf t).toNat)
  case atStart => exact ⟨0, Nat.zero_le _, rfl, rfl, Below.refl _ _⟩
  case round =>
    obtain ⟨j, hj, rfl, rfl, hBr⟩ := hrel
    by_cases hlt : j < i + 1
    · have hlt' : (j : Int) < ((i + 1 : Nat) : Int) := by omega
      have hEr := HE.out.below hBr hbs
      obtain ⟨c0, c1, c2⟩ := ev_cells hEr (show j < n by omega)
      obtain ⟨d0, d1, d2⟩ := ev_cells hEr hin
      have hbr : b < wr.heap.size := Nat.lt_of_lt_of_le hbs hBr.size
      have hz : w.heap.size ≤ wr.heap.size := hBr.size
      have HB : Hid (Below w.heap.size w wr) := hBr
      have hbd := cnt_bd P q j
      have HT : Hid (cnt P q (j + 1) = cnt P q j + (if P j = (q : Int) then 1 else 0)) := rfl
      clear hBr hEr
      generalize cnt P q j = o at *
      cases hp : (P j == P i)
      all_goals
        go_upto_region 5 with fail
        go_quiet (fail)
        go_wp2
        refine ⟨⟨j + 1, by omega, by go_num, ?_, below_drewN (HB.out.alloc hz _) _⟩, by simp [intOf]; omega⟩
        rw [HT.out, ← HQ.out]
        simp [show (P j = P i) ↔ (P j == P i) = true by simp, hp]
    · have hji : j = i + 1 := by omega
      subst hji
      have HB : Hid (Below w.heap.size w wr) := hBr
      clear hBr
      obtain ⟨o, ho⟩ : ∃ o, o = cnt P q (i + 1) := ⟨_, rfl⟩
      rw [← ho]
      have HO : Hid (o = cnt P q (i + 1)) := ho
      clear ho
      go_wp2
      go_ret
      exact ⟨by rw [← HO.out]; rfl, HB.out⟩

set_option maxRecDepth 100000 in
set_option maxHeartbeats 4000000 in
theorem l2Cut_any (a : Option Addr) (n cap : Nat) (K P M : Nat → Int) (a' : Option Addr) (n' cap' : Nat) (X : Nat → Int) (w : World) (hn : n ≤ 1048576) (hn' : n' ≤ 1048576) (hs : Sl w a n 3 (evF K P M)) (hx : Sl w a' n' 1 (intF X)) :
    Calls Try.prog 67 #[.slice a n cap, .slice a' n' cap'] w fun r w' => r = .returned (.bool (decide (n' = 6) && fits P X n 6)) ∧ Below w.heap.size w w' := by
  by_cases h6 : n' = 6
  case neg =>
    have h6' : ((n' : Int) == 6) = false := by simp; omega
    have HN : Hid ((decide (n' = 6) && fits P X n 6) = false) := by show _ = _; simp [h6]
    clear hs hx h6
    go_enter Try.func67, Try.ntmps67
    go_wp2
    go_ret
    exact ⟨ret_bool HN.out.symm, Below.refl _ _⟩
  case pos =>
  subst h6
  have HS : Hid (Sl w a n 3 (evF K P M) ∧ Sl w a' 6 1 (intF X)) := ⟨hs, hx⟩
  clear hs hx
  go_enter Try.func67, Try.ntmps67
  go_wp2
  go_loopw [15] (fun i wr => ∃ p : Nat, p ≤ 6 ∧ i = .int .i64 p ∧ (∀ t, t < p → inR (X t) 0 (cnt P t n) = true) ∧ Below w.heap.size w wr) (fun i _ => 6 - (intOf i).toNat)
  case atStart => exact ⟨0, Nat.zero_le _, rfl, fun t ht => absurd ht (by omega), Below.refl _ _⟩
  case round =>
    obtain ⟨p, hp, rfl, hall, hBr⟩ := hrel
    obtain ⟨wo, hwo⟩ : ∃ x, x = wr := ⟨wr, rfl⟩
    subst hwo
    by_cases hlt : p < 6
    · rcases HS.out.2.below hBr (Nat.le_refl _) with h | ⟨b', off', rfl, hbs', hE'⟩
      · omega
      have hc := int_cell hE' hlt
      have hlt' : (p : Int) < 6 := by omega
      have HA : Hid ((∀ t, t < p → inR (X t) 0 (cnt P t n) = true) ∧ Below w.heap.size w wo) := ⟨hall, hBr⟩
      have hz : w.heap.size ≤ wo.heap.size := hBr.size
      clear hall hBr hE'
      go_wp2
      go_loopw [22, 7] (fun i m wr => ∃ t : Nat, t ≤ n ∧ i = .int .i64 t ∧ m = .int .i64 (cnt P p t) ∧ Below wo.heap.size wo wr) (fun i _ _ => n - (intOf i).toNat)
      case atStart => exact ⟨0, Nat.zero_le _, rfl, rfl, Below.refl _ _⟩
      case round =>
        obtain ⟨t, ht, rfl, rfl, hBi⟩ := hrel
        by_cases htn : t < n
        · have htn' : (t : Int) < (n : Int) := by omega
          rcases (HS.out.1.kept (below_next HA.out.2 hBi)) with h | ⟨b, off, rfl, hbs, hE⟩
          · omega
          obtain ⟨d0, d1, d2⟩ := ev_cells hE htn
          have hzi : wo.heap.size ≤ wr.heap.size := hBi.size
          have HB : Hid (Below wo.heap.size wo wr) := hBi
          have hbd := cnt_bd P p t
          have HT : Hid (cnt P p (t + 1) = cnt P p t + (if P t = (p : Int) then 1 else 0)) := rfl
          clear hE hBi hc
          generalize cnt P p t = m at *
          by_cases hpt : P t = (p : Int)
          · have e1 : (P t == (p : Int)) = true := by simpa using hpt
            have HT2 : Hid (cnt P p (t + 1) = m + 1) := by show _ = _; rw [HT.out, if_pos hpt]
            clear hpt
            go_wp2
            go_roundw
            case rel => exact ⟨t + 1, by omega, by go_num, by rw [HT2.out], HB.out.alloc hzi _⟩
            case measure => simp [intOf]; omega
          · have e1 : (P t == (p : Int)) = false := by simpa using hpt
            have HT2 : Hid (cnt P p (t + 1) = m) := by show _ = _; rw [HT.out, if_neg hpt]; omega
            clear hpt
            go_wp2
            go_roundw
            case rel => exact ⟨t + 1, by omega, by go_num, by rw [HT2.out], HB.out.alloc hzi _⟩
            case measure => simp [intOf]; omega
        · have htn2 : t = n := by omega
          subst htn2
          have HB : Hid (Below w.heap.size w wr) := below_next HA.out.2 hBi
          clear hBi hc
          cases hr : inR (X p) 0 (cnt P p t)
          · have HN : Hid ((decide (6 = 6) && fits P X t 6) = false) := by show _ = _; simp [fits_bad hlt hr]
            go_wp2_with (go_at_call 57; refine (l1In_any _ _ _ _).mono ?_; rintro e w' ⟨rfl, rfl⟩)
            go_ret
            exact ⟨ret_bool HN.out.symm, HB.out⟩
          · have HR : Hid (inR (X p) 0 (cnt P p t) = true) := hr
            go_wp2_with (go_at_call 57; refine (l1In_any _ _ _ _).mono ?_; rintro e w' ⟨rfl, rfl⟩)
            go_roundw
            case rel => exact ⟨p + 1, by omega, by go_num, upto_succ HA.out.1 HR.out, HB.out⟩
            case measure => simp [intOf]; omega
    · have hp6 : p = 6 := by omega
      subst hp6
      have HN : Hid ((decide (6 = 6) && fits P X n 6) = true) := by show _ = _; simp [(fits_iff P X n 6).2 (fun t ht => inR_iff.1 (hall t ht))]
      have HB : Hid (Below w.heap.size w wo) := hBr
      clear hall hBr
      go_wp2
      go_ret
      exact ⟨ret_bool HN.out.symm, HB.out⟩
theorem cut_take {K P M : Nat → Int} {X : Nat → Int} {i q s qs : Nat} (h3 : K i = 3) (hq : P i = (q : Int)) (hs : snt K M i = s + 1) (hqs : P s = (qs : Int)) : cutOk K P M X i = (!decide (cnt P q (i + 1) ≤ X q) || decide (cnt P qs (s + 1) ≤ X qs)) := by
  simp [cutOk, h3, hs, inCut, place, hq, hqs]

set_option maxRecDepth 100000 in
set_option maxHeartbeats 4000000 in
theorem specGoodCut_any (a : Option Addr) (n cap : Nat) (K P M : Nat → Int) (a' : Option Addr) (n' cap' : Nat) (X : Nat → Int) (w : World) (hn : n ≤ 1048576) (hcap : n ≤ cap) (hn' : n' ≤ 1048576) (hs : Sl w a n 3 (evF K P M)) (hx : Sl w a' n' 1 (intF X)) :
    Calls Try.prog 29 #[.slice a n cap, .slice a' n' cap'] w fun r w' => GcPost K P M n X n' w r w' := by
  have HS : Hid (Sl w a n 3 (evF K P M) ∧ Sl w a' n' 1 (intF X)) := ⟨hs, hx⟩
  clear hs hx
  go_enter Try.func29, Try.ntmps29
  go_wp2_with fail
  refine (specGoodEvents_any _ _ _ K P M _ hn hcap HS.out.1).mono ?_
  rintro r w1 ⟨rfl, hb1⟩
  have HB1 : Hid (Below w.heap.size w w1) := hb1
  clear hb1
  cases hg : goodE K P M n
  · have HN : Hid (gcOk K P M n X n' = false) := by show _ = _; simp [gcOk, hg]
    go_wp2
    exact bodyPost_ret (v := .tuple #[.bool false, .bool false]) (by simp [results, Try.results29, go_sem]) rfl (gc_no HN.out HB1.out)
  go_wp2_with fail
  refine (l2Cut_any _ _ _ K P M _ _ _ X _ hn hn' (HS.out.1.kept HB1.out) (HS.out.2.kept HB1.out)).mono ?_
  rintro r w2 ⟨rfl, hb2⟩
  have HB2 : Hid (Below w.heap.size w w2) := below_next HB1.out hb2
  clear hb2
  cases hc : (decide (n' = 6) && fits P X n 6)
  · have HN : Hid (gcOk K P M n X n' = false) := by show _ = _; simp [gcOk, hc]
    go_wp2
    exact bodyPost_ret (v := .tuple #[.bool false, .bool false]) (by simp [results, Try.results29, go_sem]) rfl (gc_no HN.out HB2.out)
  have HY : Hid (gcOk K P M n X n' = true) := by show _ = _; simp [gcOk, hg, hc]
  have h6 : n' = 6 := by simp only [Bool.and_eq_true, decide_eq_true_eq] at hc; exact hc.1
  obtain ⟨h60, hev⟩ := good_ev hg
  have HE : Hid (∀ i, i < n → evOk K P M i = true) := hev
  clear hg hc hev HB1
  subst h6
  go_wp2
  go_loopw [21] (fun i wr => ∃ k : Nat, k ≤ n ∧ i = .int .i64 k ∧ (∀ t, t < k → cutOk K P M X t = true) ∧ Below w.heap.size w wr) (fun i _ => n - (intOf i).toNat)
  case atStart => exact ⟨0, Nat.zero_le _, rfl, fun t ht => absurd ht (by omega), HB2.out⟩
  case round =>
    obtain ⟨k, hk, rfl, hall, hBr⟩ := hrel
    obtain ⟨wo, hwo⟩ : ∃ x, x = wr := ⟨wr, rfl⟩
    subst hwo
    clear HB2
    by_cases hlt : k < n
    · have hlt' : (k : Int) < (n : Int) := by omega
      rcases HS.out.1.kept hBr with h | ⟨b, off, rfl, hbs, hE⟩
      · omega
      rcases HS.out.2.kept hBr with h | ⟨b', off', rfl, hbs', hE'⟩
      · omega
      obtain ⟨c0, c1, c2⟩ := ev_cells hE hlt
      obtain ⟨⟨q, hq, hq6⟩, hkd⟩ := ev_kind (HE.out k hlt)
      have hq6' : (q : Int) < 6 := by omega
      have hx := int_cell hE' hq6
      rw [hq] at c1
      have hz : w.heap.size ≤ wo.heap.size := hBr.size
      have HA : Hid ((∀ t, t < k → cutOk K P M X t = true) ∧ Below w.heap.size w wo ∧ Elems wo b off n 3 (evF K P M) ∧ Elems wo b' off' 6 1 (intF X)) := ⟨hall, hBr, hE, hE'⟩
      have HQ : Hid (P k = (q : Int)) := hq
      clear hall hBr hE hE' hq
      by_cases h3 : K k = 3
      case neg =>
        have e3 : (K k != 3) = true := by simpa using h3
        have HO : Hid (cutOk K P M X k = true) := by show _ = _; simp [cutOk, h3]
        clear h3 hkd
        go_upto_region 6 with fail
        go_quiet (fail)
        go_wp2
        refine ⟨⟨k + 1, by omega, by go_num, upto_succ HA.out.1 HO.out, below_drewN (HA.out.2.1.alloc hz _) _⟩, by simp [intOf]; omega⟩
      case pos =>
      have e3 : (K k != 3) = false := by simpa using h3
      obtain ⟨s, hse⟩ : ∃ s, snt K M k = s + 1 := ⟨snt K M k - 1, by have := good_snt HE.out hlt h3; omega⟩
      have hsl := snt_le K M k
      have hsk : s < n := by omega
      have hsn' : (s : Int) < (n : Int) := by omega
      obtain ⟨⟨qs, hqs, hqs6⟩, _⟩ := ev_kind (HE.out s hsk)
      have hqs6' : (qs : Int) < 6 := by omega
      have HC : Hid (cutOk K P M X k = (!decide (cnt P q (k + 1) ≤ X q) || decide (cnt P qs (s + 1) ≤ X qs))) := cut_take h3 HQ.out hse hqs
      have HQs : Hid (P s = (qs : Int) ∧ snt K M k = s + 1) := ⟨hqs, hse⟩
      clear h3 hkd hqs hse hsl
      obtain ⟨m, hm⟩ : ∃ m, m = cnt P q (k + 1) := ⟨_, rfl⟩
      rw [← hm] at HC
      have HMm : Hid (m = cnt P q (k + 1)) := hm
      clear hm
      have hbw : Below w.heap.size w (wo.alloc (.cells #[.int .i64 (K k), .int .i64 q, .int .i64 (M k)] 49)) := HA.out.2.1.alloc hz _
      have hxa : (wo.alloc (.cells #[.int .i64 (K k), .int .i64 q, .int .i64 (M k)] 49)).cell? ⟨b', off' + q, none⟩ = some (.int .i64 (X q)) := ((Go.Joins.below_alloc1 wo _).cell (p := ⟨b', off' + q, none⟩) hbs').trans hx
      go_upto_region 6 with fail
      go_cut [39] (fun s39 wx => s39 = .bool (decide (X q < m)) ∧ Below wo.heap.size wo wx)
      case first =>
        go_region_with (go_at_call 68; refine (l2Place_any _ _ _ k q K P M _ hn hcap hlt HQ.out (HS.out.1.kept (by first | exact hbw | exact hbw.drew))).mono ?_; rintro r w3 ⟨rfl, hb3⟩; rw [← HMm.out]; have g1 := (hb3.cell (p := ⟨wo.heap.size, 1, none⟩) (by simp)).trans (show _ = some (Value.int .i64 (q : Int)) by simp); have gx := (hb3.cell (p := ⟨b', off' + q, none⟩) (by simp; omega)).trans hxa; have gz : wo.heap.size < w3.heap.size := (by have := hb3.size; simp at this; omega))
        all_goals (go_wp2_with fail; go_meet; exact ⟨rfl, ((Below.refl wo.heap.size wo).alloc (Nat.le_refl _) _).trans (by first | exact hb3.mono (by simp) | exact ((Below.refl _ _).drew.trans hb3).mono (by simp))⟩)
      case rest =>
        obtain ⟨rfl, hb3⟩ := hcut
        have HB3 : Hid (Below w.heap.size w wc ∧ Below wo.heap.size wo wc) := ⟨below_next HA.out.2.1 hb3, hb3⟩
        clear hb3 hbw c0 c1 c2 hx hxa
        by_cases hlm : X q < m
        · have HO : Hid (cutOk K P M X k = true) := by show _ = _; rw [HC.out]; simp; omega
          have e1 : decide (X q < m) = true := by simpa using hlm
          rw [e1]
          go_wp2
          go_roundw
          case rel => exact ⟨k + 1, by omega, by go_num, upto_succ HA.out.1 HO.out, HB3.out.1⟩
          case measure => simp [intOf]; omega
        · have e1 : decide (X q < m) = false := by simpa using hlm
          have hmx : m ≤ X q := by omega
          have HC2 : Hid (cutOk K P M X k = decide (cnt P qs (s + 1) ≤ X qs)) := by show _ = _; rw [HC.out]; simp [hmx]
          clear hmx
          rw [e1]
          clear hlm HC
          go_wp2_with fail
          refine (causes_any _ _ _ k K P M _ hn hcap hlt (HS.out.1.kept HB3.out.1)).mono ?_
          rintro r w4 ⟨rfl, hb4⟩
          have es : ((snt K M k : Nat) : Int) - 1 = (s : Int) := by rw [HQs.out.2]; omega
          rw [es]
          have HB4 : Hid (Below w.heap.size w w4 ∧ Below wo.heap.size wo w4) := ⟨below_next HB3.out.1 hb4, HB3.out.2.trans (hb4.mono HB3.out.2.size)⟩
          clear hb4 es
          obtain ⟨o, ho⟩ : ∃ o : Int, o = (own P k : Int) - 1 := ⟨_, rfl⟩
          rw [← ho]
          clear ho
          obtain ⟨m2, hm2⟩ : ∃ m, m = cnt P qs (s + 1) := ⟨_, rfl⟩
          have HM2 : Hid (m2 = cnt P qs (s + 1)) := hm2
          rw [← hm2] at HC2
          clear hm2
          obtain ⟨v0, v1, v2⟩ := ev_cells (HA.out.2.2.1.below HB4.out.2 hbs) hsk
          rw [HQs.out.1] at v1
          have hx := int_cell (HA.out.2.2.2.below HB4.out.2 hbs') hqs6
          have hb4s : b < w4.heap.size := Nat.lt_of_lt_of_le hbs HB4.out.2.size
          have hb4s' : b' < w4.heap.size := Nat.lt_of_lt_of_le hbs' HB4.out.2.size
          have hbw := HB4.out.1
          go_upto_region 8 with fail
          go_cut [57] (fun s57 wx => s57 = .bool (decide (X qs < m2)) ∧ Below w4.heap.size w4 wx)
          case first =>
            go_region_with (go_at_call 68; refine (l2Place_any _ _ _ s qs K P M _ hn hcap hsk HQs.out.1 (HS.out.1.kept (by first | exact hbw | exact hbw.drew))).mono ?_; rintro r w5 ⟨rfl, hb5⟩; rw [← HM2.out]; have g1 := (hb5.cell (p := ⟨b, off + s * 3 + 1, none⟩) hb4s).trans v1; have gx := (hb5.cell (p := ⟨b', off' + qs, none⟩) hb4s').trans hx)
            all_goals (go_wp2_with fail; go_meet; exact ⟨rfl, by first | exact hb5 | exact (Below.refl _ _).drew.trans hb5⟩)
          case rest =>
            obtain ⟨rfl, hb5⟩ := hcut
            have HB5 : Hid (Below w.heap.size w wc) := below_next HB4.out.1 hb5
            clear hb5 hbw v0 v1 v2 hx
            by_cases hl2 : X qs < m2
            · have HN : Hid (false = cutAll K P M X n) := (cutAll_bad hlt (by rw [HC2.out]; simp; omega)).symm
              have e2 : decide (X qs < m2) = true := by simpa using hl2
              rw [e2]
              go_wp2
              exact bodyPost_ret (v := .tuple #[.bool false, .bool true]) (by simp [results, Try.results29, go_sem]) rfl (gc_yes HY.out HN.out HB5.out)
            · have HO : Hid (cutOk K P M X k = true) := by show _ = _; rw [HC2.out]; simp; omega
              have e2 : decide (X qs < m2) = false := by simpa using hl2
              rw [e2]
              go_wp2
              go_roundw
              case rel => exact ⟨k + 1, by omega, by go_num, upto_succ HA.out.1 HO.out, HB5.out⟩
              case measure => simp [intOf]; omega
    · have hkn : k = n := by omega
      subst hkn
      have HN : Hid (true = cutAll K P M X k) := ((cutAll_iff K P M X k).2 hall).symm
      have HB : Hid (Below w.heap.size w wo) := hBr
      clear hall hBr
      go_wp2
      exact bodyPost_ret (v := .tuple #[.bool true, .bool true]) (by simp [results, Try.results29, go_sem]) rfl (gc_yes HY.out HN.out HB.out)
end Go.Proofs.Ytjophhiccbkpjaa
