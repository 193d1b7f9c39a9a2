/- The contract of the specification's GoodEvents. -/
import Derived.Test.YtjophhiccbkpjaaEv
import Derived.Test.YtjophhiccbkpjaaEvG
namespace Go.Proofs.Ytjophhiccbkpjaa
open Go.RowKit
set_option linter.unusedVariables false

/-- Block g is one event. -/
def Ev1 (w : World) (g : Nat) (k p m : Int) : Prop := w.cell? ⟨g, 0, none⟩ = some (.int .i64 k) ∧ w.cell? ⟨g, 1, none⟩ = some (.int .i64 p) ∧ w.cell? ⟨g, 2, none⟩ = some (.int .i64 m) ∧ g < w.heap.size
theorem Ev1.next {w w' : World} {g : Nat} {k p m : Int} (h : Ev1 w g k p m) (hb : Below w.heap.size w w') : Ev1 w' g k p m :=
  ⟨(hb.cell (p := ⟨g, 0, none⟩) h.2.2.2).trans h.1, (hb.cell (p := ⟨g, 1, none⟩) h.2.2.2).trans h.2.1, (hb.cell (p := ⟨g, 2, none⟩) h.2.2.2).trans h.2.2.1, Nat.lt_of_lt_of_le h.2.2.2 hb.size⟩
theorem Ev1.new (w : World) (k p m : Int) (t : TypeId) : Ev1 (w.alloc (.cells #[.int .i64 k, .int .i64 p, .int .i64 m] t)) w.heap.size k p m := ⟨by simp, by simp, by simp, by simp⟩

theorem spec_bad {K P M : Nat → Int} {n k : Nat} (hk : k < n) (hall : ∀ i, i < k → evOk K P M i = true) (h : evSpec K P M k = false) : goodE K P M n = false := good_bad hk (by rw [← ev_same hall]; exact h)
theorem seen_mono {K M : Nat → Int} {kd m : Int} {i : Nat} (h : seen K M kd m i = true) : ∀ {k : Nat}, i ≤ k → seen K M kd m k = true := by
  intro k hk
  induction k with
  | zero => have : i = 0 := by omega
            subst this; exact h
  | succ k ih =>
    rcases Nat.lt_or_ge i (k + 1) with g | g
    · simp [seen, ih (by omega)]
    · have : i = k + 1 := by omega
      subst this; exact h
theorem seen_step {K M : Nat → Int} {kd m : Int} (j : Nat) : seen K M kd m (j + 1) = (seen K M kd m j || (M j == m && K j == kd)) := rfl

set_option maxHeartbeats 4000000 in
theorem specGoodEvents_any (a : Option Addr) (n cap : Nat) (K P M : Nat → Int) (w : World) (hn : n ≤ 1048576) (hcap : n ≤ cap) (hs : Sl w a n 3 (evF K P M)) :
    Calls Try.prog 34 #[.slice a n cap] w fun r w' => r = .returned (.bool (goodE K P M n)) ∧ Below w.heap.size w w' := by
  have HS : Hid (Sl w a n 3 (evF K P M)) := hs
  clear hs
  go_enter Try.func34, Try.ntmps34
  go_wp2
  go_loopw [10] (fun i wr => ∃ k : Nat, k ≤ n ∧ i = .int .i64 k ∧ (∀ i, i < k → evOk K P M i = true) ∧ Below w.heap.size w wr) (fun i _ => n - (intOf i).toNat)
  case atStart => exact ⟨0, Nat.zero_le _, rfl, fun i hi => absurd hi (by omega), Below.refl _ _⟩
  case round =>
    obtain ⟨k, hk, rfl, hall, hBr⟩ := hrel
    obtain ⟨wo, hwo⟩ : ∃ x, x = wr := ⟨wr, rfl⟩
    subst hwo
    by_cases hlt : k < n
    · rcases HS.out.below hBr (Nat.le_refl _) with h | ⟨b, off, rfl, hbs, hE⟩
      · omega
      have hlt' : (k : Int) < (n : Int) := by omega
      obtain ⟨c0, c1, c2⟩ := ev_cells hE hlt
      have hz : w.heap.size ≤ wo.heap.size := hBr.size
      have HH : Hid ((∀ i, i < k → evOk K P M i = true) ∧ Below w.heap.size w wo ∧ Elems wo b off n 3 (evF K P M)) := ⟨hall, hBr, hE⟩
      clear hall hBr hE
      cases hkd : inR (K k) 1 3
      · have HN : Hid (goodE K P M n = false) := spec_bad hlt HH.out.1 (by simp [evSpec, hkd])
        go_wp2_with (go_at_call 57; refine (l1In_any _ _ _ _).mono ?_; rintro e w' ⟨rfl, rfl⟩)
        have hb := HH.out.2.1
        go_ret
        exact ⟨ret_bool HN.out.symm, (by repeat (first | refine Below.setCell ?_ (by (try simp) <;> omega) _ | refine Below.alloc ?_ (by (try simp) <;> omega) _ | refine Below.drew ?_ | assumption | exact Below.refl _ _ | refine Below.trans ?_ (Below.mono (by assumption) (by (try simp) <;> omega))))⟩
      cases hp : inR (P k) 0 5
      · have HN : Hid (goodE K P M n = false) := spec_bad hlt HH.out.1 (by simp [evSpec, hp])
        go_wp2_with (go_at_call 57; refine (l1In_any _ _ _ _).mono ?_; rintro e w' ⟨rfl, rfl⟩)
        have hb := HH.out.2.1
        go_ret
        exact ⟨ret_bool HN.out.symm, (by repeat (first | refine Below.setCell ?_ (by (try simp) <;> omega) _ | refine Below.alloc ?_ (by (try simp) <;> omega) _ | refine Below.drew ?_ | assumption | exact Below.refl _ _ | refine Below.trans ?_ (Below.mono (by assumption) (by (try simp) <;> omega))))⟩
      by_cases h1 : K k = 1
      · have e1 : (K k == 1) = true := by simpa using h1
        have HQ : Hid (evOk K P M k = (M k == 0)) := by show evOk K P M k = _; simp [evOk, h1, hp]
        have HK : Hid (K k = 1) := h1
        clear h1
        cases hm : (M k == 0)
        · have HN : Hid (goodE K P M n = false) := good_bad hlt (by rw [HQ.out, hm])
          go_wp2_with (go_at_call 57; refine (l1In_any _ _ _ _).mono ?_; rintro e w' ⟨rfl, rfl⟩)
          have hb := HH.out.2.1
          go_ret
          exact ⟨ret_bool HN.out.symm, (by repeat (first | refine Below.setCell ?_ (by (try simp) <;> omega) _ | refine Below.alloc ?_ (by (try simp) <;> omega) _ | refine Below.drew ?_ | assumption | exact Below.refl _ _ | refine Below.trans ?_ (Below.mono (by assumption) (by (try simp) <;> omega))))⟩
        · go_wp2_with (go_at_call 57; refine (l1In_any _ _ _ _).mono ?_; rintro e w' ⟨rfl, rfl⟩)
          have hb := HH.out.2.1
          go_roundw
          case rel => exact ⟨k + 1, by omega, by go_num, upto_succ HH.out.1 (by rw [HQ.out, hm]), (by repeat (first | refine Below.setCell ?_ (by (try simp) <;> omega) _ | refine Below.alloc ?_ (by (try simp) <;> omega) _ | refine Below.drew ?_ | assumption | exact Below.refl _ _ | refine Below.trans ?_ (Below.mono (by assumption) (by (try simp) <;> omega))))⟩
          case measure => simp [intOf]; omega
      have e1 : (K k == 1) = false := by simpa using h1
      have HK : Hid (¬ K k = 1) := h1
      clear h1
      have hkc : (k : Int) ≤ (cap : Int) := by omega
      go_wp2_with (go_at_call 57; refine (l1In_any _ _ _ _).mono ?_; rintro e w' ⟨rfl, rfl⟩)
      go_loopw [35, 5] (fun j s wr => ∃ i : Nat, i ≤ k ∧ j = .int .i64 i ∧ s = .bool (seen K M 2 (M k) i) ∧ seen K M (K k) (M k) i = false ∧ Ev1 wr wo.heap.size (K k) (P k) (M k) ∧ Below wo.heap.size wo wr) (fun j _ _ => k - (intOf j).toNat)
      case atStart => exact ⟨0, Nat.zero_le _, rfl, rfl, rfl, Ev1.new _ _ _ _ _, Go.Joins.below_alloc1 _ _⟩
      case round =>
        obtain ⟨i, hi, rfl, rfl, hno, hev, hBi⟩ := hrel
        by_cases hik : i < k
        · have hik' : (i : Int) < (k : Int) := by omega
          obtain ⟨d0, d1, d2⟩ := ev_cells (HH.out.2.2.below hBi hbs) (show i < n by omega)
          obtain ⟨g0, g1, g2, hgl⟩ := hev
          have HI : Hid (seen K M (K k) (M k) i = false ∧ Below wo.heap.size wo wr) := ⟨hno, hBi⟩
          have hzi : wo.heap.size ≤ wr.heap.size := hBi.size
          have HE1 : Hid (Ev1 wr wo.heap.size (K k) (P k) (M k)) := ⟨g0, g1, g2, hgl⟩
          have HT : Hid (seen K M 2 (M k) (i + 1) = (seen K M 2 (M k) i || (M i == M k && K i == 2)) ∧ seen K M (K k) (M k) (i + 1) = (seen K M (K k) (M k) i || (M i == M k && K i == K k))) := ⟨rfl, rfl⟩
          clear c0 c1 c2 hno hBi
          generalize seen K M 2 (M k) i = s at *
          cases hA : (M i == M k)
          · cases s
            · go_wp2
              go_roundw
              case rel => exact ⟨i + 1, by omega, by go_num, by rw [HT.out.1, hA]; rfl, by rw [HT.out.2, HI.out.1, hA]; rfl, HE1.out.next (Go.Joins.below_alloc1 _ _), HI.out.2.alloc HI.out.2.size _⟩
              case measure => simp [intOf]; omega
            · go_wp2
              go_roundw
              case rel => exact ⟨i + 1, by omega, by go_num, by rw [HT.out.1, hA]; rfl, by rw [HT.out.2, HI.out.1, hA]; rfl, HE1.out.next (Go.Joins.below_alloc1 _ _), HI.out.2.alloc HI.out.2.size _⟩
              case measure => simp [intOf]; omega
          · cases hB : (K i == K k)
            · cases s
              · cases hC : (K i == 2)
                · go_wp2
                  go_roundw
                  case rel => exact ⟨i + 1, by omega, by go_num, by rw [HT.out.1, hA, hC]; rfl, by rw [HT.out.2, HI.out.1, hA, hB]; rfl, HE1.out.next (Go.Joins.below_alloc1 _ _), HI.out.2.alloc HI.out.2.size _⟩
                  case measure => simp [intOf]; omega
                · go_wp2
                  go_roundw
                  case rel => exact ⟨i + 1, by omega, by go_num, by rw [HT.out.1, hA, hC]; rfl, by rw [HT.out.2, HI.out.1, hA, hB]; rfl, HE1.out.next (Go.Joins.below_alloc1 _ _), HI.out.2.alloc HI.out.2.size _⟩
                  case measure => simp [intOf]; omega
              · go_wp2
                go_roundw
                case rel => exact ⟨i + 1, by omega, by go_num, by rw [HT.out.1]; rfl, by rw [HT.out.2, HI.out.1, hA, hB]; rfl, HE1.out.next (Go.Joins.below_alloc1 _ _), HI.out.2.alloc HI.out.2.size _⟩
                case measure => simp [intOf]; omega
            · have HN : Hid (goodE K P M n = false) := by
                show goodE K P M n = false
                have h1 : seen K M (K k) (M k) (i + 1) = true := by rw [HT.out.2, hA, hB]; simp
                have h2 := seen_mono h1 (show i + 1 ≤ k by omega)
                exact spec_bad hlt HH.out.1 (by simp [evSpec, HK.out, h2])
              go_wp2
              have hb := HH.out.2.1.trans (HI.out.2.mono hz)
              have hzz : w.heap.size ≤ wr.heap.size := Nat.le_trans hz hzi
              go_ret
              exact ⟨ret_bool HN.out.symm, (by repeat (first | refine Below.setCell ?_ (by (try simp) <;> omega) _ | refine Below.alloc ?_ (by (try simp) <;> omega) _ | refine Below.drew ?_ | assumption | exact Below.refl _ _ | refine Below.trans ?_ (Below.mono (by assumption) (by (try simp) <;> omega))))⟩
        · have hik2 : i = k := by omega
          subst hik2
          obtain ⟨g0, g1, g2, hgl⟩ := hev
          have HB : Hid (Below w.heap.size w wr) := HH.out.2.1.trans (hBi.mono hz)
          have HQ : Hid (evSpec K P M i = (inR (M i) 1 1000 && !(K i == 3 && !seen K M 2 (M i) i))) := by show evSpec K P M i = _; simp [evSpec, hkd, hp, HK.out, hno]
          have HV : Hid (evSpec K P M i = evOk K P M i) := ev_same HH.out.1
          clear c0 c1 c2 hno hBi
          generalize seen K M 2 (M i) i = s at *
          cases hm : inR (M i) 1 1000
          · have HN : Hid (goodE K P M n = false) := spec_bad hlt HH.out.1 (by rw [HQ.out, hm]; rfl)
            go_wp2_with (go_at_call 57; refine (l1In_any _ _ _ _).mono ?_; rintro e w' ⟨rfl, rfl⟩)
            go_ret
            exact ⟨ret_bool HN.out.symm, HB.out⟩
          cases h3 : (K i == 3)
          · have HO : Hid (evOk K P M i = true) := by show evOk K P M i = true; rw [← HV.out, HQ.out, hm, h3]; rfl
            go_wp2_with (go_at_call 57; refine (l1In_any _ _ _ _).mono ?_; rintro e w' ⟨rfl, rfl⟩)
            go_roundw
            case rel => exact ⟨i + 1, by omega, by go_num, upto_succ HH.out.1 HO.out, HB.out⟩
            case measure => simp [intOf]; omega
          · cases s
            · have HN : Hid (goodE K P M n = false) := spec_bad hlt HH.out.1 (by rw [HQ.out, hm, h3]; rfl)
              go_wp2_with (go_at_call 57; refine (l1In_any _ _ _ _).mono ?_; rintro e w' ⟨rfl, rfl⟩)
              go_ret
              exact ⟨ret_bool HN.out.symm, HB.out⟩
            · have HO : Hid (evOk K P M i = true) := by show evOk K P M i = true; rw [← HV.out, HQ.out, hm, h3]; rfl
              go_wp2_with (go_at_call 57; refine (l1In_any _ _ _ _).mono ?_; rintro e w' ⟨rfl, rfl⟩)
              go_roundw
              case rel => exact ⟨i + 1, by omega, by go_num, upto_succ HH.out.1 HO.out, HB.out⟩
              case measure => simp [intOf]; omega
    · have hkn : k = n := by omega
      subst hkn
      have HN : Hid (goodE K P M k = decide (k ≤ 60)) := good_all hall
      have HB : Hid (Below w.heap.size w wo) := hBr
      clear hall hBr
      by_cases h60 : (k : Int) ≤ 60
      · go_wp2
        go_ret
        exact ⟨ret_bool (by rw [HN.out]; simp; omega), HB.out⟩
      · go_wp2
        go_ret
        exact ⟨ret_bool (by rw [HN.out]; simp; omega), HB.out⟩
end Go.Proofs.Ytjophhiccbkpjaa
