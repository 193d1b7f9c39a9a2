/- Nets: the program's small tests: isBank, areParcels, areSeen. -/
import Derived.Test.YtcklpcdgckkahaaNeG
import Derived.Test.YtcklpcdgckkahaaBx
import Derived.Test.YtcklpcdgckkahaaRg2
import Derived.Test.YtcklpcdgckkahaaRowS
import Derived.Test.YtcklpcdgckkahaaProg
import Derived.WalkKit
import Derived.WalkSpells
import Derived.WalkLawsBesides
import Derived.Deep.QuietTactic
import Derived.BigQuiet
import Derived.Deep.RegionWith
import Derived.Deep.DeepCutAuto
namespace Go.Proofs.Ytcklpcdgckkahaa
open Go.RowKit
set_option linter.unusedVariables false
set_option linter.unusedSimpArgs false

theorem w64f {n : Int} (h0 : -9223372036854775808 ≤ n) (h1 : n ≤ 9223372036854775807) : IntKind.i64.wrap n = n := by
  rw [IntKind.wrap_i64]; omega
theorem ret_int {a b : Int} (h : a = b) : Ending.returned (.int .i64 a) = .returned (.int .i64 b) := by rw [h]
theorem lies_at {w : World} {a : Option Addr} {cap k : Nat} {l : List (Sh.T .int)} (h : Lies w (.list .int) [.slice a l.length cap] l) (hk : k < l.length) : ∃ g o, a = some ⟨g, o, none⟩ ∧ w.cell? ⟨g, o + k, none⟩ = some (.int .i64 (atI l k)) ∧ g < w.heap.size := by
  rcases lies_sl h with q | ⟨b, off, rfl, hbs, hE⟩
  · omega
  · exact ⟨b, off, rfl, int_cell hE hk, hbs⟩
theorem bankP_iff {x0 : Int} {x1 : Bool} {x2 : Int} : bankP (mkBk x0 x1 x2) ↔ inR x0 0 1000000 = true ∧ inR x2 0 1000000 = true ∧ (x1 = true ∨ x2 = 0) := by
  rw [inR_iff, inR_iff]; exact Iff.rfl

set_option maxRecDepth 100000 in
set_option maxHeartbeats 800000 in
theorem isBank_n (x0 : Int) (x1 : Bool) (x2 : Int) (w : World) :
    Calls Try.prog 51 #[.agg #[.int .i64 x0, .bool x1, .int .i64 x2]] w fun r w' => r = .returned (.bool (tf (bankP (mkBk x0 x1 x2)))) ∧ Below w.heap.size w w' := by
  cases c0 : inR x0 0 1000000
  · have HN : Hid (tf (bankP (mkBk x0 x1 x2)) = false) := tf_no (fun q => by rw [(bankP_iff.1 q).1] at c0; cases c0)
    go_enter Try.func51, Try.ntmps51
    go_wp2_with (first | (go_at_call 50; refine (inRange_any _ _ _ _).mono ?_; rintro e w' ⟨rfl, rfl⟩))
    go_ret
    exact ⟨ret_bool HN.out.symm, (by repeat (first | refine Below.setCell ?_ (by (try simp) <;> omega) _ | refine Below.alloc ?_ (by (try simp) <;> omega) _ | refine Below.drew ?_ | assumption | exact Below.refl _ _ | refine Below.trans ?_ (Below.mono (by assumption) (by (try simp) <;> omega))))⟩
  cases c1 : inR x2 0 1000000
  · have HN : Hid (tf (bankP (mkBk x0 x1 x2)) = false) := tf_no (fun q => by rw [(bankP_iff.1 q).2.1] at c1; cases c1)
    go_enter Try.func51, Try.ntmps51
    go_wp2_with (first | (go_at_call 50; refine (inRange_any _ _ _ _).mono ?_; rintro e w' ⟨rfl, rfl⟩))
    go_ret
    exact ⟨ret_bool HN.out.symm, (by repeat (first | refine Below.setCell ?_ (by (try simp) <;> omega) _ | refine Below.alloc ?_ (by (try simp) <;> omega) _ | refine Below.drew ?_ | assumption | exact Below.refl _ _ | refine Below.trans ?_ (Below.mono (by assumption) (by (try simp) <;> omega))))⟩
  cases x1
  · by_cases c2 : x2 = 0
    · have HN : Hid (tf (bankP (mkBk x0 false x2)) = true) := tf_yes (bankP_iff.2 ⟨c0, c1, Or.inr c2⟩)
      have c3 : (x2 == 0) = true := by simpa using c2
      clear c2
      go_enter Try.func51, Try.ntmps51
      go_wp2_with (first | (go_at_call 50; refine (inRange_any _ _ _ _).mono ?_; rintro e w' ⟨rfl, rfl⟩))
      go_ret
      exact ⟨ret_bool HN.out.symm, (by repeat (first | refine Below.setCell ?_ (by (try simp) <;> omega) _ | refine Below.alloc ?_ (by (try simp) <;> omega) _ | refine Below.drew ?_ | assumption | exact Below.refl _ _ | refine Below.trans ?_ (Below.mono (by assumption) (by (try simp) <;> omega))))⟩
    · have HN : Hid (tf (bankP (mkBk x0 false x2)) = false) := tf_no (fun q => by rcases (bankP_iff.1 q).2.2 with q | q; cases q; exact c2 q)
      have c3 : (x2 == 0) = false := by simpa using c2
      clear c2
      go_enter Try.func51, Try.ntmps51
      go_wp2_with (first | (go_at_call 50; refine (inRange_any _ _ _ _).mono ?_; rintro e w' ⟨rfl, rfl⟩))
      go_ret
      exact ⟨ret_bool HN.out.symm, (by repeat (first | refine Below.setCell ?_ (by (try simp) <;> omega) _ | refine Below.alloc ?_ (by (try simp) <;> omega) _ | refine Below.drew ?_ | assumption | exact Below.refl _ _ | refine Below.trans ?_ (Below.mono (by assumption) (by (try simp) <;> omega))))⟩
  · have HN : Hid (tf (bankP (mkBk x0 true x2)) = true) := tf_yes (bankP_iff.2 ⟨c0, c1, Or.inl rfl⟩)
    go_enter Try.func51, Try.ntmps51
    go_wp2_with (first | (go_at_call 50; refine (inRange_any _ _ _ _).mono ?_; rintro e w' ⟨rfl, rfl⟩))
    go_ret
    exact ⟨ret_bool HN.out.symm, (by repeat (first | refine Below.setCell ?_ (by (try simp) <;> omega) _ | refine Below.alloc ?_ (by (try simp) <;> omega) _ | refine Below.drew ?_ | assumption | exact Below.refl _ _ | refine Below.trans ?_ (Below.mono (by assumption) (by (try simp) <;> omega))))⟩

set_option maxRecDepth 100000 in
set_option maxHeartbeats 1000000 in
theorem areSeen_n (a : Option Addr) (cap : Nat) (l : List (Sh.T .int)) (w : World) (hn : l.length ≤ 1073741824) (h : Lies w (.list .int) [.slice a l.length cap] l) :
    Calls Try.prog 83 #[.slice a l.length cap] w fun r w' => r = .returned (.bool (tf (seeP l))) ∧ w' = w := by
  have HL := Hid.intro h
  clear h
  by_cases hn2 : (200 : Int) < (l.length : Int)
  · have HN : Hid (tf (seeP l) = false) := tf_no (fun q => by have := q.1; omega)
    go_enter Try.func83, Try.ntmps83
    go_wp2
    go_ret
    exact ⟨ret_bool HN.out.symm, rfl⟩
  go_enter Try.func83, Try.ntmps83
  go_wp2
  go_loopw [10] (fun i wr => ∃ k : Nat, k ≤ l.length ∧ i = .int .i64 k ∧ (∀ j, j < k → amtP (atI l j)) ∧ wr = w) (fun i _ => l.length - (intOf i).toNat)
  case atStart => exact ⟨0, Nat.zero_le _, rfl, fun j hj => absurd hj (Nat.not_lt_zero j), rfl⟩
  case round =>
    obtain ⟨k, hk, rfl, hall, rfl⟩ := hrel
    have HA := Hid.intro hall
    clear hall
    by_cases hlt : k < l.length
    · have hlt' : (k : Int) < (l.length : Int) := by omega
      obtain ⟨gr, og, har, hcr, hgr⟩ := lies_at HL.out hlt
      subst har
      have HY : Hid (inR (atI l k) 1 1000000 = true ↔ amtP (atI l k)) := Hid.intro inR_iff
      obtain ⟨y, hy⟩ : ∃ y, y = atI l k := ⟨_, rfl⟩
      have HE := Hid.intro hy
      rw [← hy] at hcr HY
      clear hy
      cases c : inR y 1 1000000
      · have HN : Hid (tf (seeP l) = false) := tf_no (fun q => by have := q.2 k hlt; rw [← HE.out] at this; rw [HY.out.2 this] at c; cases c)
        go_wp2_with (go_at_call 50; refine (inRange_any _ _ _ _).mono ?_; rintro e w' ⟨rfl, hw⟩; have hw := hw.symm; subst hw; rw [c])
        go_ret
        exact ⟨ret_bool HN.out.symm, rfl⟩
      · have HS : Hid (amtP (atI l k)) := Hid.intro (by rw [← HE.out]; exact HY.out.1 c)
        go_wp2_with (go_at_call 50; refine (inRange_any _ _ _ _).mono ?_; rintro e w' ⟨rfl, hw⟩; have hw := hw.symm; subst hw; rw [c])
        go_roundw
        case rel => exact ⟨k + 1, by omega, by go_num, fun j hj => (by by_cases e : j = k; exact e ▸ HS.out; exact HA.out j (by omega)), trivial⟩
        case measure => simp [intOf]; omega
    · have HN : Hid (tf (seeP l) = true) := tf_yes ⟨by omega, fun j hj => HA.out j (by omega)⟩
      go_wp2
      go_ret
      exact ⟨ret_bool HN.out.symm, rfl⟩

theorem pcs_mark {ps : List (Sh.T shParcel)} {k : Nat} (h : k < ps.length) {b : Bool} {n : Int} (e : ps[k] = mkPc b n) : marks (ps.take (k + 1)) = marks (ps.take k) + (if b = true then 1 else 0) := by
  rw [marks_succ h, e]; rfl
set_option maxRecDepth 100000 in
set_option maxHeartbeats 2000000 in
theorem areParcels_n (a : Option Addr) (cap : Nat) (ps : List (Sh.T shParcel)) (w : World) (hn : ps.length ≤ 1073741824) (h : Lies w (.list shParcel) [.slice a ps.length cap] ps) :
    Calls Try.prog 82 #[.slice a ps.length cap] w fun r w' => r = .returned (.bool (tf (pcsP ps))) ∧ Below w.heap.size w w' := by
  have HL := Hid.intro h
  clear h
  by_cases hn2 : (20 : Int) < (ps.length : Int)
  · have HN : Hid (tf (pcsP ps) = false) := tf_no (fun q => by have := q.1; omega)
    go_enter Try.func82, Try.ntmps82
    go_wp2
    go_ret
    exact ⟨ret_bool HN.out.symm, (by repeat (first | refine Below.setCell ?_ (by (try simp) <;> omega) _ | refine Below.alloc ?_ (by (try simp) <;> omega) _ | refine Below.drew ?_ | assumption | exact Below.refl _ _ | refine Below.trans ?_ (Below.mono (by assumption) (by (try simp) <;> omega))))⟩
  go_enter Try.func82, Try.ntmps82
  go_wp2
  go_loopw [11, 3] (fun i v wr => ∃ k : Nat, k ≤ ps.length ∧ i = .int .i64 k ∧ v = .int .i64 (marks (ps.take k) : Nat) ∧ (∀ p ∈ ps.take k, parP p) ∧ Below w.heap.size w wr) (fun i _ _ => ps.length - (intOf i).toNat)
  case atStart => exact ⟨0, Nat.zero_le _, rfl, rfl, fun p hp => by simp at hp, Below.refl _ _⟩
  case round =>
    obtain ⟨k, hk, rfl, rfl, hall, hBr⟩ := hrel
    have HB := Hid.intro hBr
    have HA := Hid.intro hall
    clear hBr hall
    have hmk : marks (ps.take k) ≤ 20 := Nat.le_trans (marks_le _) (by rw [List.length_take]; omega)
    by_cases hlt : k < ps.length
    · have hlt' : (k : Int) < (ps.length : Int) := by omega
      have HLE : Hid (Lies wr (.list shParcel) [.slice a ps.length cap] ps) := HL.out.next HB.out
      obtain ⟨xg, xoff, xgo, xgs, xec, xel, xhec, xle⟩ := Lies.elem (HLE.out) hlt
      subst xgo
      rcases xX : ps[k] with ⟨x0, x1, ⟨⟩⟩
      rw [xX] at xle
      have xH : Hid (ps[k] = (x0, x1, ())) := xX
      clear xX
      obtain xev := lies_Parcel xle
      subst xev
      have xc0 : wr.cell? ⟨xg, xoff + k * 2, none⟩ = some (.bool x0) := xhec 0 (by simp)
      have xc1 : wr.cell? ⟨xg, xoff + k * 2 + 1, none⟩ = some (.int .i64 x1) := xhec 1 (by simp)
      clear xhec xel xle
      have HX : Hid (ps[k] = mkPc x0 x1) := xH
      have HM : Hid (marks (ps.take (k + 1)) = marks (ps.take k) + (if x0 = true then 1 else 0)) := Hid.intro (pcs_mark hlt HX.out)
      have HB2 := Hid.intro (below_next HB.out (Go.Joins.below_alloc1 wr (.cells #[.bool x0, .int .i64 x1] 85)))
      have HPE : Hid (∀ p : Sh.T shParcel, p ∈ ps → parP p → True) := Hid.intro (fun _ _ _ => trivial)
      have HMEM : Hid (ps[k] ∈ ps) := Hid.intro (List.getElem_mem hlt)
      generalize marks (ps.take k) = q at hmk HM ⊢
      clear HLE xH
      obtain ⟨y, hy⟩ : ∃ y : Int, y = x1 := ⟨_, rfl⟩
      subst hy
      cases x0
      · cases c : inR y 1 1000000
        · have HN : Hid (tf (pcsP ps) = false) := tf_no (fun g => by
            have h1 := (g.2.1 _ HMEM.out)
            rw [HX.out] at h1
            have h2 : amtP y := h1.2 rfl
            rw [inR_iff.2 h2] at c; cases c)
          go_wp2_with (go_at_call 50; refine (inRange_any _ _ _ _).mono ?_; rintro e w' ⟨rfl, hw⟩; have hw := hw.symm; subst hw; rw [c])
          go_ret
          exact ⟨ret_bool HN.out.symm, HB2.out⟩
        · have HS : Hid (parP ps[k]) := Hid.intro (by rw [HX.out]; exact ⟨(fun q => by cases q), fun _ => inR_iff.1 c⟩)
          have HM : Hid (marks (ps.take (k + 1)) = q) := Hid.intro (HM.out.trans (by simp))
          go_wp2_with (go_at_call 50; refine (inRange_any _ _ _ _).mono ?_; rintro e w' ⟨rfl, hw⟩; have hw := hw.symm; subst hw; rw [c])
          go_roundw
          case rel => exact ⟨k + 1, by omega, by go_num, by rw [HM.out], mem_take_succ hlt HA.out HS.out, HB2.out⟩
          case measure => simp [intOf]; omega
      · by_cases c : y = 0
        · have HS : Hid (parP ps[k]) := Hid.intro (by rw [HX.out]; exact ⟨fun _ => c, (fun q => by cases q)⟩)
          have HM : Hid (marks (ps.take (k + 1)) = q + 1) := Hid.intro (HM.out.trans (by simp))
          subst c
          go_wp2
          go_roundw
          case rel => exact ⟨k + 1, by omega, by go_num, by rw [HM.out]; go_num, mem_take_succ hlt HA.out HS.out, HB2.out⟩
          case measure => simp [intOf]; omega
        · have HN : Hid (tf (pcsP ps) = false) := tf_no (fun g => by
            have h1 := (g.2.1 _ HMEM.out)
            rw [HX.out] at h1
            exact c (h1.1 rfl))
          have c1 : (y != 0) = true := by simpa using c
          have c2 : (y == 0) = false := by simpa using c
          go_wp2
          go_ret
          exact ⟨ret_bool HN.out.symm, HB2.out⟩
    · have hkn : k = ps.length := by omega
      have HE : Hid (tf (pcsP ps) = decide (marks (ps.take k) ≤ 1)) := Hid.intro (by
        rw [Bool.eq_iff_iff, tf_iff, decide_eq_true_iff]
        have h1 := HA.out
        rw [hkn, List.take_length] at h1 ⊢
        exact ⟨fun g => g.2.2, fun g => ⟨by omega, h1, g⟩⟩)
      clear hkn
      generalize marks (ps.take k) = q at hmk HE ⊢
      by_cases c : q ≤ 1
      · have c1 : (q : Int) ≤ 1 := by omega
        have HE : Hid (tf (pcsP ps) = true) := Hid.intro (HE.out.trans (decide_eq_true c))
        go_wp2
        go_ret
        exact ⟨ret_bool HE.out.symm, HB.out⟩
      · have c1 : ¬ (q : Int) ≤ 1 := by omega
        have HE : Hid (tf (pcsP ps) = false) := Hid.intro (HE.out.trans (decide_eq_false c))
        go_wp2
        go_ret
        exact ⟨ret_bool HE.out.symm, HB.out⟩
end Go.Proofs.Ytcklpcdgckkahaa
