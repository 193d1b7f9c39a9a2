/- The contracts of the small tests on holds, on both sides. -/
import Derived.Test.YtnapgnkhajkbkaaGlG
import Derived.Deep.QuietTactic
import Derived.BigQuiet
namespace Go.Proofs.Ytnapgnkhajkbkaa
open Go.RowKit
set_option linter.unusedVariables false

theorem inR_12 (m : Int) : inR m 1 2 = (m == 1 || m == 2) := by
  rw [Bool.eq_iff_iff]
  simp only [inR_iff, Bool.or_eq_true, beq_iff_eq]
  omega
set_option maxHeartbeats 400000 in
theorem isHold_any (t m : Int) (w : World) :
    Calls Try.prog 61 #[.agg #[.int .i64 t, .int .i64 m]] w fun r w' => r = .returned (.bool (hdOk t m)) ∧ Below w.heap.size w w' := by
  have H : Hid (hdOk t m = (inR t 1 1000 && (m == 1 || m == 2))) := by show _ = _; rw [hdOk, inR_12]
  cases h : inR t 1 1000
  · go_enter Try.func61, Try.ntmps61
    go_wp2_with (go_at_call 73; refine (inRange_any _ _ _ _).mono ?_; rintro e w' ⟨rfl, rfl⟩)
    go_ret
    exact ⟨ret_bool (by rw [H.out, h]; rfl), (by repeat (first | refine Below.setCell ?_ (by (try simp) <;> omega) _ | refine Below.alloc ?_ (by (try simp) <;> omega) _ | refine Below.drew ?_ | assumption | exact Below.refl _ _ | refine Below.trans ?_ (Below.mono (by assumption) (by (try simp) <;> omega))))⟩
  · cases h1 : (m == 1) <;> cases h2 : (m == 2)
    all_goals
      go_enter Try.func61, Try.ntmps61
      go_wp2_with (go_at_call 73; refine (inRange_any _ _ _ _).mono ?_; rintro e w' ⟨rfl, rfl⟩)
      go_ret
      exact ⟨ret_bool (by rw [H.out, h, h1, h2]; rfl), (by repeat (first | refine Below.setCell ?_ (by (try simp) <;> omega) _ | refine Below.alloc ?_ (by (try simp) <;> omega) _ | refine Below.drew ?_ | assumption | exact Below.refl _ _ | refine Below.trans ?_ (Below.mono (by assumption) (by (try simp) <;> omega))))⟩
set_option maxHeartbeats 400000 in
theorem l4Txn_any (t : Int) (w : World) :
    Calls Try.prog 76 #[.int .i64 t] w fun r w' => r = .returned (.bool (inR t 1 1000)) ∧ w' = w := by
  go_enter Try.func76, Try.ntmps76
  go_wp2_with (go_at_call 95; refine (l1In_any _ _ _ _).mono ?_; rintro e w' ⟨rfl, rfl⟩)
  go_ret
  exact ⟨rfl, rfl⟩
set_option maxHeartbeats 400000 in
theorem l4Hold_any (t m : Int) (w : World) :
    Calls Try.prog 53 #[.agg #[.int .i64 t, .int .i64 m]] w fun r w' => r = .returned (.bool (hdOk t m)) ∧ Below w.heap.size w w' := by
  have H : Hid (hdOk t m = (inR t 1 1000 && inR m 1 2)) := by show _ = _; rw [hdOk]
  cases h : inR t 1 1000
  all_goals
    go_enter Try.func53, Try.ntmps53
    go_wp2_with (first
      | (go_at_call 95; refine (l1In_any _ _ _ _).mono ?_; rintro e w' ⟨rfl, rfl⟩)
      | (go_at_call 76; refine (l4Txn_any _ _).mono ?_; rintro e w' ⟨rfl, rfl⟩))
    go_ret
    exact ⟨ret_bool (by rw [H.out, h]; rfl), (by repeat (first | refine Below.setCell ?_ (by (try simp) <;> omega) _ | refine Below.alloc ?_ (by (try simp) <;> omega) _ | refine Below.drew ?_ | assumption | exact Below.refl _ _ | refine Below.trans ?_ (Below.mono (by assumption) (by (try simp) <;> omega))))⟩

set_option maxHeartbeats 1000000 in
theorem isEldest_any (t : Int) (a : Option Addr) (n cap : Nat) (T M : Nat → Int) (w : World) (hn : n ≤ 1048576) (hs : Sl w a n 2 (hdF T M)) :
    Calls Try.prog 94 #[.int .i64 t, .slice a n cap] w fun r w' => r = .returned (.bool (eldN T t n)) ∧ Below w.heap.size w w' := by
  have HS : Hid (Sl w a n 2 (hdF T M)) := hs
  clear hs
  go_enter Try.func94, Try.ntmps94
  go_wp2
  go_loopw [9] (fun i wr => ∃ k : Nat, k ≤ n ∧ i = .int .i64 k ∧ eldN T t k = true ∧ Below w.heap.size w wr) (fun i _ => n - (intOf i).toNat)
  case atStart => exact ⟨0, Nat.zero_le _, rfl, rfl, Below.refl _ _⟩
  case round =>
    obtain ⟨k, hk, rfl, hall, hBr⟩ := hrel
    by_cases hlt : k < n
    · rcases HS.out.below hBr (Nat.le_refl _) with h | ⟨b, off, rfl, hbs, hE⟩
      · omega
      have hlt' : (k : Int) < (n : Int) := by omega
      obtain ⟨c0, c1⟩ := hd_cells hE hlt
      have hz : w.heap.size ≤ wr.heap.size := hBr.size
      have HH : Hid (eldN T t k = true ∧ Below w.heap.size w wr) := ⟨hall, hBr⟩
      clear hE hall hBr
      by_cases hc : T k < t
      · have HN : Hid (eldN T t n = false) := by
          show _ = _
          cases he : eldN T t n
          · rfl
          · have := eldN_iff.1 he k hlt
            omega
        go_wp2
        go_ret
        exact ⟨ret_bool HN.out.symm, HH.out.2.alloc hz _⟩
      · go_wp2
        go_roundw
        case rel => exact ⟨k + 1, by omega, by go_num, by simp [eldN, HH.out.1, hc], HH.out.2.alloc hz _⟩
        case measure => simp [intOf]; omega
    · have hkn : k = n := by omega
      subst hkn
      have HH : Hid (eldN T t k = true ∧ Below w.heap.size w wr) := ⟨hall, hBr⟩
      clear hall hBr
      go_wp2
      go_ret
      exact ⟨ret_bool HH.out.1.symm, HH.out.2⟩

theorem can_no {T M : Nat → Int} {t m : Int} {k : Nat} (h : (T k != t && (m == 2 || M k == 2)) = true) : ∀ {n : Nat}, k < n → canN T M t m n = false
  | n + 1, hk => by
    by_cases e : k = n
    · subst e; simp only [canN, h]; simp
    · simp [canN, can_no h (show k < n by omega)]
set_option maxHeartbeats 1000000 in
theorem canBeGranted_any (a : Option Addr) (n cap : Nat) (T M : Nat → Int) (t m : Int) (w : World) (hn : n ≤ 1048576) (hs : Sl w a n 2 (hdF T M)) :
    Calls Try.prog 75 #[.slice a n cap, .agg #[.int .i64 t, .int .i64 m]] w fun r w' => r = .returned (.bool (canN T M t m n)) ∧ Below w.heap.size w w' := by
  have HS : Hid (Sl w a n 2 (hdF T M)) := hs
  clear hs
  go_enter Try.func75, Try.ntmps75
  go_wp2
  go_loopw [9] (fun i wr => ∃ k : Nat, k ≤ n ∧ i = .int .i64 k ∧ canN T M t m k = true ∧ Bx wr w.heap.size [.int .i64 t, .int .i64 m] ∧ Below w.heap.size w wr) (fun i _ => n - (intOf i).toNat)
  case atStart => exact ⟨0, Nat.zero_le _, rfl, rfl, Bx.new _ _ _, Go.Joins.below_alloc1 _ _⟩
  case round =>
    obtain ⟨k, hk, rfl, hall, hx, hBr⟩ := hrel
    by_cases hlt : k < n
    · rcases HS.out.below hBr (Nat.le_refl _) with h | ⟨b, off, rfl, hbs, hE⟩
      · omega
      have hlt' : (k : Int) < (n : Int) := by omega
      obtain ⟨c0, c1⟩ := hd_cells hE hlt
      have hz : w.heap.size ≤ wr.heap.size := hBr.size
      have g0 := hx.cell 0 rfl
      have g1 := hx.cell 1 rfl
      have gz := hx.2
      have HH : Hid (canN T M t m k = true ∧ Bx wr w.heap.size [.int .i64 t, .int .i64 m] ∧ Below w.heap.size w wr) := ⟨hall, hx, hBr⟩
      clear hE hall hBr hx
      cases hc : (T k != t && (m == 2 || M k == 2))
      · have HY : Hid (canN T M t m (k + 1) = true) := by show _ = _; simp only [canN, HH.out.1, hc]; rfl
        cases h1 : (T k != t)
        · go_wp2
          go_roundw
          case rel => exact ⟨k + 1, by omega, by go_num, HY.out, HH.out.2.1.alloc _, HH.out.2.2.alloc hz _⟩
          case measure => simp [intOf]; omega
        · have h2 : (m == 2) = false := by rw [h1] at hc; simp at hc; simpa using hc.1
          have h3 : (M k == 2) = false := by rw [h1] at hc; simp at hc; simpa using hc.2
          clear hc
          go_wp2
          go_roundw
          case rel => exact ⟨k + 1, by omega, by go_num, HY.out, HH.out.2.1.alloc _, HH.out.2.2.alloc hz _⟩
          case measure => simp [intOf]; omega
      · have HN : Hid (canN T M t m n = false) := can_no hc hlt
        have h1 : (T k != t) = true := by simp only [Bool.and_eq_true] at hc; exact hc.1
        cases h2 : (m == 2)
        · have h3 : (M k == 2) = true := by simp only [Bool.and_eq_true, h2, Bool.false_or] at hc; exact hc.2
          clear hc
          go_wp2
          go_ret
          exact ⟨ret_bool HN.out.symm, HH.out.2.2.alloc hz _⟩
        · clear hc
          go_wp2
          go_ret
          exact ⟨ret_bool HN.out.symm, HH.out.2.2.alloc hz _⟩
    · have hkn : k = n := by omega
      subst hkn
      have HH : Hid (canN T M t m k = true ∧ Below w.heap.size w wr) := ⟨hall, hBr⟩
      clear hall hBr hx
      go_wp2
      go_ret
      exact ⟨ret_bool HH.out.1.symm, HH.out.2⟩

set_option maxHeartbeats 1000000 in
theorem l4Can_any (key : ByteArray) (a wa : Option Addr) (n cap wn wc : Nat) (T M : Nat → Int) (t m : Int) (w : World) (hn : n ≤ 1048576) (hs : Sl w a n 2 (hdF T M)) :
    Calls Try.prog 55 #[.agg #[.string key, .slice a n cap, .slice wa wn wc], .agg #[.int .i64 t, .int .i64 m]] w fun r w' => r = .returned (.bool (canN T M t m n)) ∧ Below w.heap.size w w' := by
  have HS : Hid (Sl w a n 2 (hdF T M)) := hs
  clear hs
  go_enter Try.func55, Try.ntmps55
  go_wp2
  go_loopw [10] (fun i wr => ∃ k : Nat, k ≤ n ∧ i = .int .i64 k ∧ canN T M t m k = true ∧ Bx wr (w.heap.size + 1) [.int .i64 t, .int .i64 m] ∧ Below w.heap.size w wr) (fun i _ => n - (intOf i).toNat)
  case atStart => exact ⟨0, Nat.zero_le _, rfl, rfl, by have := Bx.new (w.alloc (.cells #[.string key, .slice a n cap, .slice wa wn wc] 48)) [.int .i64 t, .int .i64 m] 50; rw [World.size_alloc] at this; exact this, (by repeat (first | refine Below.setCell ?_ (by (try simp) <;> omega) _ | refine Below.alloc ?_ (by (try simp) <;> omega) _ | refine Below.drew ?_ | assumption | exact Below.refl _ _ | refine Below.trans ?_ (Below.mono (by assumption) (by (try simp) <;> omega))))⟩
  case round =>
    obtain ⟨k, hk, rfl, hall, hx, hBr⟩ := hrel
    by_cases hlt : k < n
    · rcases HS.out.below hBr (Nat.le_refl _) with h | ⟨b, off, rfl, hbs, hE⟩
      · omega
      have hlt' : (k : Int) < (n : Int) := by omega
      obtain ⟨c0, c1⟩ := hd_cells hE hlt
      have hz : w.heap.size ≤ wr.heap.size := hBr.size
      have g0 := hx.cell 0 rfl
      have g1 := hx.cell 1 rfl
      have gz := hx.2
      have HH : Hid (canN T M t m k = true ∧ Bx wr (w.heap.size + 1) [.int .i64 t, .int .i64 m] ∧ Below w.heap.size w wr) := ⟨hall, hx, hBr⟩
      clear hE hall hBr hx
      cases hc : (T k != t && (m == 2 || M k == 2))
      · have HY : Hid (canN T M t m (k + 1) = true) := by show _ = _; simp only [canN, HH.out.1, hc]; rfl
        cases h1 : (T k != t)
        · go_wp2
          go_roundw
          case rel => exact ⟨k + 1, by omega, by go_num, HY.out, HH.out.2.1.alloc _, HH.out.2.2.alloc hz _⟩
          case measure => simp [intOf]; omega
        · have h2 : (m == 2) = false := by rw [h1] at hc; simp at hc; simpa using hc.1
          have h3 : (M k == 2) = false := by rw [h1] at hc; simp at hc; simpa using hc.2
          clear hc
          go_wp2
          go_roundw
          case rel => exact ⟨k + 1, by omega, by go_num, HY.out, HH.out.2.1.alloc _, HH.out.2.2.alloc hz _⟩
          case measure => simp [intOf]; omega
      · have HN : Hid (canN T M t m n = false) := can_no hc hlt
        have h1 : (T k != t) = true := by simp only [Bool.and_eq_true] at hc; exact hc.1
        cases h2 : (m == 2)
        · have h3 : (M k == 2) = true := by simp only [Bool.and_eq_true, h2, Bool.false_or] at hc; exact hc.2
          clear hc
          go_wp2
          go_ret
          exact ⟨ret_bool HN.out.symm, HH.out.2.2.alloc hz _⟩
        · clear hc
          go_wp2
          go_ret
          exact ⟨ret_bool HN.out.symm, HH.out.2.2.alloc hz _⟩
    · have hkn : k = n := by omega
      subst hkn
      have HH : Hid (canN T M t m k = true ∧ Below w.heap.size w wr) := ⟨hall, hBr⟩
      clear hall hBr hx
      go_wp2
      go_ret
      exact ⟨ret_bool HH.out.1.symm, HH.out.2⟩

set_option maxHeartbeats 1000000 in
theorem l4Elder_any (key : ByteArray) (a wa : Option Addr) (n cap wn wc : Nat) (T M : Nat → Int) (t : Int) (w : World) (hn : n ≤ 1048576) (hs : Sl w a n 2 (hdF T M)) :
    Calls Try.prog 56 #[.agg #[.string key, .slice a n cap, .slice wa wn wc], .int .i64 t] w fun r w' => r = .returned (.bool (eldN T t n)) ∧ Below w.heap.size w w' := by
  have HS : Hid (Sl w a n 2 (hdF T M)) := hs
  clear hs
  go_enter Try.func56, Try.ntmps56
  go_wp2
  go_loopw [10] (fun i wr => ∃ k : Nat, k ≤ n ∧ i = .int .i64 k ∧ eldN T t k = true ∧ Below w.heap.size w wr) (fun i _ => n - (intOf i).toNat)
  case atStart => exact ⟨0, Nat.zero_le _, rfl, rfl, Go.Joins.below_alloc1 _ _⟩
  case round =>
    obtain ⟨k, hk, rfl, hall, hBr⟩ := hrel
    by_cases hlt : k < n
    · rcases HS.out.below hBr (Nat.le_refl _) with h | ⟨b, off, rfl, hbs, hE⟩
      · omega
      have hlt' : (k : Int) < (n : Int) := by omega
      obtain ⟨c0, c1⟩ := hd_cells hE hlt
      have hz : w.heap.size ≤ wr.heap.size := hBr.size
      have HH : Hid (eldN T t k = true ∧ Below w.heap.size w wr) := ⟨hall, hBr⟩
      clear hE hall hBr
      by_cases hc : T k < t
      · have HN : Hid (eldN T t n = false) := by
          show _ = _
          cases he : eldN T t n
          · rfl
          · have := eldN_iff.1 he k hlt
            omega
        have hne : (T k != t) = true := by simp; omega
        go_wp2
        go_ret
        exact ⟨ret_bool HN.out.symm, HH.out.2.alloc hz _⟩
      · have HY : Hid (eldN T t (k + 1) = true) := by show _ = _; simp [eldN, HH.out.1, hc]
        cases hne : (T k != t)
        all_goals
          go_wp2
          go_roundw
          case rel => exact ⟨k + 1, by omega, by go_num, HY.out, HH.out.2.alloc hz _⟩
          case measure => simp [intOf]; omega
    · have hkn : k = n := by omega
      subst hkn
      have HH : Hid (eldN T t k = true ∧ Below w.heap.size w wr) := ⟨hall, hBr⟩
      clear hall hBr
      go_wp2
      go_ret
      exact ⟨ret_bool HH.out.1.symm, HH.out.2⟩

def intF (X : Nat → Int) (i _ : Nat) : Value := .int .i64 (X i)
theorem int_cell {w : World} {b off n k : Nat} {X : Nat → Int} (h : Elems w b off n 1 (intF X)) (hk : k < n) : w.cell? ⟨b, off + k, none⟩ = some (.int .i64 (X k)) := by
  have := h k hk 0 (by omega); simpa [intF] using this
set_option maxHeartbeats 1000000 in
theorem l1Has_any (a : Option Addr) (n cap : Nat) (X : Nat → Int) (t : Int) (w : World) (hn : n ≤ 1073741824) (hs : Sl w a n 1 (intF X)) :
    Calls Try.prog 54 #[.slice a n cap, .int .i64 t] w fun r w' => r = .returned (.bool (hasN X t n)) ∧ w' = w := by
  have HS : Hid (Sl w a n 1 (intF X)) := hs
  clear hs
  go_enter Try.func54, Try.ntmps54
  go_wp2
  go_loop [9] (fun i => ∃ k : Nat, k ≤ n ∧ i = .int .i64 k ∧ hasN X t k = false) (fun i => n - (intOf i).toNat)
  case atStart => exact ⟨0, Nat.zero_le _, rfl, rfl⟩
  case round =>
    obtain ⟨k, hk, rfl, hall⟩ := hrel
    have HH : Hid (hasN X t k = false) := hall
    clear hall
    by_cases hlt : k < n
    · rcases HS.out with h | ⟨b, off, rfl, hbs, hE⟩
      · omega
      have hlt' : (k : Int) < (n : Int) := by omega
      have c0 := int_cell hE hlt
      clear hE
      cases hc : (X k == t)
      · go_wp2
        go_round
        case rel => exact ⟨k + 1, by omega, by go_num, by simp only [hasN, HH.out, hc]; rfl⟩
        case measure => simp [intOf]; omega
      · have HN : Hid (hasN X t n = true) := hasN_iff.2 ⟨k, hlt, by simpa using hc⟩
        go_wp2
        go_ret
        exact ⟨ret_bool HN.out.symm, rfl⟩
    · have hkn : k = n := by omega
      subst hkn
      go_wp2
      go_ret
      exact ⟨ret_bool HH.out.symm, rfl⟩
end Go.Proofs.Ytnapgnkhajkbkaa
