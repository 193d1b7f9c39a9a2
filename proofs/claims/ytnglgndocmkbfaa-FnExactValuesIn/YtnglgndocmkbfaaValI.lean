/- The contracts of the tests on values, on both sides, beside those on keys (TvI without tids). -/
import Derived.Test.YtnglgndocmkbfaaKeyI
namespace Go.Proofs.Ytnglgndocmkbfaa
open Go.RowKit
set_option linter.unusedVariables false

set_option maxHeartbeats 1000000 in
theorem l1Value_any (s : ByteArray) (w : World) (hs : s.size ≤ maxLen) :
    Calls Try.prog 118 #[.string s] w fun r w' => r = .returned (.bool (valOk s)) ∧ w' = w := by
  unfold maxLen at hs
  go_enter Try.func118, Try.ntmps118
  go_wp2
  go_loop [3] (fun i => ∃ k : Nat, k ≤ s.size ∧ i = .int .i64 k ∧ ∀ j (h : j < s.size), j < k → valB s[j] = true) (fun i => s.size - (intOf i).toNat)
  case atStart => exact ⟨0, Nat.zero_le _, rfl, fun j _ h => absurd h (by omega)⟩
  case round =>
    obtain ⟨k, hk, rfl, hall⟩ := hrel
    have HA : Hid (∀ j (h : j < s.size), j < k → valB s[j] = true) := hall
    clear hall
    by_cases hlt : k < s.size
    · cases hb : valB s[k]
      · have HN : Hid (valOk s = false) := by show valOk s = false; simp [valOk, allB_no hlt hb]
        rcases valB_false hb with h | h | ⟨h, h', h''⟩
        all_goals
          clear hb
          go_wp2
          go_ret
          exact ⟨ret_bool HN.out.symm, rfl⟩
      · have HB : Hid (valB s[k] = true) := hb
        obtain ⟨h, h', h''⟩ := valB_true hb
        all_goals
          clear hb
          go_wp2
          go_round
          case rel => exact ⟨k + 1, by omega, by go_num, upto_byte HA.out hlt HB.out⟩
          case measure => simp [intOf]; omega
    · have HN : Hid (valOk s = decide (s.size ≤ 20)) := by
        show valOk s = decide (s.size ≤ 20)
        have : allB valB s = true := (allB_iff _ _).2 fun i hi => HA.out i hi (by omega)
        simp [valOk, this]
      go_wp2
      go_ret
      exact ⟨ret_bool (by rw [HN.out]; simp; omega), rfl⟩

set_option maxHeartbeats 1000000 in
theorem isValue_any (s : ByteArray) (w : World) (hs : s.size ≤ maxLen) :
    Calls Try.prog 92 #[.string s] w fun r w' => r = .returned (.bool (valOk s)) ∧ w' = w := by
  unfold maxLen at hs
  by_cases hr : s.size ≤ 20
  case neg =>
    have HN : Hid (valOk s = false) := by show valOk s = false; simp [valOk]; omega
    have h8 : (20 : Int) < (s.size : Int) := by omega
    go_enter Try.func92, Try.ntmps92
    go_wp2
    go_ret
    exact ⟨ret_bool HN.out.symm, rfl⟩
  case pos =>
  have h8 : ¬ (20 : Int) < (s.size : Int) := by omega
  go_enter Try.func92, Try.ntmps92
  go_wp2
  go_loop [10] (fun i => ∃ k : Nat, k ≤ s.size ∧ i = .int .i64 k ∧ ∀ j (h : j < s.size), j < k → valB s[j] = true) (fun i => s.size - (intOf i).toNat)
  case atStart => exact ⟨0, Nat.zero_le _, rfl, fun j _ h => absurd h (by omega)⟩
  case round =>
    obtain ⟨k, hk, rfl, hall⟩ := hrel
    have HA : Hid (∀ j (h : j < s.size), j < k → valB s[j] = true) := hall
    clear hall
    by_cases hlt : k < s.size
    · cases hb : valB s[k]
      · have HN : Hid (valOk s = false) := by show valOk s = false; simp [valOk, allB_no hlt hb]
        rcases valB_false hb with h | h | ⟨h, h', h''⟩
        all_goals
          clear hb
          go_wp2
          go_ret
          exact ⟨ret_bool HN.out.symm, rfl⟩
      · have HB : Hid (valB s[k] = true) := hb
        obtain ⟨h, h', h''⟩ := valB_true hb
        all_goals
          clear hb
          go_wp2
          go_round
          case rel => exact ⟨k + 1, by omega, by go_num, upto_byte HA.out hlt HB.out⟩
          case measure => simp [intOf]; omega
    · have HN : Hid (valOk s = true) := by
        show valOk s = true
        have : allB valB s = true := (allB_iff _ _).2 fun i hi => HA.out i hi (by omega)
        simp [valOk, this]; omega
      go_wp2
      go_ret
      exact ⟨ret_bool HN.out.symm, rfl⟩
end Go.Proofs.Ytnglgndocmkbfaa
