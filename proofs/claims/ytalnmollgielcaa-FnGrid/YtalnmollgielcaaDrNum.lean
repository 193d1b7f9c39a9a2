/- The law's own numberOf and sameInts. -/
import Derived.Test.YtalnmollgielcaaDr
import Derived.Test.YtalnmollgielcaaRowS
import Derived.Deep.QuietTactic
import Derived.BigQuiet
namespace Go.Proofs.Ytalnmollgielcaa
open Go.RowKit
set_option linter.unusedVariables false

set_option maxHeartbeats 1000000 in
theorem numberOf_any (a : Option Addr) (n cap : Nat) (X : Nat → Int) (w : World) (hn : n ≤ 9223372036854775807) (hs : Sl w a n 1 (byF X)) (hX : ∀ i, i < n → 0 ≤ X i ∧ X i ≤ 255) :
    Calls Try.prog 35 #[.slice a n cap] w fun r w' => ∃ v : Nat, v < 1000003 ∧ r = .returned (.int .i64 v) ∧ Below w.heap.size w w' := by
  go_enter Try.func35, Try.ntmps35
  go_wp2
  go_loopw [8, 3] (fun x y wr => ∃ i v : Nat, i ≤ n ∧ v < 1000003 ∧ x = .int .i64 i ∧ y = .int .i64 v ∧ Below w.heap.size w wr) (fun x _ _ => n - (intOf x).toNat)
  case atStart => exact ⟨0, 0, Nat.zero_le _, by omega, rfl, rfl, Below.refl _ _⟩
  case round =>
    obtain ⟨i, v, hi, hv, rfl, rfl, hBr⟩ := hrel
    by_cases hin : i < n
    · have hin' : (i : Int) < (n : Int) := by omega
      rcases hs.below hBr (Nat.le_refl _) with h | ⟨b, off, rfl, hbs, hE⟩
      · omega
      have hc := hE i hin 0 (by omega)
      rw [Nat.mul_one, Nat.add_zero] at hc
      have hxi := hX i hin
      obtain ⟨x, hx⟩ : ∃ x : Nat, X i = (x : Int) := ⟨(X i).toNat, by omega⟩
      have hc' : wr.cell? ⟨b, off + i, none⟩ = some (.int .u8 (x : Int)) := by rw [hc]; show some (byF X i 0) = _; simp [byF, hx]
      have HB : Hid (Below w.heap.size w wr) := hBr
      have hx255 : x ≤ 255 := by omega
      clear hc hE hs hX hxi hx hBr
      go_wp2
      go_roundw
      case rel => exact ⟨i + 1, (31 * v + x) % 1000003, by omega, Nat.mod_lt _ (by omega), by go_num, by congr 1, HB.out⟩
      case measure => simp [intOf]; omega
    · have hin' : ¬ (i : Int) < (n : Int) := by omega
      clear hs hX
      go_wp2
      go_ret
      exact ⟨v, hv, rfl, hBr⟩
set_option maxHeartbeats 1000000 in
theorem sameInts_same (a a' : Option Addr) (n cap cap' : Nat) (X : Nat → Int) (w : World) (hn : n ≤ 1048576) (hs : Sl w a n 1 (intF X)) (hs' : Sl w a' n 1 (intF X)) :
    Calls Try.prog 34 #[.slice a n cap, .slice a' n cap'] w fun r w' => r = .returned (.bool true) ∧ Below w.heap.size w w' := by
  go_enter Try.func34, Try.ntmps34
  go_wp2
  go_loopw [13] (fun i wr => ∃ k : Nat, k ≤ n ∧ i = .int .i64 k ∧ Below w.heap.size w wr) (fun i _ => n - (intOf i).toNat)
  case atStart => exact ⟨0, Nat.zero_le _, rfl, Below.refl _ _⟩
  case round =>
    obtain ⟨k, hk, rfl, hBr⟩ := hrel
    by_cases hlt : k < n
    · rcases hs.below hBr (Nat.le_refl _) with h | ⟨b, off, rfl, hbs, hE⟩
      · omega
      rcases hs'.below hBr (Nat.le_refl _) with h | ⟨b', off', rfl, hbs', hE'⟩
      · omega
      have hc := int_cell hE hlt
      have hc' := int_cell hE' hlt
      have hlt' : (k : Int) < (n : Int) := by omega
      have HB : Hid (Below w.heap.size w wr) := hBr
      clear hs hs' hE hE' hBr
      go_upto_region 6 with fail
      go_quiet (fail)
      go_wp2
      go_roundw
      case rel => exact ⟨k + 1, by omega, by go_num, below_drewN HB.out _⟩
      case measure => simp [intOf]; omega
    · have hkn : k = n := by omega
      subst hkn
      clear hs hs'
      go_wp2
      go_ret
      exact ⟨rfl, hBr⟩
end Go.Proofs.Ytalnmollgielcaa
