/- The contract of l1Has. -/
import Derived.Test.YtaofolbnommpgaaMgA
namespace Go.Proofs.Ytaofolbnommpgaa
open Go.RowKit
set_option linter.unusedVariables false
/-- t is one of the first k. -/
def hasN (T : Nat → Int) (t : Int) : Nat → Bool
  | 0 => false
  | k + 1 => hasN T t k || T k == t
theorem hasN_iff {T : Nat → Int} {t : Int} : ∀ {k : Nat}, hasN T t k = true ↔ ∃ j, j < k ∧ T j = t
  | 0 => by simp [hasN]
  | k + 1 => by
    simp only [hasN, Bool.or_eq_true, hasN_iff (k := k), beq_iff_eq]
    constructor
    · rintro (⟨j, h1, h2⟩ | h)
      · exact ⟨j, by omega, h2⟩
      · exact ⟨k, by omega, h⟩
    · rintro ⟨j, h1, h2⟩
      by_cases e : j = k
      · subst e; exact Or.inr h2
      · exact Or.inl ⟨j, by omega, h2⟩
set_option maxHeartbeats 1000000 in
theorem l1Has_any (a : Option Addr) (n cap : Nat) (X : Nat → Int) (t : Int) (w : World) (hn : n ≤ 1073741824) (hs : Sl w a n 1 (intF X)) :
    Calls Try.prog 90 #[.slice a n cap, .int .i64 t] w fun r w' => r = .returned (.bool (hasN X t n)) ∧ w' = w := by
  have HS : Hid (Sl w a n 1 (intF X)) := hs
  clear hs
  go_enter Try.func90, Try.ntmps90
  go_wp2
  go_loop [9] (fun i => ∃ k : Nat, k ≤ n ∧ i = .int .i64 k ∧ hasN X t k = false) (fun i => n - (intOf i).toNat)
  case atStart => exact ⟨0, Nat.zero_le _, rfl, rfl⟩
  case round =>
    obtain ⟨k, hk, rfl, hall⟩ := hrel
    have HH : Hid (hasN X t k = false) := hall
    clear hall
    by_cases hlt : k < n
    · rcases HS.out with h | ⟨b, off, rfl, hbs, hE⟩
      · omega
      have hlt' : (k : Int) < (n : Int) := by omega
      have c0 := int_cell hE hlt
      clear hE
      cases hc : (X k == t)
      · go_wp2
        go_round
        case rel => exact ⟨k + 1, by omega, by go_num, by simp only [hasN, HH.out, hc]; rfl⟩
        case measure => simp [intOf]; omega
      · have HN : Hid (hasN X t n = true) := hasN_iff.2 ⟨k, hlt, by simpa using hc⟩
        go_wp2
        go_ret
        exact ⟨ret_bool HN.out.symm, rfl⟩
    · have hkn : k = n := by omega
      subst hkn
      go_wp2
      go_ret
      exact ⟨ret_bool HH.out.symm, rfl⟩
end Go.Proofs.Ytaofolbnommpgaa
