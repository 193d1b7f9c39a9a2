/- The draw of events as a list: DrawGoodEvents, DrawLamportOf; the law's own sameInts; what is ahead has a lesser number. -/
import Derived.Test.YtjophhiccbkpjaaDrE
import Derived.Test.YtjophhiccbkpjaaVcS
import Derived.Deep.QuietTactic
import Derived.BigQuiet
namespace Go.Proofs.Ytjophhiccbkpjaa
open Go.RowKit
set_option linter.unusedVariables false

theorem par_lam {K P M : Nat → Int} {k t : Nat} (hp : own P k = t + 1 ∨ snt K M k = t + 1) : lam K P M (t + 1) < lam K P M (k + 1) := by
  rw [lam_succ K P M k]
  rcases hp with hp | hp
  · rw [hp]; omega
  · rw [hp]; omega
theorem Rch.lam_le {K P M : Nat → Int} {j t : Nat} (h : Rch K P M j t) : lam K P M (t + 1) ≤ lam K P M (j + 1) := by
  induction h with
  | refl => exact Int.le_refl _
  | step h hp ih => exact Int.le_trans (Int.le_of_lt (par_lam hp)) ih
theorem Rch.lam_lt {K P M : Nat → Int} {j t : Nat} (h : Rch K P M j t) (hne : t ≠ j) : lam K P M (t + 1) < lam K P M (j + 1) := by
  cases h with
  | refl => exact absurd rfl hne
  | step h hp => exact Int.lt_of_lt_of_le (par_lam hp) h.lam_le
/-- Lamport's clock condition. -/
theorem ahd_lam {K P M : Nat → Int} {i j : Nat} (h : ahd K P M i j = true) : lam K P M (i + 1) < lam K P M (j + 1) := by
  simp only [ahd, Bool.and_eq_true, Bool.not_eq_true', decide_eq_false_iff_not] at h
  exact (mkd_rch h.2).lam_lt h.1

def EvsPost (w : World) (r : Ending) (w' : World) : Prop := ∃ (a4 : Option Addr) (k cap4 : Nat) (K P M : Nat → Int), k ≤ 62 ∧ k ≤ cap4 ∧ r = .returned (.slice a4 k cap4) ∧ Sl w' a4 k 3 (evF K P M) ∧ (∀ i, i < k → -9223372036854775808 ≤ M i ∧ M i ≤ 9223372036854775807) ∧ Below w.heap.size w w'
set_option maxRecDepth 100000 in
set_option maxHeartbeats 1000000 in
theorem drawGoodEvents_any (a : Option Addr) (n cap : Nat) (X : Nat → Int) (w : World) (hn : n ≤ 9223372036854775807) (hs : Sl w a n 1 (byF X)) (hX : ∀ i, i < n → 0 ≤ X i ∧ X i ≤ 255) :
    Calls Try.prog 52 #[.slice a n cap] w (EvsPost w) := by
  have H0 : Hid (Cur (w.alloc (.cells #[.slice a n cap, .int .i64 0, .int .u64 0] 91)) w.heap.size a n cap X 0 ∧ Below w.heap.size w (w.alloc (.cells #[.slice a n cap, .int .i64 0, .int .u64 0] 91))) := ⟨Cur.new _ hs hn hX, Go.Joins.below_alloc1 _ _⟩
  clear hs hX
  go_enter Try.func52, Try.ntmps52
  go_wp2_with fail
  refine (events_any _ _ _ _ _ _ _ (by omega) H0.out.1).mono ?_
  rintro r w1 ⟨v, k, hk, rfl, ⟨K, P, M, ho, hM⟩, hd⟩
  obtain ⟨a4, cap4, rfl, hc4, hx⟩ := SRow.of ho
  have HF : Hid (EvsPost w (.returned (.slice a4 k cap4)) w1) := ⟨a4, k, cap4, K, P, M, hk, hc4, rfl, hx.sl, fun i hi => by have := hM i hi; omega, below_trn H0.out.2 hd.2 (Nat.le_refl _)⟩
  clear ho hM hd hx
  go_wp2
  go_ret
  exact HF.out
set_option maxRecDepth 100000 in
set_option maxHeartbeats 1000000 in
theorem drawLamport_any (a : Option Addr) (n cap : Nat) (X : Nat → Int) (w : World) (hn : n ≤ 9223372036854775807) (hs : Sl w a n 1 (byF X)) (hX : ∀ i, i < n → 0 ≤ X i ∧ X i ≤ 255) :
    Calls Try.prog 14 #[.slice a n cap] w (EvsPost w) := by
  have HS : Hid (Sl w a n 1 (byF X) ∧ ∀ i, i < n → 0 ≤ X i ∧ X i ≤ 255) := ⟨hs, hX⟩
  clear hs hX
  go_enter Try.func14, Try.ntmps14
  go_wp2_with fail
  refine (drawGoodEvents_any _ _ _ X _ hn HS.out.1 HS.out.2).mono ?_
  rintro r w1 ⟨a4, k, cap4, K, P, M, h1, h2, rfl, h3⟩
  have HF : Hid (EvsPost w (.returned (.slice a4 k cap4)) w1) := ⟨a4, k, cap4, K, P, M, h1, h2, rfl, h3⟩
  clear h1 h2 h3
  go_wp2
  go_ret
  exact HF.out
set_option maxHeartbeats 1000000 in
theorem sameInts_same (a a' : Option Addr) (n cap cap' : Nat) (X : Nat → Int) (w : World) (hn : n ≤ 1048576) (hs : Sl w a n 1 (intF X)) (hs' : Sl w a' n 1 (intF X)) :
    Calls Try.prog 17 #[.slice a n cap, .slice a' n cap'] w fun r w' => r = .returned (.bool true) ∧ Below w.heap.size w w' := by
  go_enter Try.func17, Try.ntmps17
  go_wp2
  go_loopw [13] (fun i wr => ∃ k : Nat, k ≤ n ∧ i = .int .i64 k ∧ Below w.heap.size w wr) (fun i _ => n - (intOf i).toNat)
  case atStart => exact ⟨0, Nat.zero_le _, rfl, Below.refl _ _⟩
  case round =>
    obtain ⟨k, hk, rfl, hBr⟩ := hrel
    by_cases hlt : k < n
    · rcases hs.below hBr (Nat.le_refl _) with h | ⟨b, off, rfl, hbs, hE⟩
      · omega
      rcases hs'.below hBr (Nat.le_refl _) with h | ⟨b', off', rfl, hbs', hE'⟩
      · omega
      have hc := int_cell hE hlt
      have hc' := int_cell hE' hlt
      have hlt' : (k : Int) < (n : Int) := by omega
      have HB : Hid (Below w.heap.size w wr) := hBr
      clear hs hs' hE hE' hBr
      go_upto_region 6 with fail
      go_quiet (fail)
      go_wp2
      go_roundw
      case rel => exact ⟨k + 1, by omega, by go_num, below_drewN HB.out _⟩
      case measure => simp [intOf]; omega
    · have hkn : k = n := by omega
      subst hkn
      clear hs hs'
      go_wp2
      go_ret
      exact ⟨rfl, hBr⟩
end Go.Proofs.Ytjophhiccbkpjaa
