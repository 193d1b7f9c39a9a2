/- The draw of ops as a list: DrawGoodOps, DrawRecoverableOf; the law's own sameOps. -/
import Derived.Test.YthbpjmnlgfahmaaDrO
import Derived.Deep.QuietTactic
import Derived.BigQuiet
namespace Go.Proofs.Ythbpjmnlgfahmaa
open Go.RowKit
set_option linter.unusedVariables false

def OpsPostD (w : World) (r : Ending) (w' : World) : Prop := ∃ (a4 : Option Addr) (k cap4 : Nat) (K T : Nat → Int) (S : Nat → ByteArray), k ≤ 200 ∧ k ≤ cap4 ∧ r = .returned (.slice a4 k cap4) ∧ Sl w' a4 k 3 (opF K T S) ∧ (∀ i, i < k → (S i).size ≤ 21) ∧ Below w.heap.size w w'
set_option maxRecDepth 100000 in
set_option maxHeartbeats 1000000 in
theorem drawGoodOps_any (a : Option Addr) (n cap : Nat) (X : Nat → Int) (w : World) (hn : n ≤ 9223372036854775807) (hs : Sl w a n 1 (byF X)) (hX : ∀ i, i < n → 0 ≤ X i ∧ X i ≤ 255) :
    Calls Try.prog 76 #[.slice a n cap] w (OpsPostD w) := by
  have H0 : Hid (Cur (w.alloc (.cells #[.slice a n cap, .int .i64 0, .int .u64 0] 84)) w.heap.size a n cap X 0 ∧ Below w.heap.size w (w.alloc (.cells #[.slice a n cap, .int .i64 0, .int .u64 0] 84))) := ⟨Cur.new _ hs hn hX, Go.Joins.below_alloc1 _ _⟩
  clear hs hX
  go_enter Try.func76, Try.ntmps76
  go_wp2_with fail
  refine (ops_any _ _ _ _ _ _ _ (by omega) H0.out.1).mono ?_
  rintro r w1 ⟨v, k, hk, rfl, ⟨K, T, S, ho, hS⟩, hd⟩
  obtain ⟨a4, cap4, rfl, hc4, hx⟩ := SRow.of ho
  have HF : Hid (OpsPostD w (.returned (.slice a4 k cap4)) w1) := ⟨a4, k, cap4, K, T, S, hk, hc4, rfl, hx.sl, hS, below_trn H0.out.2 hd.2 (Nat.le_refl _)⟩
  clear ho hS hd hx
  go_wp2
  go_ret
  exact HF.out
set_option maxRecDepth 100000 in
set_option maxHeartbeats 1000000 in
theorem drawRecoverable_any (a : Option Addr) (n cap : Nat) (X : Nat → Int) (w : World) (hn : n ≤ 9223372036854775807) (hs : Sl w a n 1 (byF X)) (hX : ∀ i, i < n → 0 ≤ X i ∧ X i ≤ 255) :
    Calls Try.prog 26 #[.slice a n cap] w (OpsPostD w) := by
  have HS : Hid (Sl w a n 1 (byF X) ∧ ∀ i, i < n → 0 ≤ X i ∧ X i ≤ 255) := ⟨hs, hX⟩
  clear hs hX
  go_enter Try.func26, Try.ntmps26
  go_wp2_with fail
  refine (drawGoodOps_any _ _ _ X _ hn HS.out.1 HS.out.2).mono ?_
  rintro r w1 ⟨a4, k, cap4, K, T, S, h1, h2, rfl, h3⟩
  have HF : Hid (OpsPostD w (.returned (.slice a4 k cap4)) w1) := ⟨a4, k, cap4, K, T, S, h1, h2, rfl, h3⟩
  clear h1 h2 h3
  go_wp2
  go_ret
  exact HF.out
set_option maxHeartbeats 1000000 in
theorem sameOps_same (a a' : Option Addr) (n cap cap' : Nat) (K T : Nat → Int) (S : Nat → ByteArray) (w : World) (hn : n ≤ 1048576) (hs : Sl w a n 3 (opF K T S)) (hs' : Sl w a' n 3 (opF K T S)) :
    Calls Try.prog 34 #[.slice a n cap, .slice a' n cap'] w fun r w' => r = .returned (.bool true) ∧ Below w.heap.size w w' := by
  go_enter Try.func34, Try.ntmps34
  go_wp2
  go_loopw [13] (fun i wr => ∃ k : Nat, k ≤ n ∧ i = .int .i64 k ∧ Below w.heap.size w wr) (fun i _ => n - (intOf i).toNat)
  case atStart => exact ⟨0, Nat.zero_le _, rfl, Below.refl _ _⟩
  case round =>
    obtain ⟨k, hk, rfl, hBr⟩ := hrel
    by_cases hlt : k < n
    · rcases hs.below hBr (Nat.le_refl _) with h | ⟨b, off, rfl, hbs, hE⟩
      · omega
      rcases hs'.below hBr (Nat.le_refl _) with h | ⟨b', off', rfl, hbs', hE'⟩
      · omega
      obtain ⟨c0, c1, c2⟩ := op_cells hE hlt
      obtain ⟨d0, d1, d2⟩ := op_cells hE' hlt
      have hlt' : (k : Int) < (n : Int) := by omega
      have HB : Hid (Below w.heap.size w wr) := hBr
      generalize K k = x at *
      generalize T k = y at *
      generalize S k = s at *
      clear hs hs' hE hE' hBr
      go_upto_region 6 with fail
      go_quiet (fail)
      go_wp2
      go_roundw
      case rel => exact ⟨k + 1, by omega, by go_num, below_drewN HB.out _⟩
      case measure => simp [intOf]; omega
    · have hkn : k = n := by omega
      subst hkn
      clear hs hs'
      go_wp2
      go_ret
      exact ⟨rfl, hBr⟩
end Go.Proofs.Ythbpjmnlgfahmaa
