/- The contract of the law's own markEventS: it writes into its list alone. -/
import Derived.Test.YtgohpjjjnledlaaEv
namespace Go.Proofs.Ytgohpjjjnledlaa
open Go.RowKit
set_option linter.unusedVariables false

theorem Turned.set3 {B C g o : Nat} {a w : World} {x y z : Value} (h : Turned B C a w) (h1 : B ≤ g) (h2 : g < C) : Turned B C a (((w.setCell ⟨g, o, none⟩ x).setCell ⟨g, o + 1, none⟩ y).setCell ⟨g, o + 2, none⟩ z) :=
  ((h.set (p := ⟨g, o, none⟩) h1 h2 x).set (p := ⟨g, o + 1, none⟩) h1 h2 y).set (p := ⟨g, o + 2, none⟩) h1 h2 z
theorem Room.set3 {w : World} {g m o : Nat} {x y z : Value} (h : Room w g m) (ho : o + 2 < m) : Room (((w.setCell ⟨g, o, none⟩ x).setCell ⟨g, o + 1, none⟩ y).setCell ⟨g, o + 2, none⟩ z) g m :=
  ((h.set (by omega)).set (by omega)).set ho

set_option maxHeartbeats 1000000 in
theorem markEventS_any (g n cap : Nat) (K P M : Nat → Int) (q : Int) (w : World) (hn : n ≤ 1048576) (h0 : 0 ≤ q) (h1 : q ≤ 1099511627776) (hr : EvR w g n K P M) :
    Calls Try.prog 62 #[.slice (some ⟨g, 0, none⟩) n cap, .int .i64 q] w fun r w' => r = .returned (.int .i64 (q + 3 * n)) ∧ Turned g (g + 1) w w' := by
  go_enter Try.func62, Try.ntmps62
  go_wp2
  go_loopw [5, 1] (fun i q' wr => ∃ k : Nat, k ≤ n ∧ i = .int .i64 k ∧ q' = .int .i64 (q + 3 * k) ∧ Room wr g (n * 3) ∧ g < wr.heap.size ∧ Turned g (g + 1) w wr) (fun i _ _ => n - (intOf i).toNat)
  case atStart => exact ⟨0, Nat.zero_le _, rfl, by simp, hr.2.1, hr.2.2, Turned.refl _ _ _⟩
  case round =>
    obtain ⟨k, hk, rfl, rfl, hR, hg, ht⟩ := hrel
    by_cases hlt : k < n
    · obtain ⟨x, y, z, r0, r1, r2, f0, f1, f2⟩ := room3 hR hlt
      have hlt' : (k : Int) < (n : Int) := by omega
      have HH : Hid (Room wr g (n * 3) ∧ Turned g (g + 1) w wr) := ⟨hR, ht⟩
      clear hR ht hr
      go_wp2
      go_roundw
      case rel => exact ⟨k + 1, by omega, by go_num, by go_num, HH.out.1.set3 (by omega), by simpa using hg, HH.out.2.set3 (Nat.le_refl _) (by omega)⟩
      case measure => simp [intOf]; omega
    · have hkn : k = n := by omega
      subst hkn
      have HH : Hid (Turned g (g + 1) w wr) := ht
      clear hR ht hr
      go_wp2
      go_ret
      exact ⟨rfl, HH.out⟩
end Go.Proofs.Ytgohpjjjnledlaa
