/- Draws: the cursor's wide. -/
import Derived.Test.YtbklhmeaoigneaaDr
namespace Go.Proofs.Ytbklhmeaoigneaa
open Go.RowKit
set_option linter.unusedVariables false

set_option maxHeartbeats 1000000 in
theorem wide_any (g : Nat) (a : Option Addr) (n cap : Nat) (X : Nat → Int) (t : Nat) (w : World) (ht : t ≤ 999990) (hc : Cur w g a n cap X t) :
    Calls Try.prog 59 #[.pointer (some ⟨g, 0, none⟩)] w fun r w' => ∃ x : Int, r = .returned (.int .i64 x) ∧ Drew g a n cap X (t + 8) w w' := by
  have HC : Hid (Cur w g a n cap X t) := hc
  clear hc
  go_enter Try.func59, Try.ntmps59
  go_wp2
  go_loopw [4, 3] (fun i v wr => ∃ (k : Nat) (y : Int), k ≤ 8 ∧ i = .int .i64 k ∧ v = .int .i64 y ∧ Drew g a n cap X (t + k) w wr) (fun i _ _ => 8 - (intOf i).toNat)
  case atStart => exact ⟨0, 0, by omega, rfl, rfl, Drew.refl HC.out⟩
  case round =>
    obtain ⟨k, y, hk, rfl, rfl, hd⟩ := hrel
    have H1 : Hid (Drew g a n cap X (t + k) w wr) := hd
    clear hd HC
    by_cases hlt : k < 8
    · have hlt' : (k : Int) < 8 := by omega
      go_wp2_with fail
      refine (curNext_any _ _ _ _ _ _ _ (by omega) H1.out.1).mono ?_
      rintro r w2 ⟨x, hx, rfl, hd⟩
      have H2 : Hid (Drew g a n cap X (t + (k + 1)) w w2) := H1.out.trans hd
      clear hd H1
      go_wp2
      go_roundw
      case rel => exact ⟨k + 1, _, by omega, by go_num, rfl, H2.out⟩
      case measure => simp [intOf]; omega
    · have h8 : k = 8 := by omega
      subst h8
      go_wp2
      go_ret
      exact ⟨y, rfl, H1.out⟩
end Go.Proofs.Ytbklhmeaoigneaa
