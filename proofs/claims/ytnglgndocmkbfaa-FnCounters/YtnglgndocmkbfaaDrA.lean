/- Draws: the cursor's among. -/
import Derived.Test.YtnglgndocmkbfaaDr
namespace Go.Proofs.Ytnglgndocmkbfaa
open Go.RowKit
set_option linter.unusedVariables false

set_option maxHeartbeats 400000 in
theorem among_any (g : Nat) (a : Option Addr) (n cap : Nat) (X : Nat → Int) (t : Nat) (l lc : Nat) (y0 y1 y2 : Int) (w : World) (ht : t ≤ 999990) (hc : Cur w g a n cap X t) (hl : l ≠ g) (hls : l < w.heap.size)
    (c0 : w.cell? ⟨l, 0, none⟩ = some (.int .i64 y0)) (c1 : w.cell? ⟨l, 1, none⟩ = some (.int .i64 y1)) (c2 : w.cell? ⟨l, 2, none⟩ = some (.int .i64 y2)) :
    Calls Try.prog 109 #[.pointer (some ⟨g, 0, none⟩), .slice (some ⟨l, 0, none⟩) 3 lc] w fun r w' => ∃ x : Int, r = .returned (.int .i64 x) ∧ Drew g a n cap X (t + 2) w w' := by
  have HC : Hid (Cur w g a n cap X t) := hc
  clear hc
  go_enter Try.func109, Try.ntmps109
  go_wp2_with fail
  refine (pick_any _ _ _ _ _ _ _ _ ht (by omega) HC.out).mono ?_
  rintro r w1 ⟨x, hx, rfl, hd⟩
  have H1 : Hid (Drew g a n cap X (t + 2) w w1) := hd
  have hk := hd.2.2.2.2.2 l hls (by omega)
  have d0 := (World.cell?_of_block (a := ⟨l, 0, none⟩) hk).trans c0
  have d1 := (World.cell?_of_block (a := ⟨l, 1, none⟩) hk).trans c1
  have d2 := (World.cell?_of_block (a := ⟨l, 2, none⟩) hk).trans c2
  clear hd HC hk c0 c1 c2
  have h3 : x = 0 ∨ x = 1 ∨ x = 2 := by omega
  rcases h3 with rfl | rfl | rfl
  all_goals
    go_wp2
    go_ret
    exact ⟨_, rfl, H1.out⟩
end Go.Proofs.Ytnglgndocmkbfaa
