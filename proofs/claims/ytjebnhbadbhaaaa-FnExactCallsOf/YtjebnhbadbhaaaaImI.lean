/- The contracts of IsMajority, on both sides. -/
import Derived.Test.YtjebnhbadbhaaaaGrI
namespace Go.Proofs.Ytjebnhbadbhaaaa
open Go.RowKit
set_option linter.unusedVariables false

/-- A good group that has more than half. -/
def imB (X : Nat → Int) (n : Nat) (m : Int) : Bool := grB X n m && decide (m < 2 * (n : Int))
theorem im_no {X : Nat → Int} {n : Nat} {m : Int} (h : grB X n m = false) : Ending.returned (.tuple #[.bool false, .bool false]) = .returned (.tuple #[.bool (imB X n m), .bool (grB X n m)]) := by simp [imB, h]
theorem im_yes {X : Nat → Int} {n : Nat} {m : Int} {b : Bool} (h : grB X n m = true) (hb : b = decide (m < 2 * (n : Int))) : Ending.returned (.tuple #[.bool b, .bool true]) = .returned (.tuple #[.bool (imB X n m), .bool (grB X n m)]) := by simp [imB, h, hb]

set_option maxRecDepth 100000 in
set_option maxHeartbeats 400000 in
theorem isMajority_any (a : Option Addr) (n cap : Nat) (X : Nat → Int) (m : Int) (w : World) (hn : n ≤ 1073741824) (hs : Sl w a n 1 (intF X)) :
    Calls Try.prog 99 #[.agg #[.slice a n cap], .int .i64 m] w fun r w' => r = .returned (.tuple #[.bool (imB X n m), .bool (grB X n m)]) ∧ Below w.heap.size w w' := by
  go_enter Try.func99, Try.ntmps99
  go_wp2_with fail
  have hba : Below w.heap.size w (w.alloc (.cells #[.slice a n cap] 131)) := Go.Joins.below_alloc1 _ _
  refine (goodGroup_any _ _ _ X m _ hn (hs.below hba (Nat.le_refl _))).mono ?_
  rintro r w1 ⟨rfl, hb1⟩
  have HB1 : Hid (Below w.heap.size w w1) := below_next hba hb1
  have c0 : w1.cell? ⟨w.heap.size, 0, none⟩ = some (.slice a n cap) := ((BoxS.new w (.slice a n cap) 131).next hb1).1
  have z0 : w.heap.size < w1.heap.size := ((BoxS.new w (.slice a n cap) 131).next hb1).2
  clear hb1 hba hs
  cases hg : grB X n m
  · have HN : Hid (grB X n m = false) := hg
    clear hg
    go_wp2
    go_ret2
    exact ⟨im_no HN.out, HB1.out⟩
  · have HN : Hid (grB X n m = true) := hg
    clear hg
    go_wp2
    go_ret2
    exact ⟨im_yes HN.out rfl, HB1.out⟩

end Go.Proofs.Ytjebnhbadbhaaaa
