/- The contracts of isCall, haveLikeTimes, endsAhead, endsAheadOfOwn, overlap, and of the specification's l7Overlap. -/
import Derived.Test.YtkniokbioggkeaaCaG
import Derived.Test.YtkniokbioggkeaaRg2
import Derived.Deep.RegionWith
import Derived.Deep.DeepCutAuto
namespace Go.Proofs.Ytkniokbioggkeaa
open Go.RowKit
set_option linter.unusedVariables false

set_option maxRecDepth 100000 in
set_option maxHeartbeats 4000000 in
theorem endsAhead_any (a b : CallV) (w : World) :
    Calls Try.prog 35 #[.agg #[.int .i64 a.f0, .bool a.f1, .string a.f2, .string a.f3, .int .i64 a.f4, .int .i64 a.f5], .agg #[.int .i64 b.f0, .bool b.f1, .string b.f2, .string b.f3, .int .i64 b.f4, .int .i64 b.f5]] w fun r w' => r = .returned (.bool (endB a b)) ∧ Below w.heap.size w w' := by
  obtain ⟨x0, x1, x2, x3, x4, x5⟩ := a
  obtain ⟨y0, y1, y2, y3, y4, y5⟩ := b
  go_enter Try.func35, Try.ntmps35
  go_wp2
  go_ret
  exact ⟨rfl, (by repeat (first | refine Below.setCell ?_ (by (try simp) <;> omega) _ | refine Below.alloc ?_ (by (try simp) <;> omega) _ | refine Below.drew ?_ | assumption | exact Below.refl _ _ | refine Below.trans ?_ (Below.mono (by assumption) (by (try simp) <;> omega))))⟩

set_option maxRecDepth 100000 in
set_option maxHeartbeats 4000000 in
theorem l7Overlap_any (a b : CallV) (w : World) :
    Calls Try.prog 54 #[.agg #[.int .i64 a.f0, .bool a.f1, .string a.f2, .string a.f3, .int .i64 a.f4, .int .i64 a.f5], .agg #[.int .i64 b.f0, .bool b.f1, .string b.f2, .string b.f3, .int .i64 b.f4, .int .i64 b.f5]] w fun r w' => r = .returned (.bool (lapB a b)) ∧ Below w.heap.size w w' := by
  obtain ⟨x0, x1, x2, x3, x4, x5⟩ := a
  obtain ⟨y0, y1, y2, y3, y4, y5⟩ := b
  by_cases h1 : x4 < y5
  · by_cases h2 : y4 < x5
    · go_enter Try.func54, Try.ntmps54
      go_wp2
      go_ret
      exact ⟨ret_bool (by simp [lapB, h1, h2]), (by repeat (first | refine Below.setCell ?_ (by (try simp) <;> omega) _ | refine Below.alloc ?_ (by (try simp) <;> omega) _ | refine Below.drew ?_ | assumption | exact Below.refl _ _ | refine Below.trans ?_ (Below.mono (by assumption) (by (try simp) <;> omega))))⟩
    · go_enter Try.func54, Try.ntmps54
      go_wp2
      go_ret
      exact ⟨ret_bool (by simp [lapB, h1, h2]), (by repeat (first | refine Below.setCell ?_ (by (try simp) <;> omega) _ | refine Below.alloc ?_ (by (try simp) <;> omega) _ | refine Below.drew ?_ | assumption | exact Below.refl _ _ | refine Below.trans ?_ (Below.mono (by assumption) (by (try simp) <;> omega))))⟩
  · go_enter Try.func54, Try.ntmps54
    go_wp2
    go_ret
    exact ⟨ret_bool (by simp [lapB]; omega), (by repeat (first | refine Below.setCell ?_ (by (try simp) <;> omega) _ | refine Below.alloc ?_ (by (try simp) <;> omega) _ | refine Below.drew ?_ | assumption | exact Below.refl _ _ | refine Below.trans ?_ (Below.mono (by assumption) (by (try simp) <;> omega))))⟩

set_option maxRecDepth 100000 in
set_option maxHeartbeats 4000000 in
theorem haveLikeTimes_any (a b : CallV) (w : World) :
    Calls Try.prog 57 #[.agg #[.int .i64 a.f0, .bool a.f1, .string a.f2, .string a.f3, .int .i64 a.f4, .int .i64 a.f5], .agg #[.int .i64 b.f0, .bool b.f1, .string b.f2, .string b.f3, .int .i64 b.f4, .int .i64 b.f5]] w fun r w' => r = .returned (.bool (likeB a b)) ∧ Below w.heap.size w w' := by
  obtain ⟨x0, x1, x2, x3, x4, x5⟩ := a
  obtain ⟨y0, y1, y2, y3, y4, y5⟩ := b
  have HC : Hid (likeB ⟨x0, x1, x2, x3, x4, x5⟩ ⟨y0, y1, y2, y3, y4, y5⟩ = ((x4 == y4) || ((x4 == y5) || ((x5 == y4) || (x5 == y5))))) := rfl
  cases h1 : (x4 == y4)
  · cases h2 : (x4 == y5)
    · cases h3 : (x5 == y4)
      · cases h4 : (x5 == y5)
        all_goals
          go_enter Try.func57, Try.ntmps57
          go_wp2
          go_ret
          exact ⟨ret_bool (by rw [HC.out, h1, h2, h3, h4]; rfl), (by repeat (first | refine Below.setCell ?_ (by (try simp) <;> omega) _ | refine Below.alloc ?_ (by (try simp) <;> omega) _ | refine Below.drew ?_ | assumption | exact Below.refl _ _ | refine Below.trans ?_ (Below.mono (by assumption) (by (try simp) <;> omega))))⟩
      · go_enter Try.func57, Try.ntmps57
        go_wp2
        go_ret
        exact ⟨ret_bool (by rw [HC.out, h1, h2, h3]; rfl), (by repeat (first | refine Below.setCell ?_ (by (try simp) <;> omega) _ | refine Below.alloc ?_ (by (try simp) <;> omega) _ | refine Below.drew ?_ | assumption | exact Below.refl _ _ | refine Below.trans ?_ (Below.mono (by assumption) (by (try simp) <;> omega))))⟩
    · go_enter Try.func57, Try.ntmps57
      go_wp2
      go_ret
      exact ⟨ret_bool (by rw [HC.out, h1, h2]; rfl), (by repeat (first | refine Below.setCell ?_ (by (try simp) <;> omega) _ | refine Below.alloc ?_ (by (try simp) <;> omega) _ | refine Below.drew ?_ | assumption | exact Below.refl _ _ | refine Below.trans ?_ (Below.mono (by assumption) (by (try simp) <;> omega))))⟩
  · go_enter Try.func57, Try.ntmps57
    go_wp2
    go_ret
    exact ⟨ret_bool (by rw [HC.out, h1]; rfl), (by repeat (first | refine Below.setCell ?_ (by (try simp) <;> omega) _ | refine Below.alloc ?_ (by (try simp) <;> omega) _ | refine Below.drew ?_ | assumption | exact Below.refl _ _ | refine Below.trans ?_ (Below.mono (by assumption) (by (try simp) <;> omega))))⟩

set_option maxRecDepth 100000 in
set_option maxHeartbeats 4000000 in
theorem isCall_any (v : CallV) (w : World) (h1 : v.f2.size ≤ maxLen) (h2 : v.f3.size ≤ maxLen) :
    Calls Try.prog 56 #[.agg #[.int .i64 v.f0, .bool v.f1, .string v.f2, .string v.f3, .int .i64 v.f4, .int .i64 v.f5]] w fun r w' => r = .returned (.bool (callOk v)) ∧ Below w.heap.size w w' := by
  obtain ⟨x0, x1, x2, x3, x4, x5⟩ := v
  simp only at h1 h2
  have HC : Hid (callOk ⟨x0, x1, x2, x3, x4, x5⟩ = (inR x0 0 9 && (keyOk x2 && (valOk x3 && (decide (0 ≤ x4) && (decide (x4 < x5) && decide (x5 ≤ 999999))))))) := rfl
  cases e0 : inR x0 0 9
  · go_enter Try.func56, Try.ntmps56
    go_wp2_with (first
      | (go_at_call 73; refine (inRange_any _ _ _ _).mono ?_; rintro e w' ⟨rfl, rfl⟩)
      | (go_at_call 37; refine (isKey_any _ _ h1).mono ?_; rintro e w' ⟨rfl, rfl⟩)
      | (go_at_call 74; refine (isValue_any _ _ h2).mono ?_; rintro e w' ⟨rfl, rfl⟩))
    go_ret
    exact ⟨ret_bool (by rw [HC.out, e0]; rfl), (by repeat (first | refine Below.setCell ?_ (by (try simp) <;> omega) _ | refine Below.alloc ?_ (by (try simp) <;> omega) _ | refine Below.drew ?_ | assumption | exact Below.refl _ _ | refine Below.trans ?_ (Below.mono (by assumption) (by (try simp) <;> omega))))⟩
  cases e1 : keyOk x2
  · go_enter Try.func56, Try.ntmps56
    go_wp2_with (first
      | (go_at_call 73; refine (inRange_any _ _ _ _).mono ?_; rintro e w' ⟨rfl, rfl⟩)
      | (go_at_call 37; refine (isKey_any _ _ h1).mono ?_; rintro e w' ⟨rfl, rfl⟩)
      | (go_at_call 74; refine (isValue_any _ _ h2).mono ?_; rintro e w' ⟨rfl, rfl⟩))
    go_ret
    exact ⟨ret_bool (by rw [HC.out, e0, e1]; rfl), (by repeat (first | refine Below.setCell ?_ (by (try simp) <;> omega) _ | refine Below.alloc ?_ (by (try simp) <;> omega) _ | refine Below.drew ?_ | assumption | exact Below.refl _ _ | refine Below.trans ?_ (Below.mono (by assumption) (by (try simp) <;> omega))))⟩
  cases e2 : valOk x3
  · go_enter Try.func56, Try.ntmps56
    go_wp2_with (first
      | (go_at_call 73; refine (inRange_any _ _ _ _).mono ?_; rintro e w' ⟨rfl, rfl⟩)
      | (go_at_call 37; refine (isKey_any _ _ h1).mono ?_; rintro e w' ⟨rfl, rfl⟩)
      | (go_at_call 74; refine (isValue_any _ _ h2).mono ?_; rintro e w' ⟨rfl, rfl⟩))
    go_ret
    exact ⟨ret_bool (by rw [HC.out, e0, e1, e2]; rfl), (by repeat (first | refine Below.setCell ?_ (by (try simp) <;> omega) _ | refine Below.alloc ?_ (by (try simp) <;> omega) _ | refine Below.drew ?_ | assumption | exact Below.refl _ _ | refine Below.trans ?_ (Below.mono (by assumption) (by (try simp) <;> omega))))⟩
  by_cases e3 : 0 ≤ x4
  case neg =>
    go_enter Try.func56, Try.ntmps56
    go_wp2_with (first
      | (go_at_call 73; refine (inRange_any _ _ _ _).mono ?_; rintro e w' ⟨rfl, rfl⟩)
      | (go_at_call 37; refine (isKey_any _ _ h1).mono ?_; rintro e w' ⟨rfl, rfl⟩)
      | (go_at_call 74; refine (isValue_any _ _ h2).mono ?_; rintro e w' ⟨rfl, rfl⟩))
    go_ret
    exact ⟨ret_bool (by rw [HC.out, e0, e1, e2, decide_eq_false (by omega)]; rfl), (by repeat (first | refine Below.setCell ?_ (by (try simp) <;> omega) _ | refine Below.alloc ?_ (by (try simp) <;> omega) _ | refine Below.drew ?_ | assumption | exact Below.refl _ _ | refine Below.trans ?_ (Below.mono (by assumption) (by (try simp) <;> omega))))⟩
  by_cases e4 : x4 < x5
  case neg =>
    go_enter Try.func56, Try.ntmps56
    go_wp2_with (first
      | (go_at_call 73; refine (inRange_any _ _ _ _).mono ?_; rintro e w' ⟨rfl, rfl⟩)
      | (go_at_call 37; refine (isKey_any _ _ h1).mono ?_; rintro e w' ⟨rfl, rfl⟩)
      | (go_at_call 74; refine (isValue_any _ _ h2).mono ?_; rintro e w' ⟨rfl, rfl⟩))
    go_ret
    exact ⟨ret_bool (by rw [HC.out, e0, e1, e2, decide_eq_true e3, decide_eq_false (by omega)]; rfl), (by repeat (first | refine Below.setCell ?_ (by (try simp) <;> omega) _ | refine Below.alloc ?_ (by (try simp) <;> omega) _ | refine Below.drew ?_ | assumption | exact Below.refl _ _ | refine Below.trans ?_ (Below.mono (by assumption) (by (try simp) <;> omega))))⟩
  by_cases e5 : x5 ≤ 999999
  all_goals
    go_enter Try.func56, Try.ntmps56
    go_wp2_with (first
      | (go_at_call 73; refine (inRange_any _ _ _ _).mono ?_; rintro e w' ⟨rfl, rfl⟩)
      | (go_at_call 37; refine (isKey_any _ _ h1).mono ?_; rintro e w' ⟨rfl, rfl⟩)
      | (go_at_call 74; refine (isValue_any _ _ h2).mono ?_; rintro e w' ⟨rfl, rfl⟩))
    go_ret
    exact ⟨ret_bool (by rw [HC.out, e0, e1, e2, decide_eq_true e3, decide_eq_true e4]; simp <;> omega), (by repeat (first | refine Below.setCell ?_ (by (try simp) <;> omega) _ | refine Below.alloc ?_ (by (try simp) <;> omega) _ | refine Below.drew ?_ | assumption | exact Below.refl _ _ | refine Below.trans ?_ (Below.mono (by assumption) (by (try simp) <;> omega))))⟩

set_option maxRecDepth 100000 in
set_option maxHeartbeats 4000000 in
theorem overlap_any (a b : CallV) (w : World) :
    Calls Try.prog 58 #[.agg #[.int .i64 a.f0, .bool a.f1, .string a.f2, .string a.f3, .int .i64 a.f4, .int .i64 a.f5], .agg #[.int .i64 b.f0, .bool b.f1, .string b.f2, .string b.f3, .int .i64 b.f4, .int .i64 b.f5]] w fun r w' => r = .returned (.bool (ovlB a b)) ∧ Below w.heap.size w w' := by
  have hA := (Bx.new w [.int .i64 a.f0, .bool a.f1, .string a.f2, .string a.f3, .int .i64 a.f4, .int .i64 a.f5] 28).alloc (.cells #[.int .i64 b.f0, .bool b.f1, .string b.f2, .string b.f3, .int .i64 b.f4, .int .i64 b.f5] 28)
  have hB := Bx.new (w.alloc (.cells #[.int .i64 a.f0, .bool a.f1, .string a.f2, .string a.f3, .int .i64 a.f4, .int .i64 a.f5] 28)) [.int .i64 b.f0, .bool b.f1, .string b.f2, .string b.f3, .int .i64 b.f4, .int .i64 b.f5] 28
  rw [World.size_alloc] at hB
  have H0 : Hid (Bx ((w.alloc (.cells #[.int .i64 a.f0, .bool a.f1, .string a.f2, .string a.f3, .int .i64 a.f4, .int .i64 a.f5] 28)).alloc (.cells #[.int .i64 b.f0, .bool b.f1, .string b.f2, .string b.f3, .int .i64 b.f4, .int .i64 b.f5] 28)) w.heap.size [.int .i64 a.f0, .bool a.f1, .string a.f2, .string a.f3, .int .i64 a.f4, .int .i64 a.f5] ∧ Bx ((w.alloc (.cells #[.int .i64 a.f0, .bool a.f1, .string a.f2, .string a.f3, .int .i64 a.f4, .int .i64 a.f5] 28)).alloc (.cells #[.int .i64 b.f0, .bool b.f1, .string b.f2, .string b.f3, .int .i64 b.f4, .int .i64 b.f5] 28)) (w.heap.size + 1) [.int .i64 b.f0, .bool b.f1, .string b.f2, .string b.f3, .int .i64 b.f4, .int .i64 b.f5] ∧ Below w.heap.size w ((w.alloc (.cells #[.int .i64 a.f0, .bool a.f1, .string a.f2, .string a.f3, .int .i64 a.f4, .int .i64 a.f5] 28)).alloc (.cells #[.int .i64 b.f0, .bool b.f1, .string b.f2, .string b.f3, .int .i64 b.f4, .int .i64 b.f5] 28))) := ⟨hA, hB, below_nx (Go.Joins.below_alloc1 _ _) (Go.Joins.below_alloc1 _ _)⟩
  have HC : Hid (ovlB a b = (!endB a b && !endB b a)) := rfl
  clear hA hB
  go_enter Try.func58, Try.ntmps58
  go_wp2_with fail
  refine (endsAhead_any a b _).mono ?_
  rintro r w1 ⟨rfl, hb⟩
  have H1 : Hid (Bx w1 w.heap.size [.int .i64 a.f0, .bool a.f1, .string a.f2, .string a.f3, .int .i64 a.f4, .int .i64 a.f5] ∧ Bx w1 (w.heap.size + 1) [.int .i64 b.f0, .bool b.f1, .string b.f2, .string b.f3, .int .i64 b.f4, .int .i64 b.f5] ∧ Below w.heap.size w w1) := ⟨H0.out.1.next hb, H0.out.2.1.next hb, below_nx H0.out.2.2 hb⟩
  clear H0 hb
  have s0 := (H1.out.1).cell 0 rfl; have s1 := (H1.out.1).cell 1 rfl; have s2 := (H1.out.1).cell 2 rfl; have s3 := (H1.out.1).cell 3 rfl; have s4 := (H1.out.1).cell 4 rfl; have s5 := (H1.out.1).cell 5 rfl; have sz := (H1.out.1).2
  have t0 := (H1.out.2.1).cell 0 rfl; have t1 := (H1.out.2.1).cell 1 rfl; have t2 := (H1.out.2.1).cell 2 rfl; have t3 := (H1.out.2.1).cell 3 rfl; have t4 := (H1.out.2.1).cell 4 rfl; have t5 := (H1.out.2.1).cell 5 rfl; have tz := (H1.out.2.1).2
  cases e1 : endB a b
  · go_wp2_with fail
    refine (endsAhead_any b a _).mono ?_
    rintro r w2 ⟨rfl, hb⟩
    have HE : Hid (Below w.heap.size w w2) := below_nx H1.out.2.2 hb
    clear hb H1
    go_wp2
    go_ret
    exact ⟨ret_bool (by rw [HC.out, e1]; rfl), HE.out⟩
  · go_wp2
    go_ret
    exact ⟨ret_bool (by rw [HC.out, e1]; rfl), H1.out.2.2⟩
end Go.Proofs.Ytkniokbioggkeaa
