/- The contracts of isEntry, versionOf and entryOf, and of the specification's l6Entry. -/
import Derived.Test.YtiepfdkfadbllaaLgG
import Derived.Test.YtiepfdkfadbllaaRg
import Derived.Deep.RegionWith
import Derived.Deep.DeepCutAuto
import Derived.ChangeKeysEq
namespace Go.Proofs.Ytiepfdkfadbllaa
open Go.RowKit
set_option linter.unusedVariables false

set_option maxRecDepth 100000 in
set_option maxHeartbeats 4000000 in
theorem isEntry_any (v : EntryV) (w : World) (h1 : v.f1.size ≤ maxLen) (h2 : v.f2.size ≤ maxLen) :
    Calls Try.prog 49 #[.agg #[.int .i64 v.f0, .string v.f1, .string v.f2, .int .i64 v.f3, .int .i64 v.f4, .bool v.f5]] w fun r w' => r = .returned (.bool (entOk v)) ∧ Below w.heap.size w w' := by
  obtain ⟨x0, x1, x2, x3, x4, x5⟩ := v
  simp only at h1 h2
  have HC : Hid (entOk ⟨x0, x1, x2, x3, x4, x5⟩ = (inR x0 0 65535 && (keyOk x1 && (valOk x2 && (goodT x3 x4 && (!x5 && !tidE x3 x4 x5 0 0 false)))))) := rfl
  cases e0 : inR x0 0 65535
  · go_enter Try.func49, Try.ntmps49
    go_wp2_with (first
      | (go_at_call 39; refine (inRange_any _ _ _ _).mono ?_; rintro e w' ⟨rfl, rfl⟩)
      | (go_at_call 72; refine (isKey_any _ _ h1).mono ?_; rintro e w' ⟨rfl, rfl⟩)
      | (go_at_call 73; refine (isValue_any _ _ h2).mono ?_; rintro e w' ⟨rfl, rfl⟩))
    go_ret
    exact ⟨ret_bool (by rw [HC.out, e0]; rfl), (by repeat (first | refine Below.setCell ?_ (by (try simp) <;> omega) _ | refine Below.alloc ?_ (by (try simp) <;> omega) _ | refine Below.drew ?_ | assumption | exact Below.refl _ _ | refine Below.trans ?_ (Below.mono (by assumption) (by (try simp) <;> omega))))⟩
  cases e1 : keyOk x1
  · go_enter Try.func49, Try.ntmps49
    go_wp2_with (first
      | (go_at_call 39; refine (inRange_any _ _ _ _).mono ?_; rintro e w' ⟨rfl, rfl⟩)
      | (go_at_call 72; refine (isKey_any _ _ h1).mono ?_; rintro e w' ⟨rfl, rfl⟩)
      | (go_at_call 73; refine (isValue_any _ _ h2).mono ?_; rintro e w' ⟨rfl, rfl⟩))
    go_ret
    exact ⟨ret_bool (by rw [HC.out, e0, e1]; rfl), (by repeat (first | refine Below.setCell ?_ (by (try simp) <;> omega) _ | refine Below.alloc ?_ (by (try simp) <;> omega) _ | refine Below.drew ?_ | assumption | exact Below.refl _ _ | refine Below.trans ?_ (Below.mono (by assumption) (by (try simp) <;> omega))))⟩
  cases e2 : valOk x2
  · go_enter Try.func49, Try.ntmps49
    go_wp2_with (first
      | (go_at_call 39; refine (inRange_any _ _ _ _).mono ?_; rintro e w' ⟨rfl, rfl⟩)
      | (go_at_call 72; refine (isKey_any _ _ h1).mono ?_; rintro e w' ⟨rfl, rfl⟩)
      | (go_at_call 73; refine (isValue_any _ _ h2).mono ?_; rintro e w' ⟨rfl, rfl⟩))
    go_ret
    exact ⟨ret_bool (by rw [HC.out, e0, e1, e2]; rfl), (by repeat (first | refine Below.setCell ?_ (by (try simp) <;> omega) _ | refine Below.alloc ?_ (by (try simp) <;> omega) _ | refine Below.drew ?_ | assumption | exact Below.refl _ _ | refine Below.trans ?_ (Below.mono (by assumption) (by (try simp) <;> omega))))⟩
  have hb0 := Bx.new w [.int .i64 x0, .string x1, .string x2, .int .i64 x3, .int .i64 x4, .bool x5] 33
  have HB0 : Hid (Bx (w.alloc (.cells #[.int .i64 x0, .string x1, .string x2, .int .i64 x3, .int .i64 x4, .bool x5] 33)) w.heap.size [.int .i64 x0, .string x1, .string x2, .int .i64 x3, .int .i64 x4, .bool x5]) := hb0
  clear hb0
  go_enter Try.func49, Try.ntmps49
  go_wp2_with (first
      | (go_at_call 39; refine (inRange_any _ _ _ _).mono ?_; rintro e w' ⟨rfl, rfl⟩)
      | (go_at_call 72; refine (isKey_any _ _ h1).mono ?_; rintro e w' ⟨rfl, rfl⟩)
      | (go_at_call 73; refine (isValue_any _ _ h2).mono ?_; rintro e w' ⟨rfl, rfl⟩))
  refine (goodTid_any _ _ _ _).mono ?_
  rintro r w1 ⟨rfl, hb⟩
  have HB : Hid (Below w.heap.size w w1) := below_nx (Go.Joins.below_alloc1 _ _) hb
  have hx := HB0.out.next hb
  have c3 := hx.cell 3 rfl
  have c4 := hx.cell 4 rfl
  have c5 := hx.cell 5 rfl
  have hz := hx.2
  clear hx hb HB0
  cases e3 : goodT x3 x4
  · go_wp2
    go_ret
    exact ⟨ret_bool (by rw [HC.out, e0, e1, e2, e3]; rfl), HB.out⟩
  cases x5
  case true =>
    go_wp2
    go_ret
    exact ⟨ret_bool (by rw [HC.out, e0, e1, e2, e3]; rfl), HB.out⟩
  have r0 := run_neTid x3 x4 false 0 0 false
  go_wp2
  go_ret
  exact ⟨ret_bool (by rw [HC.out, e0, e1, e2, e3]; simp), HB.out⟩

set_option maxRecDepth 100000 in
set_option maxHeartbeats 4000000 in
theorem l6Entry_any (v : EntryV) (w : World) (h1 : v.f1.size ≤ maxLen) (h2 : v.f2.size ≤ maxLen) :
    Calls Try.prog 47 #[.agg #[.int .i64 v.f0, .string v.f1, .string v.f2, .int .i64 v.f3, .int .i64 v.f4, .bool v.f5]] w fun r w' => r = .returned (.bool (entOk v)) ∧ Below w.heap.size w w' := by
  obtain ⟨x0, x1, x2, x3, x4, x5⟩ := v
  simp only at h1 h2
  have HC : Hid (entOk ⟨x0, x1, x2, x3, x4, x5⟩ = (inR x0 0 65535 && (keyOk x1 && (valOk x2 && (goodT x3 x4 && (!x5 && !tidE x3 x4 x5 0 0 false)))))) := rfl
  cases e0 : inR x0 0 65535
  · go_enter Try.func47, Try.ntmps47
    go_wp2_with (first
      | (go_at_call 41; refine (l1In_any _ _ _ _).mono ?_; rintro e w' ⟨rfl, rfl⟩)
      | (go_at_call 68; refine (l1Key_any _ _ h1).mono ?_; rintro e w' ⟨rfl, rfl⟩)
      | (go_at_call 69; refine (l1Value_any _ _ h2).mono ?_; rintro e w' ⟨rfl, rfl⟩))
    go_ret
    exact ⟨ret_bool (by rw [HC.out, e0]; rfl), (by repeat (first | refine Below.setCell ?_ (by (try simp) <;> omega) _ | refine Below.alloc ?_ (by (try simp) <;> omega) _ | refine Below.drew ?_ | assumption | exact Below.refl _ _ | refine Below.trans ?_ (Below.mono (by assumption) (by (try simp) <;> omega))))⟩
  cases e1 : keyOk x1
  · go_enter Try.func47, Try.ntmps47
    go_wp2_with (first
      | (go_at_call 41; refine (l1In_any _ _ _ _).mono ?_; rintro e w' ⟨rfl, rfl⟩)
      | (go_at_call 68; refine (l1Key_any _ _ h1).mono ?_; rintro e w' ⟨rfl, rfl⟩)
      | (go_at_call 69; refine (l1Value_any _ _ h2).mono ?_; rintro e w' ⟨rfl, rfl⟩))
    go_ret
    exact ⟨ret_bool (by rw [HC.out, e0, e1]; rfl), (by repeat (first | refine Below.setCell ?_ (by (try simp) <;> omega) _ | refine Below.alloc ?_ (by (try simp) <;> omega) _ | refine Below.drew ?_ | assumption | exact Below.refl _ _ | refine Below.trans ?_ (Below.mono (by assumption) (by (try simp) <;> omega))))⟩
  cases e2 : valOk x2
  · go_enter Try.func47, Try.ntmps47
    go_wp2_with (first
      | (go_at_call 41; refine (l1In_any _ _ _ _).mono ?_; rintro e w' ⟨rfl, rfl⟩)
      | (go_at_call 68; refine (l1Key_any _ _ h1).mono ?_; rintro e w' ⟨rfl, rfl⟩)
      | (go_at_call 69; refine (l1Value_any _ _ h2).mono ?_; rintro e w' ⟨rfl, rfl⟩))
    go_ret
    exact ⟨ret_bool (by rw [HC.out, e0, e1, e2]; rfl), (by repeat (first | refine Below.setCell ?_ (by (try simp) <;> omega) _ | refine Below.alloc ?_ (by (try simp) <;> omega) _ | refine Below.drew ?_ | assumption | exact Below.refl _ _ | refine Below.trans ?_ (Below.mono (by assumption) (by (try simp) <;> omega))))⟩
  have hb0 := Bx.new w [.int .i64 x0, .string x1, .string x2, .int .i64 x3, .int .i64 x4, .bool x5] 33
  have HB0 : Hid (Bx (w.alloc (.cells #[.int .i64 x0, .string x1, .string x2, .int .i64 x3, .int .i64 x4, .bool x5] 33)) w.heap.size [.int .i64 x0, .string x1, .string x2, .int .i64 x3, .int .i64 x4, .bool x5]) := hb0
  clear hb0
  go_enter Try.func47, Try.ntmps47
  go_wp2_with (first
      | (go_at_call 41; refine (l1In_any _ _ _ _).mono ?_; rintro e w' ⟨rfl, rfl⟩)
      | (go_at_call 68; refine (l1Key_any _ _ h1).mono ?_; rintro e w' ⟨rfl, rfl⟩)
      | (go_at_call 69; refine (l1Value_any _ _ h2).mono ?_; rintro e w' ⟨rfl, rfl⟩))
  refine (l1Tid_any _ _ _ _).mono ?_
  rintro r w1 ⟨rfl, hb⟩
  have HB : Hid (Below w.heap.size w w1) := below_nx (Go.Joins.below_alloc1 _ _) hb
  have hx := HB0.out.next hb
  have c3 := hx.cell 3 rfl
  have c4 := hx.cell 4 rfl
  have c5 := hx.cell 5 rfl
  have hz := hx.2
  clear hx hb HB0
  cases e3 : goodT x3 x4
  · go_wp2
    go_ret
    exact ⟨ret_bool (by rw [HC.out, e0, e1, e2, e3]; rfl), HB.out⟩
  cases x5
  case true =>
    go_wp2
    go_ret
    exact ⟨ret_bool (by rw [HC.out, e0, e1, e2, e3]; rfl), HB.out⟩
  have r0 := run_neTid x3 x4 false 0 0 false
  go_wp2
  go_ret
  exact ⟨ret_bool (by rw [HC.out, e0, e1, e2, e3]; simp), HB.out⟩

set_option maxRecDepth 100000 in
set_option maxHeartbeats 4000000 in
theorem versionOf_any (v : EntryV) (w : World) :
    Calls Try.prog 45 #[.agg #[.int .i64 v.f0, .string v.f1, .string v.f2, .int .i64 v.f3, .int .i64 v.f4, .bool v.f5]] w fun r w' => r = .returned (.agg #[.string v.f1, .int .i64 v.f3, .int .i64 v.f4, .bool v.f5]) ∧ Below w.heap.size w w' := by
  obtain ⟨x0, x1, x2, x3, x4, x5⟩ := v
  go_enter Try.func45, Try.ntmps45
  go_wp2
  exact bodyPost_ret (v := .agg #[.string x1, .int .i64 x3, .int .i64 x4, .bool x5]) (by simp [results, Try.results45, go_sem]) rfl ⟨rfl, (by repeat (first | refine Below.setCell ?_ (by (try simp) <;> omega) _ | refine Below.alloc ?_ (by (try simp) <;> omega) _ | refine Below.drew ?_ | assumption | exact Below.refl _ _ | refine Below.trans ?_ (Below.mono (by assumption) (by (try simp) <;> omega))))⟩
end Go.Proofs.Ytiepfdkfadbllaa
