/- Registers: the program's small tests on copies and ops. -/
import Derived.Test.YtjebnhbadbhaaaaRgG
import Derived.Test.YtjebnhbadbhaaaaValI
import Derived.Test.YtjebnhbadbhaaaaImI
namespace Go.Proofs.Ytjebnhbadbhaaaa
open Go.RowKit
set_option linter.unusedVariables false

theorem cop_inR {n i : Int} {v : ByteArray} : tf (copP n i v) = (inR n 0 1000 && (inR i 0 9 && valOk v)) := by
  rw [Bool.eq_iff_iff, tf_iff, Bool.and_eq_true, Bool.and_eq_true, inR_iff, inR_iff]; exact Iff.rfl

set_option maxHeartbeats 1000000 in
theorem isCopy_n (n i : Int) (v : ByteArray) (w : World) (hv : v.size ≤ maxLen) :
    Calls Try.prog 55 #[.agg #[.int .i64 n, .int .i64 i, .string v]] w fun r w' => r = .returned (.bool (tf (copP n i v))) ∧ Below w.heap.size w w' := by
  rw [cop_inR]
  have HV : Hid (v.size ≤ maxLen) := hv
  clear hv
  cases h1 : inR n 0 1000
  · go_enter Try.func55, Try.ntmps55
    go_wp2_with (first | (go_at_call 54; refine (inRange_any _ _ _ _).mono ?_; rintro e w' ⟨rfl, rfl⟩))
    go_ret
    exact ⟨by simp, (by repeat (first | refine Below.setCell ?_ (by (try simp) <;> omega) _ | refine Below.alloc ?_ (by (try simp) <;> omega) _ | refine Below.drew ?_ | assumption | exact Below.refl _ _ | refine Below.trans ?_ (Below.mono (by assumption) (by (try simp) <;> omega))))⟩
  cases h2 : inR i 0 9
  · go_enter Try.func55, Try.ntmps55
    go_wp2_with (first | (go_at_call 54; refine (inRange_any _ _ _ _).mono ?_; rintro e w' ⟨rfl, rfl⟩))
    go_ret
    exact ⟨by simp, (by repeat (first | refine Below.setCell ?_ (by (try simp) <;> omega) _ | refine Below.alloc ?_ (by (try simp) <;> omega) _ | refine Below.drew ?_ | assumption | exact Below.refl _ _ | refine Below.trans ?_ (Below.mono (by assumption) (by (try simp) <;> omega))))⟩
  cases h3 : valOk v
  · go_enter Try.func55, Try.ntmps55
    go_wp2_with (first | (go_at_call 54; refine (inRange_any _ _ _ _).mono ?_; rintro e w' ⟨rfl, rfl⟩) | (go_at_call 97; refine (isValue_any _ _ HV.out).mono ?_; rintro e w' ⟨rfl, rfl⟩))
    go_ret
    exact ⟨by simp, (by repeat (first | refine Below.setCell ?_ (by (try simp) <;> omega) _ | refine Below.alloc ?_ (by (try simp) <;> omega) _ | refine Below.drew ?_ | assumption | exact Below.refl _ _ | refine Below.trans ?_ (Below.mono (by assumption) (by (try simp) <;> omega))))⟩
  · go_enter Try.func55, Try.ntmps55
    go_wp2_with (first | (go_at_call 54; refine (inRange_any _ _ _ _).mono ?_; rintro e w' ⟨rfl, rfl⟩) | (go_at_call 97; refine (isValue_any _ _ HV.out).mono ?_; rintro e w' ⟨rfl, rfl⟩))
    go_ret
    exact ⟨by simp, (by repeat (first | refine Below.setCell ?_ (by (try simp) <;> omega) _ | refine Below.alloc ?_ (by (try simp) <;> omega) _ | refine Below.drew ?_ | assumption | exact Below.refl _ _ | refine Below.trans ?_ (Below.mono (by assumption) (by (try simp) <;> omega))))⟩

set_option maxHeartbeats 1000000 in
theorem l9Copy_n (n i : Int) (v : ByteArray) (w : World) (hv : v.size ≤ maxLen) :
    Calls Try.prog 63 #[.agg #[.int .i64 n, .int .i64 i, .string v]] w fun r w' => r = .returned (.bool (tf (copP n i v))) ∧ Below w.heap.size w w' := by
  rw [cop_inR]
  have HV : Hid (v.size ≤ maxLen) := hv
  clear hv
  cases h1 : inR n 0 1000
  · go_enter Try.func63, Try.ntmps63
    go_wp2_with (first | (go_at_call 61; refine (l1In_any _ _ _ _).mono ?_; rintro e w' ⟨rfl, rfl⟩))
    go_ret
    exact ⟨by simp, (by repeat (first | refine Below.setCell ?_ (by (try simp) <;> omega) _ | refine Below.alloc ?_ (by (try simp) <;> omega) _ | refine Below.drew ?_ | assumption | exact Below.refl _ _ | refine Below.trans ?_ (Below.mono (by assumption) (by (try simp) <;> omega))))⟩
  cases h2 : inR i 0 9
  · go_enter Try.func63, Try.ntmps63
    go_wp2_with (first | (go_at_call 61; refine (l1In_any _ _ _ _).mono ?_; rintro e w' ⟨rfl, rfl⟩))
    go_ret
    exact ⟨by simp, (by repeat (first | refine Below.setCell ?_ (by (try simp) <;> omega) _ | refine Below.alloc ?_ (by (try simp) <;> omega) _ | refine Below.drew ?_ | assumption | exact Below.refl _ _ | refine Below.trans ?_ (Below.mono (by assumption) (by (try simp) <;> omega))))⟩
  cases h3 : valOk v
  · go_enter Try.func63, Try.ntmps63
    go_wp2_with (first | (go_at_call 61; refine (l1In_any _ _ _ _).mono ?_; rintro e w' ⟨rfl, rfl⟩) | (go_at_call 64; refine (l1Value_any _ _ HV.out).mono ?_; rintro e w' ⟨rfl, rfl⟩))
    go_ret
    exact ⟨by simp, (by repeat (first | refine Below.setCell ?_ (by (try simp) <;> omega) _ | refine Below.alloc ?_ (by (try simp) <;> omega) _ | refine Below.drew ?_ | assumption | exact Below.refl _ _ | refine Below.trans ?_ (Below.mono (by assumption) (by (try simp) <;> omega))))⟩
  · go_enter Try.func63, Try.ntmps63
    go_wp2_with (first | (go_at_call 61; refine (l1In_any _ _ _ _).mono ?_; rintro e w' ⟨rfl, rfl⟩) | (go_at_call 64; refine (l1Value_any _ _ HV.out).mono ?_; rintro e w' ⟨rfl, rfl⟩))
    go_ret
    exact ⟨by simp, (by repeat (first | refine Below.setCell ?_ (by (try simp) <;> omega) _ | refine Below.alloc ?_ (by (try simp) <;> omega) _ | refine Below.drew ?_ | assumption | exact Below.refl _ _ | refine Below.trans ?_ (Below.mono (by assumption) (by (try simp) <;> omega))))⟩

def opV (b : Bool) (v : ByteArray) : Bool := valOk v && (b || v.toList.isEmpty)
theorem emptyB_size (s : ByteArray) : s.toList.isEmpty = (s.size == 0) := by
  rw [ByteArray.toList_eq]
  cases h : s.data.toList with
  | nil => have : s.size = 0 := by have := congrArg List.length h; simpa using this
           simp [this]
  | cons a l => have : s.size = l.length + 1 := by have := congrArg List.length h; simpa using this
                simp [this]
theorem empty_iff {v : ByteArray} : v.toList.isEmpty = true ↔ v.size = 0 := by rw [emptyB_size]; simp
theorem opV_iff {b : Bool} {v : ByteArray} : opV b v = true ↔ valOk v = true ∧ (b = true ∨ v.size = 0) := by
  rw [opV, Bool.and_eq_true, Bool.or_eq_true, empty_iff]

set_option maxHeartbeats 1000000 in
theorem isOpValue_n (b : Bool) (v : ByteArray) (w : World) (hv : v.size ≤ maxLen) :
    Calls Try.prog 98 #[.bool b, .string v] w fun r w' => r = .returned (.bool (opV b v)) ∧ w' = w := by
  have HV : Hid (v.size ≤ maxLen) := hv
  clear hv
  unfold opV
  cases h3 : valOk v
  · go_enter Try.func98, Try.ntmps98
    go_wp2_with (first | (go_at_call 97; refine (isValue_any _ _ HV.out).mono ?_; rintro e w' ⟨rfl, rfl⟩))
    go_ret
    exact ⟨by simp, rfl⟩
  cases b
  · cases h4 : v.toList.isEmpty
    · go_enter Try.func98, Try.ntmps98
      go_wp2_with (first | (go_at_call 97; refine (isValue_any _ _ HV.out).mono ?_; rintro e w' ⟨rfl, rfl⟩))
      go_ret
      exact ⟨by simp, rfl⟩
    · go_enter Try.func98, Try.ntmps98
      go_wp2_with (first | (go_at_call 97; refine (isValue_any _ _ HV.out).mono ?_; rintro e w' ⟨rfl, rfl⟩))
      go_ret
      exact ⟨by simp, rfl⟩
  · go_enter Try.func98, Try.ntmps98
    go_wp2_with (first | (go_at_call 97; refine (isValue_any _ _ HV.out).mono ?_; rintro e w' ⟨rfl, rfl⟩))
    go_ret
    exact ⟨by simp, rfl⟩
end Go.Proofs.Ytjebnhbadbhaaaa
