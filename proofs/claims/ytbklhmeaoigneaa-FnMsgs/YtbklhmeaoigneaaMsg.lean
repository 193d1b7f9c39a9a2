/- The contracts of GoodMsg on both sides, and of the law's own szMsg and toMsg. -/
import Derived.Test.YtbklhmeaoigneaaTidC
import Derived.Test.YtbklhmeaoigneaaKey
namespace Go.Proofs.Ytbklhmeaoigneaa
open Go.RowKit
set_option linter.unusedVariables false

def goodM (kd fr to tx : Int) (key val : ByteArray) (e s : Int) : Bool := inR kd 1 8 && inR fr 0 255 && inR to 0 255 && inR tx 0 65535 && keyOk key && valOk val && goodT e s
def szM (l : Int) (k v : Nat) : Int := if l < k then -1 else if l - k < v then -1 else l - k - v

set_option maxHeartbeats 4000000 in
theorem goodMsg_any (kd fr to tx : Int) (key val : ByteArray) (e s : Int) (b : Bool) (w : World) (hk : key.size ≤ maxLen) (hv : val.size ≤ maxLen) :
    Calls Try.prog 45 #[.agg #[.int .i64 kd, .int .i64 fr, .int .i64 to, .int .i64 tx, .string key, .string val, .int .i64 e, .int .i64 s, .bool b]] w fun r w' => r = .returned (.bool (goodM kd fr to tx key val e s)) ∧ Below w.heap.size w w' := by
  cases h1 : inR kd 1 8
  · go_enter Try.func45, Try.ntmps45
    go_wp2_with (first
      | (go_at_call 61; refine (inRange_any _ _ _ _).mono ?_; rintro e w' ⟨rfl, rfl⟩)
      | (go_at_call 73; refine (isKey_any _ _ hk).mono ?_; rintro e w' ⟨rfl, rfl⟩)
      | (go_at_call 74; refine (isValue_any _ _ hv).mono ?_; rintro e w' ⟨rfl, rfl⟩)
      | (go_at_call 36; refine (goodTid_any _ _ _ _).mono ?_; rintro e w1 ⟨rfl, hb⟩))
    go_ret
    exact ⟨ret_bool (by simp [goodM, h1]), (by repeat (first | refine Below.setCell ?_ (by (try simp) <;> omega) _ | refine Below.alloc ?_ (by (try simp) <;> omega) _ | refine Below.drew ?_ | assumption | exact Below.refl _ _ | refine Below.trans ?_ (Below.mono (by assumption) (by (try simp) <;> omega))))⟩
  · skip
    cases h2 : inR fr 0 255
    · go_enter Try.func45, Try.ntmps45
      go_wp2_with (first
        | (go_at_call 61; refine (inRange_any _ _ _ _).mono ?_; rintro e w' ⟨rfl, rfl⟩)
        | (go_at_call 73; refine (isKey_any _ _ hk).mono ?_; rintro e w' ⟨rfl, rfl⟩)
        | (go_at_call 74; refine (isValue_any _ _ hv).mono ?_; rintro e w' ⟨rfl, rfl⟩)
        | (go_at_call 36; refine (goodTid_any _ _ _ _).mono ?_; rintro e w1 ⟨rfl, hb⟩))
      go_ret
      exact ⟨ret_bool (by simp [goodM, h2]), (by repeat (first | refine Below.setCell ?_ (by (try simp) <;> omega) _ | refine Below.alloc ?_ (by (try simp) <;> omega) _ | refine Below.drew ?_ | assumption | exact Below.refl _ _ | refine Below.trans ?_ (Below.mono (by assumption) (by (try simp) <;> omega))))⟩
    · skip
      cases h3 : inR to 0 255
      · go_enter Try.func45, Try.ntmps45
        go_wp2_with (first
          | (go_at_call 61; refine (inRange_any _ _ _ _).mono ?_; rintro e w' ⟨rfl, rfl⟩)
          | (go_at_call 73; refine (isKey_any _ _ hk).mono ?_; rintro e w' ⟨rfl, rfl⟩)
          | (go_at_call 74; refine (isValue_any _ _ hv).mono ?_; rintro e w' ⟨rfl, rfl⟩)
          | (go_at_call 36; refine (goodTid_any _ _ _ _).mono ?_; rintro e w1 ⟨rfl, hb⟩))
        go_ret
        exact ⟨ret_bool (by simp [goodM, h3]), (by repeat (first | refine Below.setCell ?_ (by (try simp) <;> omega) _ | refine Below.alloc ?_ (by (try simp) <;> omega) _ | refine Below.drew ?_ | assumption | exact Below.refl _ _ | refine Below.trans ?_ (Below.mono (by assumption) (by (try simp) <;> omega))))⟩
      · skip
        cases h4 : inR tx 0 65535
        · go_enter Try.func45, Try.ntmps45
          go_wp2_with (first
            | (go_at_call 61; refine (inRange_any _ _ _ _).mono ?_; rintro e w' ⟨rfl, rfl⟩)
            | (go_at_call 73; refine (isKey_any _ _ hk).mono ?_; rintro e w' ⟨rfl, rfl⟩)
            | (go_at_call 74; refine (isValue_any _ _ hv).mono ?_; rintro e w' ⟨rfl, rfl⟩)
            | (go_at_call 36; refine (goodTid_any _ _ _ _).mono ?_; rintro e w1 ⟨rfl, hb⟩))
          go_ret
          exact ⟨ret_bool (by simp [goodM, h4]), (by repeat (first | refine Below.setCell ?_ (by (try simp) <;> omega) _ | refine Below.alloc ?_ (by (try simp) <;> omega) _ | refine Below.drew ?_ | assumption | exact Below.refl _ _ | refine Below.trans ?_ (Below.mono (by assumption) (by (try simp) <;> omega))))⟩
        · skip
          cases h5 : keyOk key
          · go_enter Try.func45, Try.ntmps45
            go_wp2_with (first
              | (go_at_call 61; refine (inRange_any _ _ _ _).mono ?_; rintro e w' ⟨rfl, rfl⟩)
              | (go_at_call 73; refine (isKey_any _ _ hk).mono ?_; rintro e w' ⟨rfl, rfl⟩)
              | (go_at_call 74; refine (isValue_any _ _ hv).mono ?_; rintro e w' ⟨rfl, rfl⟩)
              | (go_at_call 36; refine (goodTid_any _ _ _ _).mono ?_; rintro e w1 ⟨rfl, hb⟩))
            go_ret
            exact ⟨ret_bool (by simp [goodM, h5]), (by repeat (first | refine Below.setCell ?_ (by (try simp) <;> omega) _ | refine Below.alloc ?_ (by (try simp) <;> omega) _ | refine Below.drew ?_ | assumption | exact Below.refl _ _ | refine Below.trans ?_ (Below.mono (by assumption) (by (try simp) <;> omega))))⟩
          · skip
            cases h6 : valOk val
            · go_enter Try.func45, Try.ntmps45
              go_wp2_with (first
                | (go_at_call 61; refine (inRange_any _ _ _ _).mono ?_; rintro e w' ⟨rfl, rfl⟩)
                | (go_at_call 73; refine (isKey_any _ _ hk).mono ?_; rintro e w' ⟨rfl, rfl⟩)
                | (go_at_call 74; refine (isValue_any _ _ hv).mono ?_; rintro e w' ⟨rfl, rfl⟩)
                | (go_at_call 36; refine (goodTid_any _ _ _ _).mono ?_; rintro e w1 ⟨rfl, hb⟩))
              go_ret
              exact ⟨ret_bool (by simp [goodM, h6]), (by repeat (first | refine Below.setCell ?_ (by (try simp) <;> omega) _ | refine Below.alloc ?_ (by (try simp) <;> omega) _ | refine Below.drew ?_ | assumption | exact Below.refl _ _ | refine Below.trans ?_ (Below.mono (by assumption) (by (try simp) <;> omega))))⟩
            · skip
              go_enter Try.func45, Try.ntmps45
              go_wp2_with (first
                | (go_at_call 61; refine (inRange_any _ _ _ _).mono ?_; rintro e w' ⟨rfl, rfl⟩)
                | (go_at_call 73; refine (isKey_any _ _ hk).mono ?_; rintro e w' ⟨rfl, rfl⟩)
                | (go_at_call 74; refine (isValue_any _ _ hv).mono ?_; rintro e w' ⟨rfl, rfl⟩)
                | (go_at_call 36; refine (goodTid_any _ _ _ _).mono ?_; rintro e w1 ⟨rfl, hb⟩))
              go_ret
              exact ⟨ret_bool (by simp [goodM, h1, h2, h3, h4, h5, h6]), (by repeat (first | refine Below.setCell ?_ (by (try simp) <;> omega) _ | refine Below.alloc ?_ (by (try simp) <;> omega) _ | refine Below.drew ?_ | assumption | exact Below.refl _ _ | refine Below.trans ?_ (Below.mono (by assumption) (by (try simp) <;> omega))))⟩

set_option maxHeartbeats 4000000 in
theorem specGoodMsg_any (kd fr to tx : Int) (key val : ByteArray) (e s : Int) (b : Bool) (w : World) (hk : key.size ≤ maxLen) (hv : val.size ≤ maxLen) :
    Calls Try.prog 43 #[.agg #[.int .i64 kd, .int .i64 fr, .int .i64 to, .int .i64 tx, .string key, .string val, .int .i64 e, .int .i64 s, .bool b]] w fun r w' => r = .returned (.bool (goodM kd fr to tx key val e s)) ∧ Below w.heap.size w w' := by
  cases h1 : inR kd 1 8
  · go_enter Try.func43, Try.ntmps43
    go_wp2_with (first
      | (go_at_call 62; refine (l1In_any _ _ _ _).mono ?_; rintro e w' ⟨rfl, rfl⟩)
      | (go_at_call 71; refine (l1Key_any _ _ hk).mono ?_; rintro e w' ⟨rfl, rfl⟩)
      | (go_at_call 72; refine (l1Value_any _ _ hv).mono ?_; rintro e w' ⟨rfl, rfl⟩)
      | (go_at_call 56; refine (l1Tid_any _ _ _ _).mono ?_; rintro e w1 ⟨rfl, hb⟩))
    go_ret
    exact ⟨ret_bool (by simp [goodM, h1]), (by repeat (first | refine Below.setCell ?_ (by (try simp) <;> omega) _ | refine Below.alloc ?_ (by (try simp) <;> omega) _ | refine Below.drew ?_ | assumption | exact Below.refl _ _ | refine Below.trans ?_ (Below.mono (by assumption) (by (try simp) <;> omega))))⟩
  · skip
    cases h2 : inR fr 0 255
    · go_enter Try.func43, Try.ntmps43
      go_wp2_with (first
        | (go_at_call 62; refine (l1In_any _ _ _ _).mono ?_; rintro e w' ⟨rfl, rfl⟩)
        | (go_at_call 71; refine (l1Key_any _ _ hk).mono ?_; rintro e w' ⟨rfl, rfl⟩)
        | (go_at_call 72; refine (l1Value_any _ _ hv).mono ?_; rintro e w' ⟨rfl, rfl⟩)
        | (go_at_call 56; refine (l1Tid_any _ _ _ _).mono ?_; rintro e w1 ⟨rfl, hb⟩))
      go_ret
      exact ⟨ret_bool (by simp [goodM, h2]), (by repeat (first | refine Below.setCell ?_ (by (try simp) <;> omega) _ | refine Below.alloc ?_ (by (try simp) <;> omega) _ | refine Below.drew ?_ | assumption | exact Below.refl _ _ | refine Below.trans ?_ (Below.mono (by assumption) (by (try simp) <;> omega))))⟩
    · skip
      cases h3 : inR to 0 255
      · go_enter Try.func43, Try.ntmps43
        go_wp2_with (first
          | (go_at_call 62; refine (l1In_any _ _ _ _).mono ?_; rintro e w' ⟨rfl, rfl⟩)
          | (go_at_call 71; refine (l1Key_any _ _ hk).mono ?_; rintro e w' ⟨rfl, rfl⟩)
          | (go_at_call 72; refine (l1Value_any _ _ hv).mono ?_; rintro e w' ⟨rfl, rfl⟩)
          | (go_at_call 56; refine (l1Tid_any _ _ _ _).mono ?_; rintro e w1 ⟨rfl, hb⟩))
        go_ret
        exact ⟨ret_bool (by simp [goodM, h3]), (by repeat (first | refine Below.setCell ?_ (by (try simp) <;> omega) _ | refine Below.alloc ?_ (by (try simp) <;> omega) _ | refine Below.drew ?_ | assumption | exact Below.refl _ _ | refine Below.trans ?_ (Below.mono (by assumption) (by (try simp) <;> omega))))⟩
      · skip
        cases h4 : inR tx 0 65535
        · go_enter Try.func43, Try.ntmps43
          go_wp2_with (first
            | (go_at_call 62; refine (l1In_any _ _ _ _).mono ?_; rintro e w' ⟨rfl, rfl⟩)
            | (go_at_call 71; refine (l1Key_any _ _ hk).mono ?_; rintro e w' ⟨rfl, rfl⟩)
            | (go_at_call 72; refine (l1Value_any _ _ hv).mono ?_; rintro e w' ⟨rfl, rfl⟩)
            | (go_at_call 56; refine (l1Tid_any _ _ _ _).mono ?_; rintro e w1 ⟨rfl, hb⟩))
          go_ret
          exact ⟨ret_bool (by simp [goodM, h4]), (by repeat (first | refine Below.setCell ?_ (by (try simp) <;> omega) _ | refine Below.alloc ?_ (by (try simp) <;> omega) _ | refine Below.drew ?_ | assumption | exact Below.refl _ _ | refine Below.trans ?_ (Below.mono (by assumption) (by (try simp) <;> omega))))⟩
        · skip
          cases h5 : keyOk key
          · go_enter Try.func43, Try.ntmps43
            go_wp2_with (first
              | (go_at_call 62; refine (l1In_any _ _ _ _).mono ?_; rintro e w' ⟨rfl, rfl⟩)
              | (go_at_call 71; refine (l1Key_any _ _ hk).mono ?_; rintro e w' ⟨rfl, rfl⟩)
              | (go_at_call 72; refine (l1Value_any _ _ hv).mono ?_; rintro e w' ⟨rfl, rfl⟩)
              | (go_at_call 56; refine (l1Tid_any _ _ _ _).mono ?_; rintro e w1 ⟨rfl, hb⟩))
            go_ret
            exact ⟨ret_bool (by simp [goodM, h5]), (by repeat (first | refine Below.setCell ?_ (by (try simp) <;> omega) _ | refine Below.alloc ?_ (by (try simp) <;> omega) _ | refine Below.drew ?_ | assumption | exact Below.refl _ _ | refine Below.trans ?_ (Below.mono (by assumption) (by (try simp) <;> omega))))⟩
          · skip
            cases h6 : valOk val
            · go_enter Try.func43, Try.ntmps43
              go_wp2_with (first
                | (go_at_call 62; refine (l1In_any _ _ _ _).mono ?_; rintro e w' ⟨rfl, rfl⟩)
                | (go_at_call 71; refine (l1Key_any _ _ hk).mono ?_; rintro e w' ⟨rfl, rfl⟩)
                | (go_at_call 72; refine (l1Value_any _ _ hv).mono ?_; rintro e w' ⟨rfl, rfl⟩)
                | (go_at_call 56; refine (l1Tid_any _ _ _ _).mono ?_; rintro e w1 ⟨rfl, hb⟩))
              go_ret
              exact ⟨ret_bool (by simp [goodM, h6]), (by repeat (first | refine Below.setCell ?_ (by (try simp) <;> omega) _ | refine Below.alloc ?_ (by (try simp) <;> omega) _ | refine Below.drew ?_ | assumption | exact Below.refl _ _ | refine Below.trans ?_ (Below.mono (by assumption) (by (try simp) <;> omega))))⟩
            · skip
              go_enter Try.func43, Try.ntmps43
              go_wp2_with (first
                | (go_at_call 62; refine (l1In_any _ _ _ _).mono ?_; rintro e w' ⟨rfl, rfl⟩)
                | (go_at_call 71; refine (l1Key_any _ _ hk).mono ?_; rintro e w' ⟨rfl, rfl⟩)
                | (go_at_call 72; refine (l1Value_any _ _ hv).mono ?_; rintro e w' ⟨rfl, rfl⟩)
                | (go_at_call 56; refine (l1Tid_any _ _ _ _).mono ?_; rintro e w1 ⟨rfl, hb⟩))
              go_ret
              exact ⟨ret_bool (by simp [goodM, h1, h2, h3, h4, h5, h6]), (by repeat (first | refine Below.setCell ?_ (by (try simp) <;> omega) _ | refine Below.alloc ?_ (by (try simp) <;> omega) _ | refine Below.drew ?_ | assumption | exact Below.refl _ _ | refine Below.trans ?_ (Below.mono (by assumption) (by (try simp) <;> omega))))⟩

set_option maxHeartbeats 1000000 in
theorem szMsg_any (kd fr to tx : Int) (key val : ByteArray) (e s : Int) (b : Bool) (l : Int) (w : World) (hk : key.size ≤ maxLen) (hv : val.size ≤ maxLen) (h0 : 0 ≤ l) (h1 : l ≤ 1048576) :
    Calls Try.prog 42 #[.agg #[.int .i64 kd, .int .i64 fr, .int .i64 to, .int .i64 tx, .string key, .string val, .int .i64 e, .int .i64 s, .bool b], .int .i64 l] w fun r w' => r = .returned (.int .i64 (szM l key.size val.size)) ∧ Below w.heap.size w w' := by
  unfold maxLen at hk hv
  by_cases c1 : l - (key.size : Int) < 0
  · have E : Hid (szM l key.size val.size = -1) := by show szM l key.size val.size = -1; unfold szM; rw [if_pos (by omega)]
    go_enter Try.func42, Try.ntmps42
    go_wp2
    go_ret
    exact ⟨by rw [E.out]; rfl, (by repeat (first | refine Below.setCell ?_ (by (try simp) <;> omega) _ | refine Below.alloc ?_ (by (try simp) <;> omega) _ | refine Below.drew ?_ | assumption | exact Below.refl _ _ | refine Below.trans ?_ (Below.mono (by assumption) (by (try simp) <;> omega))))⟩
  · by_cases c2 : l - (key.size : Int) - (val.size : Int) < 0
    · have E : Hid (szM l key.size val.size = -1) := by show szM l key.size val.size = -1; unfold szM; rw [if_neg (by omega), if_pos (by omega)]
      go_enter Try.func42, Try.ntmps42
      go_wp2
      go_ret
      exact ⟨by rw [E.out]; rfl, (by repeat (first | refine Below.setCell ?_ (by (try simp) <;> omega) _ | refine Below.alloc ?_ (by (try simp) <;> omega) _ | refine Below.drew ?_ | assumption | exact Below.refl _ _ | refine Below.trans ?_ (Below.mono (by assumption) (by (try simp) <;> omega))))⟩
    · have E : Hid (szM l key.size val.size = l - key.size - val.size) := by show szM l key.size val.size = l - key.size - val.size; unfold szM; rw [if_neg (by omega), if_neg (by omega)]
      go_enter Try.func42, Try.ntmps42
      go_wp2
      go_ret
      exact ⟨by rw [E.out]; rfl, (by repeat (first | refine Below.setCell ?_ (by (try simp) <;> omega) _ | refine Below.alloc ?_ (by (try simp) <;> omega) _ | refine Below.drew ?_ | assumption | exact Below.refl _ _ | refine Below.trans ?_ (Below.mono (by assumption) (by (try simp) <;> omega))))⟩

end Go.Proofs.Ytbklhmeaoigneaa
