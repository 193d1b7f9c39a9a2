/- The contracts of CompareTid and of the specification's l1Compare. -/
import Derived.Test.YtiepfdkfadbllaaTvI
namespace Go.Proofs.Ytiepfdkfadbllaa
open Go.RowKit
set_option linter.unusedVariables false

def cmpI (x y : Int) : Int := if x < y then -1 else if y < x then 1 else 0
def cmpT (e s e' s' : Int) : Int := if e = e' then cmpI s s' else cmpI e e'
theorem ret_pair {a b c d : Value} (h : a = c) (k : b = d) : Ending.returned (.tuple #[a, b]) = .returned (.tuple #[c, d]) := by rw [h, k]
theorem bcell {W w1 : World} (hb : Below W.heap.size W w1) : (∀ b o, b < W.heap.size → w1.cell? ⟨b, o, none⟩ = W.cell? ⟨b, o, none⟩) ∧ (∀ b o, b < W.heap.size → w1.frozen? ⟨b, o, none⟩ = W.frozen? ⟨b, o, none⟩) :=
  ⟨fun b o h => hb.cell (p := ⟨b, o, none⟩) h, fun b o h => hb.frozen (p := ⟨b, o, none⟩) h⟩

set_option maxHeartbeats 400000 in
theorem compareInt_any (x y : Int) (w : World) :
    Calls Try.prog 81 #[.int .i64 x, .int .i64 y] w fun r w' => r = .returned (.int .i64 (cmpI x y)) ∧ w' = w := by
  rcases Int.lt_trichotomy x y with h | h | h
  · go_enter Try.func81, Try.ntmps81
    go_wp2
    go_ret
    exact ⟨by simp [cmpI, h], rfl⟩
  · subst h
    go_enter Try.func81, Try.ntmps81
    go_wp2
    go_ret
    exact ⟨by simp [cmpI], rfl⟩
  · have h' : ¬ x < y := by omega
    go_enter Try.func81, Try.ntmps81
    go_wp2
    go_ret
    exact ⟨by simp [cmpI, h]; omega, rfl⟩
set_option maxHeartbeats 1000000 in
theorem l1Compare_any (e s : Int) (b : Bool) (e' s' : Int) (b' : Bool) (w : World) :
    Calls Try.prog 59 #[.agg #[.int .i64 e, .int .i64 s, .bool b], .agg #[.int .i64 e', .int .i64 s', .bool b']] w fun r w' => r = .returned (.int .i64 (cmpT e s e' s')) ∧ Below w.heap.size w w' := by
  rcases Int.lt_trichotomy e e' with h | h | h
  · go_enter Try.func59, Try.ntmps59
    go_wp2
    go_ret
    exact ⟨by simp [cmpT, cmpI, h]; omega, (by repeat (first | refine Below.setCell ?_ (by (try simp) <;> omega) _ | refine Below.alloc ?_ (by (try simp) <;> omega) _ | refine Below.drew ?_ | assumption | exact Below.refl _ _ | refine Below.trans ?_ (Below.mono (by assumption) (by (try simp) <;> omega))))⟩
  · subst h
    rcases Int.lt_trichotomy s s' with k | k | k
    · go_enter Try.func59, Try.ntmps59
      go_wp2
      go_ret
      exact ⟨by simp [cmpT, cmpI, k], (by repeat (first | refine Below.setCell ?_ (by (try simp) <;> omega) _ | refine Below.alloc ?_ (by (try simp) <;> omega) _ | refine Below.drew ?_ | assumption | exact Below.refl _ _ | refine Below.trans ?_ (Below.mono (by assumption) (by (try simp) <;> omega))))⟩
    · subst k
      go_enter Try.func59, Try.ntmps59
      go_wp2
      go_ret
      exact ⟨by simp [cmpT, cmpI], (by repeat (first | refine Below.setCell ?_ (by (try simp) <;> omega) _ | refine Below.alloc ?_ (by (try simp) <;> omega) _ | refine Below.drew ?_ | assumption | exact Below.refl _ _ | refine Below.trans ?_ (Below.mono (by assumption) (by (try simp) <;> omega))))⟩
    · have k' : ¬ s < s' := by omega
      go_enter Try.func59, Try.ntmps59
      go_wp2
      go_ret
      exact ⟨by simp [cmpT, cmpI, k]; omega, (by repeat (first | refine Below.setCell ?_ (by (try simp) <;> omega) _ | refine Below.alloc ?_ (by (try simp) <;> omega) _ | refine Below.drew ?_ | assumption | exact Below.refl _ _ | refine Below.trans ?_ (Below.mono (by assumption) (by (try simp) <;> omega))))⟩
  · have h1 : ¬ e < e' := by omega
    have h2 : (e == e') = false := by simp; omega
    go_enter Try.func59, Try.ntmps59
    go_wp2
    go_ret
    exact ⟨by simp [cmpT, cmpI, h]; omega, (by repeat (first | refine Below.setCell ?_ (by (try simp) <;> omega) _ | refine Below.alloc ?_ (by (try simp) <;> omega) _ | refine Below.drew ?_ | assumption | exact Below.refl _ _ | refine Below.trans ?_ (Below.mono (by assumption) (by (try simp) <;> omega))))⟩

set_option maxHeartbeats 1000000 in
theorem tidCmp_no (e s : Int) (b : Bool) (e' s' : Int) (b' : Bool) (w : World) (h : (goodT e s && goodT e' s') = false) :
    Calls Try.prog 55 #[.agg #[.int .i64 e, .int .i64 s, .bool b], .agg #[.int .i64 e', .int .i64 s', .bool b']] w fun r w' => r = .returned (.tuple #[.int .i64 0, .bool false]) ∧ Below w.heap.size w w' := by
  cases h1 : goodT e s
  · clear h
    go_enter Try.func55, Try.ntmps55
    go_wp2_with (first
    | (go_at_call 74; refine (goodTid_any _ _ _ _).mono ?_; rintro e w1 ⟨rfl, hb⟩; have hs2 : ∀ n : Nat, n < n + 1 + 1 := (fun n => by omega); have hs3 : ∀ n : Nat, n < n + 1 + 1 + 1 := (fun n => by omega); obtain ⟨hc, hf⟩ := bcell hb; have hz : w.heap.size < w1.heap.size := (by have := hb.size; (try simp at this); omega); have hz1 : w.heap.size + 1 < w1.heap.size := (by have := hb.size; (try simp at this); omega)))
    go_ret2
    exact ⟨rfl, (by repeat (first | refine Below.setCell ?_ (by (try simp) <;> omega) _ | refine Below.alloc ?_ (by (try simp) <;> omega) _ | refine Below.drew ?_ | assumption | exact Below.refl _ _ | refine Below.trans ?_ (Below.mono (by assumption) (by (try simp) <;> omega))))⟩
  · have h2 : goodT e' s' = false := by simpa [h1] using h
    clear h
    go_enter Try.func55, Try.ntmps55
    go_wp2_with (first
    | (go_at_call 74; refine (goodTid_any _ _ _ _).mono ?_; rintro e w1 ⟨rfl, hb⟩; have hs2 : ∀ n : Nat, n < n + 1 + 1 := (fun n => by omega); have hs3 : ∀ n : Nat, n < n + 1 + 1 + 1 := (fun n => by omega); obtain ⟨hc, hf⟩ := bcell hb; have hz : w.heap.size < w1.heap.size := (by have := hb.size; (try simp at this); omega); have hz1 : w.heap.size + 1 < w1.heap.size := (by have := hb.size; (try simp at this); omega)))
    go_ret2
    exact ⟨rfl, (by repeat (first | refine Below.setCell ?_ (by (try simp) <;> omega) _ | refine Below.alloc ?_ (by (try simp) <;> omega) _ | refine Below.drew ?_ | assumption | exact Below.refl _ _ | refine Below.trans ?_ (Below.mono (by assumption) (by (try simp) <;> omega))))⟩
set_option maxHeartbeats 1000000 in
theorem tidCmp_yes (e s : Int) (b : Bool) (e' s' : Int) (b' : Bool) (w : World) (h1 : goodT e s = true) (h2 : goodT e' s' = true) :
    Calls Try.prog 55 #[.agg #[.int .i64 e, .int .i64 s, .bool b], .agg #[.int .i64 e', .int .i64 s', .bool b']] w fun r w' => r = .returned (.tuple #[.int .i64 (cmpT e s e' s'), .bool true]) ∧ Below w.heap.size w w' := by
  by_cases h : e = e'
  · subst h
    go_enter Try.func55, Try.ntmps55
    go_wp2_with (first
    | (go_at_call 74; refine (goodTid_any _ _ _ _).mono ?_; rintro e w1 ⟨rfl, hb⟩; have hs2 : ∀ n : Nat, n < n + 1 + 1 := (fun n => by omega); have hs3 : ∀ n : Nat, n < n + 1 + 1 + 1 := (fun n => by omega); obtain ⟨hc, hf⟩ := bcell hb; have hz : w.heap.size < w1.heap.size := (by have := hb.size; (try simp at this); omega); have hz1 : w.heap.size + 1 < w1.heap.size := (by have := hb.size; (try simp at this); omega))
    | (go_at_call 81; refine (compareInt_any _ _ _).mono ?_; rintro e w1 ⟨rfl, rfl⟩))
    go_ret2
    exact ⟨ret_pair (by simp [cmpT]) rfl, (by repeat (first | refine Below.setCell ?_ (by (try simp) <;> omega) _ | refine Below.alloc ?_ (by (try simp) <;> omega) _ | refine Below.drew ?_ | assumption | exact Below.refl _ _ | refine Below.trans ?_ (Below.mono (by assumption) (by (try simp) <;> omega))))⟩
  · have h3 : (e == e') = false := by simpa using h
    have H : Hid (¬ e = e') := h
    clear h
    go_enter Try.func55, Try.ntmps55
    go_wp2_with (first
    | (go_at_call 74; refine (goodTid_any _ _ _ _).mono ?_; rintro e w1 ⟨rfl, hb⟩; have hs2 : ∀ n : Nat, n < n + 1 + 1 := (fun n => by omega); have hs3 : ∀ n : Nat, n < n + 1 + 1 + 1 := (fun n => by omega); obtain ⟨hc, hf⟩ := bcell hb; have hz : w.heap.size < w1.heap.size := (by have := hb.size; (try simp at this); omega); have hz1 : w.heap.size + 1 < w1.heap.size := (by have := hb.size; (try simp at this); omega))
    | (go_at_call 81; refine (compareInt_any _ _ _).mono ?_; rintro e w1 ⟨rfl, rfl⟩))
    go_ret2
    exact ⟨ret_pair (by simp [cmpT, H.out]) rfl, (by repeat (first | refine Below.setCell ?_ (by (try simp) <;> omega) _ | refine Below.alloc ?_ (by (try simp) <;> omega) _ | refine Below.drew ?_ | assumption | exact Below.refl _ _ | refine Below.trans ?_ (Below.mono (by assumption) (by (try simp) <;> omega))))⟩
theorem cmpT_lt {e s e' s' : Int} : cmpT e s e' s' < 0 ↔ e < e' ∨ (e = e' ∧ s < s') := by
  unfold cmpT cmpI
  split
  · split
    · omega
    · split <;> omega
  · split
    · omega
    · split <;> omega
end Go.Proofs.Ytiepfdkfadbllaa
