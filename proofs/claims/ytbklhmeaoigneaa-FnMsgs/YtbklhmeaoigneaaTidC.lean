/- The contracts of CompareTid on both sides, of l1Compare and of the law's own eqTid: what each answers, for every argument. -/
import Derived.Test.YtbklhmeaoigneaaTidB
namespace Go.Proofs.Ytbklhmeaoigneaa
open Go.RowKit
set_option linter.unusedVariables false

set_option maxHeartbeats 400000 in
theorem eqTid_same (e s : Int) (b : Bool) (w : World) :
    Calls Try.prog 38 #[.agg #[.int .i64 e, .int .i64 s, .bool b], .agg #[.int .i64 e, .int .i64 s, .bool b]] w fun r w' => r = .returned (.bool true) ∧ Below w.heap.size w w' := by
  go_enter Try.func38, Try.ntmps38
  go_wp2
  go_ret
  exact ⟨rfl, (by repeat (first | refine Below.setCell ?_ (by (try simp) <;> omega) _ | refine Below.alloc ?_ (by (try simp) <;> omega) _ | refine Below.drew ?_ | assumption | exact Below.refl _ _ | refine Below.trans ?_ (Below.mono (by assumption) (by (try simp) <;> omega))))⟩

set_option maxHeartbeats 1000000 in
theorem l1Compare_any (e s : Int) (b : Bool) (e' s' : Int) (b' : Bool) (w : World) :
    Calls Try.prog 57 #[.agg #[.int .i64 e, .int .i64 s, .bool b], .agg #[.int .i64 e', .int .i64 s', .bool b']] w fun r w' => r = .returned (.int .i64 (cmpT e s e' s')) ∧ Below w.heap.size w w' := by
  rcases Int.lt_trichotomy e e' with h | h | h
  · go_enter Try.func57, Try.ntmps57
    go_wp2
    go_ret
    exact ⟨by simp [cmpT, cmpI, h]; omega, (by repeat (first | refine Below.setCell ?_ (by (try simp) <;> omega) _ | refine Below.alloc ?_ (by (try simp) <;> omega) _ | refine Below.drew ?_ | assumption | exact Below.refl _ _ | refine Below.trans ?_ (Below.mono (by assumption) (by (try simp) <;> omega))))⟩
  · subst h
    rcases Int.lt_trichotomy s s' with k | k | k
    · go_enter Try.func57, Try.ntmps57
      go_wp2
      go_ret
      exact ⟨by simp [cmpT, cmpI, k], (by repeat (first | refine Below.setCell ?_ (by (try simp) <;> omega) _ | refine Below.alloc ?_ (by (try simp) <;> omega) _ | refine Below.drew ?_ | assumption | exact Below.refl _ _ | refine Below.trans ?_ (Below.mono (by assumption) (by (try simp) <;> omega))))⟩
    · subst k
      go_enter Try.func57, Try.ntmps57
      go_wp2
      go_ret
      exact ⟨by simp [cmpT, cmpI], (by repeat (first | refine Below.setCell ?_ (by (try simp) <;> omega) _ | refine Below.alloc ?_ (by (try simp) <;> omega) _ | refine Below.drew ?_ | assumption | exact Below.refl _ _ | refine Below.trans ?_ (Below.mono (by assumption) (by (try simp) <;> omega))))⟩
    · have k' : ¬ s < s' := by omega
      go_enter Try.func57, Try.ntmps57
      go_wp2
      go_ret
      exact ⟨by simp [cmpT, cmpI, k]; omega, (by repeat (first | refine Below.setCell ?_ (by (try simp) <;> omega) _ | refine Below.alloc ?_ (by (try simp) <;> omega) _ | refine Below.drew ?_ | assumption | exact Below.refl _ _ | refine Below.trans ?_ (Below.mono (by assumption) (by (try simp) <;> omega))))⟩
  · have h1 : ¬ e < e' := by omega
    have h2 : (e == e') = false := by simp; omega
    go_enter Try.func57, Try.ntmps57
    go_wp2
    go_ret
    exact ⟨by simp [cmpT, cmpI, h]; omega, (by repeat (first | refine Below.setCell ?_ (by (try simp) <;> omega) _ | refine Below.alloc ?_ (by (try simp) <;> omega) _ | refine Below.drew ?_ | assumption | exact Below.refl _ _ | refine Below.trans ?_ (Below.mono (by assumption) (by (try simp) <;> omega))))⟩

set_option maxHeartbeats 1000000 in
theorem compare_no (e s : Int) (b : Bool) (e' s' : Int) (b' : Bool) (w : World) (h : (goodT e s && goodT e' s') = false) :
    Calls Try.prog 17 #[.agg #[.int .i64 e, .int .i64 s, .bool b], .agg #[.int .i64 e', .int .i64 s', .bool b']] w fun r w' => r = .returned (.tuple #[.int .i64 0, .bool false]) ∧ Below w.heap.size w w' := by
  cases h1 : goodT e s
  · clear h
    go_enter Try.func17, Try.ntmps17
    go_wp2_with (first
    | (go_at_call 36; refine (goodTid_any _ _ _ _).mono ?_; rintro e w1 ⟨rfl, hb⟩; have hs2 : ∀ n : Nat, n < n + 1 + 1 := (fun n => by omega); have hs3 : ∀ n : Nat, n < n + 1 + 1 + 1 := (fun n => by omega); obtain ⟨hc, hf⟩ := bcell hb; have hz : w.heap.size < w1.heap.size := (by have := hb.size; (try simp at this); omega); have hz1 : w.heap.size + 1 < w1.heap.size := (by have := hb.size; (try simp at this); omega)))
    go_ret2
    exact ⟨rfl, (by repeat (first | refine Below.setCell ?_ (by (try simp) <;> omega) _ | refine Below.alloc ?_ (by (try simp) <;> omega) _ | refine Below.drew ?_ | assumption | exact Below.refl _ _ | refine Below.trans ?_ (Below.mono (by assumption) (by (try simp) <;> omega))))⟩
  · have h2 : goodT e' s' = false := by simpa [h1] using h
    clear h
    go_enter Try.func17, Try.ntmps17
    go_wp2_with (first
    | (go_at_call 36; refine (goodTid_any _ _ _ _).mono ?_; rintro e w1 ⟨rfl, hb⟩; have hs2 : ∀ n : Nat, n < n + 1 + 1 := (fun n => by omega); have hs3 : ∀ n : Nat, n < n + 1 + 1 + 1 := (fun n => by omega); obtain ⟨hc, hf⟩ := bcell hb; have hz : w.heap.size < w1.heap.size := (by have := hb.size; (try simp at this); omega); have hz1 : w.heap.size + 1 < w1.heap.size := (by have := hb.size; (try simp at this); omega)))
    go_ret2
    exact ⟨rfl, (by repeat (first | refine Below.setCell ?_ (by (try simp) <;> omega) _ | refine Below.alloc ?_ (by (try simp) <;> omega) _ | refine Below.drew ?_ | assumption | exact Below.refl _ _ | refine Below.trans ?_ (Below.mono (by assumption) (by (try simp) <;> omega))))⟩
set_option maxHeartbeats 1000000 in
theorem compare_yes (e s : Int) (b : Bool) (e' s' : Int) (b' : Bool) (w : World) (h1 : goodT e s = true) (h2 : goodT e' s' = true) :
    Calls Try.prog 17 #[.agg #[.int .i64 e, .int .i64 s, .bool b], .agg #[.int .i64 e', .int .i64 s', .bool b']] w fun r w' => r = .returned (.tuple #[.int .i64 (cmpT e s e' s'), .bool true]) ∧ Below w.heap.size w w' := by
  by_cases h : e = e'
  · subst h
    go_enter Try.func17, Try.ntmps17
    go_wp2_with (first
    | (go_at_call 36; refine (goodTid_any _ _ _ _).mono ?_; rintro e w1 ⟨rfl, hb⟩; have hs2 : ∀ n : Nat, n < n + 1 + 1 := (fun n => by omega); have hs3 : ∀ n : Nat, n < n + 1 + 1 + 1 := (fun n => by omega); obtain ⟨hc, hf⟩ := bcell hb; have hz : w.heap.size < w1.heap.size := (by have := hb.size; (try simp at this); omega); have hz1 : w.heap.size + 1 < w1.heap.size := (by have := hb.size; (try simp at this); omega))
    | (go_at_call 55; refine (compareInt_any _ _ _).mono ?_; rintro e w1 ⟨rfl, rfl⟩))
    go_ret2
    exact ⟨ret_pair (by simp [cmpT]) rfl, (by repeat (first | refine Below.setCell ?_ (by (try simp) <;> omega) _ | refine Below.alloc ?_ (by (try simp) <;> omega) _ | refine Below.drew ?_ | assumption | exact Below.refl _ _ | refine Below.trans ?_ (Below.mono (by assumption) (by (try simp) <;> omega))))⟩
  · have h3 : (e == e') = false := by simpa using h
    have H : Hid (¬ e = e') := h
    clear h
    go_enter Try.func17, Try.ntmps17
    go_wp2_with (first
    | (go_at_call 36; refine (goodTid_any _ _ _ _).mono ?_; rintro e w1 ⟨rfl, hb⟩; have hs2 : ∀ n : Nat, n < n + 1 + 1 := (fun n => by omega); have hs3 : ∀ n : Nat, n < n + 1 + 1 + 1 := (fun n => by omega); obtain ⟨hc, hf⟩ := bcell hb; have hz : w.heap.size < w1.heap.size := (by have := hb.size; (try simp at this); omega); have hz1 : w.heap.size + 1 < w1.heap.size := (by have := hb.size; (try simp at this); omega))
    | (go_at_call 55; refine (compareInt_any _ _ _).mono ?_; rintro e w1 ⟨rfl, rfl⟩))
    go_ret2
    exact ⟨ret_pair (by simp [cmpT, H.out]) rfl, (by repeat (first | refine Below.setCell ?_ (by (try simp) <;> omega) _ | refine Below.alloc ?_ (by (try simp) <;> omega) _ | refine Below.drew ?_ | assumption | exact Below.refl _ _ | refine Below.trans ?_ (Below.mono (by assumption) (by (try simp) <;> omega))))⟩
set_option maxHeartbeats 1000000 in
theorem specCompare_no (e s : Int) (b : Bool) (e' s' : Int) (b' : Bool) (w : World) (h : (goodT e s && goodT e' s') = false) :
    Calls Try.prog 18 #[.agg #[.int .i64 e, .int .i64 s, .bool b], .agg #[.int .i64 e', .int .i64 s', .bool b']] w fun r w' => r = .returned (.tuple #[.int .i64 0, .bool false]) ∧ Below w.heap.size w w' := by
  cases h1 : goodT e s
  · clear h
    go_enter Try.func18, Try.ntmps18
    go_wp2_with (first
    | (go_at_call 56; refine (l1Tid_any _ _ _ _).mono ?_; rintro e w1 ⟨rfl, hb⟩; have hs2 : ∀ n : Nat, n < n + 1 + 1 := (fun n => by omega); have hs3 : ∀ n : Nat, n < n + 1 + 1 + 1 := (fun n => by omega); obtain ⟨hc, hf⟩ := bcell hb; have hz : w.heap.size < w1.heap.size := (by have := hb.size; (try simp at this); omega); have hz1 : w.heap.size + 1 < w1.heap.size := (by have := hb.size; (try simp at this); omega)))
    go_ret2
    exact ⟨rfl, (by repeat (first | refine Below.setCell ?_ (by (try simp) <;> omega) _ | refine Below.alloc ?_ (by (try simp) <;> omega) _ | refine Below.drew ?_ | assumption | exact Below.refl _ _ | refine Below.trans ?_ (Below.mono (by assumption) (by (try simp) <;> omega))))⟩
  · have h2 : goodT e' s' = false := by simpa [h1] using h
    clear h
    go_enter Try.func18, Try.ntmps18
    go_wp2_with (first
    | (go_at_call 56; refine (l1Tid_any _ _ _ _).mono ?_; rintro e w1 ⟨rfl, hb⟩; have hs2 : ∀ n : Nat, n < n + 1 + 1 := (fun n => by omega); have hs3 : ∀ n : Nat, n < n + 1 + 1 + 1 := (fun n => by omega); obtain ⟨hc, hf⟩ := bcell hb; have hz : w.heap.size < w1.heap.size := (by have := hb.size; (try simp at this); omega); have hz1 : w.heap.size + 1 < w1.heap.size := (by have := hb.size; (try simp at this); omega)))
    go_ret2
    exact ⟨rfl, (by repeat (first | refine Below.setCell ?_ (by (try simp) <;> omega) _ | refine Below.alloc ?_ (by (try simp) <;> omega) _ | refine Below.drew ?_ | assumption | exact Below.refl _ _ | refine Below.trans ?_ (Below.mono (by assumption) (by (try simp) <;> omega))))⟩
set_option maxHeartbeats 1000000 in
theorem specCompare_yes (e s : Int) (b : Bool) (e' s' : Int) (b' : Bool) (w : World) (h1 : goodT e s = true) (h2 : goodT e' s' = true) :
    Calls Try.prog 18 #[.agg #[.int .i64 e, .int .i64 s, .bool b], .agg #[.int .i64 e', .int .i64 s', .bool b']] w fun r w' => r = .returned (.tuple #[.int .i64 (cmpT e s e' s'), .bool true]) ∧ Below w.heap.size w w' := by
  go_enter Try.func18, Try.ntmps18
  go_wp2_with (first
    | (go_at_call 56; refine (l1Tid_any _ _ _ _).mono ?_; rintro e w1 ⟨rfl, hb⟩; have hs2 : ∀ n : Nat, n < n + 1 + 1 := (fun n => by omega); have hs3 : ∀ n : Nat, n < n + 1 + 1 + 1 := (fun n => by omega); obtain ⟨hc, hf⟩ := bcell hb; have hz : w.heap.size < w1.heap.size := (by have := hb.size; (try simp at this); omega); have hz1 : w.heap.size + 1 < w1.heap.size := (by have := hb.size; (try simp at this); omega))
    | (go_at_call 57; refine (l1Compare_any _ _ _ _ _ _ _).mono ?_; rintro e w1 ⟨rfl, hb⟩; have hs2 : ∀ n : Nat, n < n + 1 + 1 := (fun n => by omega); have hs3 : ∀ n : Nat, n < n + 1 + 1 + 1 := (fun n => by omega); obtain ⟨hc, hf⟩ := bcell hb; have hz : w.heap.size < w1.heap.size := (by have := hb.size; (try simp at this); omega); have hz1 : w.heap.size + 1 < w1.heap.size := (by have := hb.size; (try simp at this); omega)))
  go_ret2
  exact ⟨rfl, (by repeat (first | refine Below.setCell ?_ (by (try simp) <;> omega) _ | refine Below.alloc ?_ (by (try simp) <;> omega) _ | refine Below.drew ?_ | assumption | exact Below.refl _ _ | refine Below.trans ?_ (Below.mono (by assumption) (by (try simp) <;> omega))))⟩

def cmpR (e s e' s' : Int) : Int := if goodT e s && goodT e' s' then cmpT e s e' s' else 0
theorem compare_any (e s : Int) (b : Bool) (e' s' : Int) (b' : Bool) (w : World) :
    Calls Try.prog 17 #[.agg #[.int .i64 e, .int .i64 s, .bool b], .agg #[.int .i64 e', .int .i64 s', .bool b']] w fun r w' => r = .returned (.tuple #[.int .i64 (cmpR e s e' s'), .bool (goodT e s && goodT e' s')]) ∧ Below w.heap.size w w' := by
  cases h : (goodT e s && goodT e' s')
  · refine (compare_no _ _ _ _ _ _ _ h).mono fun r w' hr => ⟨?_, hr.2⟩
    rw [hr.1]; simp [cmpR, h]
  · have h1 : goodT e s = true ∧ goodT e' s' = true := by simpa using h
    refine (compare_yes _ _ _ _ _ _ _ h1.1 h1.2).mono fun r w' hr => ⟨?_, hr.2⟩
    rw [hr.1]; simp [cmpR, h]
theorem specCompare_any (e s : Int) (b : Bool) (e' s' : Int) (b' : Bool) (w : World) :
    Calls Try.prog 18 #[.agg #[.int .i64 e, .int .i64 s, .bool b], .agg #[.int .i64 e', .int .i64 s', .bool b']] w fun r w' => r = .returned (.tuple #[.int .i64 (cmpR e s e' s'), .bool (goodT e s && goodT e' s')]) ∧ Below w.heap.size w w' := by
  cases h : (goodT e s && goodT e' s')
  · refine (specCompare_no _ _ _ _ _ _ _ h).mono fun r w' hr => ⟨?_, hr.2⟩
    rw [hr.1]; simp [cmpR, h]
  · have h1 : goodT e s = true ∧ goodT e' s' = true := by simpa using h
    refine (specCompare_yes _ _ _ _ _ _ _ h1.1 h1.2).mono fun r w' hr => ⟨?_, hr.2⟩
    rw [hr.1]; simp [cmpR, h]
end Go.Proofs.Ytbklhmeaoigneaa
