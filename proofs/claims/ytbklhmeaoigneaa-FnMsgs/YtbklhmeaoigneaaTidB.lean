/- The contracts of PackTid, UnpackTid, CompareTid, of the specification's own and of what they call: what each answers, for every argument. -/
import Derived.Test.YtbklhmeaoigneaaTid
namespace Go.Proofs.Ytbklhmeaoigneaa
open Go.RowKit
set_option linter.unusedVariables false

def packI (e s : Int) : Int := bits BinOp.or IntKind.u64 (IntKind.u64.wrap (IntKind.u64.wrap e * 33554432)) (IntKind.u64.wrap (IntKind.u64.wrap s * 2))
def packW (e s : Int) (b : Bool) : Int := if b then bits BinOp.or IntKind.u64 (packI e s) 1 else packI e s
def unS (x : Int) : Int := x / 2 % 16777216
def unL (x : Int) : Bool := x % 2 == 1
def cmpI (x y : Int) : Int := if x < y then -1 else if y < x then 1 else 0
def cmpT (e s e' s' : Int) : Int := if e = e' then cmpI s s' else cmpI e e'

theorem and_mask (y : Int) (h0 : 0 ≤ y) (h1 : y ≤ 18446744073709551615) : bits BinOp.and IntKind.u64 y 16777215 = y % 16777216 := by
  have h := bits_and_u64_nat y.toNat 16777215 (by omega) (by omega)
  have e : y.toNat &&& 16777215 = y.toNat % 16777216 := Nat.and_two_pow_sub_one_eq_mod y.toNat 24
  rw [e, Int.toNat_of_nonneg h0] at h
  have h2 : ((y.toNat % 16777216 : Nat) : Int) = y % 16777216 := by omega
  exact h.trans h2
theorem unS_raw (x : Int) (h0 : 0 ≤ x) (h1 : x ≤ 18446744073709551615) : wrap64 (bits BinOp.and IntKind.u64 (x / 2) 16777215) = unS x := by
  rw [and_mask _ (by omega) (by omega)]; unfold unS wrap64; omega
theorem unL_raw (x : Int) (h0 : 0 ≤ x) (h1 : x ≤ 18446744073709551615) : (bits BinOp.and IntKind.u64 x 1 == 1) = unL x := by
  rw [and_one_u64 _ h0 h1]; rfl
theorem good_un (x : Int) (h0 : 0 ≤ x) : goodT (x / 33554432) (unS x) = decide (x < 35184372088832) := by
  unfold goodT inR unS
  rw [Bool.eq_iff_iff]; simp; omega
theorem ret_pair {a b c d : Value} (h : a = c) (k : b = d) : Ending.returned (.tuple #[a, b]) = .returned (.tuple #[c, d]) := by rw [h, k]

set_option maxHeartbeats 400000 in
theorem pack_no (e s : Int) (b : Bool) (w : World) (h : goodT e s = false) :
    Calls Try.prog 19 #[.agg #[.int .i64 e, .int .i64 s, .bool b]] w fun r w' => r = .returned (.tuple #[.int .u64 0, .bool false]) ∧ Below w.heap.size w w' := by
  go_enter Try.func19, Try.ntmps19
  go_wp2_with (first
    | (go_at_call 36; refine (goodTid_any _ _ _ _).mono ?_; rintro e w1 ⟨rfl, hb⟩; have hs2 : ∀ n : Nat, n < n + 1 + 1 := (fun n => by omega); have hs3 : ∀ n : Nat, n < n + 1 + 1 + 1 := (fun n => by omega); obtain ⟨hc, hf⟩ := bcell hb; have hz : w.heap.size < w1.heap.size := (by have := hb.size; (try simp at this); omega)))
  go_ret2
  exact ⟨rfl, (by repeat (first | refine Below.setCell ?_ (by (try simp) <;> omega) _ | refine Below.alloc ?_ (by (try simp) <;> omega) _ | refine Below.drew ?_ | assumption | exact Below.refl _ _ | refine Below.trans ?_ (Below.mono (by assumption) (by (try simp) <;> omega))))⟩
set_option maxHeartbeats 400000 in
theorem pack_yes (e s : Int) (b : Bool) (w : World) (h : goodT e s = true) :
    Calls Try.prog 19 #[.agg #[.int .i64 e, .int .i64 s, .bool b]] w fun r w' => r = .returned (.tuple #[.int .u64 (packW e s b), .bool true]) ∧ Below w.heap.size w w' := by
  cases b
  all_goals
    go_enter Try.func19, Try.ntmps19
    go_wp2_with (first
      | (go_at_call 36; refine (goodTid_any _ _ _ _).mono ?_; rintro e w1 ⟨rfl, hb⟩; have hs2 : ∀ n : Nat, n < n + 1 + 1 := (fun n => by omega); have hs3 : ∀ n : Nat, n < n + 1 + 1 + 1 := (fun n => by omega); obtain ⟨hc, hf⟩ := bcell hb; have hz : w.heap.size < w1.heap.size := (by have := hb.size; (try simp at this); omega)))
    go_ret2
    exact ⟨rfl, (by repeat (first | refine Below.setCell ?_ (by (try simp) <;> omega) _ | refine Below.alloc ?_ (by (try simp) <;> omega) _ | refine Below.drew ?_ | assumption | exact Below.refl _ _ | refine Below.trans ?_ (Below.mono (by assumption) (by (try simp) <;> omega))))⟩
set_option maxHeartbeats 400000 in
theorem l1Pack_any (e s : Int) (b : Bool) (w : World) :
    Calls Try.prog 70 #[.agg #[.int .i64 e, .int .i64 s, .bool b]] w fun r w' => r = .returned (.int .u64 (packW e s b)) ∧ Below w.heap.size w w' := by
  cases b
  all_goals
    go_enter Try.func70, Try.ntmps70
    go_wp2
    go_ret
    exact ⟨rfl, (by repeat (first | refine Below.setCell ?_ (by (try simp) <;> omega) _ | refine Below.alloc ?_ (by (try simp) <;> omega) _ | refine Below.drew ?_ | assumption | exact Below.refl _ _ | refine Below.trans ?_ (Below.mono (by assumption) (by (try simp) <;> omega))))⟩
set_option maxHeartbeats 400000 in
theorem specPack_no (e s : Int) (b : Bool) (w : World) (h : goodT e s = false) :
    Calls Try.prog 37 #[.agg #[.int .i64 e, .int .i64 s, .bool b]] w fun r w' => r = .returned (.tuple #[.int .u64 0, .bool false]) ∧ Below w.heap.size w w' := by
  go_enter Try.func37, Try.ntmps37
  go_wp2_with (first
    | (go_at_call 56; refine (l1Tid_any _ _ _ _).mono ?_; rintro e w1 ⟨rfl, hb⟩; have hs2 : ∀ n : Nat, n < n + 1 + 1 := (fun n => by omega); have hs3 : ∀ n : Nat, n < n + 1 + 1 + 1 := (fun n => by omega); obtain ⟨hc, hf⟩ := bcell hb; have hz : w.heap.size < w1.heap.size := (by have := hb.size; (try simp at this); omega)))
  go_ret2
  exact ⟨rfl, (by repeat (first | refine Below.setCell ?_ (by (try simp) <;> omega) _ | refine Below.alloc ?_ (by (try simp) <;> omega) _ | refine Below.drew ?_ | assumption | exact Below.refl _ _ | refine Below.trans ?_ (Below.mono (by assumption) (by (try simp) <;> omega))))⟩
set_option maxHeartbeats 400000 in
theorem specPack_yes (e s : Int) (b : Bool) (w : World) (h : goodT e s = true) :
    Calls Try.prog 37 #[.agg #[.int .i64 e, .int .i64 s, .bool b]] w fun r w' => r = .returned (.tuple #[.int .u64 (packW e s b), .bool true]) ∧ Below w.heap.size w w' := by
  go_enter Try.func37, Try.ntmps37
  go_wp2_with (first
    | (go_at_call 56; refine (l1Tid_any _ _ _ _).mono ?_; rintro e w1 ⟨rfl, hb⟩; have hs2 : ∀ n : Nat, n < n + 1 + 1 := (fun n => by omega); have hs3 : ∀ n : Nat, n < n + 1 + 1 + 1 := (fun n => by omega); obtain ⟨hc, hf⟩ := bcell hb; have hz : w.heap.size < w1.heap.size := (by have := hb.size; (try simp at this); omega))
    | (go_at_call 70; refine (l1Pack_any _ _ _ _).mono ?_; rintro e w1 ⟨rfl, hb⟩; have hs2 : ∀ n : Nat, n < n + 1 + 1 := (fun n => by omega); have hs3 : ∀ n : Nat, n < n + 1 + 1 + 1 := (fun n => by omega); obtain ⟨hc, hf⟩ := bcell hb; have hz : w.heap.size < w1.heap.size := (by have := hb.size; (try simp at this); omega)))
  go_ret2
  exact ⟨rfl, (by repeat (first | refine Below.setCell ?_ (by (try simp) <;> omega) _ | refine Below.alloc ?_ (by (try simp) <;> omega) _ | refine Below.drew ?_ | assumption | exact Below.refl _ _ | refine Below.trans ?_ (Below.mono (by assumption) (by (try simp) <;> omega))))⟩

set_option maxHeartbeats 400000 in
theorem unpack_no (x : Int) (w : World) (h0 : 0 ≤ x) (h1 : x ≤ 18446744073709551615) (h : 35184372088832 ≤ x) :
    Calls Try.prog 20 #[.int .u64 x] w fun r w' => r = .returned (.tuple #[.agg #[.int .i64 0, .int .i64 0, .bool false], .bool false]) ∧ Below w.heap.size w w' := by
  go_enter Try.func20, Try.ntmps20
  go_wp2
  exact bodyPost_ret (v := .tuple #[.agg #[.int .i64 0, .int .i64 0, .bool false], .bool false]) (by simp [results, Try.results20, go_sem]) rfl ⟨rfl, (by repeat (first | refine Below.setCell ?_ (by (try simp) <;> omega) _ | refine Below.alloc ?_ (by (try simp) <;> omega) _ | refine Below.drew ?_ | assumption | exact Below.refl _ _ | refine Below.trans ?_ (Below.mono (by assumption) (by (try simp) <;> omega))))⟩
set_option maxHeartbeats 400000 in
theorem unpack_yes (x : Int) (w : World) (h0 : 0 ≤ x) (h1 : x ≤ 18446744073709551615) (h : x < 35184372088832) :
    Calls Try.prog 20 #[.int .u64 x] w fun r w' => r = .returned (.tuple #[.agg #[.int .i64 (x / 33554432), .int .i64 (unS x), .bool (unL x)], .bool true]) ∧ Below w.heap.size w w' := by
  have E1 : Hid (wrap64 (bits BinOp.and IntKind.u64 (x / 2) 16777215) = unS x) := unS_raw x h0 h1
  have E2 : Hid ((bits BinOp.and IntKind.u64 x 1 == 1) = unL x) := unL_raw x h0 h1
  go_enter Try.func20, Try.ntmps20
  go_wp2
  exact bodyPost_ret (v := .tuple #[.agg #[.int .i64 (x / 33554432), .int .i64 (wrap64 (bits BinOp.and IntKind.u64 (x / 2) 16777215)), .bool (bits BinOp.and IntKind.u64 x 1 == 1)], .bool true]) (by simp [results, Try.results20, go_sem]) rfl ⟨by rw [E1.out, E2.out], (by repeat (first | refine Below.setCell ?_ (by (try simp) <;> omega) _ | refine Below.alloc ?_ (by (try simp) <;> omega) _ | refine Below.drew ?_ | assumption | exact Below.refl _ _ | refine Below.trans ?_ (Below.mono (by assumption) (by (try simp) <;> omega))))⟩

set_option maxHeartbeats 400000 in
theorem specUnpack_no (x : Int) (w : World) (h0 : 0 ≤ x) (h1 : x ≤ 18446744073709551615) (h : 35184372088832 ≤ x) :
    Calls Try.prog 22 #[.int .u64 x] w fun r w' => r = .returned (.tuple #[.agg #[.int .i64 0, .int .i64 0, .bool false], .bool false]) ∧ Below w.heap.size w w' := by
  have hg : goodT (x / 33554432) (wrap64 (bits BinOp.and IntKind.u64 (x / 2) 16777215)) = false := by rw [unS_raw x h0 h1, good_un x h0]; simp; omega
  go_enter Try.func22, Try.ntmps22
  go_wp2_with (first
    | (go_at_call 56; refine (l1Tid_any _ _ _ _).mono ?_; rintro e w1 ⟨rfl, hb⟩; have hs2 : ∀ n : Nat, n < n + 1 + 1 := (fun n => by omega); have hs3 : ∀ n : Nat, n < n + 1 + 1 + 1 := (fun n => by omega); obtain ⟨hc, hf⟩ := bcell hb; have hz : w.heap.size < w1.heap.size := (by have := hb.size; (try simp at this); omega); have hz1 : w.heap.size + 1 < w1.heap.size := (by have := hb.size; simp at this; omega)))
  have c0 : w1.cell? ⟨w.heap.size, 0, none⟩ = some (.int .i64 0) := by rw [hc _ _ (by simp; omega)]; simp [go_sem]
  have c1 : w1.cell? ⟨w.heap.size, 1, none⟩ = some (.int .i64 0) := by rw [hc _ _ (by simp; omega)]; simp [go_sem]
  have c2 : w1.cell? ⟨w.heap.size, 2, none⟩ = some (.bool false) := by rw [hc _ _ (by simp; omega)]; simp [go_sem]
  exact bodyPost_ret (v := .tuple #[.agg #[.int .i64 0, .int .i64 0, .bool false], .bool false]) (by simp [results, Try.results22, go_sem, c0, c1, c2]) rfl ⟨rfl, (by repeat (first | refine Below.setCell ?_ (by (try simp) <;> omega) _ | refine Below.alloc ?_ (by (try simp) <;> omega) _ | refine Below.drew ?_ | assumption | exact Below.refl _ _ | refine Below.trans ?_ (Below.mono (by assumption) (by (try simp) <;> omega))))⟩
set_option maxHeartbeats 400000 in
theorem specUnpack_yes (x : Int) (w : World) (h0 : 0 ≤ x) (h1 : x ≤ 18446744073709551615) (h : x < 35184372088832) :
    Calls Try.prog 22 #[.int .u64 x] w fun r w' => r = .returned (.tuple #[.agg #[.int .i64 (x / 33554432), .int .i64 (unS x), .bool (unL x)], .bool true]) ∧ Below w.heap.size w w' := by
  have E1 : Hid (wrap64 (bits BinOp.and IntKind.u64 (x / 2) 16777215) = unS x) := unS_raw x h0 h1
  have E2 : Hid ((bits BinOp.and IntKind.u64 x 1 == 1) = unL x) := unL_raw x h0 h1
  have hg : goodT (x / 33554432) (wrap64 (bits BinOp.and IntKind.u64 (x / 2) 16777215)) = true := by rw [unS_raw x h0 h1, good_un x h0]; simp; omega
  go_enter Try.func22, Try.ntmps22
  go_wp2_with (first
    | (go_at_call 56; refine (l1Tid_any _ _ _ _).mono ?_; rintro e w1 ⟨rfl, hb⟩; have hs2 : ∀ n : Nat, n < n + 1 + 1 := (fun n => by omega); have hs3 : ∀ n : Nat, n < n + 1 + 1 + 1 := (fun n => by omega); obtain ⟨hc, hf⟩ := bcell hb; have hz : w.heap.size < w1.heap.size := (by have := hb.size; (try simp at this); omega); have hz1 : w.heap.size + 1 < w1.heap.size := (by have := hb.size; simp at this; omega)))
  have c0 : w1.cell? ⟨w.heap.size, 0, none⟩ = some (.int .i64 0) := by rw [hc _ _ (by simp; omega)]; simp [go_sem]
  have c1 : w1.cell? ⟨w.heap.size, 1, none⟩ = some (.int .i64 0) := by rw [hc _ _ (by simp; omega)]; simp [go_sem]
  have c2 : w1.cell? ⟨w.heap.size, 2, none⟩ = some (.bool false) := by rw [hc _ _ (by simp; omega)]; simp [go_sem]
  exact bodyPost_ret (v := .tuple #[.agg #[.int .i64 (x / 33554432), .int .i64 (wrap64 (bits BinOp.and IntKind.u64 (x / 2) 16777215)), .bool (bits BinOp.and IntKind.u64 x 1 == 1)], .bool true]) (by simp [results, Try.results22, go_sem, c0, c1, c2]) rfl ⟨by rw [E1.out, E2.out], (by repeat (first | refine Below.setCell ?_ (by (try simp) <;> omega) _ | refine Below.alloc ?_ (by (try simp) <;> omega) _ | refine Below.drew ?_ | assumption | exact Below.refl _ _ | refine Below.trans ?_ (Below.mono (by assumption) (by (try simp) <;> omega))))⟩

set_option maxHeartbeats 400000 in
theorem compareInt_any (x y : Int) (w : World) :
    Calls Try.prog 55 #[.int .i64 x, .int .i64 y] w fun r w' => r = .returned (.int .i64 (cmpI x y)) ∧ w' = w := by
  rcases Int.lt_trichotomy x y with h | h | h
  · go_enter Try.func55, Try.ntmps55
    go_wp2
    go_ret
    exact ⟨by simp [cmpI, h], rfl⟩
  · subst h
    go_enter Try.func55, Try.ntmps55
    go_wp2
    go_ret
    exact ⟨by simp [cmpI], rfl⟩
  · have h' : ¬ x < y := by omega
    go_enter Try.func55, Try.ntmps55
    go_wp2
    go_ret
    exact ⟨by simp [cmpI, h]; omega, rfl⟩
end Go.Proofs.Ytbklhmeaoigneaa
