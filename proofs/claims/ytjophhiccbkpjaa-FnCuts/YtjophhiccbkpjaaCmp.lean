/- The contract of compareVectors. -/
import Derived.Test.YtjophhiccbkpjaaVecF
import Derived.Laws.StructEq
import Derived.ChangeKeysEq
namespace Go.Proofs.Ytjophhiccbkpjaa
open Go.RowKit
set_option linter.unusedVariables false

/-- One of the first k is less. -/
def lessTo (x y : Nat → Int) : Nat → Bool
  | 0 => false
  | k + 1 => lessTo x y k || decide (x k < y k)
theorem lessTo_no (x y : Nat → Int) : ∀ k, lessTo x y k = false ↔ ∀ i, i < k → y i ≤ x i
  | 0 => by simp [lessTo]
  | k + 1 => by
    simp only [lessTo, Bool.or_eq_false_iff, decide_eq_false_iff_not, Int.not_lt, lessTo_no x y k]
    exact ⟨fun h => upto_succ h.1 h.2, fun h => ⟨fun i hi => h i (by omega), h k (by omega)⟩⟩
def cmpB (less more : Bool) : Int := if less && more then 2 else if less then -1 else if more then 1 else 0
def cmpV (x y : Nat → Int) : Int := cmpB (lessTo x y 6) (lessTo y x 6)
/-- All six are alike. -/
def eq6 (x y : Nat → Int) : Bool := x 0 == y 0 && (x 1 == y 1 && (x 2 == y 2 && (x 3 == y 3 && (x 4 == y 4 && x 5 == y 5))))
theorem eq6_iff (x y : Nat → Int) : eq6 x y = true ↔ ∀ i, i < 6 → x i = y i := by
  simp only [eq6, Bool.and_eq_true, beq_iff_eq]
  exact ⟨fun ⟨a, b, c, d, e, f⟩ => upto6 a b c d e f, fun h => ⟨h 0 (by omega), h 1 (by omega), h 2 (by omega), h 3 (by omega), h 4 (by omega), h 5 (by omega)⟩⟩
theorem eq6_cmp (x y : Nat → Int) : eq6 x y = (!lessTo x y 6 && !lessTo y x 6) := by
  rw [Bool.eq_iff_iff, eq6_iff]
  simp only [Bool.and_eq_true, Bool.not_eq_true', lessTo_no]
  exact ⟨fun h => ⟨fun i hi => by have := h i hi; omega, fun i hi => by have := h i hi; omega⟩, fun ⟨h1, h2⟩ i hi => by have := h1 i hi; have := h2 i hi; omega⟩
theorem eq6_right (x y : Nat → Int) : eq6 (fun i => max (x i) (y i)) y = !lessTo y x 6 := by
  rw [Bool.eq_iff_iff, eq6_iff]
  simp only [Bool.not_eq_true', lessTo_no]
  exact ⟨fun h i hi => by have := h i hi; omega, fun h i hi => by have := h i hi; omega⟩
theorem eq6_left (x y : Nat → Int) : eq6 (fun i => max (x i) (y i)) x = !lessTo x y 6 := by
  rw [Bool.eq_iff_iff, eq6_iff]
  simp only [Bool.not_eq_true', lessTo_no]
  exact ⟨fun h i hi => by have := h i hi; omega, fun h i hi => by have := h i hi; omega⟩

theorem info_int' : ∃ i, Try.prog.info? 3 = some i := by
  obtain ⟨i0, hi, _⟩ := info_parts (show (Try.prog.info? 3).map (fun i => (i.zero, i.size, i.bytes)) = some (some (.int .i64 0), 1, 8) by kernel_rfl)
  exact ⟨i0, hi⟩
theorem run_eq6 (x y : Nat → Int) (W : World) : (binOp .eql 73 (.agg #[.int .i64 (x 0), .int .i64 (x 1), .int .i64 (x 2), .int .i64 (x 3), .int .i64 (x 4), .int .i64 (x 5)]) (.agg #[.int .i64 (y 0), .int .i64 (y 1), .int .i64 (y 2), .int .i64 (y 3), .int .i64 (y 4), .int .i64 (y 5)])).run Try.prog W = .ok (.bool (eq6 x y)) W := by
  obtain ⟨i0, hi⟩ := info_int'
  have hc : Try.prog.cellsOf 3 = 1 := by kernel_rfl
  have p0 : ∀ (z : Nat → Int) (w : World), (Go.part 3 #[.int .i64 (z 0), .int .i64 (z 1), .int .i64 (z 2), .int .i64 (z 3), .int .i64 (z 4), .int .i64 (z 5)] (0 * 1)).run Try.prog w = .ok (.int .i64 (z 0)) w := fun z w => by kernel_rfl
  have p1 : ∀ (z : Nat → Int) (w : World), (Go.part 3 #[.int .i64 (z 0), .int .i64 (z 1), .int .i64 (z 2), .int .i64 (z 3), .int .i64 (z 4), .int .i64 (z 5)] (1 * 1)).run Try.prog w = .ok (.int .i64 (z 1)) w := fun z w => by kernel_rfl
  have p2 : ∀ (z : Nat → Int) (w : World), (Go.part 3 #[.int .i64 (z 0), .int .i64 (z 1), .int .i64 (z 2), .int .i64 (z 3), .int .i64 (z 4), .int .i64 (z 5)] (2 * 1)).run Try.prog w = .ok (.int .i64 (z 2)) w := fun z w => by kernel_rfl
  have p3 : ∀ (z : Nat → Int) (w : World), (Go.part 3 #[.int .i64 (z 0), .int .i64 (z 1), .int .i64 (z 2), .int .i64 (z 3), .int .i64 (z 4), .int .i64 (z 5)] (3 * 1)).run Try.prog w = .ok (.int .i64 (z 3)) w := fun z w => by kernel_rfl
  have p4 : ∀ (z : Nat → Int) (w : World), (Go.part 3 #[.int .i64 (z 0), .int .i64 (z 1), .int .i64 (z 2), .int .i64 (z 3), .int .i64 (z 4), .int .i64 (z 5)] (4 * 1)).run Try.prog w = .ok (.int .i64 (z 4)) w := fun z w => by kernel_rfl
  have p5 : ∀ (z : Nat → Int) (w : World), (Go.part 3 #[.int .i64 (z 0), .int .i64 (z 1), .int .i64 (z 2), .int .i64 (z 3), .int .i64 (z 4), .int .i64 (z 5)] (5 * 1)).run Try.prog w = .ok (.int .i64 (z 5)) w := fun z w => by kernel_rfl
  rw [run_eql_struct, run_equalIn_array W 9999 _ _ Try.underlying73 hi, hc]
  have hr : List.range 6 = [0, 1, 2, 3, 4, 5] := by decide
  rw [hr]
  have pe : ∀ (a b : Int) (w : World), (Op.equalIn 9999 3 (.int .i64 a) (.int .i64 b)).run Try.prog w = .ok (a == b) w := fun a b w => by
    rw [run_equalIn_int w 9998 3 .i64 .i64 _ _ Try.underlying3]
  have s0 : ∀ is, (Op.eqItems 9999 3 1 #[.int .i64 (x 0), .int .i64 (x 1), .int .i64 (x 2), .int .i64 (x 3), .int .i64 (x 4), .int .i64 (x 5)] #[.int .i64 (y 0), .int .i64 (y 1), .int .i64 (y 2), .int .i64 (y 3), .int .i64 (y 4), .int .i64 (y 5)] (0 :: is)).run Try.prog W = if x 0 == y 0 then (Op.eqItems 9999 3 1 #[.int .i64 (x 0), .int .i64 (x 1), .int .i64 (x 2), .int .i64 (x 3), .int .i64 (x 4), .int .i64 (x 5)] #[.int .i64 (y 0), .int .i64 (y 1), .int .i64 (y 2), .int .i64 (y 3), .int .i64 (y 4), .int .i64 (y 5)] is).run Try.prog W else .ok false W := by
    intro is
    rw [Op.eqItems]
    simp only [Sem.run_bind, p0, pe, Result.andThen_ok]
    cases x 0 == y 0 <;> simp
  have s1 : ∀ is, (Op.eqItems 9999 3 1 #[.int .i64 (x 0), .int .i64 (x 1), .int .i64 (x 2), .int .i64 (x 3), .int .i64 (x 4), .int .i64 (x 5)] #[.int .i64 (y 0), .int .i64 (y 1), .int .i64 (y 2), .int .i64 (y 3), .int .i64 (y 4), .int .i64 (y 5)] (1 :: is)).run Try.prog W = if x 1 == y 1 then (Op.eqItems 9999 3 1 #[.int .i64 (x 0), .int .i64 (x 1), .int .i64 (x 2), .int .i64 (x 3), .int .i64 (x 4), .int .i64 (x 5)] #[.int .i64 (y 0), .int .i64 (y 1), .int .i64 (y 2), .int .i64 (y 3), .int .i64 (y 4), .int .i64 (y 5)] is).run Try.prog W else .ok false W := by
    intro is
    rw [Op.eqItems]
    simp only [Sem.run_bind, p1, pe, Result.andThen_ok]
    cases x 1 == y 1 <;> simp
  have s2 : ∀ is, (Op.eqItems 9999 3 1 #[.int .i64 (x 0), .int .i64 (x 1), .int .i64 (x 2), .int .i64 (x 3), .int .i64 (x 4), .int .i64 (x 5)] #[.int .i64 (y 0), .int .i64 (y 1), .int .i64 (y 2), .int .i64 (y 3), .int .i64 (y 4), .int .i64 (y 5)] (2 :: is)).run Try.prog W = if x 2 == y 2 then (Op.eqItems 9999 3 1 #[.int .i64 (x 0), .int .i64 (x 1), .int .i64 (x 2), .int .i64 (x 3), .int .i64 (x 4), .int .i64 (x 5)] #[.int .i64 (y 0), .int .i64 (y 1), .int .i64 (y 2), .int .i64 (y 3), .int .i64 (y 4), .int .i64 (y 5)] is).run Try.prog W else .ok false W := by
    intro is
    rw [Op.eqItems]
    simp only [Sem.run_bind, p2, pe, Result.andThen_ok]
    cases x 2 == y 2 <;> simp
  have s3 : ∀ is, (Op.eqItems 9999 3 1 #[.int .i64 (x 0), .int .i64 (x 1), .int .i64 (x 2), .int .i64 (x 3), .int .i64 (x 4), .int .i64 (x 5)] #[.int .i64 (y 0), .int .i64 (y 1), .int .i64 (y 2), .int .i64 (y 3), .int .i64 (y 4), .int .i64 (y 5)] (3 :: is)).run Try.prog W = if x 3 == y 3 then (Op.eqItems 9999 3 1 #[.int .i64 (x 0), .int .i64 (x 1), .int .i64 (x 2), .int .i64 (x 3), .int .i64 (x 4), .int .i64 (x 5)] #[.int .i64 (y 0), .int .i64 (y 1), .int .i64 (y 2), .int .i64 (y 3), .int .i64 (y 4), .int .i64 (y 5)] is).run Try.prog W else .ok false W := by
    intro is
    rw [Op.eqItems]
    simp only [Sem.run_bind, p3, pe, Result.andThen_ok]
    cases x 3 == y 3 <;> simp
  have s4 : ∀ is, (Op.eqItems 9999 3 1 #[.int .i64 (x 0), .int .i64 (x 1), .int .i64 (x 2), .int .i64 (x 3), .int .i64 (x 4), .int .i64 (x 5)] #[.int .i64 (y 0), .int .i64 (y 1), .int .i64 (y 2), .int .i64 (y 3), .int .i64 (y 4), .int .i64 (y 5)] (4 :: is)).run Try.prog W = if x 4 == y 4 then (Op.eqItems 9999 3 1 #[.int .i64 (x 0), .int .i64 (x 1), .int .i64 (x 2), .int .i64 (x 3), .int .i64 (x 4), .int .i64 (x 5)] #[.int .i64 (y 0), .int .i64 (y 1), .int .i64 (y 2), .int .i64 (y 3), .int .i64 (y 4), .int .i64 (y 5)] is).run Try.prog W else .ok false W := by
    intro is
    rw [Op.eqItems]
    simp only [Sem.run_bind, p4, pe, Result.andThen_ok]
    cases x 4 == y 4 <;> simp
  have s5 : ∀ is, (Op.eqItems 9999 3 1 #[.int .i64 (x 0), .int .i64 (x 1), .int .i64 (x 2), .int .i64 (x 3), .int .i64 (x 4), .int .i64 (x 5)] #[.int .i64 (y 0), .int .i64 (y 1), .int .i64 (y 2), .int .i64 (y 3), .int .i64 (y 4), .int .i64 (y 5)] (5 :: is)).run Try.prog W = if x 5 == y 5 then (Op.eqItems 9999 3 1 #[.int .i64 (x 0), .int .i64 (x 1), .int .i64 (x 2), .int .i64 (x 3), .int .i64 (x 4), .int .i64 (x 5)] #[.int .i64 (y 0), .int .i64 (y 1), .int .i64 (y 2), .int .i64 (y 3), .int .i64 (y 4), .int .i64 (y 5)] is).run Try.prog W else .ok false W := by
    intro is
    rw [Op.eqItems]
    simp only [Sem.run_bind, p5, pe, Result.andThen_ok]
    cases x 5 == y 5 <;> simp
  rw [s0, s1, s2, s3, s4, s5, eq6]
  cases x 0 == y 0 <;> cases x 1 == y 1 <;> cases x 2 == y 2 <;> cases x 3 == y 3 <;> cases x 4 == y 4 <;> cases x 5 == y 5 <;> simp [Op.eqItems]

theorem ret_int {a b : Int} (h : a = b) : Ending.returned (.int .i64 a) = .returned (.int .i64 b) := by rw [h]
set_option maxHeartbeats 1000000 in
theorem compare_any (x y : Nat → Int) (w : World) :
    Calls Try.prog 56 #[vec x, vec y] w fun r w' => r = .returned (.int .i64 (cmpV x y)) ∧ Below w.heap.size w w' := by
  have HE : Hid (eq6 x y = (!lessTo x y 6 && !lessTo y x 6) ∧ eq6 (fun i => max (x i) (y i)) y = (!lessTo y x 6) ∧ eq6 (fun i => max (x i) (y i)) x = (!lessTo x y 6) ∧ cmpV x y = cmpB (lessTo x y 6) (lessTo y x 6)) := ⟨eq6_cmp x y, eq6_right x y, eq6_left x y, rfl⟩
  generalize hl : lessTo x y 6 = l at *
  generalize hm : lessTo y x 6 = m at *
  clear hl hm
  have r0 := run_eq6 x y
  have r1 := run_eq6 (fun i => max (x i) (y i)) y
  have r2 := run_eq6 (fun i => max (x i) (y i)) x
  unfold vec
  go_enter Try.func56, Try.ntmps56
  go_wp2_with fail
  refine (greater_any x y _).mono ?_
  rintro r w1 ⟨rfl, hb⟩
  have hx := ((Vec.new w x 73).below (Go.Joins.below_alloc1 _ (.cells #[.int .i64 (y 0), .int .i64 (y 1), .int .i64 (y 2), .int .i64 (y 3), .int .i64 (y 4), .int .i64 (y 5)] 73)) (by simp)).below hb (by simp; omega)
  have hy := (Vec.new (w.alloc (.cells #[.int .i64 (x 0), .int .i64 (x 1), .int .i64 (x 2), .int .i64 (x 3), .int .i64 (x 4), .int .i64 (x 5)] 73)) y 73).below hb (by simp)
  simp only [World.size_alloc] at hy
  obtain ⟨⟨c0, c1, c2, c3, c4, c5⟩, _⟩ := hx.six
  obtain ⟨⟨d0, d1, d2, d3, d4, d5⟩, _⟩ := hy.six
  have hz0 : w.heap.size < w1.heap.size := hx.2
  have hz1 : w.heap.size + 1 < w1.heap.size := hy.2
  have HB : Hid (Below w.heap.size w w1) := (((Below.refl _ _).alloc (Nat.le_refl _) _).alloc (by simp) _).trans (hb.mono (by simp; omega))
  clear hb hx hy
  unfold vec
  obtain ⟨e0, e1, e2, e3⟩ := HE.out
  rw [e0] at r0
  rw [e1] at r1
  rw [e2] at r2
  have HC : Hid (cmpV x y = cmpB l m) := e3
  clear e0 e1 e2 e3 HE
  cases l <;> cases m
  all_goals
    go_wp2
    have hb := HB.out
    go_ret
    exact ⟨ret_int HC.out.symm, (by repeat (first | refine Below.setCell ?_ (by (try simp) <;> omega) _ | refine Below.alloc ?_ (by (try simp) <;> omega) _ | refine Below.drew ?_ | assumption | exact Below.refl _ _ | refine Below.trans ?_ (Below.mono (by assumption) (by (try simp) <;> omega))))⟩
end Go.Proofs.Ytjophhiccbkpjaa
