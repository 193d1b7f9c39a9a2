/- What is heard: places as keys of a map, == of adds, heardTogether. -/
import Derived.Test.YtnglgndocmkbfaaBgA
import Derived.Laws.StructEq
namespace Go.Proofs.Ytnglgndocmkbfaa
open Go.RowKit
set_option linter.unusedVariables false
set_option linter.unusedSimpArgs false

set_option maxHeartbeats 1000000 in
theorem equal_place (d : Nat) (e s : Int) (e' s' : Int) (w : World) :
    (Op.equalIn (d + 2) 111 (.agg #[.int .i64 e, .int .i64 s]) (.agg #[.int .i64 e', .int .i64 s'])).run Try.prog w = .ok (e == e' && s == s') w := by
  have u1 := Try.underlying3
  have hS : Try.prog.underlying 111 = some (.struct (Try.prog.fieldsOf 111)) := by kernel_rfl
  have hp : Try.prog.stoodInHeld 111 = false := by kernel_rfl
  have p0 : (Go.part 3 #[.int .i64 e, .int .i64 s] 0).run Try.prog w = .ok (.int .i64 e) w := by kernel_rfl
  have p1 : (Go.part 3 #[.int .i64 e, .int .i64 s] 1).run Try.prog w = .ok (.int .i64 s) w := by kernel_rfl
  have q0 : (Go.part 3 #[.int .i64 e', .int .i64 s'] 0).run Try.prog w = .ok (.int .i64 e') w := by kernel_rfl
  have q1 : (Go.part 3 #[.int .i64 e', .int .i64 s'] 1).run Try.prog w = .ok (.int .i64 s') w := by kernel_rfl
  rw [run_equalIn_agg w (d + 1) _ _ _ hS hp]
  simp only [Program.fieldsOf, Try.underlying111]
  simp only [Op.eqFields, Sem.run_bind, Sem.run_ite, p0, p1, q0, q1, Result.andThen_ok, run_equalIn_int w d 3 .i64 .i64 _ _ u1]
  cases h0 : e == e' <;> cases h1 : s == s' <;> simp [h0, h1]
theorem findAsking_place (k : Int × Int) (w : World) : ∀ (es : List MapEntry) (l : List ((Int × Int) × Value)) (i : Nat), EsL kvP es l → (Instr.findAsking 111 (kvP k) es i).run Try.prog w = .ok (fnd k l i) w
  | [], [], i, _ => rfl
  | e :: es, [], i, h => by have := h.len; simp at this
  | [], p :: l, i, h => by have := h.len; simp at this
  | e :: es, p :: l, i, h => by
    obtain ⟨h1, h2, h3⟩ := h.cons
    have ih := findAsking_place k w es l (i + 1) h3
    have he : (Op.equal 111 (kvP k) e.key).run Try.prog w = .ok (k.1 == p.1.1 && k.2 == p.1.2) w := by
      rw [h1]; exact equal_place 9998 k.1 k.2 p.1.1 p.1.2 w
    unfold Instr.findAsking fnd
    by_cases q : p.1 = k
    · rw [if_pos q]
      subst q
      simp [Sem.run_bind, he, Result.andThen, h2]
    · rw [if_neg q]
      have hb : (k.1 == p.1.1 && k.2 == p.1.2) = false := by
        cases hc : (k.1 == p.1.1 && k.2 == p.1.2) with
        | false => rfl
        | true =>
          rw [Bool.and_eq_true, beq_iff_eq, beq_iff_eq] at hc
          exact absurd (Prod.ext hc.1.symm hc.2.symm) q
      rw [hb] at he
      simp [Sem.run_bind, he, Result.andThen, ih]
theorem keyL_place : KeyL Try.prog 111 kvP where
  check c k w := by kernel_rfl
  find k es l w h := by
    have hS := Try.underlying111
    have ha := findAsking_place k w es l 0 h
    unfold Instr.findKey
    cases es with
    | nil =>
      have hl : l = [] := List.eq_nil_of_length_eq_zero (by have := h.len; simpa using this.symm)
      subst hl
      simp [run_underlying hS, Result.andThen, Instr.findNow, fnd]
    | cons e es =>
      have hk : ∃ a b, e.key = .agg #[.int .i64 a, .int .i64 b] := by
        cases l with
        | nil => have := h.len; simp at this
        | cons p l => exact ⟨_, _, h.cons.1⟩
      obtain ⟨a, b, hk⟩ := hk
      simp [run_underlying hS, Result.andThen, Instr.findNow, Instr.sameNow, hk, ha]
  same k := by simp [Instr.sameBits]
def addE (v : ByteArray) (a n : Int) (v' : ByteArray) (a' n' : Int) : Bool := v.toList == v'.toList && (a == a' && n == n')
theorem addE_iff {v : ByteArray} {a n : Int} {v' : ByteArray} {a' n' : Int} : addE v a n v' a' n' = true ↔ v = v' ∧ a = a' ∧ n = n' := by
  unfold addE
  rw [Bool.and_eq_true, Bool.and_eq_true, beq_iff_eq, beq_iff_eq, beq_iff_eq]
  refine ⟨fun h => ⟨?_, h.2⟩, fun h => ⟨by rw [h.1], h.2⟩⟩
  have h1 := h.1
  rw [ByteArray.toList_eq, ByteArray.toList_eq] at h1
  cases v; cases v'
  congr 1
  exact Array.toList_inj.1 h1
set_option maxHeartbeats 1000000 in
theorem equal_add (d : Nat) (v : ByteArray) (t a : Int) (v' : ByteArray) (t' a' : Int) (w : World) :
    (Op.equalIn (d + 2) 113 (.agg #[.string v, .int .i64 t, .int .i64 a]) (.agg #[.string v', .int .i64 t', .int .i64 a'])).run Try.prog w = .ok (addE v t a v' t' a') w := by
  have u1 := Try.underlying3
  have u2 := Try.underlying9
  have hS : Try.prog.underlying 113 = some (.struct (Try.prog.fieldsOf 113)) := by kernel_rfl
  have hp : Try.prog.stoodInHeld 113 = false := by kernel_rfl
  have p0 : (Go.part 9 #[.string v, .int .i64 t, .int .i64 a] 0).run Try.prog w = .ok (.string v) w := by kernel_rfl
  have p1 : (Go.part 3 #[.string v, .int .i64 t, .int .i64 a] 1).run Try.prog w = .ok (.int .i64 t) w := by kernel_rfl
  have p2 : (Go.part 3 #[.string v, .int .i64 t, .int .i64 a] 2).run Try.prog w = .ok (.int .i64 a) w := by kernel_rfl
  have q0 : (Go.part 9 #[.string v', .int .i64 t', .int .i64 a'] 0).run Try.prog w = .ok (.string v') w := by kernel_rfl
  have q1 : (Go.part 3 #[.string v', .int .i64 t', .int .i64 a'] 1).run Try.prog w = .ok (.int .i64 t') w := by kernel_rfl
  have q2 : (Go.part 3 #[.string v', .int .i64 t', .int .i64 a'] 2).run Try.prog w = .ok (.int .i64 a') w := by kernel_rfl
  rw [run_equalIn_agg w (d + 1) _ _ _ hS hp]
  simp only [Program.fieldsOf, Try.underlying113]
  simp only [Op.eqFields, Sem.run_bind, Sem.run_ite, p0, p1, p2, q0, q1, q2, Result.andThen_ok, run_equalIn_int w d 3 .i64 .i64 _ _ u1, run_equalIn_string w d 9 _ _ u2]
  unfold addE
  cases h0 : v.toList == v'.toList <;> cases h1 : t == t' <;> cases h2 : a == a' <;> simp [h0, h1, h2]
theorem run_neAdd (v : ByteArray) (t a : Int) (v' : ByteArray) (t' a' : Int) (w : World) :
    (binOp .neq 113 (.agg #[.string v, .int .i64 t, .int .i64 a]) (.agg #[.string v', .int .i64 t', .int .i64 a'])).run Try.prog w = .ok (.bool (!addE v t a v' t' a')) w := by
  rw [run_neq_struct, show (10000 : Nat) = 9998 + 2 from rfl, equal_add]; rfl
theorem togH_yes {a b : HrV} (h : a.1 = b.1 ∧ a.2.1 = b.2.1 ∧ a.2.2.1 = b.2.2.1) : togH a b = (a.1, a.2.1, a.2.2.1, a.2.2.2 || b.2.2.2) := if_pos h
theorem togH_no {a b : HrV} (h : ¬ (a.1 = b.1 ∧ a.2.1 = b.2.1 ∧ a.2.2.1 = b.2.2.1)) : togH a b = (⟨#[]⟩, 0, 0, false) := if_neg h
theorem set4 (W : World) (g : Nat) (u0 u1 u2 u3 : Value) : TurnS (fun k => k = g) W ((((W.setCell ⟨g, 0, none⟩ u0).setCell ⟨g, 1, none⟩ u1).setCell ⟨g, 2, none⟩ u2).setCell ⟨g, 3, none⟩ u3) :=
  (set3 W g u0 u1 u2).set (S := fun k => k = g) (p := ⟨g, 3, none⟩) rfl _
set_option maxRecDepth 100000 in
set_option maxHeartbeats 2000000 in
theorem heardTogether_n (x y : HrV) (w : World) : Calls Try.prog 82 #[evH x, evH y] w fun r w' => r = .returned (evH (togH x y)) ∧ Below w.heap.size w w' := by
  obtain ⟨x0, x1, x2, x3⟩ := x
  obtain ⟨y0, y1, y2, y3⟩ := y
  obtain ⟨w0, hw0⟩ : ∃ q, q = ((w.alloc (.cells #[.string x0, .int .i64 x1, .int .i64 x2, .bool x3] 115)).alloc (.cells #[.string y0, .int .i64 y1, .int .i64 y2, .bool y3] 115)).alloc (.cells #[.string ⟨#[]⟩, .int .i64 0, .int .i64 0, .bool false] 115) := ⟨_, rfl⟩
  have HB0 : Hid (Bx w0 w.heap.size [.string x0, .int .i64 x1, .int .i64 x2, .bool x3] ∧ Bx w0 (w.heap.size + 1) [.string y0, .int .i64 y1, .int .i64 y2, .bool y3] ∧ Bx w0 (w.heap.size + 1 + 1) [.string ⟨#[]⟩, .int .i64 0, .int .i64 0, .bool false] ∧ Below w.heap.size w w0) := ⟨hw0 ▸ ((Bx.new w [_, _, _, _] _).alloc _).alloc _, hw0 ▸ (Bx.newAt (by simp)).alloc _, hw0 ▸ Bx.newAt (by simp), hw0 ▸ (((Below.refl _ _).alloc (Nat.le_refl _) _).alloc (by simp) _).alloc (by simp; omega) _⟩
  have s0 := (HB0.out.1).cell 0 rfl; have s1 := (HB0.out.1).cell 1 rfl; have s2 := (HB0.out.1).cell 2 rfl; have s3 := (HB0.out.1).cell 3 rfl; have sz := (HB0.out.1).2
  have t0 := (HB0.out.2.1).cell 0 rfl; have t1 := (HB0.out.2.1).cell 1 rfl; have t2 := (HB0.out.2.1).cell 2 rfl; have t3 := (HB0.out.2.1).cell 3 rfl; have tz := (HB0.out.2.1).2
  have r0 := (HB0.out.2.2.1).cell 0 rfl; have r1 := (HB0.out.2.2.1).cell 1 rfl; have r2 := (HB0.out.2.2.1).cell 2 rfl; have r3 := (HB0.out.2.2.1).cell 3 rfl; have rz := (HB0.out.2.2.1).2
  have f0 := HB0.out.2.2.1.frz 0 (by simp)
  have f1 := HB0.out.2.2.1.frz 1 (by simp)
  have f2 := HB0.out.2.2.1.frz 2 (by simp)
  have f3 := HB0.out.2.2.1.frz 3 (by simp)
  have HF : Hid (∀ u0 u1 u2 u3, Below w.heap.size w ((((w0.setCell ⟨w.heap.size + 1 + 1, 0, none⟩ u0).setCell ⟨w.heap.size + 1 + 1, 1, none⟩ u1).setCell ⟨w.heap.size + 1 + 1, 2, none⟩ u2).setCell ⟨w.heap.size + 1 + 1, 3, none⟩ u3)) := Hid.intro (fun u0 u1 u2 u3 => HB0.out.2.2.2.trans ((set4 w0 _ u0 u1 u2 u3).below (fun k e => by have e : k = w.heap.size + 1 + 1 := e; omega) HB0.out.2.2.2.size))
  obtain ⟨q, hq⟩ : ∃ q, q = addE x0 x1 x2 y0 y1 y2 := ⟨_, rfl⟩
  have HQ : Hid (q = true ↔ x0 = y0 ∧ x1 = y1 ∧ x2 = y2) := Hid.intro (by rw [hq]; exact addE_iff)
  have hr := fun W => run_neAdd x0 x1 x2 y0 y1 y2 W
  rw [← hq] at hr
  clear hq
  cases q
  · have HN : Hid (togH (x0, x1, x2, x3) (y0, y1, y2, y3) = (⟨#[]⟩, 0, 0, false)) := Hid.intro (togH_no (fun q => by have := HQ.out.2 q; cases this))
    go_enter Try.func82, Try.ntmps82
    go_upto_region 1 with fail
    rw [← hw0]
    clear hw0
    go_wp2
    exact bodyPost_ret (v := .agg #[.string ⟨#[]⟩, .int .i64 0, .int .i64 0, .bool false]) (by simp [results, Try.results82, go_sem, *]) rfl ⟨by rw [HN.out], HF.out _ _ _ _⟩
  · cases x3
    · have HN : Hid (togH (x0, x1, x2, false) (y0, y1, y2, y3) = (x0, x1, x2, y3)) := Hid.intro (by rw [togH_yes (HQ.out.1 rfl)]; rfl)
      go_enter Try.func82, Try.ntmps82
      go_upto_region 1 with fail
      rw [← hw0]
      clear hw0
      go_wp2
      exact bodyPost_ret (v := .agg #[.string x0, .int .i64 x1, .int .i64 x2, .bool y3]) (by simp [results, Try.results82, go_sem, *]) rfl ⟨by rw [HN.out], HF.out _ _ _ _⟩
    · have HN : Hid (togH (x0, x1, x2, true) (y0, y1, y2, y3) = (x0, x1, x2, true)) := Hid.intro (by rw [togH_yes (HQ.out.1 rfl)]; rfl)
      go_enter Try.func82, Try.ntmps82
      go_upto_region 1 with fail
      rw [← hw0]
      clear hw0
      go_wp2
      exact bodyPost_ret (v := .agg #[.string x0, .int .i64 x1, .int .i64 x2, .bool true]) (by simp [results, Try.results82, go_sem, *]) rfl ⟨by rw [HN.out], HF.out _ _ _ _⟩
end Go.Proofs.Ytnglgndocmkbfaa
