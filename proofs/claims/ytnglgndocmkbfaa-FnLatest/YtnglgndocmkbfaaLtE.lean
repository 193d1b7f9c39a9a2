/- Latest ones: their order is total; the later of two, in any order and as often as one likes; == of latest ones. -/
import Derived.Test.YtnglgndocmkbfaaLtM
import Derived.Laws.StructEq
namespace Go.Proofs.Ytnglgndocmkbfaa
open Go.RowKit
set_option linter.unusedVariables false
set_option linter.unusedSimpArgs false

abbrev LtV : Type := ByteArray × Int × Int
def lesT (x y : LtV) : Prop := lesL x.1 x.2.1 x.2.2 y.1 y.2.1 y.2.2
noncomputable def mxT (x y : LtV) : LtV := if tf (lesT x y) = true then y else x
theorem mxT_y {x y : LtV} (h : lesT x y) : mxT x y = y := if_pos (tf_yes h)
theorem mxT_x {x y : LtV} (h : ¬ lesT x y) : mxT x y = x := if_neg (by rw [tf_no h]; simp)
theorem mlA_ok {x y : LtV} (h : (ltB x.1 x.2.1 x.2.2 && ltB y.1 y.2.1 y.2.2) = true) : mlA x.1 x.2.1 x.2.2 y.1 y.2.1 y.2.2 = (mxT x y, true) := by
  by_cases c : lesL x.1 x.2.1 x.2.2 y.1 y.2.1 y.2.2
  · rw [mlA_b h c, mxT_y (x := x) (y := y) c]
  · rw [mlA_a h c, mxT_x (x := x) (y := y) c]
theorem lesT_irr (x : LtV) : ¬ lesT x x := by
  unfold lesT lesL
  rintro (h | ⟨_, h | ⟨_, h⟩⟩)
  · omega
  · omega
  · rw [less_irr] at h; cases h
theorem lesT_trans {x y z : LtV} (h : lesT x y) (k : lesT y z) : lesT x z := by
  unfold lesT lesL at *
  rcases h with h | ⟨h1, h | ⟨h2, h⟩⟩
  · rcases k with k | ⟨k1, _⟩
    · exact Or.inl (by omega)
    · exact Or.inl (by omega)
  · rcases k with k | ⟨k1, k | ⟨k2, _⟩⟩
    · exact Or.inl (by omega)
    · exact Or.inr ⟨by omega, Or.inl (by omega)⟩
    · exact Or.inr ⟨by omega, Or.inl (by omega)⟩
  · rcases k with k | ⟨k1, k | ⟨k2, k⟩⟩
    · exact Or.inl (by omega)
    · exact Or.inr ⟨by omega, Or.inl (by omega)⟩
    · exact Or.inr ⟨by omega, Or.inr ⟨by omega, less_trans h k⟩⟩
theorem bytes_ext {a b : ByteArray} (h : a.toList = b.toList) : a = b := by
  rw [ByteArray.toList_eq, ByteArray.toList_eq] at h
  cases a; cases b
  congr 1
  exact Array.toList_inj.1 h
theorem lesT_tri {x y : LtV} (h : ¬ lesT x y) (k : ¬ lesT y x) : x = y := by
  obtain ⟨v, t, a⟩ := x
  obtain ⟨v', t', a'⟩ := y
  unfold lesT lesL at h k
  simp only at h k
  have ht : t = t' := by
    rcases Int.lt_trichotomy t t' with q | q | q
    · exact absurd (Or.inl q) h
    · exact q
    · exact absurd (Or.inl q) k
  have ha : a = a' := by
    rcases Int.lt_trichotomy a a' with q | q | q
    · exact absurd (Or.inr ⟨ht, Or.inl q⟩) h
    · exact q
    · exact absurd (Or.inr ⟨ht.symm, Or.inl q⟩) k
  have hv : v = v' := by
    refine bytes_ext (Classical.byContradiction fun hne => ?_)
    cases hb : Op.bytesLess v.toList v'.toList
    · exact k (Or.inr ⟨ht.symm, Or.inr ⟨ha.symm, less_tri hb hne⟩⟩)
    · exact h (Or.inr ⟨ht, Or.inr ⟨ha, hb⟩⟩)
  rw [ht, ha, hv]
theorem mxT_idem (x : LtV) : mxT x x = x := mxT_x (lesT_irr x)
theorem mxT_or (x y : LtV) : mxT x y = x ∨ mxT x y = y := by
  by_cases h : lesT x y
  · exact Or.inr (mxT_y h)
  · exact Or.inl (mxT_x h)
theorem mxT_comm (x y : LtV) : mxT x y = mxT y x := by
  by_cases h : lesT x y
  · rw [mxT_y h, mxT_x (fun k => lesT_irr x (lesT_trans h k))]
  · by_cases k : lesT y x
    · rw [mxT_x h, mxT_y k]
    · rw [lesT_tri h k]
theorem mxT_assoc (x y z : LtV) : mxT (mxT x y) z = mxT x (mxT y z) := by
  by_cases h1 : lesT x y
  · by_cases h2 : lesT y z
    · rw [mxT_y h1, mxT_y h2, mxT_y (lesT_trans h1 h2)]
    · rw [mxT_y h1, mxT_x h2, mxT_y h1]
  · by_cases h2 : lesT y z
    · rw [mxT_x h1, mxT_y h2]
    · rw [mxT_x h1, mxT_x h2, mxT_x h1]
      refine mxT_x (fun h3 => ?_)
      by_cases h4 : lesT z y
      · exact h1 (lesT_trans h3 h4)
      · have := lesT_tri h2 h4
        subst this; exact h1 h3
theorem okT_mx {x y : LtV} (h : ltB x.1 x.2.1 x.2.2 = true) (k : ltB y.1 y.2.1 y.2.2 = true) : ltB (mxT x y).1 (mxT x y).2.1 (mxT x y).2.2 = true := by
  rcases mxT_or x y with q | q <;> rw [q] <;> assumption
def latE (v : ByteArray) (t a : Int) (v' : ByteArray) (t' a' : Int) : Bool := v.toList == v'.toList && (t == t' && a == a')
theorem latE_yes (v : ByteArray) (t a : Int) : latE v t a v t a = true := by simp [latE]
set_option maxHeartbeats 1000000 in
theorem equal_lat (d : Nat) (v : ByteArray) (t a : Int) (v' : ByteArray) (t' a' : Int) (w : World) :
    (Op.equalIn (d + 2) 39 (.agg #[.string v, .int .i64 t, .int .i64 a]) (.agg #[.string v', .int .i64 t', .int .i64 a'])).run Try.prog w = .ok (latE v t a v' t' a') w := by
  have u1 := Try.underlying3
  have u2 := Try.underlying9
  have hS : Try.prog.underlying 39 = some (.struct (Try.prog.fieldsOf 39)) := by kernel_rfl
  have hp : Try.prog.stoodInHeld 39 = false := by kernel_rfl
  have p0 : (Go.part 9 #[.string v, .int .i64 t, .int .i64 a] 0).run Try.prog w = .ok (.string v) w := by kernel_rfl
  have p1 : (Go.part 3 #[.string v, .int .i64 t, .int .i64 a] 1).run Try.prog w = .ok (.int .i64 t) w := by kernel_rfl
  have p2 : (Go.part 3 #[.string v, .int .i64 t, .int .i64 a] 2).run Try.prog w = .ok (.int .i64 a) w := by kernel_rfl
  have q0 : (Go.part 9 #[.string v', .int .i64 t', .int .i64 a'] 0).run Try.prog w = .ok (.string v') w := by kernel_rfl
  have q1 : (Go.part 3 #[.string v', .int .i64 t', .int .i64 a'] 1).run Try.prog w = .ok (.int .i64 t') w := by kernel_rfl
  have q2 : (Go.part 3 #[.string v', .int .i64 t', .int .i64 a'] 2).run Try.prog w = .ok (.int .i64 a') w := by kernel_rfl
  rw [run_equalIn_agg w (d + 1) _ _ _ hS hp]
  simp only [Program.fieldsOf, Try.underlying39]
  simp only [Op.eqFields, Sem.run_bind, Sem.run_ite, p0, p1, p2, q0, q1, q2, Result.andThen_ok, run_equalIn_int w d 3 .i64 .i64 _ _ u1, run_equalIn_string w d 9 _ _ u2]
  unfold latE
  cases h0 : v.toList == v'.toList <;> cases h1 : t == t' <;> cases h2 : a == a' <;> simp [h0, h1, h2]
theorem run_eqLat (v : ByteArray) (t a : Int) (v' : ByteArray) (t' a' : Int) (w : World) :
    (binOp .eql 39 (.agg #[.string v, .int .i64 t, .int .i64 a]) (.agg #[.string v', .int .i64 t', .int .i64 a'])).run Try.prog w = .ok (.bool (latE v t a v' t' a')) w := by
  rw [run_eql_struct, show (10000 : Nat) = 9998 + 2 from rfl, equal_lat]; rfl
theorem run_neLat (v : ByteArray) (t a : Int) (v' : ByteArray) (t' a' : Int) (w : World) :
    (binOp .neq 39 (.agg #[.string v, .int .i64 t, .int .i64 a]) (.agg #[.string v', .int .i64 t', .int .i64 a'])).run Try.prog w = .ok (.bool (!latE v t a v' t' a')) w := by
  rw [run_neq_struct, show (10000 : Nat) = 9998 + 2 from rfl, equal_lat]; rfl
end Go.Proofs.Ytnglgndocmkbfaa
