/- Bags: what is an add, what are adds, on both sides. Written by tools/mkBgA.py. -/
import Derived.Test.YtnglgndocmkbfaaBgG
import Derived.Test.YtnglgndocmkbfaaLtM
import Derived.Test.YtnglgndocmkbfaaNtT
namespace Go.Proofs.Ytnglgndocmkbfaa
open Go.RowKit
set_option linter.unusedVariables false
set_option linter.unusedSimpArgs false

theorem w64s {n : Int} (h0 : -9223372036854775808 ≤ n) (h1 : n ≤ 9223372036854775807) : IntKind.i64.wrap n = n := by
  rw [IntKind.wrap_i64]; omega
theorem compareAdd_b (v : ByteArray) (a n : Int) (v' : ByteArray) (a' n' : Int) (w : World) : Calls Try.prog 121 #[.agg #[.string v, .int .i64 a, .int .i64 n], .agg #[.string v', .int .i64 a', .int .i64 n']] w fun r w' => r = .returned (.int .i64 (cmA a n a' n')) ∧ Below w.heap.size w w' :=
  (compareAdd_n v a n v' a' n' w).mono (fun r w' q => ⟨q.1, by
    rw [q.2]
    exact ((((Below.refl _ _).alloc (Nat.le_refl _) _).alloc (by simp) _).drew).alloc (by show w.heap.size ≤ ((w.alloc _).alloc _).heap.size; simp; omega) _⟩)
theorem cmA_less {a n a' n' : Int} : cmA a n a' n' < 0 ↔ lesA a n a' n' := cmA_neg
theorem mem_le_sum : ∀ {x : Nat} (l : List Nat), x ∈ l → x ≤ l.sum
  | x, [], h => by simp at h
  | x, y :: t, h => by
    rw [List.sum_cons]
    rcases List.mem_cons.1 h with e | e
    · omega
    · have := mem_le_sum t e; omega
def samA (a n a' n' : Int) : Prop := a = a' ∧ n = n'
/-- A text that is small enough for the tests. -/
def smlA (l : List AdV) : Prop := l.length ≤ 1073741824 ∧ ∀ k (h : k < l.length), l[k].1.size ≤ 1073741824
theorem sml_of {l : List AdV} (h : szD (.list shAdd) l ≤ 1073741824) : smlA l := by
  have e : szD (.list shAdd) l = l.length + (l.map (szD shAdd)).sum := rfl
  refine ⟨by omega, fun k hk => ?_⟩
  have h1 : szD shAdd l[k] ≤ (l.map (szD shAdd)).sum := by
    exact mem_le_sum _ (List.mem_map.2 ⟨_, List.getElem_mem hk, rfl⟩)
  have h2 : szD shAdd l[k] = l[k].1.size + (0 + (0 + 0)) := rfl
  omega
theorem bg_sizes {A G : List AdV} (h : szD shBag (A, G, ()) ≤ 1073741824) : smlA A ∧ smlA G := by
  have e : szD shBag (A, G, ()) = szD (.list shAdd) A + (szD (.list shAdd) G + 0) := rfl
  exact ⟨sml_of (by omega), sml_of (by omega)⟩

set_option maxRecDepth 100000 in
set_option maxHeartbeats 1000000 in
theorem isAdd_n (v : ByteArray) (a n : Int) (w : World) (hv : v.size ≤ maxLen) :
    Calls Try.prog 129 #[.agg #[.string v, .int .i64 a, .int .i64 n]] w fun r w' => r = .returned (.bool (addB v a n)) ∧ Below w.heap.size w w' := by
  obtain ⟨w0, hw0⟩ : ∃ x, x = w.alloc (.cells #[.string v, .int .i64 a, .int .i64 n] 113) := ⟨_, rfl⟩
  have HB0 : Hid (Bx w0 w.heap.size [.string v, .int .i64 a, .int .i64 n] ∧ Below w.heap.size w w0) := ⟨hw0 ▸ Bx.new w [_, _, _] _, hw0 ▸ Go.Joins.below_alloc1 _ _⟩
  have HV := Hid.intro hv
  clear hv
  have s0 := (HB0.out.1).cell 0 rfl
  have s1 := (HB0.out.1).cell 1 rfl
  have s2 := (HB0.out.1).cell 2 rfl
  have sz := (HB0.out.1).2
  cases e1 : valOk v
  · have H1 : Hid (valOk v = false) := e1
    have HN : Hid (addB v a n = false) := Hid.intro (by unfold addB; rw [e1]; rfl)
    clear e1
    go_enter Try.func129, Try.ntmps129
    go_upto_region 1 with fail
    rw [← hw0]
    clear hw0
    go_wp2_with fail
    refine (H1.out ▸ isValue_any v _ HV.out).mono ?_
    rintro r w' ⟨rfl, hw⟩
    have hw := hw.symm
    subst hw
    go_wp2
    go_ret
    exact ⟨ret_bool HN.out.symm, HB0.out.2⟩
  have H1 : Hid (valOk v = true) := e1
  clear e1
  cases e2 : inR a 0 5
  · have H2 : Hid (inR a 0 5 = false) := e2
    have HN : Hid (addB v a n = false) := Hid.intro (by unfold addB; rw [H1.out, e2]; rfl)
    clear e2
    go_enter Try.func129, Try.ntmps129
    go_upto_region 1 with fail
    rw [← hw0]
    clear hw0
    go_wp2_with fail
    refine (H1.out ▸ isValue_any v _ HV.out).mono ?_
    rintro r w' ⟨rfl, hw⟩
    have hw := hw.symm
    subst hw
    go_wp2_with fail
    refine (H2.out ▸ isActor_n a _).mono ?_
    rintro r w' ⟨rfl, hw⟩
    have hw := hw.symm
    subst hw
    go_wp2
    go_ret
    exact ⟨ret_bool HN.out.symm, HB0.out.2⟩
  have H2 : Hid (inR a 0 5 = true) := e2
  clear e2
  cases e3 : inR n 1 1000
  · have H3 : Hid (inR n 1 1000 = false) := e3
    have HN : Hid (addB v a n = false) := Hid.intro (by unfold addB; rw [H1.out, H2.out, e3]; rfl)
    clear e3
    go_enter Try.func129, Try.ntmps129
    go_upto_region 1 with fail
    rw [← hw0]
    clear hw0
    go_wp2_with fail
    refine (H1.out ▸ isValue_any v _ HV.out).mono ?_
    rintro r w' ⟨rfl, hw⟩
    have hw := hw.symm
    subst hw
    go_wp2_with fail
    refine (H2.out ▸ isActor_n a _).mono ?_
    rintro r w' ⟨rfl, hw⟩
    have hw := hw.symm
    subst hw
    go_wp2_with fail
    refine (H3.out ▸ inRange_any n 1 1000 _).mono ?_
    rintro r w' ⟨rfl, hw⟩
    have hw := hw.symm
    subst hw
    go_wp2
    go_ret
    exact ⟨ret_bool HN.out.symm, HB0.out.2⟩
  · have H3 : Hid (inR n 1 1000 = true) := e3
    have HN : Hid (addB v a n = true) := Hid.intro (by unfold addB; rw [H1.out, H2.out, e3]; rfl)
    clear e3
    go_enter Try.func129, Try.ntmps129
    go_upto_region 1 with fail
    rw [← hw0]
    clear hw0
    go_wp2_with fail
    refine (H1.out ▸ isValue_any v _ HV.out).mono ?_
    rintro r w' ⟨rfl, hw⟩
    have hw := hw.symm
    subst hw
    go_wp2_with fail
    refine (H2.out ▸ isActor_n a _).mono ?_
    rintro r w' ⟨rfl, hw⟩
    have hw := hw.symm
    subst hw
    go_wp2_with fail
    refine (H3.out ▸ inRange_any n 1 1000 _).mono ?_
    rintro r w' ⟨rfl, hw⟩
    have hw := hw.symm
    subst hw
    go_wp2
    go_ret
    exact ⟨ret_bool HN.out.symm, HB0.out.2⟩
set_option maxRecDepth 100000 in
set_option maxHeartbeats 1000000 in
theorem l14Less_n (v : ByteArray) (a n : Int) (v' : ByteArray) (a' n' : Int) (w : World) :
    Calls Try.prog 123 #[.agg #[.string v, .int .i64 a, .int .i64 n], .agg #[.string v', .int .i64 a', .int .i64 n']] w fun r w' => r = .returned (.bool (tf (lesA a n a' n'))) ∧ Below w.heap.size w w' := by
  obtain ⟨w0, hw0⟩ : ∃ x, x = (w.alloc (.cells #[.string v, .int .i64 a, .int .i64 n] 113)).alloc (.cells #[.string v', .int .i64 a', .int .i64 n'] 113) := ⟨_, rfl⟩
  have HB0 : Hid (Bx w0 w.heap.size [.string v, .int .i64 a, .int .i64 n] ∧ Bx w0 (w.heap.size + 1) [.string v', .int .i64 a', .int .i64 n'] ∧ Below w.heap.size w w0) := ⟨hw0 ▸ (Bx.new w [_, _, _] _).alloc _, hw0 ▸ Bx.newAt (by simp), hw0 ▸ ((Below.refl _ _).alloc (Nat.le_refl _) _).alloc (by simp) _⟩
  have s0 := (HB0.out.1).cell 0 rfl
  have s1 := (HB0.out.1).cell 1 rfl
  have s2 := (HB0.out.1).cell 2 rfl
  have sz := (HB0.out.1).2
  have t0 := (HB0.out.2.1).cell 0 rfl
  have t1 := (HB0.out.2.1).cell 1 rfl
  have t2 := (HB0.out.2.1).cell 2 rfl
  have tz := (HB0.out.2.1).2
  by_cases h1 : a < a'
  ·
    skip
    have HN : Hid (tf (lesA a n a' n') = true) := tf_yes (by unfold lesA; omega)
    go_enter Try.func123, Try.ntmps123
    go_upto_region 1 with fail
    rw [← hw0]
    clear hw0
    go_wp2
    go_ret
    exact ⟨ret_bool HN.out.symm, HB0.out.2.2⟩
  by_cases h2 : a = a'
  case neg =>
    have h3 : (a == a') = false := by simp; exact h2
    have HN : Hid (tf (lesA a n a' n') = false) := tf_no (by unfold lesA; omega)
    go_enter Try.func123, Try.ntmps123
    go_upto_region 1 with fail
    rw [← hw0]
    clear hw0
    go_wp2
    go_ret
    exact ⟨ret_bool HN.out.symm, HB0.out.2.2⟩
  subst h2
  clear h1
  by_cases h4 : n < n'
  ·
    skip
    have HN : Hid (tf (lesA a n a n') = true) := tf_yes (by unfold lesA; omega)
    go_enter Try.func123, Try.ntmps123
    go_upto_region 1 with fail
    rw [← hw0]
    clear hw0
    go_wp2
    go_ret
    exact ⟨ret_bool HN.out.symm, HB0.out.2.2⟩
  ·
    skip
    have HN : Hid (tf (lesA a n a n') = false) := tf_no (by unfold lesA; omega)
    go_enter Try.func123, Try.ntmps123
    go_upto_region 1 with fail
    rw [← hw0]
    clear hw0
    go_wp2
    go_ret
    exact ⟨ret_bool HN.out.symm, HB0.out.2.2⟩
set_option maxRecDepth 100000 in
set_option maxHeartbeats 1000000 in
theorem l14Same_n (v : ByteArray) (a n : Int) (v' : ByteArray) (a' n' : Int) (w : World) :
    Calls Try.prog 100 #[.agg #[.string v, .int .i64 a, .int .i64 n], .agg #[.string v', .int .i64 a', .int .i64 n']] w fun r w' => r = .returned (.bool (tf (samA a n a' n'))) ∧ Below w.heap.size w w' := by
  obtain ⟨w0, hw0⟩ : ∃ x, x = (w.alloc (.cells #[.string v, .int .i64 a, .int .i64 n] 113)).alloc (.cells #[.string v', .int .i64 a', .int .i64 n'] 113) := ⟨_, rfl⟩
  have HB0 : Hid (Bx w0 w.heap.size [.string v, .int .i64 a, .int .i64 n] ∧ Bx w0 (w.heap.size + 1) [.string v', .int .i64 a', .int .i64 n'] ∧ Below w.heap.size w w0) := ⟨hw0 ▸ (Bx.new w [_, _, _] _).alloc _, hw0 ▸ Bx.newAt (by simp), hw0 ▸ ((Below.refl _ _).alloc (Nat.le_refl _) _).alloc (by simp) _⟩
  have s0 := (HB0.out.1).cell 0 rfl
  have s1 := (HB0.out.1).cell 1 rfl
  have s2 := (HB0.out.1).cell 2 rfl
  have sz := (HB0.out.1).2
  have t0 := (HB0.out.2.1).cell 0 rfl
  have t1 := (HB0.out.2.1).cell 1 rfl
  have t2 := (HB0.out.2.1).cell 2 rfl
  have tz := (HB0.out.2.1).2
  by_cases h2 : a = a'
  case neg =>
    have h3 : (a == a') = false := by simp; exact h2
    have HN : Hid (tf (samA a n a' n') = false) := tf_no (by unfold samA; omega)
    go_enter Try.func100, Try.ntmps100
    go_upto_region 1 with fail
    rw [← hw0]
    clear hw0
    go_wp2
    go_ret
    exact ⟨ret_bool HN.out.symm, HB0.out.2.2⟩
  subst h2
  by_cases h4 : n = n'
  case neg =>
    have h5 : (n == n') = false := by simp; exact h4
    have HN : Hid (tf (samA a n a n') = false) := tf_no (by unfold samA; omega)
    go_enter Try.func100, Try.ntmps100
    go_upto_region 1 with fail
    rw [← hw0]
    clear hw0
    go_wp2
    go_ret
    exact ⟨ret_bool HN.out.symm, HB0.out.2.2⟩
  subst h4
  have HN : Hid (tf (samA a n a n) = true) := tf_yes (by unfold samA; omega)
  go_enter Try.func100, Try.ntmps100
  go_upto_region 1 with fail
  rw [← hw0]
  clear hw0
  go_wp2
  go_ret
  exact ⟨ret_bool HN.out.symm, HB0.out.2.2⟩
/-- Three cells that hold an add. -/
def CeY (W : World) (g o : Nat) (v : ByteArray) (a n : Int) : Prop := W.cell? ⟨g, o, none⟩ = some (.string v) ∧ W.cell? ⟨g, o + 1, none⟩ = some (.int .i64 a) ∧ W.cell? ⟨g, o + 2, none⟩ = some (.int .i64 n) ∧ g < W.heap.size
theorem CeY.next {W W' : World} {g o : Nat} {v : ByteArray} {a n : Int} (h : CeY W g o v a n) (hb : Below W.heap.size W W') : CeY W' g o v a n := ⟨(hb.cell (p := ⟨g, o, none⟩) h.2.2.2).trans h.1, (hb.cell (p := ⟨g, o + 1, none⟩) h.2.2.2).trans h.2.1, (hb.cell (p := ⟨g, o + 2, none⟩) h.2.2.2).trans h.2.2.1, Nat.lt_of_lt_of_le h.2.2.2 hb.size⟩
end Go.Proofs.Ytnglgndocmkbfaa
