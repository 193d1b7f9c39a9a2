/- Latest ones: what is good, MergeLatest on both sides. Written by tools/mkLtM.py. -/
import Derived.Test.YtnglgndocmkbfaaLtA
import Derived.Test.YtnglgndocmkbfaaCln
import Derived.Test.YtnglgndocmkbfaaShM
namespace Go.Proofs.Ytnglgndocmkbfaa
open Go.RowKit
set_option linter.unusedVariables false
set_option linter.unusedSimpArgs false

def ltB (v : ByteArray) (t a : Int) : Bool := valOk v && (inR t 0 1000000 && inR a 0 5)
/-- The second one is the later. -/
def lesL (v : ByteArray) (t a : Int) (v' : ByteArray) (t' a' : Int) : Prop := t < t' ∨ (t = t' ∧ (a < a' ∨ (a = a' ∧ Op.bytesLess v.toList v'.toList = true)))
noncomputable def mlA (v : ByteArray) (t a : Int) (v' : ByteArray) (t' a' : Int) : (ByteArray × Int × Int) × Bool :=
  if (ltB v t a && ltB v' t' a') = true then ((if tf (lesL v t a v' t' a') = true then (v', t', a') else (v, t, a)), true) else ((⟨#[]⟩, 0, 0), false)
theorem mlA_no {v : ByteArray} {t a : Int} {v' : ByteArray} {t' a' : Int} (h : (ltB v t a && ltB v' t' a') = false) : mlA v t a v' t' a' = ((⟨#[]⟩, 0, 0), false) := by unfold mlA; rw [h]; rfl
theorem mlA_b {v : ByteArray} {t a : Int} {v' : ByteArray} {t' a' : Int} (h : (ltB v t a && ltB v' t' a') = true) (h2 : lesL v t a v' t' a') : mlA v t a v' t' a' = ((v', t', a'), true) := by unfold mlA; rw [h, tf_yes h2]; rfl
theorem mlA_a {v : ByteArray} {t a : Int} {v' : ByteArray} {t' a' : Int} (h : (ltB v t a && ltB v' t' a') = true) (h2 : ¬ lesL v t a v' t' a') : mlA v t a v' t' a' = ((v, t, a), true) := by unfold mlA; rw [h, tf_no h2]; rfl
def MlP (A : (ByteArray × Int × Int) × Bool) (w : World) (r : Ending) (w' : World) : Prop := r = .returned (.tuple #[.agg #[.string A.1.1, .int .i64 A.1.2.1, .int .i64 A.1.2.2], .bool A.2]) ∧ Below w.heap.size w w'
theorem set3 (W : World) (g : Nat) (u0 u1 u2 : Value) : TurnS (fun k => k = g) W (((W.setCell ⟨g, 0, none⟩ u0).setCell ⟨g, 1, none⟩ u1).setCell ⟨g, 2, none⟩ u2) :=
  (((TurnS.refl (fun k => k = g) W).set (S := fun k => k = g) (p := ⟨g, 0, none⟩) rfl _).set (S := fun k => k = g) (p := ⟨g, 1, none⟩) rfl _).set (S := fun k => k = g) (p := ⟨g, 2, none⟩) rfl _
theorem compareLatest_b (v : ByteArray) (t a : Int) (v' : ByteArray) (t' a' : Int) (w : World) : Calls Try.prog 73 #[.agg #[.string v, .int .i64 t, .int .i64 a], .agg #[.string v', .int .i64 t', .int .i64 a']] w fun r w' => r = .returned (.int .i64 (cmL v t a v' t' a')) ∧ Below w.heap.size w w' :=
  (compareLatest_n v t a v' t' a' w).mono (fun r w' q => ⟨q.1, by
    rw [q.2]
    exact ((((Below.refl _ _).alloc (Nat.le_refl _) _).alloc (by simp) _).drew).alloc (by show w.heap.size ≤ ((w.alloc _).alloc _).heap.size; simp; omega) _⟩)

set_option maxHeartbeats 400000 in
theorem isActor_n (a : Int) (w : World) : Calls Try.prog 66 #[.int .i64 a] w fun r w' => r = .returned (.bool (inR a 0 5)) ∧ w' = w := by
  go_enter Try.func66, Try.ntmps66
  go_wp2_with (go_at_call 67; refine (inRange_any _ _ _ _).mono ?_; rintro e w' ⟨rfl, hw⟩; have hw := hw.symm; subst hw)
  go_ret
  exact ⟨rfl, rfl⟩
set_option maxRecDepth 100000 in
set_option maxHeartbeats 1000000 in
theorem isLatest_n (v : ByteArray) (t a : Int) (w : World) (hv : v.size ≤ maxLen) :
    Calls Try.prog 72 #[.agg #[.string v, .int .i64 t, .int .i64 a]] w fun r w' => r = .returned (.bool (ltB v t a)) ∧ Below w.heap.size w w' := by
  obtain ⟨w0, hw0⟩ : ∃ x, x = w.alloc (.cells #[.string v, .int .i64 t, .int .i64 a] 39) := ⟨_, rfl⟩
  have HB0 : Hid (Bx w0 w.heap.size [.string v, .int .i64 t, .int .i64 a] ∧ Below w.heap.size w w0) := ⟨hw0 ▸ Bx.new w [_, _, _] _, hw0 ▸ Go.Joins.below_alloc1 _ _⟩
  have HV := Hid.intro hv
  clear hv
  have s0 := (HB0.out.1).cell 0 rfl
  have s1 := (HB0.out.1).cell 1 rfl
  have s2 := (HB0.out.1).cell 2 rfl
  have sz := (HB0.out.1).2
  cases e1 : valOk v
  · have H1 : Hid (valOk v = false) := e1
    have HN : Hid (ltB v t a = false) := Hid.intro (by unfold ltB; rw [e1]; rfl)
    clear e1
    go_enter Try.func72, Try.ntmps72
    go_upto_region 1 with fail
    rw [← hw0]
    clear hw0
    go_wp2_with fail
    refine (H1.out ▸ isValue_any v _ HV.out).mono ?_
    rintro r w' ⟨rfl, hw⟩
    have hw := hw.symm
    subst hw
    go_wp2
    go_ret
    exact ⟨ret_bool HN.out.symm, HB0.out.2⟩
  have H1 : Hid (valOk v = true) := e1
  clear e1
  cases e2 : inR t 0 1000000
  · have H2 : Hid (inR t 0 1000000 = false) := e2
    have HN : Hid (ltB v t a = false) := Hid.intro (by unfold ltB; rw [H1.out, e2]; rfl)
    clear e2
    go_enter Try.func72, Try.ntmps72
    go_upto_region 1 with fail
    rw [← hw0]
    clear hw0
    go_wp2_with fail
    refine (H1.out ▸ isValue_any v _ HV.out).mono ?_
    rintro r w' ⟨rfl, hw⟩
    have hw := hw.symm
    subst hw
    go_wp2_with fail
    refine (H2.out ▸ inRange_any t 0 1000000 _).mono ?_
    rintro r w' ⟨rfl, hw⟩
    have hw := hw.symm
    subst hw
    go_wp2
    go_ret
    exact ⟨ret_bool HN.out.symm, HB0.out.2⟩
  have H2 : Hid (inR t 0 1000000 = true) := e2
  clear e2
  cases e3 : inR a 0 5
  · have H3 : Hid (inR a 0 5 = false) := e3
    have HN : Hid (ltB v t a = false) := Hid.intro (by unfold ltB; rw [H1.out, H2.out, e3]; rfl)
    clear e3
    go_enter Try.func72, Try.ntmps72
    go_upto_region 1 with fail
    rw [← hw0]
    clear hw0
    go_wp2_with fail
    refine (H1.out ▸ isValue_any v _ HV.out).mono ?_
    rintro r w' ⟨rfl, hw⟩
    have hw := hw.symm
    subst hw
    go_wp2_with fail
    refine (H2.out ▸ inRange_any t 0 1000000 _).mono ?_
    rintro r w' ⟨rfl, hw⟩
    have hw := hw.symm
    subst hw
    go_wp2_with fail
    refine (H3.out ▸ isActor_n a _).mono ?_
    rintro r w' ⟨rfl, hw⟩
    have hw := hw.symm
    subst hw
    go_wp2
    go_ret
    exact ⟨ret_bool HN.out.symm, HB0.out.2⟩
  · have H3 : Hid (inR a 0 5 = true) := e3
    have HN : Hid (ltB v t a = true) := Hid.intro (by unfold ltB; rw [H1.out, H2.out, e3]; rfl)
    clear e3
    go_enter Try.func72, Try.ntmps72
    go_upto_region 1 with fail
    rw [← hw0]
    clear hw0
    go_wp2_with fail
    refine (H1.out ▸ isValue_any v _ HV.out).mono ?_
    rintro r w' ⟨rfl, hw⟩
    have hw := hw.symm
    subst hw
    go_wp2_with fail
    refine (H2.out ▸ inRange_any t 0 1000000 _).mono ?_
    rintro r w' ⟨rfl, hw⟩
    have hw := hw.symm
    subst hw
    go_wp2_with fail
    refine (H3.out ▸ isActor_n a _).mono ?_
    rintro r w' ⟨rfl, hw⟩
    have hw := hw.symm
    subst hw
    go_wp2
    go_ret
    exact ⟨ret_bool HN.out.symm, HB0.out.2⟩
set_option maxRecDepth 100000 in
set_option maxHeartbeats 1000000 in
theorem l14Latest_n (v : ByteArray) (t a : Int) (w : World) (hv : v.size ≤ maxLen) :
    Calls Try.prog 75 #[.agg #[.string v, .int .i64 t, .int .i64 a]] w fun r w' => r = .returned (.bool (ltB v t a)) ∧ Below w.heap.size w w' := by
  obtain ⟨w0, hw0⟩ : ∃ x, x = w.alloc (.cells #[.string v, .int .i64 t, .int .i64 a] 39) := ⟨_, rfl⟩
  have HB0 : Hid (Bx w0 w.heap.size [.string v, .int .i64 t, .int .i64 a] ∧ Below w.heap.size w w0) := ⟨hw0 ▸ Bx.new w [_, _, _] _, hw0 ▸ Go.Joins.below_alloc1 _ _⟩
  have HV := Hid.intro hv
  clear hv
  have s0 := (HB0.out.1).cell 0 rfl
  have s1 := (HB0.out.1).cell 1 rfl
  have s2 := (HB0.out.1).cell 2 rfl
  have sz := (HB0.out.1).2
  cases e1 : valOk v
  · have H1 : Hid (valOk v = false) := e1
    have HN : Hid (ltB v t a = false) := Hid.intro (by unfold ltB; rw [e1]; rfl)
    clear e1
    go_enter Try.func75, Try.ntmps75
    go_upto_region 1 with fail
    rw [← hw0]
    clear hw0
    go_wp2_with fail
    refine (H1.out ▸ l1Value_any v _ HV.out).mono ?_
    rintro r w' ⟨rfl, hw⟩
    have hw := hw.symm
    subst hw
    go_wp2
    go_ret
    exact ⟨ret_bool HN.out.symm, HB0.out.2⟩
  have H1 : Hid (valOk v = true) := e1
  clear e1
  cases e2 : inR t 0 1000000
  · have H2 : Hid (inR t 0 1000000 = false) := e2
    have HN : Hid (ltB v t a = false) := Hid.intro (by unfold ltB; rw [H1.out, e2]; rfl)
    clear e2
    go_enter Try.func75, Try.ntmps75
    go_upto_region 1 with fail
    rw [← hw0]
    clear hw0
    go_wp2_with fail
    refine (H1.out ▸ l1Value_any v _ HV.out).mono ?_
    rintro r w' ⟨rfl, hw⟩
    have hw := hw.symm
    subst hw
    go_wp2_with fail
    refine (H2.out ▸ l1In_any t 0 1000000 _).mono ?_
    rintro r w' ⟨rfl, hw⟩
    have hw := hw.symm
    subst hw
    go_wp2
    go_ret
    exact ⟨ret_bool HN.out.symm, HB0.out.2⟩
  have H2 : Hid (inR t 0 1000000 = true) := e2
  clear e2
  cases e3 : inR a 0 5
  · have H3 : Hid (inR a 0 5 = false) := e3
    have HN : Hid (ltB v t a = false) := Hid.intro (by unfold ltB; rw [H1.out, H2.out, e3]; rfl)
    clear e3
    go_enter Try.func75, Try.ntmps75
    go_upto_region 1 with fail
    rw [← hw0]
    clear hw0
    go_wp2_with fail
    refine (H1.out ▸ l1Value_any v _ HV.out).mono ?_
    rintro r w' ⟨rfl, hw⟩
    have hw := hw.symm
    subst hw
    go_wp2_with fail
    refine (H2.out ▸ l1In_any t 0 1000000 _).mono ?_
    rintro r w' ⟨rfl, hw⟩
    have hw := hw.symm
    subst hw
    go_wp2_with fail
    refine (H3.out ▸ l1In_any a 0 5 _).mono ?_
    rintro r w' ⟨rfl, hw⟩
    have hw := hw.symm
    subst hw
    go_wp2
    go_ret
    exact ⟨ret_bool HN.out.symm, HB0.out.2⟩
  · have H3 : Hid (inR a 0 5 = true) := e3
    have HN : Hid (ltB v t a = true) := Hid.intro (by unfold ltB; rw [H1.out, H2.out, e3]; rfl)
    clear e3
    go_enter Try.func75, Try.ntmps75
    go_upto_region 1 with fail
    rw [← hw0]
    clear hw0
    go_wp2_with fail
    refine (H1.out ▸ l1Value_any v _ HV.out).mono ?_
    rintro r w' ⟨rfl, hw⟩
    have hw := hw.symm
    subst hw
    go_wp2_with fail
    refine (H2.out ▸ l1In_any t 0 1000000 _).mono ?_
    rintro r w' ⟨rfl, hw⟩
    have hw := hw.symm
    subst hw
    go_wp2_with fail
    refine (H3.out ▸ l1In_any a 0 5 _).mono ?_
    rintro r w' ⟨rfl, hw⟩
    have hw := hw.symm
    subst hw
    go_wp2
    go_ret
    exact ⟨ret_bool HN.out.symm, HB0.out.2⟩

set_option maxRecDepth 100000 in
set_option maxHeartbeats 4000000 in
theorem mergeLatest_n (v : ByteArray) (t a : Int) (v' : ByteArray) (t' a' : Int) (w : World) (hv : v.size ≤ 1073741824) (hv' : v'.size ≤ 1073741824) :
    Calls Try.prog 26 #[.agg #[.string v, .int .i64 t, .int .i64 a], .agg #[.string v', .int .i64 t', .int .i64 a']] w (MlP (mlA v t a v' t' a') w) := by
  have HV : Hid (v.size ≤ maxLen ∧ v'.size ≤ maxLen ∧ v.size ≤ 281474976710656 ∧ v'.size ≤ 281474976710656) := Hid.intro (by unfold maxLen; omega)
  clear hv hv'
  obtain ⟨w0, hw0⟩ : ∃ x, x = ((w.alloc (.cells #[.string v, .int .i64 t, .int .i64 a] 39)).alloc (.cells #[.string v', .int .i64 t', .int .i64 a'] 39)).alloc (.cells #[.string ⟨#[]⟩, .int .i64 0, .int .i64 0] 39) := ⟨_, rfl⟩
  have HB0 : Hid (Bx w0 w.heap.size [.string v, .int .i64 t, .int .i64 a] ∧ Bx w0 (w.heap.size + 1) [.string v', .int .i64 t', .int .i64 a'] ∧ Bx w0 (w.heap.size + 1 + 1) [.string ⟨#[]⟩, .int .i64 0, .int .i64 0] ∧ Below w.heap.size w w0) := ⟨hw0 ▸ ((Bx.new w [_, _, _] _).alloc _).alloc _, hw0 ▸ (Bx.newAt (by simp)).alloc _, hw0 ▸ Bx.newAt (by simp), hw0 ▸ (((Below.refl _ _).alloc (Nat.le_refl _) _).alloc (by simp) _).alloc (by simp; omega) _⟩
  go_enter Try.func26, Try.ntmps26
  go_upto_region 1 with fail
  rw [← hw0]
  clear hw0
  have s0 := (HB0.out.1).cell 0 rfl
  have s1 := (HB0.out.1).cell 1 rfl
  have s2 := (HB0.out.1).cell 2 rfl
  have sz := (HB0.out.1).2
  have t0 := (HB0.out.2.1).cell 0 rfl
  have t1 := (HB0.out.2.1).cell 1 rfl
  have t2 := (HB0.out.2.1).cell 2 rfl
  have tz := (HB0.out.2.1).2
  have r0 := (HB0.out.2.2.1).cell 0 rfl
  have r1 := (HB0.out.2.2.1).cell 1 rfl
  have r2 := (HB0.out.2.2.1).cell 2 rfl
  have rz := (HB0.out.2.2.1).2
  have rf0 := (HB0.out.2.2.1).frz 0 (by simp)
  have rf1 := (HB0.out.2.2.1).frz 1 (by simp)
  have rf2 := (HB0.out.2.2.1).frz 2 (by simp)
  cases e1 : ltB v t a
  · have H1 : Hid (ltB v t a = false) := e1
    have HN : Hid (mlA v t a v' t' a' = ((⟨#[]⟩, 0, 0), false)) := Hid.intro (mlA_no (by rw [e1]; rfl))
    clear e1
    go_wp2_with fail
    refine (H1.out ▸ isLatest_n v t a _ HV.out.1).mono ?_
    rintro r w1 ⟨rfl, hb⟩
    have HB1 : Hid (Bx w1 w.heap.size [.string v, .int .i64 t, .int .i64 a] ∧ Bx w1 (w.heap.size + 1) [.string v', .int .i64 t', .int .i64 a'] ∧ Bx w1 (w.heap.size + 1 + 1) [.string ⟨#[]⟩, .int .i64 0, .int .i64 0] ∧ Below w.heap.size w w1) := ⟨HB0.out.1.next hb, HB0.out.2.1.next hb, HB0.out.2.2.1.next hb, below_next HB0.out.2.2.2 hb⟩
    clear hb s0 s1 s2 sz t0 t1 t2 tz r0 r1 r2 rz rf0 rf1 rf2
    have s0 := (HB1.out.1).cell 0 rfl
    have s1 := (HB1.out.1).cell 1 rfl
    have s2 := (HB1.out.1).cell 2 rfl
    have sz := (HB1.out.1).2
    have t0 := (HB1.out.2.1).cell 0 rfl
    have t1 := (HB1.out.2.1).cell 1 rfl
    have t2 := (HB1.out.2.1).cell 2 rfl
    have tz := (HB1.out.2.1).2
    have r0 := (HB1.out.2.2.1).cell 0 rfl
    have r1 := (HB1.out.2.2.1).cell 1 rfl
    have r2 := (HB1.out.2.2.1).cell 2 rfl
    have rz := (HB1.out.2.2.1).2
    have rf0 := (HB1.out.2.2.1).frz 0 (by simp)
    have rf1 := (HB1.out.2.2.1).frz 1 (by simp)
    have rf2 := (HB1.out.2.2.1).frz 2 (by simp)
    go_wp2_with fail
    exact bodyPost_ret (v := .tuple #[.agg #[.string ⟨#[]⟩, .int .i64 0, .int .i64 0], .bool false]) (by simp [results, Try.results26, go_sem, *]) rfl ⟨by rw [HN.out], HB1.out.2.2.2.trans ((set3 _ (w.heap.size + 1 + 1) _ _ _).below (fun k e => by have e : k = w.heap.size + 1 + 1 := e; omega) HB1.out.2.2.2.size)⟩
  have H1 : Hid (ltB v t a = true) := e1
  clear e1
  go_wp2_with fail
  refine (H1.out ▸ isLatest_n v t a _ HV.out.1).mono ?_
  rintro r w1 ⟨rfl, hb⟩
  have HB1 : Hid (Bx w1 w.heap.size [.string v, .int .i64 t, .int .i64 a] ∧ Bx w1 (w.heap.size + 1) [.string v', .int .i64 t', .int .i64 a'] ∧ Bx w1 (w.heap.size + 1 + 1) [.string ⟨#[]⟩, .int .i64 0, .int .i64 0] ∧ Below w.heap.size w w1) := ⟨HB0.out.1.next hb, HB0.out.2.1.next hb, HB0.out.2.2.1.next hb, below_next HB0.out.2.2.2 hb⟩
  clear hb HB0 s0 s1 s2 sz t0 t1 t2 tz r0 r1 r2 rz rf0 rf1 rf2
  have s0 := (HB1.out.1).cell 0 rfl
  have s1 := (HB1.out.1).cell 1 rfl
  have s2 := (HB1.out.1).cell 2 rfl
  have sz := (HB1.out.1).2
  have t0 := (HB1.out.2.1).cell 0 rfl
  have t1 := (HB1.out.2.1).cell 1 rfl
  have t2 := (HB1.out.2.1).cell 2 rfl
  have tz := (HB1.out.2.1).2
  have r0 := (HB1.out.2.2.1).cell 0 rfl
  have r1 := (HB1.out.2.2.1).cell 1 rfl
  have r2 := (HB1.out.2.2.1).cell 2 rfl
  have rz := (HB1.out.2.2.1).2
  have rf0 := (HB1.out.2.2.1).frz 0 (by simp)
  have rf1 := (HB1.out.2.2.1).frz 1 (by simp)
  have rf2 := (HB1.out.2.2.1).frz 2 (by simp)
  cases e2 : ltB v' t' a'
  · have H2 : Hid (ltB v' t' a' = false) := e2
    have HN : Hid (mlA v t a v' t' a' = ((⟨#[]⟩, 0, 0), false)) := Hid.intro (mlA_no (by rw [H1.out, e2]; rfl))
    clear e2
    go_wp2_with fail
    refine (H2.out ▸ isLatest_n v' t' a' _ HV.out.2.1).mono ?_
    rintro r w2 ⟨rfl, hb⟩
    have HB2 : Hid (Bx w2 w.heap.size [.string v, .int .i64 t, .int .i64 a] ∧ Bx w2 (w.heap.size + 1) [.string v', .int .i64 t', .int .i64 a'] ∧ Bx w2 (w.heap.size + 1 + 1) [.string ⟨#[]⟩, .int .i64 0, .int .i64 0] ∧ Below w.heap.size w w2) := ⟨HB1.out.1.next hb, HB1.out.2.1.next hb, HB1.out.2.2.1.next hb, below_next HB1.out.2.2.2 hb⟩
    clear hb s0 s1 s2 sz t0 t1 t2 tz r0 r1 r2 rz rf0 rf1 rf2
    have s0 := (HB2.out.1).cell 0 rfl
    have s1 := (HB2.out.1).cell 1 rfl
    have s2 := (HB2.out.1).cell 2 rfl
    have sz := (HB2.out.1).2
    have t0 := (HB2.out.2.1).cell 0 rfl
    have t1 := (HB2.out.2.1).cell 1 rfl
    have t2 := (HB2.out.2.1).cell 2 rfl
    have tz := (HB2.out.2.1).2
    have r0 := (HB2.out.2.2.1).cell 0 rfl
    have r1 := (HB2.out.2.2.1).cell 1 rfl
    have r2 := (HB2.out.2.2.1).cell 2 rfl
    have rz := (HB2.out.2.2.1).2
    have rf0 := (HB2.out.2.2.1).frz 0 (by simp)
    have rf1 := (HB2.out.2.2.1).frz 1 (by simp)
    have rf2 := (HB2.out.2.2.1).frz 2 (by simp)
    go_wp2_with fail
    exact bodyPost_ret (v := .tuple #[.agg #[.string ⟨#[]⟩, .int .i64 0, .int .i64 0], .bool false]) (by simp [results, Try.results26, go_sem, *]) rfl ⟨by rw [HN.out], HB2.out.2.2.2.trans ((set3 _ (w.heap.size + 1 + 1) _ _ _).below (fun k e => by have e : k = w.heap.size + 1 + 1 := e; omega) HB2.out.2.2.2.size)⟩
  have H2 : Hid (ltB v' t' a' = true) := e2
  have HG : Hid ((ltB v t a && ltB v' t' a') = true) := Hid.intro (by rw [H1.out, e2]; rfl)
  clear e2
  go_wp2_with fail
  refine (H2.out ▸ isLatest_n v' t' a' _ HV.out.2.1).mono ?_
  rintro r w2 ⟨rfl, hb⟩
  have HB2 : Hid (Bx w2 w.heap.size [.string v, .int .i64 t, .int .i64 a] ∧ Bx w2 (w.heap.size + 1) [.string v', .int .i64 t', .int .i64 a'] ∧ Bx w2 (w.heap.size + 1 + 1) [.string ⟨#[]⟩, .int .i64 0, .int .i64 0] ∧ Below w.heap.size w w2) := ⟨HB1.out.1.next hb, HB1.out.2.1.next hb, HB1.out.2.2.1.next hb, below_next HB1.out.2.2.2 hb⟩
  clear hb HB1 s0 s1 s2 sz t0 t1 t2 tz r0 r1 r2 rz rf0 rf1 rf2
  have s0 := (HB2.out.1).cell 0 rfl
  have s1 := (HB2.out.1).cell 1 rfl
  have s2 := (HB2.out.1).cell 2 rfl
  have sz := (HB2.out.1).2
  have t0 := (HB2.out.2.1).cell 0 rfl
  have t1 := (HB2.out.2.1).cell 1 rfl
  have t2 := (HB2.out.2.1).cell 2 rfl
  have tz := (HB2.out.2.1).2
  have r0 := (HB2.out.2.2.1).cell 0 rfl
  have r1 := (HB2.out.2.2.1).cell 1 rfl
  have r2 := (HB2.out.2.2.1).cell 2 rfl
  have rz := (HB2.out.2.2.1).2
  have rf0 := (HB2.out.2.2.1).frz 0 (by simp)
  have rf1 := (HB2.out.2.2.1).frz 1 (by simp)
  have rf2 := (HB2.out.2.2.1).frz 2 (by simp)
  obtain ⟨b6, hb6⟩ : ∃ y, y = w2.heap.size := ⟨_, rfl⟩
  obtain ⟨w3, hw3⟩ : ∃ y, y = w2.alloc (.cells #[.string v, .int .i64 t, .int .i64 a] 39) := ⟨_, rfl⟩
  have hb : Below w2.heap.size w2 w3 := hw3 ▸ Go.Joins.below_alloc1 _ _
  have HB3 : Hid (Bx w3 w.heap.size [.string v, .int .i64 t, .int .i64 a] ∧ Bx w3 (w.heap.size + 1) [.string v', .int .i64 t', .int .i64 a'] ∧ Bx w3 (w.heap.size + 1 + 1) [.string ⟨#[]⟩, .int .i64 0, .int .i64 0] ∧ Below w.heap.size w w3) := ⟨HB2.out.1.next hb, HB2.out.2.1.next hb, HB2.out.2.2.1.next hb, below_next HB2.out.2.2.2 hb⟩
  have H63 : Hid (Bx w3 b6 [.string v, .int .i64 t, .int .i64 a] ∧ w.heap.size + 1 + 1 < b6) := ⟨hb6 ▸ hw3 ▸ Bx.new w2 [_, _, _] _, by have := HB2.out.2.2.1.2; omega⟩
  go_upto_region 4 with fail
  rw [← hw3, ← hb6]
  clear hb hw3 hb6 HB2 s0 s1 s2 sz t0 t1 t2 tz r0 r1 r2 rz rf0 rf1 rf2
  have s0 := (HB3.out.1).cell 0 rfl
  have s1 := (HB3.out.1).cell 1 rfl
  have s2 := (HB3.out.1).cell 2 rfl
  have sz := (HB3.out.1).2
  have t0 := (HB3.out.2.1).cell 0 rfl
  have t1 := (HB3.out.2.1).cell 1 rfl
  have t2 := (HB3.out.2.1).cell 2 rfl
  have tz := (HB3.out.2.1).2
  go_wp2_with fail
  refine (compareLatest_b v t a v' t' a' w3).mono ?_
  rintro r w4 ⟨rfl, hb⟩
  have HB4 : Hid (Bx w4 w.heap.size [.string v, .int .i64 t, .int .i64 a] ∧ Bx w4 (w.heap.size + 1) [.string v', .int .i64 t', .int .i64 a'] ∧ Bx w4 (w.heap.size + 1 + 1) [.string ⟨#[]⟩, .int .i64 0, .int .i64 0] ∧ Below w.heap.size w w4) := ⟨HB3.out.1.next hb, HB3.out.2.1.next hb, HB3.out.2.2.1.next hb, below_next HB3.out.2.2.2 hb⟩
  have H64 : Hid (Bx w4 b6 [.string v, .int .i64 t, .int .i64 a] ∧ w.heap.size + 1 + 1 < b6) := ⟨H63.out.1.next hb, H63.out.2⟩
  clear hb HB3 H63 s0 s1 s2 sz t0 t1 t2 tz
  obtain ⟨x, hx⟩ : ∃ x, x = cmL v t a v' t' a' := ⟨_, rfl⟩
  have HX : Hid (x < 0 ↔ lesL v t a v' t' a') := Hid.intro (by rw [hx]; exact cmL_neg)
  rw [← hx]
  clear hx
  by_cases hx : x < 0
  · have HN : Hid (mlA v t a v' t' a' = ((v', t', a'), true)) := Hid.intro (mlA_b HG.out (HX.out.1 hx))
    obtain ⟨w5, hw5⟩ : ∃ y, y = ((w4.setCell ⟨b6, 0, none⟩ (.string v')).setCell ⟨b6, 1, none⟩ (.int .i64 t')).setCell ⟨b6, 2, none⟩ (.int .i64 a') := ⟨_, rfl⟩
    have H65 : Hid (Bx w5 b6 [.string v', .int .i64 t', .int .i64 a'] ∧ Bx w5 (w.heap.size + 1 + 1) [.string ⟨#[]⟩, .int .i64 0, .int .i64 0] ∧ Below w.heap.size w w5) := by
      have hlt := H64.out.2
      have ht := set3 w4 b6 (.string v') (.int .i64 t') (.int .i64 a')
      rw [← hw5] at ht
      exact ⟨hw5 ▸ ((H64.out.1.set (k := 0) (by simp) _).set (k := 1) (by simp) _).set (k := 2) (by simp) _, HB4.out.2.2.1.turnS ht (by omega), HB4.out.2.2.2.trans (ht.below (fun k e => by have e : k = b6 := e; omega) HB4.out.2.2.2.size)⟩
    have t0 := (HB4.out.2.1).cell 0 rfl
    have t1 := (HB4.out.2.1).cell 1 rfl
    have t2 := (HB4.out.2.1).cell 2 rfl
    have tz := (HB4.out.2.1).2
    have q0 := (H64.out.1).cell 0 rfl
    have q1 := (H64.out.1).cell 1 rfl
    have q2 := (H64.out.1).cell 2 rfl
    have qz := (H64.out.1).2
    have qf0 := (H64.out.1).frz 0 (by simp)
    have qf1 := (H64.out.1).frz 1 (by simp)
    have qf2 := (H64.out.1).frz 2 (by simp)
    go_upto_region 6 with fail
    rw [← hw5]
    clear hw5 t0 t1 t2 tz q0 q1 q2 qz qf0 qf1 qf2
    have q0 := (H65.out.1).cell 0 rfl
    have q1 := (H65.out.1).cell 1 rfl
    have q2 := (H65.out.1).cell 2 rfl
    have qz := (H65.out.1).2
    go_wp2_with fail
    refine (clone_any v' _ HV.out.2.2.2).mono ?_
    rintro r w6 ⟨rfl, hb⟩
    have H66 : Hid (Bx w6 b6 [.string v', .int .i64 t', .int .i64 a'] ∧ Bx w6 (w.heap.size + 1 + 1) [.string ⟨#[]⟩, .int .i64 0, .int .i64 0] ∧ Below w.heap.size w w6) := ⟨H65.out.1.next hb, H65.out.2.1.next hb, below_next H65.out.2.2 hb⟩
    have hlt := H64.out.2
    clear hb
    clear q0 q1 q2 qz
    have q0 := (H66.out.1).cell 0 rfl
    have q1 := (H66.out.1).cell 1 rfl
    have q2 := (H66.out.1).cell 2 rfl
    have qz := (H66.out.1).2
    have qf0 := (H66.out.1).frz 0 (by simp)
    have qf1 := (H66.out.1).frz 1 (by simp)
    have qf2 := (H66.out.1).frz 2 (by simp)
    have r0 := (H66.out.2.1).cell 0 rfl
    have r1 := (H66.out.2.1).cell 1 rfl
    have r2 := (H66.out.2.1).cell 2 rfl
    have rz := (H66.out.2.1).2
    have rf0 := (H66.out.2.1).frz 0 (by simp)
    have rf1 := (H66.out.2.1).frz 1 (by simp)
    have rf2 := (H66.out.2.1).frz 2 (by simp)
    have hne : b6 ≠ w.heap.size + 1 + 1 := by omega
    have HT : Hid (Below w.heap.size w (w6.setCell ⟨b6, 0, none⟩ (.string v'))) := Hid.intro (H66.out.2.2.setCell (p := ⟨b6, 0, none⟩) (by show w.heap.size ≤ b6; omega) _)
    go_wp2_with fail
    exact bodyPost_ret (v := .tuple #[.agg #[.string v', .int .i64 t', .int .i64 a'], .bool true]) (by simp [results, Try.results26, go_sem, *]) rfl ⟨by rw [HN.out], HT.out.trans ((set3 _ (w.heap.size + 1 + 1) _ _ _).below (fun k e => by have e : k = w.heap.size + 1 + 1 := e; omega) HT.out.size)⟩
  · have HN : Hid (mlA v t a v' t' a' = ((v, t, a), true)) := Hid.intro (mlA_a HG.out (fun q => hx (HX.out.2 q)))
    have q0 := (H64.out.1).cell 0 rfl
    have q1 := (H64.out.1).cell 1 rfl
    have q2 := (H64.out.1).cell 2 rfl
    have qz := (H64.out.1).2
    go_wp2_with fail
    refine (clone_any v _ HV.out.2.2.1).mono ?_
    rintro r w6 ⟨rfl, hb⟩
    have H66 : Hid (Bx w6 b6 [.string v, .int .i64 t, .int .i64 a] ∧ Bx w6 (w.heap.size + 1 + 1) [.string ⟨#[]⟩, .int .i64 0, .int .i64 0] ∧ Below w.heap.size w w6) := ⟨H64.out.1.next hb, HB4.out.2.2.1.next hb, below_next HB4.out.2.2.2 hb⟩
    have hlt := H64.out.2
    clear hb
    clear q0 q1 q2 qz
    have q0 := (H66.out.1).cell 0 rfl
    have q1 := (H66.out.1).cell 1 rfl
    have q2 := (H66.out.1).cell 2 rfl
    have qz := (H66.out.1).2
    have qf0 := (H66.out.1).frz 0 (by simp)
    have qf1 := (H66.out.1).frz 1 (by simp)
    have qf2 := (H66.out.1).frz 2 (by simp)
    have r0 := (H66.out.2.1).cell 0 rfl
    have r1 := (H66.out.2.1).cell 1 rfl
    have r2 := (H66.out.2.1).cell 2 rfl
    have rz := (H66.out.2.1).2
    have rf0 := (H66.out.2.1).frz 0 (by simp)
    have rf1 := (H66.out.2.1).frz 1 (by simp)
    have rf2 := (H66.out.2.1).frz 2 (by simp)
    have hne : b6 ≠ w.heap.size + 1 + 1 := by omega
    have HT : Hid (Below w.heap.size w (w6.setCell ⟨b6, 0, none⟩ (.string v))) := Hid.intro (H66.out.2.2.setCell (p := ⟨b6, 0, none⟩) (by show w.heap.size ≤ b6; omega) _)
    go_wp2_with fail
    exact bodyPost_ret (v := .tuple #[.agg #[.string v, .int .i64 t, .int .i64 a], .bool true]) (by simp [results, Try.results26, go_sem, *]) rfl ⟨by rw [HN.out], HT.out.trans ((set3 _ (w.heap.size + 1 + 1) _ _ _).below (fun k e => by have e : k = w.heap.size + 1 + 1 := e; omega) HT.out.size)⟩

set_option maxRecDepth 100000 in
set_option maxHeartbeats 4000000 in
theorem specMergeLatest_n (v : ByteArray) (t a : Int) (v' : ByteArray) (t' a' : Int) (w : World) (hv : v.size ≤ 1073741824) (hv' : v'.size ≤ 1073741824) :
    Calls Try.prog 27 #[.agg #[.string v, .int .i64 t, .int .i64 a], .agg #[.string v', .int .i64 t', .int .i64 a']] w (MlP (mlA v t a v' t' a') w) := by
  have HV : Hid (v.size ≤ maxLen ∧ v'.size ≤ maxLen ∧ v.size ≤ 281474976710656 ∧ v'.size ≤ 281474976710656) := Hid.intro (by unfold maxLen; omega)
  clear hv hv'
  obtain ⟨w0, hw0⟩ : ∃ x, x = ((w.alloc (.cells #[.string v, .int .i64 t, .int .i64 a] 39)).alloc (.cells #[.string v', .int .i64 t', .int .i64 a'] 39)).alloc (.cells #[.string ⟨#[]⟩, .int .i64 0, .int .i64 0] 39) := ⟨_, rfl⟩
  have HB0 : Hid (Bx w0 w.heap.size [.string v, .int .i64 t, .int .i64 a] ∧ Bx w0 (w.heap.size + 1) [.string v', .int .i64 t', .int .i64 a'] ∧ Bx w0 (w.heap.size + 1 + 1) [.string ⟨#[]⟩, .int .i64 0, .int .i64 0] ∧ Below w.heap.size w w0) := ⟨hw0 ▸ ((Bx.new w [_, _, _] _).alloc _).alloc _, hw0 ▸ (Bx.newAt (by simp)).alloc _, hw0 ▸ Bx.newAt (by simp), hw0 ▸ (((Below.refl _ _).alloc (Nat.le_refl _) _).alloc (by simp) _).alloc (by simp; omega) _⟩
  go_enter Try.func27, Try.ntmps27
  go_upto_region 1 with fail
  rw [← hw0]
  clear hw0
  have s0 := (HB0.out.1).cell 0 rfl
  have s1 := (HB0.out.1).cell 1 rfl
  have s2 := (HB0.out.1).cell 2 rfl
  have sz := (HB0.out.1).2
  have t0 := (HB0.out.2.1).cell 0 rfl
  have t1 := (HB0.out.2.1).cell 1 rfl
  have t2 := (HB0.out.2.1).cell 2 rfl
  have tz := (HB0.out.2.1).2
  have r0 := (HB0.out.2.2.1).cell 0 rfl
  have r1 := (HB0.out.2.2.1).cell 1 rfl
  have r2 := (HB0.out.2.2.1).cell 2 rfl
  have rz := (HB0.out.2.2.1).2
  have rf0 := (HB0.out.2.2.1).frz 0 (by simp)
  have rf1 := (HB0.out.2.2.1).frz 1 (by simp)
  have rf2 := (HB0.out.2.2.1).frz 2 (by simp)
  cases e1 : ltB v t a
  · have H1 : Hid (ltB v t a = false) := e1
    have HN : Hid (mlA v t a v' t' a' = ((⟨#[]⟩, 0, 0), false)) := Hid.intro (mlA_no (by rw [e1]; rfl))
    clear e1
    go_wp2_with fail
    refine (H1.out ▸ l14Latest_n v t a _ HV.out.1).mono ?_
    rintro r w1 ⟨rfl, hb⟩
    have HB1 : Hid (Bx w1 w.heap.size [.string v, .int .i64 t, .int .i64 a] ∧ Bx w1 (w.heap.size + 1) [.string v', .int .i64 t', .int .i64 a'] ∧ Bx w1 (w.heap.size + 1 + 1) [.string ⟨#[]⟩, .int .i64 0, .int .i64 0] ∧ Below w.heap.size w w1) := ⟨HB0.out.1.next hb, HB0.out.2.1.next hb, HB0.out.2.2.1.next hb, below_next HB0.out.2.2.2 hb⟩
    clear hb s0 s1 s2 sz t0 t1 t2 tz r0 r1 r2 rz rf0 rf1 rf2
    have s0 := (HB1.out.1).cell 0 rfl
    have s1 := (HB1.out.1).cell 1 rfl
    have s2 := (HB1.out.1).cell 2 rfl
    have sz := (HB1.out.1).2
    have t0 := (HB1.out.2.1).cell 0 rfl
    have t1 := (HB1.out.2.1).cell 1 rfl
    have t2 := (HB1.out.2.1).cell 2 rfl
    have tz := (HB1.out.2.1).2
    have r0 := (HB1.out.2.2.1).cell 0 rfl
    have r1 := (HB1.out.2.2.1).cell 1 rfl
    have r2 := (HB1.out.2.2.1).cell 2 rfl
    have rz := (HB1.out.2.2.1).2
    have rf0 := (HB1.out.2.2.1).frz 0 (by simp)
    have rf1 := (HB1.out.2.2.1).frz 1 (by simp)
    have rf2 := (HB1.out.2.2.1).frz 2 (by simp)
    go_wp2_with fail
    exact bodyPost_ret (v := .tuple #[.agg #[.string ⟨#[]⟩, .int .i64 0, .int .i64 0], .bool false]) (by simp [results, Try.results27, go_sem, *]) rfl ⟨by rw [HN.out], HB1.out.2.2.2.trans ((set3 _ (w.heap.size + 1 + 1) _ _ _).below (fun k e => by have e : k = w.heap.size + 1 + 1 := e; omega) HB1.out.2.2.2.size)⟩
  have H1 : Hid (ltB v t a = true) := e1
  clear e1
  go_wp2_with fail
  refine (H1.out ▸ l14Latest_n v t a _ HV.out.1).mono ?_
  rintro r w1 ⟨rfl, hb⟩
  have HB1 : Hid (Bx w1 w.heap.size [.string v, .int .i64 t, .int .i64 a] ∧ Bx w1 (w.heap.size + 1) [.string v', .int .i64 t', .int .i64 a'] ∧ Bx w1 (w.heap.size + 1 + 1) [.string ⟨#[]⟩, .int .i64 0, .int .i64 0] ∧ Below w.heap.size w w1) := ⟨HB0.out.1.next hb, HB0.out.2.1.next hb, HB0.out.2.2.1.next hb, below_next HB0.out.2.2.2 hb⟩
  clear hb HB0 s0 s1 s2 sz t0 t1 t2 tz r0 r1 r2 rz rf0 rf1 rf2
  have s0 := (HB1.out.1).cell 0 rfl
  have s1 := (HB1.out.1).cell 1 rfl
  have s2 := (HB1.out.1).cell 2 rfl
  have sz := (HB1.out.1).2
  have t0 := (HB1.out.2.1).cell 0 rfl
  have t1 := (HB1.out.2.1).cell 1 rfl
  have t2 := (HB1.out.2.1).cell 2 rfl
  have tz := (HB1.out.2.1).2
  have r0 := (HB1.out.2.2.1).cell 0 rfl
  have r1 := (HB1.out.2.2.1).cell 1 rfl
  have r2 := (HB1.out.2.2.1).cell 2 rfl
  have rz := (HB1.out.2.2.1).2
  have rf0 := (HB1.out.2.2.1).frz 0 (by simp)
  have rf1 := (HB1.out.2.2.1).frz 1 (by simp)
  have rf2 := (HB1.out.2.2.1).frz 2 (by simp)
  cases e2 : ltB v' t' a'
  · have H2 : Hid (ltB v' t' a' = false) := e2
    have HN : Hid (mlA v t a v' t' a' = ((⟨#[]⟩, 0, 0), false)) := Hid.intro (mlA_no (by rw [H1.out, e2]; rfl))
    clear e2
    go_wp2_with fail
    refine (H2.out ▸ l14Latest_n v' t' a' _ HV.out.2.1).mono ?_
    rintro r w2 ⟨rfl, hb⟩
    have HB2 : Hid (Bx w2 w.heap.size [.string v, .int .i64 t, .int .i64 a] ∧ Bx w2 (w.heap.size + 1) [.string v', .int .i64 t', .int .i64 a'] ∧ Bx w2 (w.heap.size + 1 + 1) [.string ⟨#[]⟩, .int .i64 0, .int .i64 0] ∧ Below w.heap.size w w2) := ⟨HB1.out.1.next hb, HB1.out.2.1.next hb, HB1.out.2.2.1.next hb, below_next HB1.out.2.2.2 hb⟩
    clear hb s0 s1 s2 sz t0 t1 t2 tz r0 r1 r2 rz rf0 rf1 rf2
    have s0 := (HB2.out.1).cell 0 rfl
    have s1 := (HB2.out.1).cell 1 rfl
    have s2 := (HB2.out.1).cell 2 rfl
    have sz := (HB2.out.1).2
    have t0 := (HB2.out.2.1).cell 0 rfl
    have t1 := (HB2.out.2.1).cell 1 rfl
    have t2 := (HB2.out.2.1).cell 2 rfl
    have tz := (HB2.out.2.1).2
    have r0 := (HB2.out.2.2.1).cell 0 rfl
    have r1 := (HB2.out.2.2.1).cell 1 rfl
    have r2 := (HB2.out.2.2.1).cell 2 rfl
    have rz := (HB2.out.2.2.1).2
    have rf0 := (HB2.out.2.2.1).frz 0 (by simp)
    have rf1 := (HB2.out.2.2.1).frz 1 (by simp)
    have rf2 := (HB2.out.2.2.1).frz 2 (by simp)
    go_wp2_with fail
    exact bodyPost_ret (v := .tuple #[.agg #[.string ⟨#[]⟩, .int .i64 0, .int .i64 0], .bool false]) (by simp [results, Try.results27, go_sem, *]) rfl ⟨by rw [HN.out], HB2.out.2.2.2.trans ((set3 _ (w.heap.size + 1 + 1) _ _ _).below (fun k e => by have e : k = w.heap.size + 1 + 1 := e; omega) HB2.out.2.2.2.size)⟩
  have H2 : Hid (ltB v' t' a' = true) := e2
  have HG : Hid ((ltB v t a && ltB v' t' a') = true) := Hid.intro (by rw [H1.out, e2]; rfl)
  clear e2
  go_wp2_with fail
  refine (H2.out ▸ l14Latest_n v' t' a' _ HV.out.2.1).mono ?_
  rintro r w2 ⟨rfl, hb⟩
  have HB2 : Hid (Bx w2 w.heap.size [.string v, .int .i64 t, .int .i64 a] ∧ Bx w2 (w.heap.size + 1) [.string v', .int .i64 t', .int .i64 a'] ∧ Bx w2 (w.heap.size + 1 + 1) [.string ⟨#[]⟩, .int .i64 0, .int .i64 0] ∧ Below w.heap.size w w2) := ⟨HB1.out.1.next hb, HB1.out.2.1.next hb, HB1.out.2.2.1.next hb, below_next HB1.out.2.2.2 hb⟩
  clear hb HB1 s0 s1 s2 sz t0 t1 t2 tz r0 r1 r2 rz rf0 rf1 rf2
  have s0 := (HB2.out.1).cell 0 rfl
  have s1 := (HB2.out.1).cell 1 rfl
  have s2 := (HB2.out.1).cell 2 rfl
  have sz := (HB2.out.1).2
  have t0 := (HB2.out.2.1).cell 0 rfl
  have t1 := (HB2.out.2.1).cell 1 rfl
  have t2 := (HB2.out.2.1).cell 2 rfl
  have tz := (HB2.out.2.1).2
  have r0 := (HB2.out.2.2.1).cell 0 rfl
  have r1 := (HB2.out.2.2.1).cell 1 rfl
  have r2 := (HB2.out.2.2.1).cell 2 rfl
  have rz := (HB2.out.2.2.1).2
  have rf0 := (HB2.out.2.2.1).frz 0 (by simp)
  have rf1 := (HB2.out.2.2.1).frz 1 (by simp)
  have rf2 := (HB2.out.2.2.1).frz 2 (by simp)
  by_cases h1 : t' < t
  · have HN : Hid (mlA v t a v' t' a' = ((v, t, a), true)) := Hid.intro (mlA_a HG.out (by unfold lesL; omega))
    go_wp2_with fail
    exact bodyPost_ret (v := .tuple #[.agg #[.string v, .int .i64 t, .int .i64 a], .bool true]) (by simp [results, Try.results27, go_sem, *]) rfl ⟨by rw [HN.out], HB2.out.2.2.2.trans ((set3 _ (w.heap.size + 1 + 1) _ _ _).below (fun k e => by have e : k = w.heap.size + 1 + 1 := e; omega) HB2.out.2.2.2.size)⟩
  by_cases h2 : t = t'
  case neg =>
    have HN : Hid (mlA v t a v' t' a' = ((v', t', a'), true)) := Hid.intro (mlA_b HG.out (by unfold lesL; omega))
    have h3 : (t == t') = false := by simp; exact h2
    go_wp2_with fail
    exact bodyPost_ret (v := .tuple #[.agg #[.string v', .int .i64 t', .int .i64 a'], .bool true]) (by simp [results, Try.results27, go_sem, *]) rfl ⟨by rw [HN.out], HB2.out.2.2.2.trans ((set3 _ (w.heap.size + 1 + 1) _ _ _).below (fun k e => by have e : k = w.heap.size + 1 + 1 := e; omega) HB2.out.2.2.2.size)⟩
  subst h2
  clear h1
  by_cases h1 : a' < a
  · have HN : Hid (mlA v t a v' t a' = ((v, t, a), true)) := Hid.intro (mlA_a HG.out (by unfold lesL; omega))
    go_wp2_with fail
    exact bodyPost_ret (v := .tuple #[.agg #[.string v, .int .i64 t, .int .i64 a], .bool true]) (by simp [results, Try.results27, go_sem, *]) rfl ⟨by rw [HN.out], HB2.out.2.2.2.trans ((set3 _ (w.heap.size + 1 + 1) _ _ _).below (fun k e => by have e : k = w.heap.size + 1 + 1 := e; omega) HB2.out.2.2.2.size)⟩
  by_cases h2 : a = a'
  case neg =>
    have HN : Hid (mlA v t a v' t a' = ((v', t, a'), true)) := Hid.intro (mlA_b HG.out (by unfold lesL; omega))
    have h3 : (a == a') = false := by simp; exact h2
    go_wp2_with fail
    exact bodyPost_ret (v := .tuple #[.agg #[.string v', .int .i64 t, .int .i64 a'], .bool true]) (by simp [results, Try.results27, go_sem, *]) rfl ⟨by rw [HN.out], HB2.out.2.2.2.trans ((set3 _ (w.heap.size + 1 + 1) _ _ _).below (fun k e => by have e : k = w.heap.size + 1 + 1 := e; omega) HB2.out.2.2.2.size)⟩
  subst h2
  clear h1
  cases hs : Op.bytesLess v.toList v'.toList
  · have HN : Hid (mlA v t a v' t a = ((v, t, a), true)) := Hid.intro (mlA_a HG.out (by unfold lesL; rw [hs]; simp))
    go_wp2_with fail
    exact bodyPost_ret (v := .tuple #[.agg #[.string v, .int .i64 t, .int .i64 a], .bool true]) (by simp [results, Try.results27, go_sem, *]) rfl ⟨by rw [HN.out], HB2.out.2.2.2.trans ((set3 _ (w.heap.size + 1 + 1) _ _ _).below (fun k e => by have e : k = w.heap.size + 1 + 1 := e; omega) HB2.out.2.2.2.size)⟩
  · have HN : Hid (mlA v t a v' t a = ((v', t, a), true)) := Hid.intro (mlA_b HG.out (by unfold lesL; exact Or.inr ⟨rfl, Or.inr ⟨rfl, hs⟩⟩))
    go_wp2_with fail
    exact bodyPost_ret (v := .tuple #[.agg #[.string v', .int .i64 t, .int .i64 a], .bool true]) (by simp [results, Try.results27, go_sem, *]) rfl ⟨by rw [HN.out], HB2.out.2.2.2.trans ((set3 _ (w.heap.size + 1 + 1) _ _ _).below (fun k e => by have e : k = w.heap.size + 1 + 1 := e; omega) HB2.out.2.2.2.size)⟩
end Go.Proofs.Ytnglgndocmkbfaa
