/- Nets: the program's isWay and GoodNet. -/
import Derived.Test.YtcklpcdgckkahaaNeB
namespace Go.Proofs.Ytcklpcdgckkahaa
open Go.RowKit
set_option linter.unusedVariables false
set_option linter.unusedSimpArgs false

theorem wayK_iff {fm tm : Bool} {ps : List (Sh.T shParcel)} {wt : Bool} {se : List (Sh.T .int)} : wayK fm tm ps wt se ↔ pcsP ps ∧ seeP se ∧ wayQ fm tm (hasM ps) wt se.length := Iff.rfl
def wayB (fm tm mk wt : Bool) (n : Nat) : Bool := if mk && !fm then false else if tm then wt == (mk || !fm) else (mk || !fm) && !wt && decide (n = 0)
theorem wayB_eq {fm tm mk wt : Bool} {n : Nat} : tf (wayQ fm tm mk wt n) = wayB fm tm mk wt n := by
  rw [Bool.eq_iff_iff, tf_iff]
  unfold wayQ wayB
  cases fm <;> cases tm <;> cases mk <;> cases wt <;> simp
set_option maxRecDepth 100000 in
set_option maxHeartbeats 4000000 in
theorem isWay_n (f t : Int) (a1 : Option Addr) (k1 : Nat) (ps : List (Sh.T shParcel)) (wt : Bool) (a2 : Option Addr) (k2 : Nat) (se : List (Sh.T .int)) (fa fn ta tn : Int) (fm tm : Bool) (w : World) (hn1 : ps.length ≤ 1073741824) (hn2 : se.length ≤ 1073741824)
    (h1 : Lies w (.list shParcel) [.slice a1 ps.length k1] ps) (h2 : Lies w (.list .int) [.slice a2 se.length k2] se) :
    Calls Try.prog 53 #[.agg #[.int .i64 f, .int .i64 t, .slice a1 ps.length k1, .bool wt, .slice a2 se.length k2], .agg #[.int .i64 fa, .bool fm, .int .i64 fn], .agg #[.int .i64 ta, .bool tm, .int .i64 tn]] w fun r w' => r = .returned (.bool (tf (wayK fm tm ps wt se))) ∧ Below w.heap.size w w' := by
  obtain ⟨W1, hW1⟩ : ∃ x, x = w.alloc (.cells #[.int .i64 f, .int .i64 t, .slice a1 ps.length k1, .bool wt, .slice a2 se.length k2] 83) := ⟨_, rfl⟩
  obtain ⟨W2, hW2⟩ : ∃ x, x = W1.alloc (.cells #[.int .i64 fa, .bool fm, .int .i64 fn] 80) := ⟨_, rfl⟩
  obtain ⟨W3, hW3⟩ : ∃ x, x = W2.alloc (.cells #[.int .i64 ta, .bool tm, .int .i64 tn] 80) := ⟨_, rfl⟩
  have hb1 : Below w.heap.size w W1 := hW1 ▸ Go.Joins.below_alloc1 _ _
  have hb2 : Below W1.heap.size W1 W2 := hW2 ▸ Go.Joins.below_alloc1 _ _
  have hb3 : Below W2.heap.size W2 W3 := hW3 ▸ Go.Joins.below_alloc1 _ _
  have hz1 : W1.heap.size = w.heap.size + 1 := by rw [hW1]; simp
  have hz2 : W2.heap.size = w.heap.size + 1 + 1 := by rw [hW2]; simp [hz1]
  have HB : Hid (Bx W3 w.heap.size [.int .i64 f, .int .i64 t, .slice a1 ps.length k1, .bool wt, .slice a2 se.length k2] ∧ Bx W3 (w.heap.size + 1) [.int .i64 fa, .bool fm, .int .i64 fn] ∧ Bx W3 (w.heap.size + 1 + 1) [.int .i64 ta, .bool tm, .int .i64 tn] ∧ Below w.heap.size w W3) :=
    ⟨((hW1 ▸ Bx.new w [_, _, _, _, _] _ : Bx W1 w.heap.size _).next hb2).next hb3, (hz1 ▸ (hW2 ▸ Bx.new W1 [_, _, _] _ : Bx W2 W1.heap.size _)).next hb3, hz2 ▸ (hW3 ▸ Bx.new W2 [_, _, _] _ : Bx W3 W2.heap.size _), below_next (below_next hb1 hb2) hb3⟩
  have HL : Hid (Lies W3 (.list shParcel) [.slice a1 ps.length k1] ps ∧ Lies W3 (.list .int) [.slice a2 se.length k2] se) := ⟨h1.next HB.out.2.2.2, h2.next HB.out.2.2.2⟩
  clear h1 h2 hb1 hb2 hb3 hz1 hz2
  go_enter Try.func53, Try.ntmps53
  go_upto_region 1 with fail
  rw [← hW1, ← hW2, ← hW3]
  clear hW1 hW2 hW3
  have s0 := (HB.out.1).cell 0 rfl; have s1 := (HB.out.1).cell 1 rfl; have s2 := (HB.out.1).cell 2 rfl; have s3 := (HB.out.1).cell 3 rfl; have s4 := (HB.out.1).cell 4 rfl; have sz := (HB.out.1).2
  clear s0 s1
  by_cases c1 : pcsP ps
  case neg =>
    have HN : Hid (tf (wayK fm tm ps wt se) = false) := tf_no (fun q => c1 q.1)
    have HC : Hid (tf (pcsP ps) = false) := tf_no c1
    clear c1
    go_wp2_with (first | (go_at_call 82; refine (HC.out ▸ areParcels_n a1 k1 ps _ hn1 HL.out.1).mono ?_; rintro e w' ⟨rfl, hb⟩; have HB' : Hid (Below w.heap.size w w') := below_next HB.out.2.2.2 hb; clear hb))
    go_ret
    exact ⟨ret_bool HN.out.symm, HB'.out⟩
  have HC : Hid (tf (pcsP ps) = true) := tf_yes c1
  by_cases c2 : seeP se
  case neg =>
    have HN : Hid (tf (wayK fm tm ps wt se) = false) := tf_no (fun q => c2 q.2.1)
    have HD : Hid (tf (seeP se) = false) := tf_no c2
    clear c1 c2
    go_wp2_with (first | (go_at_call 82; refine (HC.out ▸ areParcels_n a1 k1 ps _ hn1 HL.out.1).mono ?_; rintro e W4 ⟨rfl, hb⟩; have HB4 : Hid (Bx W4 w.heap.size [.int .i64 f, .int .i64 t, .slice a1 ps.length k1, .bool wt, .slice a2 se.length k2] ∧ Bx W4 (w.heap.size + 1) [.int .i64 fa, .bool fm, .int .i64 fn] ∧ Bx W4 (w.heap.size + 1 + 1) [.int .i64 ta, .bool tm, .int .i64 tn] ∧ Below w.heap.size w W4 ∧ Lies W4 (.list shParcel) [.slice a1 ps.length k1] ps ∧ Lies W4 (.list .int) [.slice a2 se.length k2] se) := ⟨HB.out.1.next hb, HB.out.2.1.next hb, HB.out.2.2.1.next hb, below_next HB.out.2.2.2 hb, HL.out.1.next hb, HL.out.2.next hb⟩; clear hb s2 s3 s4 sz; have s2 := HB4.out.1.cell 2 rfl; have s3 := HB4.out.1.cell 3 rfl; have s4 := HB4.out.1.cell 4 rfl; have sz := HB4.out.1.2; have m1 := HB4.out.2.1.cell 1 rfl; have mz := HB4.out.2.1.2; have n1 := HB4.out.2.2.1.cell 1 rfl; have nz := HB4.out.2.2.1.2; clear HB HL HC) | (go_at_call 83; refine (HD.out ▸ areSeen_n a2 k2 se _ hn2 HB4.out.2.2.2.2.2).mono ?_; rintro e w' ⟨rfl, hw⟩; have hw := hw.symm; subst hw))
    go_ret
    exact ⟨ret_bool HN.out.symm, HB4.out.2.2.2.1⟩
  have HD : Hid (tf (seeP se) = true) := tf_yes c2
  have HPA : Hid (∀ p ∈ ps, parP p) := c1.2.1
  obtain ⟨mk, hmk⟩ : ∃ b, b = hasM ps := ⟨_, rfl⟩
  have HMK : Hid (hasM ps = mk) := Hid.intro hmk.symm
  have HQ : Hid (wayB fm tm mk wt se.length = tf (wayK fm tm ps wt se)) := Hid.intro (by
    rw [← wayB_eq, Bool.eq_iff_iff, tf_iff, tf_iff, wayK_iff, ← hmk]
    exact ⟨fun q => ⟨c1, c2, q⟩, fun q => q.2.2⟩)
  clear hmk c1 c2
  go_upto_region 3 with (first | (go_at_call 82; refine (HC.out ▸ areParcels_n a1 k1 ps _ hn1 HL.out.1).mono ?_; rintro e W4 ⟨rfl, hb⟩; have HB4 : Hid (Bx W4 w.heap.size [.int .i64 f, .int .i64 t, .slice a1 ps.length k1, .bool wt, .slice a2 se.length k2] ∧ Bx W4 (w.heap.size + 1) [.int .i64 fa, .bool fm, .int .i64 fn] ∧ Bx W4 (w.heap.size + 1 + 1) [.int .i64 ta, .bool tm, .int .i64 tn] ∧ Below w.heap.size w W4 ∧ Lies W4 (.list shParcel) [.slice a1 ps.length k1] ps ∧ Lies W4 (.list .int) [.slice a2 se.length k2] se) := ⟨HB.out.1.next hb, HB.out.2.1.next hb, HB.out.2.2.1.next hb, below_next HB.out.2.2.2 hb, HL.out.1.next hb, HL.out.2.next hb⟩; clear hb s2 s3 s4 sz; have s2 := HB4.out.1.cell 2 rfl; have s3 := HB4.out.1.cell 3 rfl; have s4 := HB4.out.1.cell 4 rfl; have sz := HB4.out.1.2; have m1 := HB4.out.2.1.cell 1 rfl; have mz := HB4.out.2.1.2; have n1 := HB4.out.2.2.1.cell 1 rfl; have nz := HB4.out.2.2.1.2; clear HB HL HC) | (go_at_call 83; refine (HD.out ▸ areSeen_n a2 k2 se _ hn2 HB4.out.2.2.2.2.2).mono ?_; rintro e w' ⟨rfl, hw⟩; have hw := hw.symm; subst hw))
  go_upto_region 4 with (first | (go_at_call 84; refine (HMK.out ▸ containsParcel_n a1 k1 ps _ hn1 HPA.out HB4.out.2.2.2.2.1).mono ?_; rintro e W5 ⟨rfl, hb⟩; have HB5 : Hid (Bx W5 w.heap.size [.int .i64 f, .int .i64 t, .slice a1 ps.length k1, .bool wt, .slice a2 se.length k2] ∧ Bx W5 (w.heap.size + 1) [.int .i64 fa, .bool fm, .int .i64 fn] ∧ Bx W5 (w.heap.size + 1 + 1) [.int .i64 ta, .bool tm, .int .i64 tn] ∧ Below w.heap.size w W5) := ⟨HB4.out.1.next hb, HB4.out.2.1.next hb, HB4.out.2.2.1.next hb, below_next HB4.out.2.2.2.1 hb⟩; clear hb s2 s3 s4 sz m1 mz n1 nz; have s3 := HB5.out.1.cell 3 rfl; have s4 := HB5.out.1.cell 4 rfl; have sz := HB5.out.1.2; have m1 := HB5.out.2.1.cell 1 rfl; have mz := HB5.out.2.1.2; have n1 := HB5.out.2.2.1.cell 1 rfl; have nz := HB5.out.2.2.1.2))
  clear HB4 HMK HPA HD
  obtain ⟨n, hn⟩ : ∃ n, n = se.length := ⟨_, rfl⟩
  rw [← hn] at hn2 s4 HQ
  clear hn
  by_cases c3 : n = 0
  · subst c3
    cases fm <;> cases tm <;> cases wt <;> cases mk
    all_goals (go_wp2; go_ret; exact ⟨ret_bool HQ.out, HB5.out.2.2.2⟩)
  · have c4 : ((n : Int) == 0) = false := by simp; omega
    have c5 : decide (n = 0) = false := decide_eq_false c3
    have HQ : Hid (wayB fm tm mk wt 1 = tf (wayK fm tm ps wt se)) := Hid.intro (by
      rw [← HQ.out]; unfold wayB; rw [c5]; rfl)
    clear c5
    cases fm <;> cases tm <;> cases wt <;> cases mk
    all_goals (go_wp2; go_ret; exact ⟨ret_bool HQ.out, HB5.out.2.2.2⟩)
end Go.Proofs.Ytcklpcdgckkahaa
