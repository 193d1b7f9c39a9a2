/- Registers: the program's tests on ops: isRegOp, isTimed, isBusy. -/
import Derived.Test.YtjebnhbadbhaaaaRgA
namespace Go.Proofs.Ytjebnhbadbhaaaa
open Go.RowKit
set_option linter.unusedVariables false

/-- What isTimed asks. -/
def tmdP (ck x3 x8 x9 : Int) : Prop := (0 ≤ x8 ∧ x8 ≤ ck - 1) ∧ (x3 = 3 → x8 + 1 ≤ x9 ∧ x9 ≤ ck - 1) ∧ (x3 ≠ 3 → x9 = 0)
set_option maxHeartbeats 1000000 in
theorem isTimed_n (x0 : Int) (x1 : Bool) (x2 : ByteArray) (x3 : Int) (a : Option Addr) (n k : Nat) (x5 x6 : Int) (x7 : ByteArray) (x8 x9 ck : Int) (w : World) (h0 : 0 ≤ ck) (h1 : ck ≤ 1000) :
    Calls Try.prog 57 #[.agg #[.int .i64 x0, .bool x1, .string x2, .int .i64 x3, .slice a n k, .int .i64 x5, .int .i64 x6, .string x7, .int .i64 x8, .int .i64 x9], .int .i64 ck] w fun r w' => r = .returned (.bool (tf (tmdP ck x3 x8 x9))) ∧ Below w.heap.size w w' := by
  cases h3 : inR x8 0 (ck - 1)
  · have HN : Hid (tf (tmdP ck x3 x8 x9) = false) := tf_no (fun q => by rw [inR_iff.2 q.1] at h3; cases h3)
    go_enter Try.func57, Try.ntmps57
    go_wp2_with (first | (go_at_call 54; refine (inRange_any _ _ _ _).mono ?_; rintro e w' ⟨rfl, rfl⟩))
    go_ret
    exact ⟨ret_bool HN.out.symm, (by repeat (first | refine Below.setCell ?_ (by (try simp) <;> omega) _ | refine Below.alloc ?_ (by (try simp) <;> omega) _ | refine Below.drew ?_ | assumption | exact Below.refl _ _ | refine Below.trans ?_ (Below.mono (by assumption) (by (try simp) <;> omega))))⟩
  have hb := inR_iff.1 h3
  by_cases h4 : x3 = 3
  · have h4' : (x3 == 3) = true := by simpa using h4
    have HN : Hid (tf (tmdP ck x3 x8 x9) = inR x9 (x8 + 1) (ck - 1)) := by
      show tf (tmdP ck x3 x8 x9) = inR x9 (x8 + 1) (ck - 1)
      rw [Bool.eq_iff_iff, tf_iff, inR_iff]
      exact ⟨fun q => q.2.1 h4, fun q => ⟨hb, fun _ => q, fun q2 => absurd h4 q2⟩⟩
    clear h4
    go_enter Try.func57, Try.ntmps57
    go_wp2_with (first | (go_at_call 54; refine (inRange_any _ _ _ _).mono ?_; rintro e w' ⟨rfl, rfl⟩))
    go_ret
    exact ⟨ret_bool HN.out.symm, (by repeat (first | refine Below.setCell ?_ (by (try simp) <;> omega) _ | refine Below.alloc ?_ (by (try simp) <;> omega) _ | refine Below.drew ?_ | assumption | exact Below.refl _ _ | refine Below.trans ?_ (Below.mono (by assumption) (by (try simp) <;> omega))))⟩
  · have h4' : (x3 == 3) = false := by simpa using h4
    have HN : Hid (tf (tmdP ck x3 x8 x9) = decide (x9 = 0)) := by
      show tf (tmdP ck x3 x8 x9) = decide (x9 = 0)
      rw [Bool.eq_iff_iff, tf_iff, decide_eq_true_iff]
      exact ⟨fun q => q.2.2 h4, fun q => ⟨hb, fun q2 => absurd q2 h4, fun _ => q⟩⟩
    clear h4
    go_enter Try.func57, Try.ntmps57
    go_wp2_with (first | (go_at_call 54; refine (inRange_any _ _ _ _).mono ?_; rintro e w' ⟨rfl, rfl⟩))
    go_ret
    exact ⟨ret_bool (by rw [HN.out]; by_cases e : x9 = 0 <;> simp [e]), (by repeat (first | refine Below.setCell ?_ (by (try simp) <;> omega) _ | refine Below.alloc ?_ (by (try simp) <;> omega) _ | refine Below.drew ?_ | assumption | exact Below.refl _ _ | refine Below.trans ?_ (Below.mono (by assumption) (by (try simp) <;> omega))))⟩

/-- What isRegOp asks. -/
def ropP (nc : Int) (x0 : Int) (x1 : Bool) (x2 : ByteArray) (x3 : Int) (x4 : List Int) (x5 x6 : Int) (x7 : ByteArray) : Prop :=
  (0 ≤ x0 ∧ x0 ≤ 9) ∧ opV x1 x2 = true ∧ (1 ≤ x3 ∧ x3 ≤ 3) ∧ (x3 = 3 → x4.length = 0) ∧ grB (atI x4) x4.length nc = true ∧ imB (atI x4) x4.length nc = false ∧ copP x5 x6 x7
theorem op_parts {ck nc : Int} (hnc : 1 ≤ nc ∧ nc ≤ 12) {x0 : Int} {x1 : Bool} {x2 : ByteArray} {x3 : Int} {x4 : List Int} {x5 x6 : Int} {x7 : ByteArray} {x8 x9 : Int} :
    opQ ck nc x0 x1 x2 x3 x4 x5 x6 x7 x8 x9 ↔ ropP nc x0 x1 x2 x3 x4 x5 x6 x7 ∧ tmdP ck x3 x8 x9 := by
  unfold opQ ropP tmdP
  rw [opV_iff]
  constructor
  · rintro ⟨h0, h1, h2, h3, h4, h5, h6, h7, h8, h9, h10⟩
    have hg : grB (atI x4) x4.length nc = true := grB_iff.2 ⟨hnc, h10⟩
    refine ⟨⟨h0, ⟨h1, h2⟩, h3, h7, hg, ?_, h4⟩, h5, h8, h9⟩
    unfold imB
    rw [hg]
    simp
    omega
  · rintro ⟨⟨h0, ⟨h1, h2⟩, h3, h7, hg, hm, h4⟩, h5, h8, h9⟩
    refine ⟨h0, h1, h2, h3, h4, h5, ?_, h7, h8, h9, (grB_iff.1 hg).2⟩
    unfold imB at hm
    rw [hg] at hm
    simp at hm
    omega

set_option maxRecDepth 100000 in
set_option maxHeartbeats 4000000 in
theorem isRegOp_n (x0 : Int) (x1 : Bool) (x2 : ByteArray) (x3 : Int) (x4 : List (Sh.T .int)) (a : Option Addr) (k : Nat) (x5 x6 : Int) (x7 : ByteArray) (x8 x9 nc : Int) (w : World) (h2 : x2.size ≤ maxLen) (h7 : x7.size ≤ maxLen) (hn : x4.length ≤ 1073741824) (h : Lies w (.list .int) [.slice a x4.length k] x4) :
    Calls Try.prog 56 #[.agg #[.int .i64 x0, .bool x1, .string x2, .int .i64 x3, .slice a x4.length k, .int .i64 x5, .int .i64 x6, .string x7, .int .i64 x8, .int .i64 x9], .int .i64 nc] w fun r w' => r = .returned (.bool (tf (ropP nc x0 x1 x2 x3 x4 x5 x6 x7))) ∧ Below w.heap.size w w' := by
  have HL : Hid (Lies w (.list .int) [.slice a x4.length k] x4 ∧ x2.size ≤ maxLen ∧ x7.size ≤ maxLen) := ⟨h, h2, h7⟩
  clear h h2 h7
  have HP : Hid (tf (ropP nc x0 x1 x2 x3 x4 x5 x6 x7) = (inR x0 0 9 && (opV x1 x2 && (inR x3 1 3 && ((!(x3 == 3) || decide (x4.length = 0)) && (grB (atI x4) x4.length nc && (!imB (atI x4) x4.length nc && tf (copP x5 x6 x7)))))))) := by
    show tf (ropP nc x0 x1 x2 x3 x4 x5 x6 x7) = _
    rw [Bool.eq_iff_iff, tf_iff]
    simp only [Bool.and_eq_true, inR_iff, tf_iff, ropP, Bool.or_eq_true, Bool.not_eq_true', beq_eq_false_iff_ne, decide_eq_true_eq]
    constructor
    · rintro ⟨q0, q1, q2, q3, q4, q5, q6⟩
      exact ⟨q0, q1, q2, by by_cases e : x3 = 3; exact Or.inr (q3 e); exact Or.inl e, q4, q5, q6⟩
    · rintro ⟨q0, q1, q2, q3, q4, q5, q6⟩
      exact ⟨q0, q1, q2, fun e => q3.elim (fun q => absurd e q) id, q4, q5, q6⟩
  cases c0 : inR x0 0 9
  · rw [c0] at HP
    go_enter Try.func56, Try.ntmps56
    go_wp2_with (first | (go_at_call 54; refine (inRange_any _ _ _ _).mono ?_; rintro e w' ⟨rfl, rfl⟩))
    go_ret
    exact ⟨ret_bool (by rw [HP.out]; simp), (by repeat (first | refine Below.setCell ?_ (by (try simp) <;> omega) _ | refine Below.alloc ?_ (by (try simp) <;> omega) _ | refine Below.drew ?_ | assumption | exact Below.refl _ _ | refine Below.trans ?_ (Below.mono (by assumption) (by (try simp) <;> omega))))⟩
  cases c1 : opV x1 x2
  · rw [c0, c1] at HP
    go_enter Try.func56, Try.ntmps56
    go_wp2_with (first | (go_at_call 54; refine (inRange_any _ _ _ _).mono ?_; rintro e w' ⟨rfl, rfl⟩) | (go_at_call 98; refine (isOpValue_n _ _ _ HL.out.2.1).mono ?_; rintro e w' ⟨rfl, rfl⟩))
    go_ret
    exact ⟨ret_bool (by rw [HP.out]; simp), (by repeat (first | refine Below.setCell ?_ (by (try simp) <;> omega) _ | refine Below.alloc ?_ (by (try simp) <;> omega) _ | refine Below.drew ?_ | assumption | exact Below.refl _ _ | refine Below.trans ?_ (Below.mono (by assumption) (by (try simp) <;> omega))))⟩
  cases c2 : inR x3 1 3
  · rw [c0, c1, c2] at HP
    go_enter Try.func56, Try.ntmps56
    go_wp2_with (first | (go_at_call 54; refine (inRange_any _ _ _ _).mono ?_; rintro e w' ⟨rfl, rfl⟩) | (go_at_call 98; refine (isOpValue_n _ _ _ HL.out.2.1).mono ?_; rintro e w' ⟨rfl, rfl⟩))
    go_ret
    exact ⟨ret_bool (by rw [HP.out]; simp), (by repeat (first | refine Below.setCell ?_ (by (try simp) <;> omega) _ | refine Below.alloc ?_ (by (try simp) <;> omega) _ | refine Below.drew ?_ | assumption | exact Below.refl _ _ | refine Below.trans ?_ (Below.mono (by assumption) (by (try simp) <;> omega))))⟩
  by_cases c3 : x3 = 3 ∧ 0 < x4.length
  · have c3a : (x3 == 3) = true := by simpa using c3.1
    have c3b : (0 : Int) < (x4.length : Int) := by omega
    have HN : Hid (tf (ropP nc x0 x1 x2 x3 x4 x5 x6 x7) = false) := by
      show tf (ropP nc x0 x1 x2 x3 x4 x5 x6 x7) = false
      exact tf_no (fun q => by have := q.2.2.2.1 c3.1; omega)
    clear c3
    go_enter Try.func56, Try.ntmps56
    go_wp2_with (first | (go_at_call 54; refine (inRange_any _ _ _ _).mono ?_; rintro e w' ⟨rfl, rfl⟩) | (go_at_call 98; refine (isOpValue_n _ _ _ HL.out.2.1).mono ?_; rintro e w' ⟨rfl, rfl⟩))
    go_ret
    exact ⟨ret_bool HN.out.symm, (by repeat (first | refine Below.setCell ?_ (by (try simp) <;> omega) _ | refine Below.alloc ?_ (by (try simp) <;> omega) _ | refine Below.drew ?_ | assumption | exact Below.refl _ _ | refine Below.trans ?_ (Below.mono (by assumption) (by (try simp) <;> omega))))⟩
  have HC : Hid ((!(x3 == 3) || decide (x4.length = 0)) = true) := by
    show (!(x3 == 3) || decide (x4.length = 0)) = true
    by_cases e : x3 = 3
    · have : x4.length = 0 := by
        rcases Nat.eq_zero_or_pos x4.length with q | q
        · exact q
        · exact absurd ⟨e, q⟩ c3
      simp [this]
    · simp [e]
  rw [c0, c1, c2, HC.out] at HP
  have HB0 : Hid (Below w.heap.size w (w.alloc (.cells #[.int .i64 x0, .bool x1, .string x2, .int .i64 x3, .slice a x4.length k, .int .i64 x5, .int .i64 x6, .string x7, .int .i64 x8, .int .i64 x9] 53)) ∧ Bx (w.alloc (.cells #[.int .i64 x0, .bool x1, .string x2, .int .i64 x3, .slice a x4.length k, .int .i64 x5, .int .i64 x6, .string x7, .int .i64 x8, .int .i64 x9] 53)) w.heap.size [.int .i64 x0, .bool x1, .string x2, .int .i64 x3, .slice a x4.length k, .int .i64 x5, .int .i64 x6, .string x7, .int .i64 x8, .int .i64 x9]) := ⟨Go.Joins.below_alloc1 _ _, Bx.new w [_, _, _, _, _, _, _, _, _, _] _⟩
  by_cases c4 : x3 = 3
  case' pos =>
    have c4a : (x3 == 3) = true := by simpa using c4
    have c4b : ¬ (0 : Int) < (x4.length : Int) := by
      intro q
      exact c3 ⟨c4, by omega⟩
  case' neg =>
    have c4a : (x3 == 3) = false := by simpa using c4
  all_goals
    clear c3 c4
    go_enter Try.func56, Try.ntmps56
    go_wp2_with (first | (go_at_call 54; refine (inRange_any _ _ _ _).mono ?_; rintro e w' ⟨rfl, rfl⟩) | (go_at_call 98; refine (isOpValue_n _ _ _ HL.out.2.1).mono ?_; rintro e w' ⟨rfl, rfl⟩))
    refine (isMajority_any _ _ _ (atI x4) nc _ hn (lies_sl (HL.out.1.next HB0.out.1))).mono ?_
    rintro r w1 ⟨rfl, hb⟩
    have HB1 : Hid (Below w.heap.size w w1) := HB0.out.1.trans (hb.mono HB0.out.1.size)
    have bx := HB0.out.2.next hb
    have d5 := bx.cell 5 rfl
    have d6 := bx.cell 6 rfl
    have d7 := bx.cell 7 rfl
    have dz := bx.2
    clear bx hb HB0
    cases e1 : grB (atI x4) x4.length nc
    · rw [e1] at HP
      clear e1
      go_wp2
      go_ret
      exact ⟨ret_bool (by rw [HP.out]; simp), HB1.out⟩
    cases e2 : imB (atI x4) x4.length nc
    case' true =>
      rw [e1, e2] at HP
      clear e1 e2
      go_wp2
      go_ret
      exact ⟨ret_bool (by rw [HP.out]; simp), HB1.out⟩
    rw [e1, e2] at HP
    clear e1 e2
    go_wp2_with fail
    refine (isCopy_n _ _ _ _ HL.out.2.2).mono ?_
    rintro r w2 ⟨rfl, hb⟩
    have HB2 : Hid (Below w.heap.size w w2) := HB1.out.trans (hb.mono HB1.out.size)
    clear hb
    generalize tf (copP x5 x6 x7) = z at *
    go_wp2
    go_ret
    exact ⟨ret_bool (by rw [HP.out]; simp), HB2.out⟩
end Go.Proofs.Ytjebnhbadbhaaaa
