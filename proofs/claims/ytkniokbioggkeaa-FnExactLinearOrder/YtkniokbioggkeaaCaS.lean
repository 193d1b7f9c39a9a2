/- The contract of the specification's GoodCalls. -/
import Derived.Test.YtkniokbioggkeaaCaI
namespace Go.Proofs.Ytkniokbioggkeaa
open Go.RowKit
set_option linter.unusedVariables false

set_option maxRecDepth 100000 in
set_option maxHeartbeats 4000000 in
theorem specGoodCalls_any (a : Option Addr) (n cap : Nat) (V : Nat → CallV) (w : World) (hn : n ≤ 1048576) (hcap : n ≤ cap) (hz : ∀ i, i < n → (V i).f2.size ≤ maxLen ∧ (V i).f3.size ≤ maxLen) (hs : Sl w a n 6 (callF V)) :
    Calls Try.prog 24 #[.slice a n cap] w fun r w' => r = .returned (.bool (calsB V n)) ∧ Below w.heap.size w w' := by
  have HS : Hid (Sl w a n 6 (callF V) ∧ (∀ i, i < n → (V i).f2.size ≤ maxLen ∧ (V i).f3.size ≤ maxLen) ∧ n ≤ cap) := ⟨hs, hz, hcap⟩
  clear hs hz
  go_enter Try.func24, Try.ntmps24
  go_wp2
  go_loopw [9] (fun i wr => ∃ k : Nat, k ≤ n ∧ i = .int .i64 k ∧ calsP V k ∧ Below w.heap.size w wr) (fun i _ => n - (intOf i).toNat)
  case atStart => exact ⟨0, Nat.zero_le _, rfl, fun i hi => absurd hi (by omega), Below.refl _ _⟩
  case round =>
    obtain ⟨k, hk, rfl, hall, hBr⟩ := hrel
    obtain ⟨wo, hwo⟩ : ∃ x, x = wr := ⟨wr, rfl⟩
    subst hwo
    by_cases hlt : k < n
    · rcases HS.out.1.below hBr (Nat.le_refl _) with h | ⟨b, off, rfl, hbs, hE⟩
      · omega
      have hlt' : (k : Int) < (n : Int) := by omega
      have hkc : (k : Int) ≤ (cap : Int) := by omega
      obtain ⟨c0, c1, c2, c3, c4, c5⟩ := call_cells hE hlt
      have H1 : Hid (Bx (wo.alloc (.cells #[.int .i64 (V k).f0, .bool (V k).f1, .string (V k).f2, .string (V k).f3, .int .i64 (V k).f4, .int .i64 (V k).f5] 28)) wo.heap.size [.int .i64 (V k).f0, .bool (V k).f1, .string (V k).f2, .string (V k).f3, .int .i64 (V k).f4, .int .i64 (V k).f5] ∧ Below w.heap.size w (wo.alloc (.cells #[.int .i64 (V k).f0, .bool (V k).f1, .string (V k).f2, .string (V k).f3, .int .i64 (V k).f4, .int .i64 (V k).f5] 28)) ∧ Elems (wo.alloc (.cells #[.int .i64 (V k).f0, .bool (V k).f1, .string (V k).f2, .string (V k).f3, .int .i64 (V k).f4, .int .i64 (V k).f5] 28)) b off n 6 (callF V) ∧ b < (wo.alloc (.cells #[.int .i64 (V k).f0, .bool (V k).f1, .string (V k).f2, .string (V k).f3, .int .i64 (V k).f4, .int .i64 (V k).f5] 28)).heap.size) := ⟨Bx.new wo [.int .i64 (V k).f0, .bool (V k).f1, .string (V k).f2, .string (V k).f3, .int .i64 (V k).f4, .int .i64 (V k).f5] _, below_nx hBr (Go.Joins.below_alloc1 _ _), hE.below (Go.Joins.below_alloc1 _ _) hbs, Nat.lt_of_lt_of_le hbs (Go.Joins.below_alloc1 _ _).size⟩
      have HP : Hid (calsP V k) := hall
      have HC : Hid (callOk (V k) = (inR (V k).f0 0 9 && (keyOk (V k).f2 && (valOk (V k).f3 && (decide (0 ≤ (V k).f4) && (decide ((V k).f4 < (V k).f5) && decide ((V k).f5 ≤ 999999))))))) := rfl
      clear hall hBr hE
      cases e0 : inR (V k).f0 0 9
      · have HN : Hid (calsB V n = false) := calsB_bad hlt (by rw [HC.out, e0]; rfl)
        go_wp2_with (first
        | (go_at_call 47; refine (l1In_any _ _ _ _).mono ?_; rintro e w' ⟨rfl, rfl⟩)
        | (go_at_call 52; refine (l1Key_any _ _ (HS.out.2.1 k hlt).1).mono ?_; rintro e w' ⟨rfl, rfl⟩)
        | (go_at_call 53; refine (l1Value_any _ _ (HS.out.2.1 k hlt).2).mono ?_; rintro e w' ⟨rfl, rfl⟩))
        go_ret
        exact ⟨ret_bool HN.out.symm, H1.out.2.1⟩
      cases e1 : keyOk (V k).f2
      · have HN : Hid (calsB V n = false) := calsB_bad hlt (by rw [HC.out, e0, e1]; rfl)
        go_wp2_with (first
        | (go_at_call 47; refine (l1In_any _ _ _ _).mono ?_; rintro e w' ⟨rfl, rfl⟩)
        | (go_at_call 52; refine (l1Key_any _ _ (HS.out.2.1 k hlt).1).mono ?_; rintro e w' ⟨rfl, rfl⟩)
        | (go_at_call 53; refine (l1Value_any _ _ (HS.out.2.1 k hlt).2).mono ?_; rintro e w' ⟨rfl, rfl⟩))
        go_ret
        exact ⟨ret_bool HN.out.symm, H1.out.2.1⟩
      cases e2 : valOk (V k).f3
      · have HN : Hid (calsB V n = false) := calsB_bad hlt (by rw [HC.out, e0, e1, e2]; rfl)
        go_wp2_with (first
        | (go_at_call 47; refine (l1In_any _ _ _ _).mono ?_; rintro e w' ⟨rfl, rfl⟩)
        | (go_at_call 52; refine (l1Key_any _ _ (HS.out.2.1 k hlt).1).mono ?_; rintro e w' ⟨rfl, rfl⟩)
        | (go_at_call 53; refine (l1Value_any _ _ (HS.out.2.1 k hlt).2).mono ?_; rintro e w' ⟨rfl, rfl⟩))
        go_ret
        exact ⟨ret_bool HN.out.symm, H1.out.2.1⟩
      by_cases e3 : 0 ≤ (V k).f4
      case neg =>
        have HN : Hid (calsB V n = false) := calsB_bad hlt (by rw [HC.out, e0, e1, e2, decide_eq_false e3]; rfl)
        go_wp2_with (first
        | (go_at_call 47; refine (l1In_any _ _ _ _).mono ?_; rintro e w' ⟨rfl, rfl⟩)
        | (go_at_call 52; refine (l1Key_any _ _ (HS.out.2.1 k hlt).1).mono ?_; rintro e w' ⟨rfl, rfl⟩)
        | (go_at_call 53; refine (l1Value_any _ _ (HS.out.2.1 k hlt).2).mono ?_; rintro e w' ⟨rfl, rfl⟩))
        go_ret
        exact ⟨ret_bool HN.out.symm, H1.out.2.1⟩
      by_cases e4 : (V k).f4 < (V k).f5
      case neg =>
        have HN : Hid (calsB V n = false) := calsB_bad hlt (by rw [HC.out, e0, e1, e2, decide_eq_true e3, decide_eq_false e4]; rfl)
        go_wp2_with (first
        | (go_at_call 47; refine (l1In_any _ _ _ _).mono ?_; rintro e w' ⟨rfl, rfl⟩)
        | (go_at_call 52; refine (l1Key_any _ _ (HS.out.2.1 k hlt).1).mono ?_; rintro e w' ⟨rfl, rfl⟩)
        | (go_at_call 53; refine (l1Value_any _ _ (HS.out.2.1 k hlt).2).mono ?_; rintro e w' ⟨rfl, rfl⟩))
        go_ret
        exact ⟨ret_bool HN.out.symm, H1.out.2.1⟩
      by_cases e5 : (V k).f5 ≤ 999999
      case neg =>
        have HN : Hid (calsB V n = false) := calsB_bad hlt (by rw [HC.out, e0, e1, e2, decide_eq_true e3, decide_eq_true e4, decide_eq_false e5]; rfl)
        have e6 : 1000000 ≤ (V k).f5 := by omega
        clear e5
        go_wp2_with (first
        | (go_at_call 47; refine (l1In_any _ _ _ _).mono ?_; rintro e w' ⟨rfl, rfl⟩)
        | (go_at_call 52; refine (l1Key_any _ _ (HS.out.2.1 k hlt).1).mono ?_; rintro e w' ⟨rfl, rfl⟩)
        | (go_at_call 53; refine (l1Value_any _ _ (HS.out.2.1 k hlt).2).mono ?_; rintro e w' ⟨rfl, rfl⟩))
        go_ret
        exact ⟨ret_bool HN.out.symm, H1.out.2.1⟩
      have HO : Hid (callOk (V k) = true) := by show callOk (V k) = true; rw [HC.out, e0, e1, e2, decide_eq_true e3, decide_eq_true e4, decide_eq_true e5]; rfl
      have e6 : ¬ 1000000 ≤ (V k).f5 := by omega
      clear HC
      go_wp2_with (first
        | (go_at_call 47; refine (l1In_any _ _ _ _).mono ?_; rintro e w' ⟨rfl, rfl⟩)
        | (go_at_call 52; refine (l1Key_any _ _ (HS.out.2.1 k hlt).1).mono ?_; rintro e w' ⟨rfl, rfl⟩)
        | (go_at_call 53; refine (l1Value_any _ _ (HS.out.2.1 k hlt).2).mono ?_; rintro e w' ⟨rfl, rfl⟩))
      clear e0 e1 e2 e3 e4 e5 e6 c0 c1 c2 c3 c4 c5
      have hW : ∃ x, x = wo.alloc (.cells #[.int .i64 (V k).f0, .bool (V k).f1, .string (V k).f2, .string (V k).f3, .int .i64 (V k).f4, .int .i64 (V k).f5] 28) := ⟨_, rfl⟩
      obtain ⟨w1, hW⟩ := hW
      rw [← hW]
      rw [← hW] at H1
      clear hW
      go_loopw [51] (fun x wr => ∃ i : Nat, i ≤ k ∧ x = .int .i64 i ∧ (∀ j, j < i → clashB (V k) (V j) = false) ∧ Below w1.heap.size w1 wr) (fun x _ => k - (intOf x).toNat)
      case atStart => exact ⟨0, Nat.zero_le _, rfl, fun j hj => absurd hj (by omega), Below.refl _ _⟩
      case round =>
        obtain ⟨i, hi, rfl, hno, hBi⟩ := hrel
        have HX : Hid (Bx wr wo.heap.size [.int .i64 (V k).f0, .bool (V k).f1, .string (V k).f2, .string (V k).f3, .int .i64 (V k).f4, .int .i64 (V k).f5] ∧ Below w.heap.size w wr ∧ Below w1.heap.size w1 wr) := ⟨H1.out.1.next hBi, below_nx H1.out.2.1 hBi, hBi⟩
        by_cases hik : i < k
        · have hik' : (i : Int) < (k : Int) := by omega
          obtain ⟨d0, d1, d2, d3, d4, d5⟩ := call_cells (H1.out.2.2.1.below hBi H1.out.2.2.2) (show i < n by omega)
          have HNo : Hid (∀ j, j < i → clashB (V k) (V j) = false) := hno
          have hd : Below wr.heap.size wr (wr.alloc (.cells #[.int .i64 (V i).f0, .bool (V i).f1, .string (V i).f2, .string (V i).f3, .int .i64 (V i).f4, .int .i64 (V i).f5] 28)) := Go.Joins.below_alloc1 _ _
          have HD : Hid (Below w.heap.size w (wr.alloc (.cells #[.int .i64 (V i).f0, .bool (V i).f1, .string (V i).f2, .string (V i).f3, .int .i64 (V i).f4, .int .i64 (V i).f5] 28)) ∧ Below w1.heap.size w1 (wr.alloc (.cells #[.int .i64 (V i).f0, .bool (V i).f1, .string (V i).f2, .string (V i).f3, .int .i64 (V i).f4, .int .i64 (V i).f5] 28))) := ⟨below_nx HX.out.2.1 hd, below_nx HX.out.2.2 hd⟩
          have HL : Hid (likeB (V i) (V k) = (((V i).f4 == (V k).f4) || (((V i).f4 == (V k).f5) || (((V i).f5 == (V k).f4) || ((V i).f5 == (V k).f5))))) := rfl
          have s0 := (HX.out.1).cell 0 rfl; have s1 := (HX.out.1).cell 1 rfl; have s2 := (HX.out.1).cell 2 rfl; have s3 := (HX.out.1).cell 3 rfl; have s4 := (HX.out.1).cell 4 rfl; have s5 := (HX.out.1).cell 5 rfl; have sz := (HX.out.1).2
          clear hno hBi hd H1 HX
          cases q1 : ((V i).f4 == (V k).f4)
          case true =>
            have HN : Hid (calsB V n = false) := calsB_clash hlt hik (clash_like (by rw [HL.out, q1]; rfl))
            go_wp2
            go_ret
            exact ⟨ret_bool HN.out.symm, HD.out.1⟩
          cases q2 : ((V i).f4 == (V k).f5)
          case true =>
            have HN : Hid (calsB V n = false) := calsB_clash hlt hik (clash_like (by rw [HL.out, q1, q2]; rfl))
            go_wp2
            go_ret
            exact ⟨ret_bool HN.out.symm, HD.out.1⟩
          cases q3 : ((V i).f5 == (V k).f4)
          case true =>
            have HN : Hid (calsB V n = false) := calsB_clash hlt hik (clash_like (by rw [HL.out, q1, q2, q3]; rfl))
            go_wp2
            go_ret
            exact ⟨ret_bool HN.out.symm, HD.out.1⟩
          cases q4 : ((V i).f5 == (V k).f5)
          case true =>
            have HN : Hid (calsB V n = false) := calsB_clash hlt hik (clash_like (by rw [HL.out, q1, q2, q3, q4]; rfl))
            go_wp2
            go_ret
            exact ⟨ret_bool HN.out.symm, HD.out.1⟩
          have HK : Hid (likeB (V i) (V k) = false) := by show likeB (V i) (V k) = false; rw [HL.out, q1, q2, q3, q4]; rfl
          clear HL
          cases q5 : ((V i).f0 == (V k).f0)
          · have HV : Hid (clashB (V k) (V i) = false) := clash_proc HK.out q5
            go_wp2
            go_roundw
            case rel => exact ⟨i + 1, by omega, by go_num, upto_succ HNo.out HV.out, HD.out.2⟩
            case measure => simp [intOf]; omega
          go_wp2_with fail
          refine (l7Overlap_any (V i) (V k) _).mono ?_
          rintro r w2 ⟨rfl, hb⟩
          have HV : Hid (clashB (V k) (V i) = lapB (V i) (V k)) := clash_lap HK.out q5
          have H3 : Hid (Below w.heap.size w w2 ∧ Below w1.heap.size w1 w2) := ⟨below_nx HD.out.1 hb, below_nx HD.out.2 hb⟩
          clear hb HD HK s0 s1 s2 s3 s4 s5 sz d0 d1 d2 d3 d4 d5
          cases q6 : lapB (V i) (V k)
          · go_wp2
            go_roundw
            case rel => exact ⟨i + 1, by omega, by go_num, upto_succ HNo.out (HV.out.trans q6), H3.out.2⟩
            case measure => simp [intOf]; omega
          · have HN : Hid (calsB V n = false) := calsB_clash hlt hik (HV.out.trans q6)
            go_wp2
            go_ret
            exact ⟨ret_bool HN.out.symm, H3.out.1⟩
        · have hik2 : i = k := by omega
          subst hik2
          have HY : Hid (calP V i) := ⟨HO.out, hno⟩
          clear hno hBi H1
          go_wp2
          go_roundw
          case rel => exact ⟨i + 1, by omega, by go_num, calsP_up HP.out HY.out, HX.out.2.1⟩
          case measure => simp [intOf]; omega
    · have hkn : k = n := by omega
      subst hkn
      have HN : Hid (calsB V k = decide (k ≤ 7)) := calsB_size hall
      have HB : Hid (Below w.heap.size w wo) := hBr
      clear hall hBr
      go_wp2
      go_ret
      exact ⟨ret_bool (by rw [HN.out]; simp; omega), HB.out⟩
end Go.Proofs.Ytkniokbioggkeaa
