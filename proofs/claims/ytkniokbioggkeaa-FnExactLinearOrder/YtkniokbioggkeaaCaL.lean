/- The contract of GoodCalls. -/
import Derived.Test.YtkniokbioggkeaaCaI
namespace Go.Proofs.Ytkniokbioggkeaa
open Go.RowKit
set_option linter.unusedVariables false

set_option maxRecDepth 100000 in
set_option maxHeartbeats 4000000 in
theorem goodCalls_any (a : Option Addr) (n cap : Nat) (V : Nat → CallV) (w : World) (hn : n ≤ 1048576) (hcap : n ≤ cap) (hz : ∀ i, i < n → (V i).f2.size ≤ maxLen ∧ (V i).f3.size ≤ maxLen) (hs : Sl w a n 6 (callF V)) :
    Calls Try.prog 26 #[.slice a n cap] w fun r w' => r = .returned (.bool (calsB V n)) ∧ Below w.heap.size w w' := by
  by_cases h7 : n ≤ 7
  case neg =>
    have h7' : (7 : Int) < (n : Int) := by omega
    have HN : Hid (calsB V n = false) := calsB_big h7
    clear hs h7 hz
    go_enter Try.func26, Try.ntmps26
    go_wp2
    go_ret
    exact ⟨ret_bool HN.out.symm, Below.refl _ _⟩
  have h7' : ¬ (7 : Int) < (n : Int) := by omega
  have HS : Hid (Sl w a n 6 (callF V) ∧ (∀ i, i < n → (V i).f2.size ≤ maxLen ∧ (V i).f3.size ≤ maxLen) ∧ n ≤ 7 ∧ n ≤ cap) := ⟨hs, hz, h7, hcap⟩
  clear hs hz
  go_enter Try.func26, Try.ntmps26
  go_wp2
  go_loopw [12] (fun i wr => ∃ k : Nat, k ≤ n ∧ i = .int .i64 k ∧ calsP V k ∧ Below w.heap.size w wr) (fun i _ => n - (intOf i).toNat)
  case atStart => exact ⟨0, Nat.zero_le _, rfl, fun i hi => absurd hi (by omega), Below.refl _ _⟩
  case round =>
    obtain ⟨k, hk, rfl, hall, hBr⟩ := hrel
    obtain ⟨wo, hwo⟩ : ∃ x, x = wr := ⟨wr, rfl⟩
    subst hwo
    by_cases hlt : k < n
    · rcases HS.out.1.below hBr (Nat.le_refl _) with h | ⟨b, off, rfl, hbs, hE⟩
      · omega
      have hlt' : (k : Int) < (n : Int) := by omega
      have hkc : (k : Int) ≤ (cap : Int) := by omega
      obtain ⟨c0, c1, c2, c3, c4, c5⟩ := call_cells hE hlt
      have H0 : Hid (calsP V k ∧ Below w.heap.size w wo ∧ Bx (wo.alloc (.cells #[.int .i64 (V k).f0, .bool (V k).f1, .string (V k).f2, .string (V k).f3, .int .i64 (V k).f4, .int .i64 (V k).f5] 28)) wo.heap.size [.int .i64 (V k).f0, .bool (V k).f1, .string (V k).f2, .string (V k).f3, .int .i64 (V k).f4, .int .i64 (V k).f5] ∧ Elems wo b off n 6 (callF V)) := ⟨hall, hBr, Bx.new wo [.int .i64 (V k).f0, .bool (V k).f1, .string (V k).f2, .string (V k).f3, .int .i64 (V k).f4, .int .i64 (V k).f5] _, hE⟩
      clear hall hBr hE
      go_wp2_with fail
      refine (isCall_any (V k) _ (HS.out.2.1 k hlt).1 (HS.out.2.1 k hlt).2).mono ?_
      rintro r w1 ⟨rfl, hb⟩
      have H1 : Hid (Bx w1 wo.heap.size [.int .i64 (V k).f0, .bool (V k).f1, .string (V k).f2, .string (V k).f3, .int .i64 (V k).f4, .int .i64 (V k).f5] ∧ Below w.heap.size w w1 ∧ Elems w1 b off n 6 (callF V) ∧ b < w1.heap.size) := ⟨H0.out.2.2.1.next hb, below_nx (below_nx H0.out.2.1 (Go.Joins.below_alloc1 _ _)) hb, (H0.out.2.2.2.below (below_nx (Go.Joins.below_alloc1 _ _) hb) hbs), Nat.lt_of_lt_of_le hbs (below_nx (Go.Joins.below_alloc1 _ _) hb).size⟩
      have HP : Hid (calsP V k) := H0.out.1
      clear hb H0 c0 c1 c2 c3 c4 c5
      cases ho : callOk (V k)
      · have HN : Hid (calsB V n = false) := calsB_bad hlt ho
        go_wp2
        go_ret
        exact ⟨ret_bool HN.out.symm, H1.out.2.1⟩
      go_wp2
      go_loopw [24] (fun x wr => ∃ i : Nat, i ≤ k ∧ x = .int .i64 i ∧ (∀ j, j < i → clashB (V k) (V j) = false) ∧ Below w1.heap.size w1 wr) (fun x _ => k - (intOf x).toNat)
      case atStart => exact ⟨0, Nat.zero_le _, rfl, fun j hj => absurd hj (by omega), Below.refl _ _⟩
      case round =>
        obtain ⟨i, hi, rfl, hno, hBi⟩ := hrel
        have HX : Hid (Bx wr wo.heap.size [.int .i64 (V k).f0, .bool (V k).f1, .string (V k).f2, .string (V k).f3, .int .i64 (V k).f4, .int .i64 (V k).f5] ∧ Below w.heap.size w wr ∧ Below w1.heap.size w1 wr) := ⟨H1.out.1.next hBi, below_nx H1.out.2.1 hBi, hBi⟩
        by_cases hik : i < k
        · have hik' : (i : Int) < (k : Int) := by omega
          obtain ⟨d0, d1, d2, d3, d4, d5⟩ := call_cells (H1.out.2.2.1.below hBi H1.out.2.2.2) (show i < n by omega)
          have HNo : Hid (∀ j, j < i → clashB (V k) (V j) = false) := hno
          have hd : Below wr.heap.size wr (wr.alloc (.cells #[.int .i64 (V i).f0, .bool (V i).f1, .string (V i).f2, .string (V i).f3, .int .i64 (V i).f4, .int .i64 (V i).f5] 28)) := Go.Joins.below_alloc1 _ _
          have HD : Hid (Bx (wr.alloc (.cells #[.int .i64 (V i).f0, .bool (V i).f1, .string (V i).f2, .string (V i).f3, .int .i64 (V i).f4, .int .i64 (V i).f5] 28)) wo.heap.size [.int .i64 (V k).f0, .bool (V k).f1, .string (V k).f2, .string (V k).f3, .int .i64 (V k).f4, .int .i64 (V k).f5] ∧ Bx (wr.alloc (.cells #[.int .i64 (V i).f0, .bool (V i).f1, .string (V i).f2, .string (V i).f3, .int .i64 (V i).f4, .int .i64 (V i).f5] 28)) wr.heap.size [.int .i64 (V i).f0, .bool (V i).f1, .string (V i).f2, .string (V i).f3, .int .i64 (V i).f4, .int .i64 (V i).f5] ∧ Below w.heap.size w (wr.alloc (.cells #[.int .i64 (V i).f0, .bool (V i).f1, .string (V i).f2, .string (V i).f3, .int .i64 (V i).f4, .int .i64 (V i).f5] 28)) ∧ Below w1.heap.size w1 (wr.alloc (.cells #[.int .i64 (V i).f0, .bool (V i).f1, .string (V i).f2, .string (V i).f3, .int .i64 (V i).f4, .int .i64 (V i).f5] 28))) :=
            ⟨HX.out.1.next hd, Bx.new wr [.int .i64 (V i).f0, .bool (V i).f1, .string (V i).f2, .string (V i).f3, .int .i64 (V i).f4, .int .i64 (V i).f5] 28, below_nx HX.out.2.1 hd, below_nx HX.out.2.2 hd⟩
          have s0 := (HX.out.1).cell 0 rfl; have s1 := (HX.out.1).cell 1 rfl; have s2 := (HX.out.1).cell 2 rfl; have s3 := (HX.out.1).cell 3 rfl; have s4 := (HX.out.1).cell 4 rfl; have s5 := (HX.out.1).cell 5 rfl; have sz := (HX.out.1).2
          clear hno hBi hd H1 HX
          go_wp2_with fail
          refine (haveLikeTimes_any (V k) (V i) _).mono ?_
          rintro r w2 ⟨rfl, hb⟩
          have H2 : Hid (Bx w2 wo.heap.size [.int .i64 (V k).f0, .bool (V k).f1, .string (V k).f2, .string (V k).f3, .int .i64 (V k).f4, .int .i64 (V k).f5] ∧ Bx w2 wr.heap.size [.int .i64 (V i).f0, .bool (V i).f1, .string (V i).f2, .string (V i).f3, .int .i64 (V i).f4, .int .i64 (V i).f5] ∧ Below w.heap.size w w2 ∧ Below w1.heap.size w1 w2) := ⟨HD.out.1.next hb, HD.out.2.1.next hb, below_nx HD.out.2.2.1 hb, below_nx HD.out.2.2.2 hb⟩
          clear hb HD s0 s1 s2 s3 s4 s5 sz d0 d1 d2 d3 d4 d5
          have s0 := (H2.out.1).cell 0 rfl; have s1 := (H2.out.1).cell 1 rfl; have s2 := (H2.out.1).cell 2 rfl; have s3 := (H2.out.1).cell 3 rfl; have s4 := (H2.out.1).cell 4 rfl; have s5 := (H2.out.1).cell 5 rfl; have sz := (H2.out.1).2
          have t0 := (H2.out.2.1).cell 0 rfl; have t1 := (H2.out.2.1).cell 1 rfl; have t2 := (H2.out.2.1).cell 2 rfl; have t3 := (H2.out.2.1).cell 3 rfl; have t4 := (H2.out.2.1).cell 4 rfl; have t5 := (H2.out.2.1).cell 5 rfl; have tz := (H2.out.2.1).2
          cases q1 : likeB (V k) (V i)
          · cases q2 : ((V k).f0 == (V i).f0)
            · have HV : Hid (clashB (V k) (V i) = false) := by show clashB (V k) (V i) = false; simp only [clashB, q1, q2]; rfl
              go_wp2
              go_roundw
              case rel => exact ⟨i + 1, by omega, by go_num, upto_succ HNo.out HV.out, H2.out.2.2.2⟩
              case measure => simp [intOf]; omega
            · go_wp2_with fail
              refine (overlap_any (V k) (V i) _).mono ?_
              rintro r w3 ⟨rfl, hb⟩
              have H3 : Hid (Below w.heap.size w w3 ∧ Below w1.heap.size w1 w3) := ⟨below_nx H2.out.2.2.1 hb, below_nx H2.out.2.2.2 hb⟩
              clear hb H2 s0 s1 s2 s3 s4 s5 sz t0 t1 t2 t3 t4 t5 tz
              cases q3 : ovlB (V k) (V i)
              · have HV : Hid (clashB (V k) (V i) = false) := by show clashB (V k) (V i) = false; simp only [clashB, q1, q2, q3]; rfl
                go_wp2
                go_roundw
                case rel => exact ⟨i + 1, by omega, by go_num, upto_succ HNo.out HV.out, H3.out.2⟩
                case measure => simp [intOf]; omega
              · have HN : Hid (calsB V n = false) := calsB_clash hlt hik (by simp only [clashB, q1, q2, q3]; rfl)
                go_wp2
                go_ret
                exact ⟨ret_bool HN.out.symm, H3.out.1⟩
          · have HN : Hid (calsB V n = false) := calsB_clash hlt hik (by simp only [clashB, q1]; rfl)
            go_wp2
            go_ret
            exact ⟨ret_bool HN.out.symm, H2.out.2.2.1⟩
        · have hik2 : i = k := by omega
          subst hik2
          have HY : Hid (calP V i) := ⟨ho, hno⟩
          clear hno hBi H1
          go_wp2
          go_roundw
          case rel => exact ⟨i + 1, by omega, by go_num, calsP_up HP.out HY.out, HX.out.2.1⟩
          case measure => simp [intOf]; omega
    · have hkn : k = n := by omega
      subst hkn
      have HN : Hid (calsB V k = true) := calsB_yes HS.out.2.2.1 hall
      have HB : Hid (Below w.heap.size w wo) := hBr
      clear hall hBr
      go_wp2
      go_ret
      exact ⟨ret_bool HN.out.symm, HB.out⟩
end Go.Proofs.Ytkniokbioggkeaa
