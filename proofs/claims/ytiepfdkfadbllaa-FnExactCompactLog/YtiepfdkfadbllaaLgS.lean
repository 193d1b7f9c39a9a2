/- The contract of the specification's GoodLog. -/
import Derived.Test.YtiepfdkfadbllaaLgI
import Derived.Test.YtiepfdkfadbllaaRg2
namespace Go.Proofs.Ytiepfdkfadbllaa
open Go.RowKit
set_option linter.unusedVariables false

theorem verV_no1 {o v : EntryV} (h : (o.f1.toList == v.f1.toList) = false) : verV o v = false := by simp only [verV, verE, h, Bool.false_and]
theorem verV_no2 {o v : EntryV} (h : tidE o.f3 o.f4 o.f5 v.f3 v.f4 v.f5 = false) : verV o v = false := by simp only [verV, verE, h, Bool.and_false]
theorem verV_yes {o v : EntryV} (h : (o.f1.toList == v.f1.toList) = true) (h' : tidE o.f3 o.f4 o.f5 v.f3 v.f4 v.f5 = true) : verV o v = true := by simp only [verV, verE, h, h', Bool.and_true]

set_option maxRecDepth 100000 in
set_option maxHeartbeats 4000000 in
theorem specGoodLog_any (a : Option Addr) (n cap : Nat) (V : Nat → EntryV) (w : World) (hn : n ≤ 1048576) (hcap : n ≤ cap) (hz : ∀ i, i < n → (V i).f1.size ≤ maxLen ∧ (V i).f2.size ≤ maxLen) (hs : Sl w a n 6 (entryF V)) :
    Calls Try.prog 23 #[.slice a n cap] w fun r w' => r = .returned (.bool (logB V n)) ∧ Below w.heap.size w w' := by
  have HS : Hid (Sl w a n 6 (entryF V) ∧ (∀ i, i < n → (V i).f1.size ≤ maxLen ∧ (V i).f2.size ≤ maxLen)) := ⟨hs, hz⟩
  clear hs hz
  go_enter Try.func23, Try.ntmps23
  go_wp2
  go_loopw [9] (fun i wr => ∃ k : Nat, k ≤ n ∧ i = .int .i64 k ∧ logP V k ∧ Below w.heap.size w wr) (fun i _ => n - (intOf i).toNat)
  case atStart => exact ⟨0, Nat.zero_le _, rfl, fun i hi => absurd hi (by omega), Below.refl _ _⟩
  case round =>
    obtain ⟨k, hk, rfl, hall, hBr⟩ := hrel
    obtain ⟨wo, hwo⟩ : ∃ x, x = wr := ⟨wr, rfl⟩
    subst hwo
    by_cases hlt : k < n
    · rcases HS.out.1.below hBr (Nat.le_refl _) with h | ⟨b, off, rfl, hbs, hE⟩
      · omega
      have hlt' : (k : Int) < (n : Int) := by omega
      have hkc : (k : Int) ≤ (cap : Int) := by omega
      obtain ⟨c0, c1, c2, c3, c4, c5⟩ := entry_cells hE hlt
      have H0 : Hid (logP V k ∧ Below w.heap.size w wo ∧ Bx (wo.alloc (.cells #[.int .i64 (V k).f0, .string (V k).f1, .string (V k).f2, .int .i64 (V k).f3, .int .i64 (V k).f4, .bool (V k).f5] 33)) wo.heap.size [.int .i64 (V k).f0, .string (V k).f1, .string (V k).f2, .int .i64 (V k).f3, .int .i64 (V k).f4, .bool (V k).f5] ∧ Elems wo b off n 6 (entryF V)) := ⟨hall, hBr, Bx.new wo [.int .i64 (V k).f0, .string (V k).f1, .string (V k).f2, .int .i64 (V k).f3, .int .i64 (V k).f4, .bool (V k).f5] _, hE⟩
      clear hall hBr hE
      go_wp2_with fail
      refine (l6Entry_any (V k) _ (HS.out.2 k hlt).1 (HS.out.2 k hlt).2).mono ?_
      rintro r w1 ⟨rfl, hb⟩
      have H1 : Hid (Bx w1 wo.heap.size [.int .i64 (V k).f0, .string (V k).f1, .string (V k).f2, .int .i64 (V k).f3, .int .i64 (V k).f4, .bool (V k).f5] ∧ Below w.heap.size w w1 ∧ Elems w1 b off n 6 (entryF V) ∧ b < w1.heap.size) := ⟨H0.out.2.2.1.next hb, below_nx (below_nx H0.out.2.1 (Go.Joins.below_alloc1 _ _)) hb, (H0.out.2.2.2.below (below_nx (Go.Joins.below_alloc1 _ _) hb) hbs), Nat.lt_of_lt_of_le hbs (below_nx (Go.Joins.below_alloc1 _ _) hb).size⟩
      have HP : Hid (logP V k) := H0.out.1
      clear hb H0 c0 c1 c2 c3 c4 c5
      cases ho : entOk (V k)
      · have HN : Hid (logB V n = false) := logB_bad hlt ho
        go_wp2
        go_ret
        exact ⟨ret_bool HN.out.symm, H1.out.2.1⟩
      go_wp2
      go_loopw [21] (fun x wr => ∃ i : Nat, i ≤ k ∧ x = .int .i64 i ∧ (∀ j, j < i → verV (V j) (V k) = true → ((V j).f2.toList == (V k).f2.toList) = true) ∧ Below w1.heap.size w1 wr) (fun x _ => k - (intOf x).toNat)
      case atStart => exact ⟨0, Nat.zero_le _, rfl, fun j hj => absurd hj (by omega), Below.refl _ _⟩
      case round =>
        obtain ⟨i, hi, rfl, hno, hBi⟩ := hrel
        have HX : Hid (Bx wr wo.heap.size [.int .i64 (V k).f0, .string (V k).f1, .string (V k).f2, .int .i64 (V k).f3, .int .i64 (V k).f4, .bool (V k).f5] ∧ Below w.heap.size w wr ∧ Below w1.heap.size w1 wr) := ⟨H1.out.1.next hBi, below_nx H1.out.2.1 hBi, hBi⟩
        by_cases hik : i < k
        · have hik' : (i : Int) < (k : Int) := by omega
          obtain ⟨d0, d1, d2, d3, d4, d5⟩ := entry_cells (H1.out.2.2.1.below hBi H1.out.2.2.2) (show i < n by omega)
          have HNo : Hid (∀ j, j < i → verV (V j) (V k) = true → ((V j).f2.toList == (V k).f2.toList) = true) := hno
          have e1 := HX.out.1.cell 1 rfl
          have e2 := HX.out.1.cell 2 rfl
          have e3 := HX.out.1.cell 3 rfl
          have e4 := HX.out.1.cell 4 rfl
          have e5 := HX.out.1.cell 5 rfl
          have ez := HX.out.1.2
          have HNX : Hid (Below w.heap.size w (wr.alloc (.cells #[.int .i64 (V i).f0, .string (V i).f1, .string (V i).f2, .int .i64 (V i).f3, .int .i64 (V i).f4, .bool (V i).f5] 33)) ∧ Below w1.heap.size w1 (wr.alloc (.cells #[.int .i64 (V i).f0, .string (V i).f1, .string (V i).f2, .int .i64 (V i).f3, .int .i64 (V i).f4, .bool (V i).f5] 33))) := ⟨below_nx HX.out.2.1 (Go.Joins.below_alloc1 _ _), below_nx HX.out.2.2 (Go.Joins.below_alloc1 _ _)⟩
          clear hno hBi
          cases q1 : ((V i).f1.toList == (V k).f1.toList)
          · have HV : Hid (verV (V i) (V k) = false) := verV_no1 q1
            clear H1 HX
            go_wp2
            go_roundw
            case rel => exact ⟨i + 1, by omega, by go_num, upto_succ HNo.out (fun h => by rw [HV.out] at h; cases h), HNX.out.2⟩
            case measure => simp [intOf]; omega
          have r0 := run_eqTid (V i).f3 (V i).f4 (V i).f5 (V k).f3 (V k).f4 (V k).f5
          cases q2 : tidE (V i).f3 (V i).f4 (V i).f5 (V k).f3 (V k).f4 (V k).f5
          · have HV : Hid (verV (V i) (V k) = false) := verV_no2 q2
            rw [q2] at r0
            clear H1 HX
            go_wp2
            go_roundw
            case rel => exact ⟨i + 1, by omega, by go_num, upto_succ HNo.out (fun h => by rw [HV.out] at h; cases h), HNX.out.2⟩
            case measure => simp [intOf]; omega
          have HV : Hid (verV (V i) (V k) = true) := verV_yes q1 q2
          rw [q2] at r0
          cases q3 : ((V i).f2.toList == (V k).f2.toList)
          · have HN : Hid (logB V n = false) := logB_clash hlt hik HV.out q3
            clear H1 HX
            go_wp2
            go_ret
            exact ⟨ret_bool HN.out.symm, HNX.out.1⟩
          · clear H1 HX
            go_wp2
            go_roundw
            case rel => exact ⟨i + 1, by omega, by go_num, upto_succ HNo.out (fun h => q3), HNX.out.2⟩
            case measure => simp [intOf]; omega
        · have hik2 : i = k := by omega
          subst hik2
          have HY : Hid (entP V i) := entP_of ho hno
          clear hno hBi H1
          go_wp2
          go_roundw
          case rel => exact ⟨i + 1, by omega, by go_num, logP_up HP.out HY.out, HX.out.2.1⟩
          case measure => simp [intOf]; omega
    · have hkn : k = n := by omega
      subst hkn
      have HN : Hid (logB V k = decide (k ≤ 80)) := logB_size hall
      have HB : Hid (Below w.heap.size w wo) := hBr
      clear hall hBr
      go_wp2
      go_ret
      exact ⟨ret_bool (by rw [HN.out]; simp; omega), HB.out⟩
end Go.Proofs.Ytiepfdkfadbllaa
