/- Commits: which are good, on both sides. Written by tools/mkCmS.py. -/
import Derived.Test.YtkpobihpcnoemaaDoorCmA
namespace Go.Proofs.YtkpobihpcnoemaaDoor
open Go.RowKit
set_option linter.unusedVariables false
set_option linter.unusedSimpArgs false


set_option maxRecDepth 100000 in
set_option maxHeartbeats 4000000 in
theorem isDecision_n (n : Int) (z : Bool) (w : World) (hz : inR n 0 2 = z) : Calls Tryd.prog 44 #[.int .i64 n] w fun r w' => r = .returned (.bool z) ∧ w' = w := by
  subst hz
  go_enter Tryd.func44, Tryd.ntmps44
  go_wp2_with (go_at_call 45; refine (inRange_any _ _ _ _).mono ?_; rintro e w' ⟨rfl, hw⟩; have hw := hw.symm; subst hw)
  go_ret
  exact ⟨rfl, rfl⟩

set_option maxRecDepth 100000 in
set_option maxHeartbeats 4000000 in
theorem goodCommit_n (cs : List Value) (ss : List Shd) (dr rc : Int) (w : World) (hz : szD shCommit (ss, dr, rc, ()) ≤ 1073741824) (h : Lies w shCommit cs (ss, dr, rc, ())) :
    Calls Tryd.prog 13 #[.agg cs.toArray] w fun r w' => r = .returned (.bool (goodC ss dr rc)) ∧ Below w.heap.size w w' := by
  obtain ⟨a1, k1, rfl, h1⟩ := lies_Commit h
  obtain ⟨hn, hr⟩ := cm_sizes hz
  obtain ⟨w0, hw0⟩ : ∃ x, x = w.alloc (.cells #[.slice a1 ss.length k1, .int .i64 dr, .int .i64 rc] 29) := ⟨_, rfl⟩
  have hb0 : Below w.heap.size w w0 := hw0 ▸ Go.Joins.below_alloc1 _ _
  have HB0 : Hid (Bx w0 w.heap.size [.slice a1 ss.length k1, .int .i64 dr, .int .i64 rc] ∧ Below w.heap.size w w0) := ⟨hw0 ▸ Bx.new w [_, _, _] _, hb0⟩
  have HL := Hid.intro (h1.next hb0)
  have HR := Hid.intro hr
  clear h h1 hr hb0 hz
  cases c0 : inR dr 0 2
  · have HN : Hid (goodC ss dr rc = false) := Hid.intro (by unfold goodC; rw [c0]; rfl)
    go_enter Tryd.func13, Tryd.ntmps13
    go_upto_region 1 with fail
    rw [← hw0]
    clear hw0
    have s0 := (HB0.out.1).cell 0 rfl; have s1 := (HB0.out.1).cell 1 rfl; have s2 := (HB0.out.1).cell 2 rfl; have sz := (HB0.out.1).2
    go_wp2_with (first | (go_at_call 44; refine (isDecision_n _ _ _ c0).mono ?_; rintro e w' ⟨rfl, hw⟩; have hw := hw.symm; subst hw))
    go_ret
    exact ⟨ret_bool HN.out.symm, HB0.out.2⟩
  cases c1 : inR rc 0 2
  · have HN : Hid (goodC ss dr rc = false) := Hid.intro (by unfold goodC; rw [c0, c1]; rfl)
    go_enter Tryd.func13, Tryd.ntmps13
    go_upto_region 1 with fail
    rw [← hw0]
    clear hw0
    have s0 := (HB0.out.1).cell 0 rfl; have s1 := (HB0.out.1).cell 1 rfl; have s2 := (HB0.out.1).cell 2 rfl; have sz := (HB0.out.1).2
    go_wp2_with (first | (go_at_call 44; refine (isDecision_n _ _ _ c0).mono ?_; rintro e w' ⟨rfl, hw⟩; have hw := hw.symm; subst hw) | (go_at_call 44; refine (isDecision_n _ _ _ c1).mono ?_; rintro e w' ⟨rfl, hw⟩; have hw := hw.symm; subst hw))
    go_ret
    exact ⟨ret_bool HN.out.symm, HB0.out.2⟩
  cases c2 : inR (ss.length : Int) 1 4
  · have HN : Hid (goodC ss dr rc = false) := Hid.intro (by unfold goodC; rw [c0, c1, c2]; rfl)
    go_enter Tryd.func13, Tryd.ntmps13
    go_upto_region 1 with fail
    rw [← hw0]
    clear hw0
    have s0 := (HB0.out.1).cell 0 rfl; have s1 := (HB0.out.1).cell 1 rfl; have s2 := (HB0.out.1).cell 2 rfl; have sz := (HB0.out.1).2
    go_wp2_with (first | (go_at_call 44; refine (isDecision_n _ _ _ c0).mono ?_; rintro e w' ⟨rfl, hw⟩; have hw := hw.symm; subst hw) | (go_at_call 44; refine (isDecision_n _ _ _ c1).mono ?_; rintro e w' ⟨rfl, hw⟩; have hw := hw.symm; subst hw) | (go_at_call 45; refine (inRange_any _ _ _ _).mono ?_; rintro e w' ⟨rfl, hw⟩; have hw := hw.symm; subst hw; rw [c2]))
    go_ret
    exact ⟨ret_bool HN.out.symm, HB0.out.2⟩
  have HN : Hid (goodC ss dr rc = ss.all shB) := Hid.intro (by unfold goodC; rw [c0, c1, c2]; rfl)
  go_enter Tryd.func13, Tryd.ntmps13
  go_upto_region 1 with fail
  rw [← hw0]
  clear hw0
  have s0 := (HB0.out.1).cell 0 rfl; have s1 := (HB0.out.1).cell 1 rfl; have s2 := (HB0.out.1).cell 2 rfl; have sz := (HB0.out.1).2
  go_wp2_with (first | (go_at_call 44; refine (isDecision_n _ _ _ c0).mono ?_; rintro e w' ⟨rfl, hw⟩; have hw := hw.symm; subst hw) | (go_at_call 44; refine (isDecision_n _ _ _ c1).mono ?_; rintro e w' ⟨rfl, hw⟩; have hw := hw.symm; subst hw) | (go_at_call 45; refine (inRange_any _ _ _ _).mono ?_; rintro e w' ⟨rfl, hw⟩; have hw := hw.symm; subst hw; rw [c2]) | (go_at_call 42; refine (areAll_isShard a1 k1 ss _ hn HR.out HL.out).mono ?_; rintro e w2 ⟨rfl, hb⟩; have HB : Hid (Below w.heap.size w w2) := below_next HB0.out.2 hb; clear hb))
  go_ret
  exact ⟨ret_bool HN.out.symm, HB.out⟩

set_option maxRecDepth 100000 in
set_option maxHeartbeats 4000000 in
theorem specGoodCommit_n (cs : List Value) (ss : List Shd) (dr rc : Int) (w : World) (hz : szD shCommit (ss, dr, rc, ()) ≤ 1073741824) (h : Lies w shCommit cs (ss, dr, rc, ())) :
    Calls Tryd.prog 51 #[.agg cs.toArray] w fun r w' => r = .returned (.bool (goodC ss dr rc)) ∧ Below w.heap.size w w' := by
  obtain ⟨a1, k1, rfl, h1⟩ := lies_Commit h
  obtain ⟨hn, hr⟩ := cm_sizes hz
  obtain ⟨w0, hw0⟩ : ∃ x, x = w.alloc (.cells #[.slice a1 ss.length k1, .int .i64 dr, .int .i64 rc] 29) := ⟨_, rfl⟩
  have hb0 : Below w.heap.size w w0 := hw0 ▸ Go.Joins.below_alloc1 _ _
  have HB0 : Hid (Bx w0 w.heap.size [.slice a1 ss.length k1, .int .i64 dr, .int .i64 rc] ∧ Below w.heap.size w w0) := ⟨hw0 ▸ Bx.new w [_, _, _] _, hb0⟩
  have HL := Hid.intro (h1.next hb0)
  have HR := Hid.intro hr
  clear h h1 hr hb0 hz
  go_enter Tryd.func51, Tryd.ntmps51
  go_upto_region 1 with fail
  rw [← hw0]
  clear hw0
  have s0 := (HB0.out.1).cell 0 rfl; have s1 := (HB0.out.1).cell 1 rfl; have s2 := (HB0.out.1).cell 2 rfl; have sz := (HB0.out.1).2
  go_wp2
  clear s0 s1 s2 sz
  go_loopw [10] (fun i wr => ∃ k : Nat, k ≤ ss.length ∧ i = .int .i64 k ∧ (∀ o ∈ ss.take k, shB o = true) ∧ Bx wr w.heap.size [.slice a1 ss.length k1, .int .i64 dr, .int .i64 rc] ∧ Below w0.heap.size w0 wr) (fun i _ => ss.length - (intOf i).toNat)
  case atStart => exact ⟨0, Nat.zero_le _, rfl, fun o ho => by simp at ho, HB0.out.1, Below.refl _ _⟩
  case round =>
    obtain ⟨k, hk, rfl, hno, hbx, hBr⟩ := hrel
    have HO := Hid.intro hno
    have HB : Hid (Bx wr w.heap.size [.slice a1 ss.length k1, .int .i64 dr, .int .i64 rc] ∧ Below w0.heap.size w0 wr ∧ Below w.heap.size w wr) := ⟨hbx, hBr, below_next HB0.out.2 hBr⟩
    clear hno hbx hBr
    by_cases hlt : k < ss.length
    · have hlt' : (k : Int) < (ss.length : Int) := by omega
      have HLE : Hid (Lies wr (.list shShard) [.slice a1 ss.length k1] ss) := HL.out.next HB.out.2.1
      obtain ⟨xg, xoff, xgo, xgs, xec, xel, xhec, xle⟩ := Lies.elem (HLE.out) hlt
      subst xgo
      rcases xX : ss[k] with ⟨x0, ⟨⟩⟩
      rw [xX] at xle
      have xH : Hid (ss[k] = (x0, ())) := xX
      clear xX
      obtain ⟨xa1, xk1, xev, xq1⟩ := lies_Shard xle
      subst xev
      have xc0 : wr.cell? ⟨xg, xoff + k, none⟩ = some (.slice xa1 x0.length xk1) := (by have := xhec 0 (by simp); simpa [shShard, Sh.c] using this)
      clear xhec xel xle
      have HX : Hid (ss[k] = mkS x0) := xH
      have hxn : x0.length ≤ 1073741824 := by have := HR.out _ (List.getElem_mem hlt); rw [HX.out] at this; exact this
      obtain ⟨w1, hw1⟩ : ∃ x, x = wr.alloc (.cells #[.slice xa1 x0.length xk1] 42) := ⟨_, rfl⟩
      have hb1 : Below wr.heap.size wr w1 := hw1 ▸ Go.Joins.below_alloc1 _ _
      have HB1 : Hid (Bx w1 wr.heap.size [.slice xa1 x0.length xk1] ∧ Bx w1 w.heap.size [.slice (some ⟨xg, xoff, none⟩) ss.length k1, .int .i64 dr, .int .i64 rc] ∧ Below w.heap.size w w1 ∧ Below w0.heap.size w0 w1 ∧ Lies w1 (.list shReplica) [.slice xa1 x0.length xk1] x0) := ⟨hw1 ▸ Bx.new wr [_] _, HB.out.1.next hb1, below_next HB.out.2.2 hb1, below_next HB.out.2.1 hb1, xq1.next hb1⟩
      clear HLE xH xq1 hb1 HB
      go_upto_region 4 with fail
      rw [← hw1]
      clear hw1
      have s0 := (HB1.out.1).cell 0 rfl; have sz := (HB1.out.1).2
      go_wp2
      clear s0 sz
      obtain ⟨g, hg⟩ : ∃ g, g = wr.heap.size := ⟨_, rfl⟩
      obtain ⟨wo, hwo⟩ : ∃ x, x = wr := ⟨_, rfl⟩
      subst hwo
      rw [← hg] at HB1 ⊢
      clear hg
      go_loopw [17] (fun i wr => ∃ j : Nat, j ≤ x0.length ∧ i = .int .i64 j ∧ (∀ o ∈ x0.take j, unkB o = false) ∧ Bx wr g [.slice xa1 x0.length xk1] ∧ Bx wr w.heap.size [.slice (some ⟨xg, xoff, none⟩) ss.length k1, .int .i64 dr, .int .i64 rc] ∧ Below w1.heap.size w1 wr) (fun i _ => x0.length - (intOf i).toNat)
      case atStart => exact ⟨0, Nat.zero_le _, rfl, fun o ho => by simp at ho, HB1.out.1, HB1.out.2.1, Below.refl _ _⟩
      case round =>
        obtain ⟨j, hj, rfl, hno, hbx, hby, hBr⟩ := hrel
        have HP := Hid.intro hno
        have HB2 : Hid (Bx wr g [.slice xa1 x0.length xk1] ∧ Bx wr w.heap.size [.slice (some ⟨xg, xoff, none⟩) ss.length k1, .int .i64 dr, .int .i64 rc] ∧ Below w1.heap.size w1 wr ∧ Below w.heap.size w wr ∧ Below w0.heap.size w0 wr) := ⟨hbx, hby, hBr, below_next HB1.out.2.2.1 hBr, below_next HB1.out.2.2.2.1 hBr⟩
        clear hno hbx hby hBr
        by_cases hjl : j < x0.length
        · have hjl' : (j : Int) < (x0.length : Int) := by omega
          have HLE : Hid (Lies wr (.list shReplica) [.slice xa1 x0.length xk1] x0) := HB1.out.2.2.2.2.next HB2.out.2.2.1
          obtain ⟨yg, yoff, ygo, ygs, yec, yel, yhec, yle⟩ := Lies.elem (HLE.out) hjl
          subst ygo
          rcases yX : x0[j] with ⟨y0, y1, ⟨⟩⟩
          rw [yX] at yle
          have yH : Hid (x0[j] = (y0, y1, ())) := yX
          clear yX
          obtain yev := lies_Replica yle
          subst yev
          have yc0 : wr.cell? ⟨yg, yoff + j * 2, none⟩ = some (.bool y0) := yhec 0 (by simp)
          have yc1 : wr.cell? ⟨yg, yoff + j * 2 + 1, none⟩ = some (.int .i64 y1) := yhec 1 (by simp)
          clear yhec yel yle
          have HY : Hid (x0[j] = mkR y0 y1) := yH
          have HB3 : Hid (Bx (wr.alloc (.cells #[.bool y0, .int .i64 y1] 44)) g [.slice (some ⟨yg, yoff, none⟩) x0.length xk1] ∧ Bx (wr.alloc (.cells #[.bool y0, .int .i64 y1] 44)) w.heap.size [.slice (some ⟨xg, xoff, none⟩) ss.length k1, .int .i64 dr, .int .i64 rc] ∧ Below w1.heap.size w1 (wr.alloc (.cells #[.bool y0, .int .i64 y1] 44)) ∧ Below w.heap.size w (wr.alloc (.cells #[.bool y0, .int .i64 y1] 44))) := ⟨HB2.out.1.alloc _, HB2.out.2.1.alloc _, HB2.out.2.2.1.alloc HB2.out.2.2.1.size _, HB2.out.2.2.2.1.alloc HB2.out.2.2.2.1.size _⟩
          clear HLE yH
          cases hu : inR y1 0 4
          · have HN : Hid (goodC ss dr rc = false) := Hid.intro (by
              have h1 : shB ss[k] = false := by rw [HX.out]; unfold shB; rw [srs_mk, any_at hjl (by rw [HY.out]; unfold unkB; rw [rhs_mk, hu]; rfl)]; simp
              unfold goodC; rw [all_no hlt h1]; simp)
            go_wp2_with (go_at_call 60; refine (l1In_any _ _ _ _).mono ?_; rintro e w' ⟨rfl, hw⟩; have hw := hw.symm; subst hw; rw [hu])
            go_ret
            exact ⟨ret_bool HN.out.symm, HB3.out.2.2.2⟩
          · have HS : Hid (unkB x0[j] = false) := Hid.intro (by rw [HY.out]; unfold unkB; rw [rhs_mk, hu]; rfl)
            go_wp2_with (go_at_call 60; refine (l1In_any _ _ _ _).mono ?_; rintro e w' ⟨rfl, hw⟩; have hw := hw.symm; subst hw; rw [hu])
            go_roundw
            case rel => exact ⟨j + 1, by omega, by go_num, mem_take_succ hjl HP.out HS.out, HB3.out.1, HB3.out.2.1, HB3.out.2.2.1⟩
            case measure => simp [intOf]; omega
        · have HA : Hid (x0.any unkB = false) := Hid.intro (any_none (by have := HP.out; rwa [show j = x0.length by omega, List.take_length] at this))
          have s0 := (HB2.out.1).cell 0 rfl; have sz := (HB2.out.1).2
          cases hc : inR (x0.length : Int) 1 5
          · have HN : Hid (goodC ss dr rc = false) := Hid.intro (by
              have h1 : shB ss[k] = false := by rw [HX.out]; show (inR ((x0.length : Nat) : Int) 1 5 && _) = false; rw [hc]; rfl
              unfold goodC; rw [all_no hlt h1]; simp)
            go_wp2_with (go_at_call 60; refine (l1In_any _ _ _ _).mono ?_; rintro e w' ⟨rfl, hw⟩; have hw := hw.symm; subst hw; rw [hc])
            go_ret
            exact ⟨ret_bool HN.out.symm, HB2.out.2.2.2.1⟩
          · have HS : Hid (shB ss[k] = true) := Hid.intro (by rw [HX.out]; show (inR ((x0.length : Nat) : Int) 1 5 && !x0.any unkB) = true; rw [hc, HA.out]; rfl)
            go_wp2_with (go_at_call 60; refine (l1In_any _ _ _ _).mono ?_; rintro e w' ⟨rfl, hw⟩; have hw := hw.symm; subst hw; rw [hc])
            go_roundw
            case rel => exact ⟨k + 1, by omega, by go_num, mem_take_succ hlt HO.out HS.out, HB2.out.2.1, HB2.out.2.2.2.2⟩
            case measure => simp [intOf]; omega
    · have HA : Hid (ss.all shB = true) := Hid.intro (all_yes (by have := HO.out; rwa [show k = ss.length by omega, List.take_length] at this))
      have s0 := (HB.out.1).cell 0 rfl; have s1 := (HB.out.1).cell 1 rfl; have s2 := (HB.out.1).cell 2 rfl; have sz := (HB.out.1).2
      cases c2 : inR (ss.length : Int) 1 4
      · have HN : Hid (goodC ss dr rc = false) := Hid.intro (by unfold goodC; rw [c2]; simp)
        go_wp2_with (go_at_call 60; refine (l1In_any _ _ _ _).mono ?_; rintro e w' ⟨rfl, hw⟩; have hw := hw.symm; subst hw; rw [c2])
        go_ret
        exact ⟨ret_bool HN.out.symm, HB.out.2.2⟩
      cases c0 : inR dr 0 2
      · have HN : Hid (goodC ss dr rc = false) := Hid.intro (by unfold goodC; rw [c0]; rfl)
        go_wp2_with (first | (go_at_call 60; refine (l1In_any _ _ _ _).mono ?_; rintro e w' ⟨rfl, hw⟩; have hw := hw.symm; subst hw; rw [c2]) | (go_at_call 60; refine (l1In_any _ _ _ _).mono ?_; rintro e w' ⟨rfl, hw⟩; have hw := hw.symm; subst hw; rw [c0]))
        go_ret
        exact ⟨ret_bool HN.out.symm, HB.out.2.2⟩
      have HN : Hid (goodC ss dr rc = inR rc 0 2) := Hid.intro (by unfold goodC; rw [c0, c2, HA.out]; simp)
      go_wp2_with (first | (go_at_call 60; refine (l1In_any _ _ _ _).mono ?_; rintro e w' ⟨rfl, hw⟩; have hw := hw.symm; subst hw; rw [c2]) | (go_at_call 60; refine (l1In_any _ _ _ _).mono ?_; rintro e w' ⟨rfl, hw⟩; have hw := hw.symm; subst hw; rw [c0]) | (go_at_call 60; refine (l1In_any _ _ _ _).mono ?_; rintro e w' ⟨rfl, hw⟩; have hw := hw.symm; subst hw))
      go_ret
      exact ⟨ret_bool HN.out.symm, HB.out.2.2⟩

end Go.Proofs.YtkpobihpcnoemaaDoor
