/- Commits: spec.l15All. Written by tools/mkCqA.py. -/
import Derived.Test.YtkpobihpcnoemaaDoorCmD
import Derived.Test.YtkpobihpcnoemaaDoorCmU
namespace Go.Proofs.YtkpobihpcnoemaaDoor
open Go.RowKit
set_option linter.unusedVariables false
set_option linter.unusedSimpArgs false


set_option maxRecDepth 100000 in
set_option maxHeartbeats 4000000 in
theorem l15All_n (a1 : Option Addr) (k1 : Nat) (ss : List Shd) (dr rc : Int) (w : World) (hn : ss.length ≤ 1073741824) (hr : ∀ s ∈ ss, (srs s).length ≤ 1073741824) (h1 : Lies w (.list shShard) [.slice a1 ss.length k1] ss) :
    Calls Tryd.prog 63 #[.agg #[.slice a1 ss.length k1, .int .i64 dr, .int .i64 rc]] w fun r w' => r = .returned (.bool (ss.all lkdB)) ∧ Below w.heap.size w w' := by
  obtain ⟨w0, hw0⟩ : ∃ x, x = w.alloc (.cells #[.slice a1 ss.length k1, .int .i64 dr, .int .i64 rc] 29) := ⟨_, rfl⟩
  have hb0 : Below w.heap.size w w0 := hw0 ▸ Go.Joins.below_alloc1 _ _
  have HB0 : Hid (Bx w0 w.heap.size [.slice a1 ss.length k1, .int .i64 dr, .int .i64 rc] ∧ Below w.heap.size w w0) := ⟨hw0 ▸ Bx.new w [_, _, _] _, hb0⟩
  have HL := Hid.intro (h1.next hb0)
  have HR := Hid.intro hr
  clear h1 hr hb0
  go_enter Tryd.func63, Tryd.ntmps63
  go_upto_region 1 with fail
  rw [← hw0]
  clear hw0
  have s0 := (HB0.out.1).cell 0 rfl; have s1 := (HB0.out.1).cell 1 rfl; have s2 := (HB0.out.1).cell 2 rfl; have sz := (HB0.out.1).2
  go_wp2
  clear s0 s1 s2 sz
  go_loopw [9] (fun i wr => ∃ k : Nat, k ≤ ss.length ∧ i = .int .i64 k ∧ (∀ o ∈ ss.take k, lkdB o = true) ∧ Below w0.heap.size w0 wr) (fun i _ => ss.length - (intOf i).toNat)
  case atStart => exact ⟨0, Nat.zero_le _, rfl, fun o ho => by simp at ho, Below.refl _ _⟩
  case round =>
    obtain ⟨k, hk, rfl, hno, hBr⟩ := hrel
    have HO := Hid.intro hno
    have HB : Hid (Below w0.heap.size w0 wr ∧ Below w.heap.size w wr) := ⟨hBr, below_next HB0.out.2 hBr⟩
    clear hno hBr
    by_cases hlt : k < ss.length
    · have hlt' : (k : Int) < (ss.length : Int) := by omega
      have HLE : Hid (Lies wr (.list shShard) [.slice a1 ss.length k1] ss) := HL.out.next HB.out.1
      obtain ⟨xg, xoff, xgo, xgs, xec, xel, xhec, xle⟩ := Lies.elem (HLE.out) hlt
      subst xgo
      rcases xX : ss[k] with ⟨x0, ⟨⟩⟩
      rw [xX] at xle
      have xH : Hid (ss[k] = (x0, ())) := xX
      clear xX
      obtain ⟨xa1, xk1, xev, xq1⟩ := lies_Shard xle
      subst xev
      have xc0 : wr.cell? ⟨xg, xoff + k, none⟩ = some (.slice xa1 x0.length xk1) := (by have := xhec 0 (by simp); simpa [shShard, Sh.c] using this)
      clear xhec xel xle
      have HX : Hid (ss[k] = mkS x0) := xH
      have hxn : x0.length ≤ 1073741824 := by have := HR.out _ (List.getElem_mem hlt); rw [HX.out] at this; exact this
      obtain ⟨w1, hw1⟩ : ∃ x, x = wr.alloc (.cells #[.slice xa1 x0.length xk1] 42) := ⟨_, rfl⟩
      have hb1 : Below wr.heap.size wr w1 := hw1 ▸ Go.Joins.below_alloc1 _ _
      have HB1 : Hid (Bx w1 wr.heap.size [.slice xa1 x0.length xk1] ∧ Below w0.heap.size w0 w1 ∧ Below w.heap.size w w1 ∧ Lies w1 (.list shReplica) [.slice xa1 x0.length xk1] x0) := ⟨hw1 ▸ Bx.new wr [_] _, below_next HB.out.1 hb1, below_next HB.out.2 hb1, xq1.next hb1⟩
      clear HLE xH xq1 hb1 HB
      go_upto_region 4 with fail
      rw [← hw1]
      clear hw1
      have s0 := (HB1.out.1).cell 0 rfl; have sz := (HB1.out.1).2
      rcases idx_ex upB x0 with ⟨p, hp, e1, e2, e3⟩ | ⟨e1, e2, e3⟩
      case inr =>
        have HP : Hid (prm (mkS x0) = -1) := Hid.intro e1
        have HZ : Hid (ss.all lkdB = false) := Hid.intro (all_no hlt (by rw [HX.out]; unfold lkdB; rw [srs_mk, e3]))
        clear e1 e2 e3
        go_wp2_with (go_at_call 62; refine (HP.out ▸ l15Primary_n xa1 xk1 x0 _ hxn HB1.out.2.2.2).mono ?_; rintro e w2 ⟨rfl, hb⟩; have HB2 : Hid (Below w.heap.size w w2) := below_next HB1.out.2.2.1 hb; clear hb)
        go_ret
        exact ⟨ret_bool HZ.out.symm, HB2.out⟩
      have HP : Hid (prm (mkS x0) = p) := Hid.intro e1
      have HK : Hid (lkdB ss[k] = (decide (rhs x0[p] = 1) || decide (rhs x0[p] = 2))) := Hid.intro (by rw [HX.out]; unfold lkdB; rw [srs_mk, e2])
      clear e1 e2 e3
      go_wp2_with fail
      clear s0 sz
      refine (HP.out ▸ l15Primary_n xa1 xk1 x0 _ hxn HB1.out.2.2.2).mono ?_
      rintro e w2 ⟨rfl, hb⟩
      have HB2 : Hid (Bx w2 wr.heap.size [.slice xa1 x0.length xk1] ∧ Below w0.heap.size w0 w2 ∧ Below w.heap.size w w2 ∧ Lies w2 (.list shReplica) [.slice xa1 x0.length xk1] x0) := ⟨HB1.out.1.next hb, below_next HB1.out.2.1 hb, below_next HB1.out.2.2.1 hb, HB1.out.2.2.2.next hb⟩
      clear hb HB1
      obtain ⟨yg, yoff, ygo, ygs, yec, yel, yhec, yle⟩ := Lies.elem (HB2.out.2.2.2) hp
      subst ygo
      rcases yX : x0[p] with ⟨y0, y1, ⟨⟩⟩
      rw [yX] at yle
      have yH : Hid (x0[p] = (y0, y1, ())) := yX
      clear yX
      obtain yev := lies_Replica yle
      subst yev
      have yc0 : w2.cell? ⟨yg, yoff + p * 2, none⟩ = some (.bool y0) := yhec 0 (by simp)
      have yc1 : w2.cell? ⟨yg, yoff + p * 2 + 1, none⟩ = some (.int .i64 y1) := yhec 1 (by simp)
      clear yhec yel yle
      have s0 := (HB2.out.1).cell 0 rfl; have sz := (HB2.out.1).2
      obtain ⟨h, hh⟩ : ∃ h : Int, h = y1 := ⟨_, rfl⟩
      subst hh
      have HK : Hid (lkdB ss[k] = (decide (h = 1) || decide (h = 2))) := Hid.intro (by rw [HK.out, yH.out]; rfl)
      have hk1 : (0 : Int) ≤ (p : Int) ∧ (p : Int) < (x0.length : Int) := by omega
      have hk0 : ¬ (p : Int) < 0 := by omega
      clear yH
      by_cases c : h = 1
      · have q : (h != 1) = false := by simpa using c
        have HS : Hid (lkdB ss[k] = true) := Hid.intro (by rw [HK.out, decide_eq_true c]; rfl)
        clear c
        go_wp2
        go_roundw
        case rel => exact ⟨k + 1, by omega, by go_num, mem_take_succ hlt HO.out HS.out, HB2.out.2.1⟩
        case measure => simp [intOf]; omega
      have q : (h != 1) = true := by simpa using c
      by_cases c2 : h = 2
      · have q2 : (h != 2) = false := by simpa using c2
        have HS : Hid (lkdB ss[k] = true) := Hid.intro (by rw [HK.out, decide_eq_true c2, Bool.or_true])
        clear c c2
        go_wp2
        go_roundw
        case rel => exact ⟨k + 1, by omega, by go_num, mem_take_succ hlt HO.out HS.out, HB2.out.2.1⟩
        case measure => simp [intOf]; omega
      have q2 : (h != 2) = true := by simpa using c2
      have HZ : Hid (ss.all lkdB = false) := Hid.intro (all_no hlt (by rw [HK.out, decide_eq_false c, decide_eq_false c2]; rfl))
      clear c c2
      go_wp2
      go_ret
      exact ⟨ret_bool HZ.out.symm, HB2.out.2.2.1⟩
    · have HA : Hid (ss.all lkdB = true) := Hid.intro (all_yes (by have := HO.out; rwa [show k = ss.length by omega, List.take_length] at this))
      go_wp2
      go_ret
      exact ⟨ret_bool HA.out.symm, HB.out.2⟩

end Go.Proofs.YtkpobihpcnoemaaDoor
