/- Commits: spec.l15Copies. Written by tools/mkCqA.py. -/
import Derived.Test.YtkpobihpcnoemaaDoorCmD
import Derived.Test.YtkpobihpcnoemaaDoorCmU
namespace Go.Proofs.YtkpobihpcnoemaaDoor
open Go.RowKit
set_option linter.unusedVariables false
set_option linter.unusedSimpArgs false

def hsB (r : Rpl) : Bool := upB r && decide (rhs r = 2)
theorem any_take_succ {α : Type} {p : α → Bool} {l : List α} {k : Nat} (h : k < l.length) : (l.take (k + 1)).any p = ((l.take k).any p || p l[k]) := by
  rw [List.take_succ_eq_append_getElem h, List.any_append]; simp
theorem cp_of {l : List Rpl} {b1 b2 : Bool} (h1 : l.any hsB = b1) (h2 : l.any lckB = !b2) : cpB (mkS l) = (b1 && b2) := by
  unfold cpB livB
  rw [srs_mk, h2, Bool.not_not]
  cases b2
  · rw [Bool.and_false, Bool.and_false]
  · rw [Bool.and_true, Bool.and_true, ← h1]
    have h3 : ∀ r ∈ l, lckB r = false := fun r hr => by have := List.any_eq_false.1 h2 r hr; simpa using this
    have : ∀ m : List Rpl, (∀ r ∈ m, lckB r = false) → m.any upB = m.any hsB := by
      intro m
      induction m with
      | nil => intro _; rfl
      | cons r t ih =>
        intro hm
        rw [List.any_cons, List.any_cons, ih (fun y hy => hm y (List.mem_cons_of_mem _ hy))]
        have h4 := hm r List.mem_cons_self
        have : upB r = hsB r := by
          unfold hsB upB
          unfold lckB at h4
          cases hd : rdn r
          · rw [hd] at h4
            have : decide (rhs r = 2) = true := by simpa using h4
            rw [this]; rfl
          · rfl
        rw [this]
    exact this l h3

set_option maxRecDepth 100000 in
set_option maxHeartbeats 4000000 in
theorem l15Copies_y (a1 : Option Addr) (k1 : Nat) (ss : List Shd) (dr rc : Int) (w : World) (hn : ss.length ≤ 1073741824) (hr : ∀ s ∈ ss, (srs s).length ≤ 1073741824) (h1 : Lies w (.list shShard) [.slice a1 ss.length k1] ss) :
    Calls Tryd.prog 61 #[.agg #[.slice a1 ss.length k1, .int .i64 dr, .int .i64 rc], .bool true] w fun r w' => r = .returned (.bool (ss.all cpB)) ∧ Below w.heap.size w w' := by
  obtain ⟨w0, hw0⟩ : ∃ x, x = w.alloc (.cells #[.slice a1 ss.length k1, .int .i64 dr, .int .i64 rc] 29) := ⟨_, rfl⟩
  have hb0 : Below w.heap.size w w0 := hw0 ▸ Go.Joins.below_alloc1 _ _
  have HB0 : Hid (Bx w0 w.heap.size [.slice a1 ss.length k1, .int .i64 dr, .int .i64 rc] ∧ Below w.heap.size w w0) := ⟨hw0 ▸ Bx.new w [_, _, _] _, hb0⟩
  have HL := Hid.intro (h1.next hb0)
  have HR := Hid.intro hr
  clear h1 hr hb0
  go_enter Tryd.func61, Tryd.ntmps61
  go_upto_region 1 with fail
  rw [← hw0]
  clear hw0
  have s0 := (HB0.out.1).cell 0 rfl; have s1 := (HB0.out.1).cell 1 rfl; have s2 := (HB0.out.1).cell 2 rfl; have sz := (HB0.out.1).2
  go_wp2
  clear s0 s1 s2 sz
  go_loopw [15] (fun i wr => ∃ k : Nat, k ≤ ss.length ∧ i = .int .i64 k ∧ (∀ o ∈ ss.take k, cpB o = true) ∧ Below w0.heap.size w0 wr) (fun i _ => ss.length - (intOf i).toNat)
  case atStart => exact ⟨0, Nat.zero_le _, rfl, fun o ho => by simp at ho, Below.refl _ _⟩
  case round =>
    obtain ⟨k, hk, rfl, hno, hBr⟩ := hrel
    have HO := Hid.intro hno
    have HB : Hid (Below w0.heap.size w0 wr ∧ Below w.heap.size w wr) := ⟨hBr, below_next HB0.out.2 hBr⟩
    clear hno hBr
    by_cases hlt : k < ss.length
    · have hlt' : (k : Int) < (ss.length : Int) := by omega
      have HLE : Hid (Lies wr (.list shShard) [.slice a1 ss.length k1] ss) := HL.out.next HB.out.1
      obtain ⟨xg, xoff, xgo, xgs, xec, xel, xhec, xle⟩ := Lies.elem (HLE.out) hlt
      subst xgo
      rcases xX : ss[k] with ⟨x0, ⟨⟩⟩
      rw [xX] at xle
      have xH : Hid (ss[k] = (x0, ())) := xX
      clear xX
      obtain ⟨xa1, xk1, xev, xq1⟩ := lies_Shard xle
      subst xev
      have xc0 : wr.cell? ⟨xg, xoff + k, none⟩ = some (.slice xa1 x0.length xk1) := (by have := xhec 0 (by simp); simpa [shShard, Sh.c] using this)
      clear xhec xel xle
      have HX : Hid (ss[k] = mkS x0) := xH
      have hxn : x0.length ≤ 1073741824 := by have := HR.out _ (List.getElem_mem hlt); rw [HX.out] at this; exact this
      obtain ⟨w1, hw1⟩ : ∃ x, x = wr.alloc (.cells #[.slice xa1 x0.length xk1] 42) := ⟨_, rfl⟩
      have hb1 : Below wr.heap.size wr w1 := hw1 ▸ Go.Joins.below_alloc1 _ _
      have HB1 : Hid (Bx w1 wr.heap.size [.slice xa1 x0.length xk1] ∧ Below w0.heap.size w0 w1 ∧ Below w.heap.size w w1 ∧ Lies w1 (.list shReplica) [.slice xa1 x0.length xk1] x0) := ⟨hw1 ▸ Bx.new wr [_] _, below_next HB.out.1 hb1, below_next HB.out.2 hb1, xq1.next hb1⟩
      clear HLE xH xq1 hb1 HB
      go_upto_region 6 with fail
      rw [← hw1]
      clear hw1
      have s0 := (HB1.out.1).cell 0 rfl; have sz := (HB1.out.1).2
      go_wp2
      clear s0 sz
      obtain ⟨wo, hwo⟩ : ∃ x, x = wr := ⟨_, rfl⟩
      subst hwo
      go_loopw [22, 7, 8] (fun i v7 v8 wr => ∃ (j : Nat) (b1 b2 : Bool), j ≤ x0.length ∧ i = .int .i64 j ∧ v7 = .bool b1 ∧ v8 = .bool b2 ∧ (x0.take j).any hsB = b1 ∧ (x0.take j).any lckB = !b2 ∧ Below w1.heap.size w1 wr) (fun i _ _ _ => x0.length - (intOf i).toNat)
      case atStart => exact ⟨0, false, true, Nat.zero_le _, rfl, rfl, rfl, rfl, rfl, Below.refl _ _⟩
      case round =>
        obtain ⟨j, b1, b2, hj, rfl, rfl, rfl, hb1, hb2, hBr⟩ := hrel
        have HP : Hid ((x0.take j).any hsB = b1 ∧ (x0.take j).any lckB = !b2) := ⟨hb1, hb2⟩
        have HB2 : Hid (Below w1.heap.size w1 wr ∧ Below w0.heap.size w0 wr ∧ Below w.heap.size w wr) := ⟨hBr, below_next HB1.out.2.1 hBr, below_next HB1.out.2.2.1 hBr⟩
        clear hb1 hb2 hBr
        by_cases hjl : j < x0.length
        · have hjl' : (j : Int) < (x0.length : Int) := by omega
          have HLE : Hid (Lies wr (.list shReplica) [.slice xa1 x0.length xk1] x0) := HB1.out.2.2.2.next HB2.out.1
          obtain ⟨yg, yoff, ygo, ygs, yec, yel, yhec, yle⟩ := Lies.elem (HLE.out) hjl
          subst ygo
          rcases yX : x0[j] with ⟨y0, y1, ⟨⟩⟩
          rw [yX] at yle
          have yH : Hid (x0[j] = (y0, y1, ())) := yX
          clear yX
          obtain yev := lies_Replica yle
          subst yev
          have yc0 : wr.cell? ⟨yg, yoff + j * 2, none⟩ = some (.bool y0) := yhec 0 (by simp)
          have yc1 : wr.cell? ⟨yg, yoff + j * 2 + 1, none⟩ = some (.int .i64 y1) := yhec 1 (by simp)
          clear yhec yel yle
          obtain ⟨h, hh⟩ : ∃ h : Int, h = y1 := ⟨_, rfl⟩
          subst hh
          have HY : Hid (x0[j] = mkR y0 h) := yH
          have HB3 : Hid (Below w1.heap.size w1 (wr.alloc (.cells #[.bool y0, .int .i64 h] 44))) := HB2.out.1.alloc HB2.out.1.size _
          have HT : Hid ((x0.take (j + 1)).any hsB = (b1 || hsB (mkR y0 h)) ∧ (x0.take (j + 1)).any lckB = (!b2 || lckB (mkR y0 h))) := Hid.intro ⟨by rw [any_take_succ hjl, HP.out.1, HY.out], by rw [any_take_succ hjl, HP.out.2, HY.out]⟩
          clear HLE yH
          cases y0
          case true =>
            go_wp2
            go_roundw
            case rel => exact ⟨j + 1, b1, b2, by omega, by go_num, rfl, rfl, by rw [HT.out.1]; simp [hsB, upB], by rw [HT.out.2]; simp [lckB], HB3.out⟩
            case measure => simp [intOf]; omega
          case false =>
            by_cases c : h = 2
            · have q : (h == 2) = true := by simpa using c
              have Q1 : Hid (hsB (mkR false h) = true) := Hid.intro (by unfold hsB upB; rw [rdn_mk, rhs_mk, decide_eq_true c]; rfl)
              have Q2 : Hid (lckB (mkR false h) = false) := Hid.intro (by unfold lckB; rw [rdn_mk, rhs_mk, decide_eq_true c]; rfl)
              clear c
              cases b1 <;> cases b2 <;> go_wp2 <;> go_roundw
              all_goals (first | (simp [intOf]; omega) | (refine ⟨j + 1, _, _, by omega, by go_num, rfl, rfl, ?_, ?_, HB3.out⟩; (· rw [HT.out.1, Q1.out]; rfl); (· rw [HT.out.2, Q2.out]; rfl)))
            have q : (h == 2) = false := by simpa using c
            have Q1 : Hid (hsB (mkR false h) = false) := Hid.intro (by unfold hsB upB; rw [rdn_mk, rhs_mk, decide_eq_false c]; rfl)
            have Q2 : Hid (lckB (mkR false h) = true) := Hid.intro (by unfold lckB; rw [rdn_mk, rhs_mk, decide_eq_false c]; rfl)
            clear c
            cases b1 <;> cases b2 <;> go_wp2 <;> go_roundw
            all_goals (first | (simp [intOf]; omega) | (refine ⟨j + 1, _, _, by omega, by go_num, rfl, rfl, ?_, ?_, HB3.out⟩; (· rw [HT.out.1, Q1.out]; rfl); (· rw [HT.out.2, Q2.out]; rfl)))
        · have HE : Hid (x0.any hsB = b1 ∧ x0.any lckB = !b2) := Hid.intro (by have := HP.out; rwa [show j = x0.length by omega, List.take_length] at this)
          have HV : Hid (cpB ss[k] = (b1 && b2)) := Hid.intro (by rw [HX.out]; exact cp_of HE.out.1 HE.out.2)
          cases b1
          · have HZ : Hid (ss.all cpB = false) := Hid.intro (all_no hlt (by rw [HV.out]; rfl))
            cases b2
            all_goals (go_wp2; go_ret; exact ⟨ret_bool HZ.out.symm, HB2.out.2.2⟩)
          cases b2
          · have HZ : Hid (ss.all cpB = false) := Hid.intro (all_no hlt (by rw [HV.out]; rfl))
            go_wp2
            go_ret
            exact ⟨ret_bool HZ.out.symm, HB2.out.2.2⟩
          have HS : Hid (cpB ss[k] = true) := Hid.intro (by rw [HV.out]; rfl)
          go_wp2
          go_roundw
          case rel => exact ⟨k + 1, by omega, by go_num, mem_take_succ hlt HO.out HS.out, HB2.out.2.1⟩
          case measure => simp [intOf]; omega
    · have HA : Hid (ss.all cpB = true) := Hid.intro (all_yes (by have := HO.out; rwa [show k = ss.length by omega, List.take_length] at this))
      go_wp2
      go_ret
      exact ⟨ret_bool HA.out.symm, HB.out.2⟩

set_option maxRecDepth 100000 in
set_option maxHeartbeats 4000000 in
theorem l15Copies_n (a1 : Option Addr) (k1 : Nat) (ss : List Shd) (dr rc : Int) (w : World) (hn : ss.length ≤ 1073741824) (hr : ∀ s ∈ ss, (srs s).length ≤ 1073741824) (h1 : Lies w (.list shShard) [.slice a1 ss.length k1] ss) :
    Calls Tryd.prog 61 #[.agg #[.slice a1 ss.length k1, .int .i64 dr, .int .i64 rc], .bool false] w fun r w' => r = .returned (.bool (ss.all ktB)) ∧ Below w.heap.size w w' := by
  obtain ⟨w0, hw0⟩ : ∃ x, x = w.alloc (.cells #[.slice a1 ss.length k1, .int .i64 dr, .int .i64 rc] 29) := ⟨_, rfl⟩
  have hb0 : Below w.heap.size w w0 := hw0 ▸ Go.Joins.below_alloc1 _ _
  have HB0 : Hid (Bx w0 w.heap.size [.slice a1 ss.length k1, .int .i64 dr, .int .i64 rc] ∧ Below w.heap.size w w0) := ⟨hw0 ▸ Bx.new w [_, _, _] _, hb0⟩
  have HL := Hid.intro (h1.next hb0)
  have HR := Hid.intro hr
  clear h1 hr hb0
  go_enter Tryd.func61, Tryd.ntmps61
  go_upto_region 1 with fail
  rw [← hw0]
  clear hw0
  have s0 := (HB0.out.1).cell 0 rfl; have s1 := (HB0.out.1).cell 1 rfl; have s2 := (HB0.out.1).cell 2 rfl; have sz := (HB0.out.1).2
  go_wp2
  clear s0 s1 s2 sz
  go_loopw [15] (fun i wr => ∃ k : Nat, k ≤ ss.length ∧ i = .int .i64 k ∧ (∀ o ∈ ss.take k, ktB o = true) ∧ Below w0.heap.size w0 wr) (fun i _ => ss.length - (intOf i).toNat)
  case atStart => exact ⟨0, Nat.zero_le _, rfl, fun o ho => by simp at ho, Below.refl _ _⟩
  case round =>
    obtain ⟨k, hk, rfl, hno, hBr⟩ := hrel
    have HO := Hid.intro hno
    have HB : Hid (Below w0.heap.size w0 wr ∧ Below w.heap.size w wr) := ⟨hBr, below_next HB0.out.2 hBr⟩
    clear hno hBr
    by_cases hlt : k < ss.length
    · have hlt' : (k : Int) < (ss.length : Int) := by omega
      have HLE : Hid (Lies wr (.list shShard) [.slice a1 ss.length k1] ss) := HL.out.next HB.out.1
      obtain ⟨xg, xoff, xgo, xgs, xec, xel, xhec, xle⟩ := Lies.elem (HLE.out) hlt
      subst xgo
      rcases xX : ss[k] with ⟨x0, ⟨⟩⟩
      rw [xX] at xle
      have xH : Hid (ss[k] = (x0, ())) := xX
      clear xX
      obtain ⟨xa1, xk1, xev, xq1⟩ := lies_Shard xle
      subst xev
      have xc0 : wr.cell? ⟨xg, xoff + k, none⟩ = some (.slice xa1 x0.length xk1) := (by have := xhec 0 (by simp); simpa [shShard, Sh.c] using this)
      clear xhec xel xle
      have HX : Hid (ss[k] = mkS x0) := xH
      have hxn : x0.length ≤ 1073741824 := by have := HR.out _ (List.getElem_mem hlt); rw [HX.out] at this; exact this
      obtain ⟨w1, hw1⟩ : ∃ x, x = wr.alloc (.cells #[.slice xa1 x0.length xk1] 42) := ⟨_, rfl⟩
      have hb1 : Below wr.heap.size wr w1 := hw1 ▸ Go.Joins.below_alloc1 _ _
      have HB1 : Hid (Bx w1 wr.heap.size [.slice xa1 x0.length xk1] ∧ Below w0.heap.size w0 w1 ∧ Below w.heap.size w w1 ∧ Lies w1 (.list shReplica) [.slice xa1 x0.length xk1] x0) := ⟨hw1 ▸ Bx.new wr [_] _, below_next HB.out.1 hb1, below_next HB.out.2 hb1, xq1.next hb1⟩
      clear HLE xH xq1 hb1 HB
      go_upto_region 6 with fail
      rw [← hw1]
      clear hw1
      have s0 := (HB1.out.1).cell 0 rfl; have sz := (HB1.out.1).2
      go_wp2
      clear s0 sz
      obtain ⟨wo, hwo⟩ : ∃ x, x = wr := ⟨_, rfl⟩
      subst hwo
      go_loopw [22, 7, 8] (fun i v7 v8 wr => ∃ (j : Nat) (b1 b2 : Bool), j ≤ x0.length ∧ i = .int .i64 j ∧ v7 = .bool b1 ∧ v8 = .bool b2 ∧ (x0.take j).any kpB = b1 ∧ True ∧ Below w1.heap.size w1 wr) (fun i _ _ _ => x0.length - (intOf i).toNat)
      case atStart => exact ⟨0, false, true, Nat.zero_le _, rfl, rfl, rfl, rfl, trivial, Below.refl _ _⟩
      case round =>
        obtain ⟨j, b1, b2, hj, rfl, rfl, rfl, hb1, hb2, hBr⟩ := hrel
        have HP : Hid ((x0.take j).any kpB = b1 ∧ True) := ⟨hb1, hb2⟩
        have HB2 : Hid (Below w1.heap.size w1 wr ∧ Below w0.heap.size w0 wr ∧ Below w.heap.size w wr) := ⟨hBr, below_next HB1.out.2.1 hBr, below_next HB1.out.2.2.1 hBr⟩
        clear hb1 hb2 hBr
        by_cases hjl : j < x0.length
        · have hjl' : (j : Int) < (x0.length : Int) := by omega
          have HLE : Hid (Lies wr (.list shReplica) [.slice xa1 x0.length xk1] x0) := HB1.out.2.2.2.next HB2.out.1
          obtain ⟨yg, yoff, ygo, ygs, yec, yel, yhec, yle⟩ := Lies.elem (HLE.out) hjl
          subst ygo
          rcases yX : x0[j] with ⟨y0, y1, ⟨⟩⟩
          rw [yX] at yle
          have yH : Hid (x0[j] = (y0, y1, ())) := yX
          clear yX
          obtain yev := lies_Replica yle
          subst yev
          have yc0 : wr.cell? ⟨yg, yoff + j * 2, none⟩ = some (.bool y0) := yhec 0 (by simp)
          have yc1 : wr.cell? ⟨yg, yoff + j * 2 + 1, none⟩ = some (.int .i64 y1) := yhec 1 (by simp)
          clear yhec yel yle
          obtain ⟨h, hh⟩ : ∃ h : Int, h = y1 := ⟨_, rfl⟩
          subst hh
          have HY : Hid (x0[j] = mkR y0 h) := yH
          have HB3 : Hid (Below w1.heap.size w1 (wr.alloc (.cells #[.bool y0, .int .i64 h] 44))) := HB2.out.1.alloc HB2.out.1.size _
          have HT : Hid ((x0.take (j + 1)).any kpB = (b1 || kpB (mkR y0 h)) ∧ True) := Hid.intro ⟨by rw [any_take_succ hjl, HP.out.1, HY.out], trivial⟩
          clear HLE yH
          cases y0
          case true =>
            go_wp2
            go_roundw
            case rel => exact ⟨j + 1, b1, b2, by omega, by go_num, rfl, rfl, by rw [HT.out.1]; simp [kpB, upB], trivial, HB3.out⟩
            case measure => simp [intOf]; omega
          case false =>
            by_cases c : h = 2
            · have q : (h == 2) = true := by simpa using c
              have Q1 : Hid (kpB (mkR false h) = true) := Hid.intro (by unfold kpB; rw [rdn_mk, rhs_mk, decide_eq_true c]; rfl)
              clear c
              cases b1 <;> cases b2 <;> go_wp2 <;> go_roundw
              all_goals (first | (simp [intOf]; omega) | (refine ⟨j + 1, _, _, by omega, by go_num, rfl, rfl, ?_, ?_, HB3.out⟩; (· rw [HT.out.1, Q1.out]; rfl); (· trivial)))
            have q : (h == 2) = false := by simpa using c
            by_cases c2 : h = 3
            · have q2 : (h == 3) = true := by simpa using c2
              have Q1 : Hid (kpB (mkR false h) = true) := Hid.intro (by unfold kpB; rw [rdn_mk, rhs_mk, decide_eq_true c2, Bool.or_true]; rfl)
              clear c c2
              cases b1 <;> cases b2 <;> go_wp2 <;> go_roundw
              all_goals (first | (simp [intOf]; omega) | (refine ⟨j + 1, _, _, by omega, by go_num, rfl, rfl, ?_, ?_, HB3.out⟩; (· rw [HT.out.1, Q1.out]; rfl); (· trivial)))
            have q2 : (h == 3) = false := by simpa using c2
            have Q1 : Hid (kpB (mkR false h) = false) := Hid.intro (by unfold kpB; rw [rdn_mk, rhs_mk, decide_eq_false c, decide_eq_false c2]; rfl)
            clear c c2
            cases b1 <;> cases b2 <;> go_wp2 <;> go_roundw
            all_goals (first | (simp [intOf]; omega) | (refine ⟨j + 1, _, _, by omega, by go_num, rfl, rfl, ?_, ?_, HB3.out⟩; (· rw [HT.out.1, Q1.out]; rfl); (· trivial)))
        · have HE : Hid (x0.any kpB = b1 ∧ True) := Hid.intro (by have := HP.out; rwa [show j = x0.length by omega, List.take_length] at this)
          have HV : Hid (ktB ss[k] = b1) := Hid.intro (by rw [HX.out]; exact HE.out.1)
          cases b1
          · have HZ : Hid (ss.all ktB = false) := Hid.intro (all_no hlt HV.out)
            go_wp2
            go_ret
            exact ⟨ret_bool HZ.out.symm, HB2.out.2.2⟩
          have HS : Hid (ktB ss[k] = true) := HV
          go_wp2
          go_roundw
          case rel => exact ⟨k + 1, by omega, by go_num, mem_take_succ hlt HO.out HS.out, HB2.out.2.1⟩
          case measure => simp [intOf]; omega
    · have HA : Hid (ss.all ktB = true) := Hid.intro (all_yes (by have := HO.out; rwa [show k = ss.length by omega, List.take_length] at this))
      go_wp2
      go_ret
      exact ⟨ret_bool HA.out.symm, HB.out.2⟩

end Go.Proofs.YtkpobihpcnoemaaDoor
