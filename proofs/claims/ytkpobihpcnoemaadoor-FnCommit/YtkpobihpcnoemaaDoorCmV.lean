/- Commits: what is decided, who agrees, who lives, on both sides. Written by tools/mkCmU.py. -/
import Derived.Test.YtkpobihpcnoemaaDoorCmU
namespace Go.Proofs.YtkpobihpcnoemaaDoor
open Go.RowKit
set_option linter.unusedVariables false
set_option linter.unusedSimpArgs false


set_option maxRecDepth 100000 in
set_option maxHeartbeats 4000000 in
theorem agreesIn_n (cs : List Value) (ss : List Shd) (dr rc : Int) (w : World) (hz : szD shCommit (ss, dr, rc, ()) ≤ 1073741824) (h : Lies w shCommit cs (ss, dr, rc, ())) :
    Calls Tryd.prog 11 #[.agg cs.toArray] w (AiP (aiA ss dr rc) w) := by
  obtain ⟨a1, k1, rfl, h1⟩ := lies_Commit h
  obtain ⟨hn, hr⟩ := cm_sizes hz
  obtain ⟨w0, hw0⟩ : ∃ x, x = w.alloc (.cells #[.slice a1 ss.length k1, .int .i64 dr, .int .i64 rc] 29) := ⟨_, rfl⟩
  have hb0 : Below w.heap.size w w0 := hw0 ▸ Go.Joins.below_alloc1 _ _
  have HB0 : Hid (Bx w0 w.heap.size [.slice a1 ss.length k1, .int .i64 dr, .int .i64 rc] ∧ Below w.heap.size w w0) := ⟨hw0 ▸ Bx.new w [_, _, _] _, hb0⟩
  have HC : Hid (∀ W, Below w0.heap.size w0 W → Calls Tryd.prog 13 #[.agg #[.slice a1 ss.length k1, .int .i64 dr, .int .i64 rc]] W fun r w' => r = .returned (.bool (goodC ss dr rc)) ∧ Below W.heap.size W w') := Hid.intro (fun W hW => goodCommit_n _ ss dr rc W hz ((h.next hb0).next hW))
  have HL := Hid.intro (h1.next hb0)
  have HR := Hid.intro hr
  clear h h1 hr hb0 hz
  go_enter Tryd.func11, Tryd.ntmps11
  go_upto_region 1 with fail
  rw [← hw0]
  clear hw0
  have s0 := (HB0.out.1).cell 0 rfl; have s1 := (HB0.out.1).cell 1 rfl; have s2 := (HB0.out.1).cell 2 rfl; have sz := (HB0.out.1).2
  go_wp2_with fail
  refine (HC.out _ (Below.refl _ _)).mono ?_
  rintro r w1 ⟨rfl, hb⟩
  have HB1 : Hid (Bx w1 w.heap.size [.slice a1 ss.length k1, .int .i64 dr, .int .i64 rc] ∧ Below w.heap.size w w1 ∧ Lies w1 (.list shShard) [.slice a1 ss.length k1] ss) := ⟨HB0.out.1.next hb, below_next HB0.out.2 hb, HL.out.next hb⟩
  clear hb s0 s1 s2 sz HC HB0 HL
  cases e : goodC ss dr rc
  · have HN := Hid.intro (aiA_no e)
    clear e
    go_wp2
    go_ret2
    exact ⟨by rw [HN.out]; rfl, HB1.out.2.1⟩
  have HN := Hid.intro (aiA_yes e)
  clear e
  have s0 := (HB1.out.1).cell 0 rfl; have s1 := (HB1.out.1).cell 1 rfl; have s2 := (HB1.out.1).cell 2 rfl; have sz := (HB1.out.1).2
  obtain ⟨d, hd⟩ : ∃ d, decN dr rc = d := ⟨_, rfl⟩
  have HD := Hid.intro hd
  clear hd
  go_wp2_with fail
  refine (decisionIn_n _ ⟨_, _, _, rfl⟩ dr rc _ _ HD.out).mono ?_
  rintro r w2 ⟨rfl, hb⟩
  have HB2 : Hid (Bx w2 w.heap.size [.slice a1 ss.length k1, .int .i64 dr, .int .i64 rc] ∧ Below w.heap.size w w2 ∧ Lies w2 (.list shShard) [.slice a1 ss.length k1] ss) := ⟨HB1.out.1.next hb, below_next HB1.out.2.1 hb, HB1.out.2.2.next hb⟩
  clear hb s0 s1 s2 sz HB1
  have s0 := (HB2.out.1).cell 0 rfl; have s1 := (HB2.out.1).cell 1 rfl; have s2 := (HB2.out.1).cell 2 rfl; have sz := (HB2.out.1).2
  by_cases hq : rc = 0 ∨ rc = d
  case neg =>
    have HZ : Hid (agrA ss dr rc = false) := Hid.intro (agr_ne (fun q => hq (Or.inl q)) (fun q => hq (Or.inr (by rw [← HD.out]; exact q))))
    have g0 : ¬ rc = 0 := fun q => hq (Or.inl q)
    have g1 : ¬ rc = d := fun q => hq (Or.inr q)
    have q0 : (rc != 0) = true := by simpa using g0
    have q1 : (rc != d) = true := by simpa using g1
    clear hq g0 g1
    go_wp2
    go_ret2
    exact ⟨by rw [HN.out, HZ.out]; rfl, HB2.out.2.1⟩
  have HN : Hid (aiA ss dr rc = (ss.all (agsB d), true)) := Hid.intro (by rw [HN.out, agr_eq (by rw [HD.out]; exact hq), HD.out])
  by_cases g0 : rc = 0
  · have q0 : (rc != 0) = false := by simpa using g0
    clear g0 hq
    go_wp2
    clear s0 s1 s2 sz
    go_loopw [26] (fun i wr => ∃ k : Nat, k ≤ ss.length ∧ i = .int .i64 k ∧ (∀ o ∈ ss.take k, agsB d o = true) ∧ Below w2.heap.size w2 wr) (fun i _ => ss.length - (intOf i).toNat)
    case atStart => exact ⟨0, Nat.zero_le _, rfl, fun o ho => by simp at ho, Below.refl _ _⟩
    case round =>
      obtain ⟨k, hk, rfl, hno, hBr⟩ := hrel
      have HO := Hid.intro hno
      have HB : Hid (Below w2.heap.size w2 wr ∧ Below w.heap.size w wr) := ⟨hBr, below_next HB2.out.2.1 hBr⟩
      clear hno hBr
      by_cases hlt : k < ss.length
      · have hlt' : (k : Int) < (ss.length : Int) := by omega
        have HLE : Hid (Lies wr (.list shShard) [.slice a1 ss.length k1] ss) := HB2.out.2.2.next HB.out.1
        obtain ⟨xg, xoff, xgo, xgs, xec, xel, xhec, xle⟩ := Lies.elem (HLE.out) hlt
        subst xgo
        rcases xX : ss[k] with ⟨x0, ⟨⟩⟩
        rw [xX] at xle
        have xH : Hid (ss[k] = (x0, ())) := xX
        clear xX
        obtain ⟨xa1, xk1, xev, xq1⟩ := lies_Shard xle
        subst xev
        have xc0 : wr.cell? ⟨xg, xoff + k, none⟩ = some (.slice xa1 x0.length xk1) := (by have := xhec 0 (by simp); simpa [shShard, Sh.c] using this)
        clear xhec xel xle
        have HX : Hid (ss[k] = mkS x0) := xH
        have hxn : x0.length ≤ 1073741824 := by have := HR.out _ (List.getElem_mem hlt); rw [HX.out] at this; exact this
        obtain ⟨w3, hw3⟩ : ∃ x, x = wr.alloc (.cells #[.slice xa1 x0.length xk1] 42) := ⟨_, rfl⟩
        have hb1 : Below wr.heap.size wr w3 := hw3 ▸ Go.Joins.below_alloc1 _ _
        have HB3 : Hid (Bx w3 wr.heap.size [.slice xa1 x0.length xk1] ∧ Below w2.heap.size w2 w3 ∧ Below w.heap.size w w3 ∧ Lies w3 (.list shReplica) [.slice xa1 x0.length xk1] x0) := ⟨hw3 ▸ Bx.new wr [_] _, below_next HB.out.1 hb1, below_next HB.out.2 hb1, xq1.next hb1⟩
        clear HLE xH xq1 hb1 HB
        go_upto_region 9 with fail
        rw [← hw3]
        clear hw3
        have s0 := (HB3.out.1).cell 0 rfl; have sz := (HB3.out.1).2
        go_wp2
        clear s0 sz
        obtain ⟨wo, hwo⟩ : ∃ x, x = wr := ⟨_, rfl⟩
        subst hwo
        go_loopw [33] (fun i wr => ∃ j : Nat, j ≤ x0.length ∧ i = .int .i64 j ∧ (∀ o ∈ x0.take j, agrB d o = true) ∧ Below w3.heap.size w3 wr) (fun i _ => x0.length - (intOf i).toNat)
        case atStart => exact ⟨0, Nat.zero_le _, rfl, fun o ho => by simp at ho, Below.refl _ _⟩
        case round =>
          obtain ⟨j, hj, rfl, hno, hBr⟩ := hrel
          have HP := Hid.intro hno
          have HB4 : Hid (Below w3.heap.size w3 wr ∧ Below w2.heap.size w2 wr ∧ Below w.heap.size w wr) := ⟨hBr, below_next HB3.out.2.1 hBr, below_next HB3.out.2.2.1 hBr⟩
          clear hno hBr
          by_cases hjl : j < x0.length
          · have hjl' : (j : Int) < (x0.length : Int) := by omega
            have HLE : Hid (Lies wr (.list shReplica) [.slice xa1 x0.length xk1] x0) := HB3.out.2.2.2.next HB4.out.1
            obtain ⟨yg, yoff, ygo, ygs, yec, yel, yhec, yle⟩ := Lies.elem (HLE.out) hjl
            subst ygo
            rcases yX : x0[j] with ⟨y0, y1, ⟨⟩⟩
            rw [yX] at yle
            have yH : Hid (x0[j] = (y0, y1, ())) := yX
            clear yX
            obtain yev := lies_Replica yle
            subst yev
            have yc0 : wr.cell? ⟨yg, yoff + j * 2, none⟩ = some (.bool y0) := yhec 0 (by simp)
            have yc1 : wr.cell? ⟨yg, yoff + j * 2 + 1, none⟩ = some (.int .i64 y1) := yhec 1 (by simp)
            clear yhec yel yle
            obtain ⟨h, hh⟩ : ∃ h : Int, h = y1 := ⟨_, rfl⟩
            subst hh
            have HY : Hid (x0[j] = mkR y0 h) := yH
            have HB5 : Hid (Below w3.heap.size w3 (wr.alloc (.cells #[.bool y0, .int .i64 h] 44)) ∧ Below w.heap.size w (wr.alloc (.cells #[.bool y0, .int .i64 h] 44))) := ⟨HB4.out.1.alloc HB4.out.1.size _, HB4.out.2.2.alloc HB4.out.2.2.size _⟩
            clear HLE yH
            cases y0
            case true =>
              have HS : Hid (agrB d x0[j] = true) := Hid.intro (by rw [HY.out]; exact agrB_down)
              go_wp2
              go_roundw
              case rel => exact ⟨j + 1, by omega, by go_num, mem_take_succ hjl HP.out HS.out, HB5.out.1⟩
              case measure => simp [intOf]; omega
            case false =>
              cases hq : agrH d h
              · have HQ := Hid.intro hq
                clear hq
                have HZ : Hid (ss.all (agsB d) = false) := Hid.intro (all_no hlt (by rw [HX.out]; show x0.all (agrB d) = false; exact all_no hjl (by rw [HY.out, agrB_up]; exact HQ.out)))
                go_wp2_with (go_at_call 41; refine (isAgreed_n _ _ _ _ HQ.out).mono ?_; rintro e w' ⟨rfl, hw⟩; have hw := hw.symm; subst hw)
                go_ret2
                exact ⟨by rw [HN.out, HZ.out]; rfl, HB5.out.2⟩
              · have HQ := Hid.intro hq
                clear hq
                have HS : Hid (agrB d x0[j] = true) := Hid.intro (by rw [HY.out, agrB_up]; exact HQ.out)
                go_wp2_with (go_at_call 41; refine (isAgreed_n _ _ _ _ HQ.out).mono ?_; rintro e w' ⟨rfl, hw⟩; have hw := hw.symm; subst hw)
                go_roundw
                case rel => exact ⟨j + 1, by omega, by go_num, mem_take_succ hjl HP.out HS.out, HB5.out.1⟩
                case measure => simp [intOf]; omega
          · have HS : Hid (agsB d ss[k] = true) := Hid.intro (by rw [HX.out]; exact all_yes (by have := HP.out; rwa [show j = x0.length by omega, List.take_length] at this))
            go_wp2
            go_roundw
            case rel => exact ⟨k + 1, by omega, by go_num, mem_take_succ hlt HO.out HS.out, HB4.out.2.1⟩
            case measure => simp [intOf]; omega
      · have HA : Hid (ss.all (agsB d) = true) := Hid.intro (all_yes (by have := HO.out; rwa [show k = ss.length by omega, List.take_length] at this))
        go_wp2
        go_ret2
        exact ⟨by rw [HN.out, HA.out]; rfl, HB.out.2⟩
  · have q0 : (rc != 0) = true := by simpa using g0
    have g1 : rc = d := by rcases hq with q | q; exact absurd q g0; exact q
    have q1 : (rc != d) = false := by simpa using g1
    clear g0 g1 hq
    go_wp2
    clear s0 s1 s2 sz
    go_loopw [26] (fun i wr => ∃ k : Nat, k ≤ ss.length ∧ i = .int .i64 k ∧ (∀ o ∈ ss.take k, agsB d o = true) ∧ Below w2.heap.size w2 wr) (fun i _ => ss.length - (intOf i).toNat)
    case atStart => exact ⟨0, Nat.zero_le _, rfl, fun o ho => by simp at ho, Below.refl _ _⟩
    case round =>
      obtain ⟨k, hk, rfl, hno, hBr⟩ := hrel
      have HO := Hid.intro hno
      have HB : Hid (Below w2.heap.size w2 wr ∧ Below w.heap.size w wr) := ⟨hBr, below_next HB2.out.2.1 hBr⟩
      clear hno hBr
      by_cases hlt : k < ss.length
      · have hlt' : (k : Int) < (ss.length : Int) := by omega
        have HLE : Hid (Lies wr (.list shShard) [.slice a1 ss.length k1] ss) := HB2.out.2.2.next HB.out.1
        obtain ⟨xg, xoff, xgo, xgs, xec, xel, xhec, xle⟩ := Lies.elem (HLE.out) hlt
        subst xgo
        rcases xX : ss[k] with ⟨x0, ⟨⟩⟩
        rw [xX] at xle
        have xH : Hid (ss[k] = (x0, ())) := xX
        clear xX
        obtain ⟨xa1, xk1, xev, xq1⟩ := lies_Shard xle
        subst xev
        have xc0 : wr.cell? ⟨xg, xoff + k, none⟩ = some (.slice xa1 x0.length xk1) := (by have := xhec 0 (by simp); simpa [shShard, Sh.c] using this)
        clear xhec xel xle
        have HX : Hid (ss[k] = mkS x0) := xH
        have hxn : x0.length ≤ 1073741824 := by have := HR.out _ (List.getElem_mem hlt); rw [HX.out] at this; exact this
        obtain ⟨w3, hw3⟩ : ∃ x, x = wr.alloc (.cells #[.slice xa1 x0.length xk1] 42) := ⟨_, rfl⟩
        have hb1 : Below wr.heap.size wr w3 := hw3 ▸ Go.Joins.below_alloc1 _ _
        have HB3 : Hid (Bx w3 wr.heap.size [.slice xa1 x0.length xk1] ∧ Below w2.heap.size w2 w3 ∧ Below w.heap.size w w3 ∧ Lies w3 (.list shReplica) [.slice xa1 x0.length xk1] x0) := ⟨hw3 ▸ Bx.new wr [_] _, below_next HB.out.1 hb1, below_next HB.out.2 hb1, xq1.next hb1⟩
        clear HLE xH xq1 hb1 HB
        go_upto_region 9 with fail
        rw [← hw3]
        clear hw3
        have s0 := (HB3.out.1).cell 0 rfl; have sz := (HB3.out.1).2
        go_wp2
        clear s0 sz
        obtain ⟨wo, hwo⟩ : ∃ x, x = wr := ⟨_, rfl⟩
        subst hwo
        go_loopw [33] (fun i wr => ∃ j : Nat, j ≤ x0.length ∧ i = .int .i64 j ∧ (∀ o ∈ x0.take j, agrB d o = true) ∧ Below w3.heap.size w3 wr) (fun i _ => x0.length - (intOf i).toNat)
        case atStart => exact ⟨0, Nat.zero_le _, rfl, fun o ho => by simp at ho, Below.refl _ _⟩
        case round =>
          obtain ⟨j, hj, rfl, hno, hBr⟩ := hrel
          have HP := Hid.intro hno
          have HB4 : Hid (Below w3.heap.size w3 wr ∧ Below w2.heap.size w2 wr ∧ Below w.heap.size w wr) := ⟨hBr, below_next HB3.out.2.1 hBr, below_next HB3.out.2.2.1 hBr⟩
          clear hno hBr
          by_cases hjl : j < x0.length
          · have hjl' : (j : Int) < (x0.length : Int) := by omega
            have HLE : Hid (Lies wr (.list shReplica) [.slice xa1 x0.length xk1] x0) := HB3.out.2.2.2.next HB4.out.1
            obtain ⟨yg, yoff, ygo, ygs, yec, yel, yhec, yle⟩ := Lies.elem (HLE.out) hjl
            subst ygo
            rcases yX : x0[j] with ⟨y0, y1, ⟨⟩⟩
            rw [yX] at yle
            have yH : Hid (x0[j] = (y0, y1, ())) := yX
            clear yX
            obtain yev := lies_Replica yle
            subst yev
            have yc0 : wr.cell? ⟨yg, yoff + j * 2, none⟩ = some (.bool y0) := yhec 0 (by simp)
            have yc1 : wr.cell? ⟨yg, yoff + j * 2 + 1, none⟩ = some (.int .i64 y1) := yhec 1 (by simp)
            clear yhec yel yle
            obtain ⟨h, hh⟩ : ∃ h : Int, h = y1 := ⟨_, rfl⟩
            subst hh
            have HY : Hid (x0[j] = mkR y0 h) := yH
            have HB5 : Hid (Below w3.heap.size w3 (wr.alloc (.cells #[.bool y0, .int .i64 h] 44)) ∧ Below w.heap.size w (wr.alloc (.cells #[.bool y0, .int .i64 h] 44))) := ⟨HB4.out.1.alloc HB4.out.1.size _, HB4.out.2.2.alloc HB4.out.2.2.size _⟩
            clear HLE yH
            cases y0
            case true =>
              have HS : Hid (agrB d x0[j] = true) := Hid.intro (by rw [HY.out]; exact agrB_down)
              go_wp2
              go_roundw
              case rel => exact ⟨j + 1, by omega, by go_num, mem_take_succ hjl HP.out HS.out, HB5.out.1⟩
              case measure => simp [intOf]; omega
            case false =>
              cases hq : agrH d h
              · have HQ := Hid.intro hq
                clear hq
                have HZ : Hid (ss.all (agsB d) = false) := Hid.intro (all_no hlt (by rw [HX.out]; show x0.all (agrB d) = false; exact all_no hjl (by rw [HY.out, agrB_up]; exact HQ.out)))
                go_wp2_with (go_at_call 41; refine (isAgreed_n _ _ _ _ HQ.out).mono ?_; rintro e w' ⟨rfl, hw⟩; have hw := hw.symm; subst hw)
                go_ret2
                exact ⟨by rw [HN.out, HZ.out]; rfl, HB5.out.2⟩
              · have HQ := Hid.intro hq
                clear hq
                have HS : Hid (agrB d x0[j] = true) := Hid.intro (by rw [HY.out, agrB_up]; exact HQ.out)
                go_wp2_with (go_at_call 41; refine (isAgreed_n _ _ _ _ HQ.out).mono ?_; rintro e w' ⟨rfl, hw⟩; have hw := hw.symm; subst hw)
                go_roundw
                case rel => exact ⟨j + 1, by omega, by go_num, mem_take_succ hjl HP.out HS.out, HB5.out.1⟩
                case measure => simp [intOf]; omega
          · have HS : Hid (agsB d ss[k] = true) := Hid.intro (by rw [HX.out]; exact all_yes (by have := HP.out; rwa [show j = x0.length by omega, List.take_length] at this))
            go_wp2
            go_roundw
            case rel => exact ⟨k + 1, by omega, by go_num, mem_take_succ hlt HO.out HS.out, HB4.out.2.1⟩
            case measure => simp [intOf]; omega
      · have HA : Hid (ss.all (agsB d) = true) := Hid.intro (all_yes (by have := HO.out; rwa [show k = ss.length by omega, List.take_length] at this))
        go_wp2
        go_ret2
        exact ⟨by rw [HN.out, HA.out]; rfl, HB.out.2⟩



end Go.Proofs.YtkpobihpcnoemaaDoor
