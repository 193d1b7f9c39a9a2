/- Registers: the program's GoodRegister. -/
import Derived.Test.YtaofolbnommpgaaRgD
namespace Go.Proofs.Ytaofolbnommpgaa
open Go.RowKit
set_option linter.unusedVariables false

theorem good_none {ck : Int} {cp : List (Sh.T shCopy)} {os : List (Sh.T shRegOp)} (h : ¬ goodR ck cp os) : Ending.returned (.bool false) = .returned (.bool (tf (goodR ck cp os))) := by rw [tf_no h]
/-- The sizes of what is in a register. -/
theorem reg_sizes {ck : Int} {cp : List (Sh.T shCopy)} {os : List (Sh.T shRegOp)} (hz : szD shRegister (ck, cp, os, ()) ≤ 1073741824) :
    (∀ c ∈ cp, c.2.2.1.size ≤ 1073741824) ∧ (∀ o ∈ os, o.2.2.1.size ≤ 1073741824 ∧ o.2.2.2.2.1.length ≤ 1073741824 ∧ o.2.2.2.2.2.1.2.2.1.size ≤ 1073741824) ∧ cp.length ≤ 1073741824 ∧ os.length ≤ 1073741824 := by
  have e : szD shRegister (ck, cp, os, ()) = 0 + (szD (.list shCopy) cp + (szD (.list shRegOp) os + 0)) := rfl
  have e1 : szD (.list shCopy) cp = cp.length + (cp.map (szD shCopy)).sum := rfl
  have e2 : szD (.list shRegOp) os = os.length + (os.map (szD shRegOp)).sum := rfl
  refine ⟨fun c hc => ?_, fun o ho => ?_, by omega, by omega⟩
  · have := sz_mem hc
    have e3 : szD shCopy c = 0 + (0 + (c.2.2.1.size + 0)) := rfl
    omega
  · have := sz_mem ho
    have e3 : szD shRegOp o = 0 + (0 + (o.2.2.1.size + (0 + (szD (.list .int) o.2.2.2.2.1 + (szD shCopy o.2.2.2.2.2.1 + (0 + (0 + 0))))))) := rfl
    have e4 : szD (.list .int) o.2.2.2.2.1 = o.2.2.2.2.1.length + (o.2.2.2.2.1.map (szD .int)).sum := rfl
    have e5 : szD shCopy o.2.2.2.2.2.1 = 0 + (0 + (o.2.2.2.2.2.1.2.2.1.size + 0)) := rfl
    omega
/-- What holds between the rounds of the program's second loop. -/
def rgK (ck : Int) (cp : List (Sh.T shCopy)) (os : List (Sh.T shRegOp)) (k : Nat) : Prop := (∀ o ∈ os.take k, opP ck cp.length o) ∧ (os.take k).Pairwise busyP

set_option maxRecDepth 100000 in
set_option maxHeartbeats 3000000 in
theorem goodRegister_n (cs : List Value) (ck : Int) (cp : List (Sh.T shCopy)) (os : List (Sh.T shRegOp)) (w : World) (hz : szD shRegister (ck, cp, os, ()) ≤ 1073741824) (h : Lies w shRegister cs (ck, cp, os, ())) :
    Calls Try.prog 17 #[.agg cs.toArray] w fun r w' => r = .returned (.bool (tf (goodR ck cp os))) ∧ Below w.heap.size w w' := by
  obtain ⟨a1, k1, a2, k2, rfl, h1, h2⟩ := lies_Register h
  have HL : Hid (Lies w (.list shCopy) [.slice a1 cp.length k1] cp ∧ Lies w (.list shRegOp) [.slice a2 os.length k2] os) := ⟨h1, h2⟩
  have HZ : Hid (szD shRegister (ck, cp, os, ()) ≤ 1073741824) := hz
  have hcap : os.length ≤ k2 ∧ k2 ≤ 9223372036854775807 := by have := h2.caps; unfold maxLen at this; omega
  have hsz := reg_sizes hz
  have hnc := hsz.2.2.1
  have hno := hsz.2.2.2
  clear h h1 h2 hz hsz
  obtain ⟨nc, hncE⟩ : ∃ n, n = cp.length := ⟨_, rfl⟩
  obtain ⟨no, hnoE⟩ : ∃ n, n = os.length := ⟨_, rfl⟩
  have HNC : Hid (nc = cp.length ∧ no = os.length) := ⟨hncE, hnoE⟩
  rw [← hncE] at hnc ⊢
  rw [← hnoE] at hno hcap ⊢
  clear hncE hnoE
  cases c0 : inR ck 0 1000
  · have HN : Hid (¬ goodR ck cp os) := Hid.intro (fun q => by rw [inR_iff.2 q.1] at c0; cases c0)
    go_enter Try.func17, Try.ntmps17
    go_wp2_with (first | (go_at_call 54; refine (inRange_any _ _ _ _).mono ?_; rintro e w' ⟨rfl, rfl⟩))
    go_ret
    exact ⟨good_none HN.out, (by repeat (first | refine Below.setCell ?_ (by (try simp) <;> omega) _ | refine Below.alloc ?_ (by (try simp) <;> omega) _ | refine Below.drew ?_ | assumption | exact Below.refl _ _ | refine Below.trans ?_ (Below.mono (by assumption) (by (try simp) <;> omega))))⟩
  cases c1 : inR (nc : Int) 1 12
  · have HN : Hid (¬ goodR ck cp os) := Hid.intro (fun q => by
      have h1 := q.2.1
      rw [← HNC.out.1] at h1
      rw [inR_iff.2 (by omega)] at c1; cases c1)
    go_enter Try.func17, Try.ntmps17
    go_wp2_with (first | (go_at_call 54; refine (inRange_any _ _ _ _).mono ?_; rintro e w' ⟨rfl, rfl⟩))
    go_ret
    exact ⟨good_none HN.out, (by repeat (first | refine Below.setCell ?_ (by (try simp) <;> omega) _ | refine Below.alloc ?_ (by (try simp) <;> omega) _ | refine Below.drew ?_ | assumption | exact Below.refl _ _ | refine Below.trans ?_ (Below.mono (by assumption) (by (try simp) <;> omega))))⟩
  by_cases c2 : (7 : Int) < (no : Int)
  · have HN : Hid (¬ goodR ck cp os) := Hid.intro (fun q => by
      have h1 := q.2.2.1
      rw [← HNC.out.2] at h1
      omega)
    go_enter Try.func17, Try.ntmps17
    go_wp2_with (first | (go_at_call 54; refine (inRange_any _ _ _ _).mono ?_; rintro e w' ⟨rfl, rfl⟩))
    go_ret
    exact ⟨good_none HN.out, (by repeat (first | refine Below.setCell ?_ (by (try simp) <;> omega) _ | refine Below.alloc ?_ (by (try simp) <;> omega) _ | refine Below.drew ?_ | assumption | exact Below.refl _ _ | refine Below.trans ?_ (Below.mono (by assumption) (by (try simp) <;> omega))))⟩
  have hck := inR_iff.1 c0
  have hnc2 := inR_iff.1 c1
  have HC : Hid (inR ck 0 1000 = true ∧ inR (nc : Int) 1 12 = true) := ⟨c0, c1⟩
  have HB0 : Hid (Bx (w.alloc (.cells #[.int .i64 ck, .slice a1 nc k1, .slice a2 no k2] 29)) w.heap.size [.int .i64 ck, .slice a1 nc k1, .slice a2 no k2] ∧ Below w.heap.size w (w.alloc (.cells #[.int .i64 ck, .slice a1 nc k1, .slice a2 no k2] 29))) := ⟨Bx.new w [_, _, _] _, Go.Joins.below_alloc1 _ _⟩
  go_enter Try.func17, Try.ntmps17
  go_wp2_with (first | (go_at_call 54; refine (inRange_any _ _ _ _).mono ?_; rintro e w' ⟨rfl, rfl⟩))
  clear c0 c1
  go_loopw [27] (fun i wr => ∃ k : Nat, k ≤ nc ∧ i = .int .i64 k ∧ (∀ c ∈ cp.take k, copP c.1 c.2.1 c.2.2.1) ∧ Bx wr w.heap.size [.int .i64 ck, .slice a1 nc k1, .slice a2 no k2] ∧ Below w.heap.size w wr) (fun i _ => nc - (intOf i).toNat)
  case atStart => exact ⟨0, Nat.zero_le _, rfl, fun o ho => by simp at ho, HB0.out⟩
  case round =>
    obtain ⟨k, hk, rfl, hall, hbx, hBr⟩ := hrel
    clear HB0
    have HA : Hid ((∀ c ∈ cp.take k, copP c.1 c.2.1 c.2.2.1) ∧ Bx wr w.heap.size [.int .i64 ck, .slice a1 nc k1, .slice a2 no k2] ∧ Below w.heap.size w wr) := ⟨hall, hbx, hBr⟩
    clear hall
    by_cases hlt : k < nc
    · have hlx : k < cp.length := by have := HNC.out.1; omega
      have hlt' : (k : Int) < (nc : Int) := by omega
      have HLE : Hid (Lies wr (.list shCopy) [.slice a1 cp.length k1] cp) := HL.out.1.next hBr
      obtain ⟨xg, xoff, xgo, xgs, xec, xel, xhec, xle⟩ := Lies.elem (HLE.out) hlx
      subst xgo
      rcases xX : cp[k] with ⟨x0, x1, x2, ⟨⟩⟩
      rw [xX] at xle
      have xH : Hid (cp[k] = (x0, x1, x2, ())) := xX
      clear xX
      obtain xev := lies_Copy xle
      subst xev
      have xc0 : wr.cell? ⟨xg, xoff + k * 3, none⟩ = some (.int .i64 x0) := xhec 0 (by simp)
      have xc1 : wr.cell? ⟨xg, xoff + k * 3 + 1, none⟩ = some (.int .i64 x1) := xhec 1 (by simp)
      have xc2 : wr.cell? ⟨xg, xoff + k * 3 + 2, none⟩ = some (.string x2) := xhec 2 (by simp)
      clear xhec xel xle
      have HV : Hid (x2.size ≤ maxLen) := Hid.intro (by
        have := (reg_sizes HZ.out).1 cp[k] (List.getElem_mem hlx)
        rw [xH.out] at this
        exact size_text this)
      clear hbx hBr HLE
      go_wp2_with fail
      refine (isCopy_n _ _ _ _ HV.out).mono ?_
      rintro r w1 ⟨rfl, hb⟩
      have HB1 : Hid (Bx w1 w.heap.size [.int .i64 ck, .slice (some ⟨xg, xoff, none⟩) nc k1, .slice a2 no k2] ∧ Below w.heap.size w w1) := ⟨(HA.out.2.1.alloc _).next hb, below_next (HA.out.2.2.alloc HA.out.2.2.size _) hb⟩
      clear hb xc0 xc1 xc2
      by_cases e : copP x0 x1 x2
      · rw [tf_yes e]
        have HS : Hid (copP cp[k].1 cp[k].2.1 cp[k].2.2.1) := Hid.intro (by rw [xH.out]; exact e)
        clear e
        go_wp2
        go_roundw
        case rel => exact ⟨k + 1, by omega, by go_num, mem_take_succ hlx HA.out.1 HS.out, HB1.out⟩
        case measure => simp [intOf]; omega
      · rw [tf_no e]
        have HN : Hid (¬ goodR ck cp os) := Hid.intro (fun q => e (by have := q.2.2.2.1 cp[k] (List.getElem_mem hlx); rwa [xH.out] at this))
        clear e
        go_wp2
        go_ret
        exact ⟨good_none HN.out, HB1.out.2⟩
    · have hkn : k = nc := by omega
      have HCP : Hid (∀ c ∈ cp, copP c.1 c.2.1 c.2.2.1) := Hid.intro (by have := HA.out.1; rwa [hkn, HNC.out.1, List.take_length] at this)
      have HB1 : Hid (Bx wr w.heap.size [.int .i64 ck, .slice a1 nc k1, .slice a2 no k2] ∧ Below w.heap.size w wr) := HA.out.2
      have s2 := hbx.cell 2 rfl
      have sz := hbx.2
      clear HA hbx hBr hkn
      go_wp2
      clear s2 sz
      go_loopw [38] (fun i wr => ∃ k : Nat, k ≤ no ∧ i = .int .i64 k ∧ rgK ck cp os k ∧ Bx wr w.heap.size [.int .i64 ck, .slice a1 nc k1, .slice a2 no k2] ∧ Below w.heap.size w wr) (fun i _ => no - (intOf i).toNat)
      case atStart => exact ⟨0, Nat.zero_le _, rfl, ⟨fun o ho => by simp at ho, by simp⟩, HB1.out⟩
      case round =>
        obtain ⟨k, hk, rfl, hall, hbx, hBr⟩ := hrel
        clear HB1
        have HA : Hid (rgK ck cp os k ∧ Bx wr w.heap.size [.int .i64 ck, .slice a1 nc k1, .slice a2 no k2] ∧ Below w.heap.size w wr) := ⟨hall, hbx, hBr⟩
        clear hall
        have s0 := hbx.cell 0 rfl
        have s1 := hbx.cell 1 rfl
        have s2 := hbx.cell 2 rfl
        have sz := hbx.2
        by_cases hlt : k < no
        · have hlx : k < os.length := by have := HNC.out.2; omega
          have hlt' : (k : Int) < (no : Int) := by omega
          have HLE : Hid (Lies wr (.list shRegOp) [.slice a2 os.length k2] os) := HL.out.2.next hBr
          obtain ⟨xg, xoff, xgo, xgs, xec, xel, xhec, xle⟩ := Lies.elem (HLE.out) hlx
          subst xgo
          rcases xX : os[k] with ⟨x0, x1, x2, x3, x4, ⟨x5, x6, x7, ⟨⟩⟩, x8, x9, ⟨⟩⟩
          rw [xX] at xle
          have xH : Hid (os[k] = (x0, x1, x2, x3, x4, (x5, x6, x7, ()), x8, x9, ())) := xX
          clear xX
          obtain ⟨xa1, xk1, xev, xq1⟩ := lies_RegOp xle
          subst xev
          have xc0 : wr.cell? ⟨xg, xoff + k * 10, none⟩ = some (.int .i64 x0) := xhec 0 (by simp)
          have xc1 : wr.cell? ⟨xg, xoff + k * 10 + 1, none⟩ = some (.bool x1) := xhec 1 (by simp)
          have xc2 : wr.cell? ⟨xg, xoff + k * 10 + 2, none⟩ = some (.string x2) := xhec 2 (by simp)
          have xc3 : wr.cell? ⟨xg, xoff + k * 10 + 3, none⟩ = some (.int .i64 x3) := xhec 3 (by simp)
          have xc4 : wr.cell? ⟨xg, xoff + k * 10 + 4, none⟩ = some (.slice xa1 x4.length xk1) := xhec 4 (by simp)
          have xc5 : wr.cell? ⟨xg, xoff + k * 10 + 5, none⟩ = some (.int .i64 x5) := xhec 5 (by simp)
          have xc6 : wr.cell? ⟨xg, xoff + k * 10 + 6, none⟩ = some (.int .i64 x6) := xhec 6 (by simp)
          have xc7 : wr.cell? ⟨xg, xoff + k * 10 + 7, none⟩ = some (.string x7) := xhec 7 (by simp)
          have xc8 : wr.cell? ⟨xg, xoff + k * 10 + 8, none⟩ = some (.int .i64 x8) := xhec 8 (by simp)
          have xc9 : wr.cell? ⟨xg, xoff + k * 10 + 9, none⟩ = some (.int .i64 x9) := xhec 9 (by simp)
          clear xhec xel xle
          have hV := (reg_sizes HZ.out).2.1 os[k] (List.getElem_mem hlx)
          rw [xH.out] at hV
          have HV : Hid (x2.size ≤ maxLen ∧ x7.size ≤ maxLen ∧ x4.length ≤ 1073741824) := ⟨size_text hV.1, size_text hV.2.2, hV.2.1⟩
          obtain ⟨w0, hw0⟩ : ∃ x, x = wr.alloc (.cells #[.int .i64 x0, .bool x1, .string x2, .int .i64 x3, .slice xa1 x4.length xk1, .int .i64 x5, .int .i64 x6, .string x7, .int .i64 x8, .int .i64 x9] 53) := ⟨_, rfl⟩
          have hb0 : Below wr.heap.size wr w0 := hw0 ▸ Go.Joins.below_alloc1 _ _
          have HB1 : Hid (Bx w0 wr.heap.size [.int .i64 x0, .bool x1, .string x2, .int .i64 x3, .slice xa1 x4.length xk1, .int .i64 x5, .int .i64 x6, .string x7, .int .i64 x8, .int .i64 x9] ∧ Bx w0 w.heap.size [.int .i64 ck, .slice a1 nc k1, .slice (some ⟨xg, xoff, none⟩) no k2] ∧ Below w.heap.size w w0 ∧ Lies w0 (.list .int) [.slice xa1 x4.length xk1] x4) := ⟨hw0 ▸ Bx.new wr [_, _, _, _, _, _, _, _, _, _] _, hbx.next hb0, below_next hBr hb0, xq1.next hb0⟩
          clear hbx hBr HLE xq1 hV
          go_wp2_with fail
          rw [← hw0]
          clear hw0 hb0 s0 s1 s2 sz xc0 xc1 xc2 xc3 xc4 xc5 xc6 xc7 xc8 xc9
          refine (isRegOp_n x0 x1 x2 x3 x4 _ _ x5 x6 x7 x8 x9 _ _ HV.out.1 HV.out.2.1 HV.out.2.2 HB1.out.2.2.2).mono ?_
          rintro r w1 ⟨rfl, hb⟩
          have HB2 : Hid (Bx w1 wr.heap.size [.int .i64 x0, .bool x1, .string x2, .int .i64 x3, .slice xa1 x4.length xk1, .int .i64 x5, .int .i64 x6, .string x7, .int .i64 x8, .int .i64 x9] ∧ Bx w1 w.heap.size [.int .i64 ck, .slice a1 nc k1, .slice (some ⟨xg, xoff, none⟩) no k2] ∧ Below w.heap.size w w1) := ⟨HB1.out.1.next hb, HB1.out.2.1.next hb, below_next HB1.out.2.2.1 hb⟩
          clear hb HB1
          by_cases e : ropP nc x0 x1 x2 x3 x4 x5 x6 x7
          case neg =>
            rw [tf_no e]
            have HN : Hid (¬ goodR ck cp os) := Hid.intro (fun q => e (by
              have h1 := q.2.2.2.2.1 os[k] (List.getElem_mem hlx)
              rw [xH.out, ← HNC.out.1] at h1
              exact ((op_parts hnc2).1 h1).1))
            clear e
            go_wp2
            go_ret
            exact ⟨good_none HN.out, HB2.out.2.2⟩
          rw [tf_yes e]
          have d0 := (HB2.out.1).cell 0 rfl; have d1 := (HB2.out.1).cell 1 rfl; have d2 := (HB2.out.1).cell 2 rfl; have d3 := (HB2.out.1).cell 3 rfl; have d4 := (HB2.out.1).cell 4 rfl; have d5 := (HB2.out.1).cell 5 rfl; have d6 := (HB2.out.1).cell 6 rfl; have d7 := (HB2.out.1).cell 7 rfl; have d8 := (HB2.out.1).cell 8 rfl; have d9 := (HB2.out.1).cell 9 rfl; have dz := (HB2.out.1).2
          have s0 := (HB2.out.2.1).cell 0 rfl; have s1 := (HB2.out.2.1).cell 1 rfl; have s2 := (HB2.out.2.1).cell 2 rfl; have sz := (HB2.out.2.1).2
          go_wp2_with fail
          clear d0 d1 d2 d3 d4 d5 d6 d7 d8 d9 dz s0 s1 s2 sz
          refine (isTimed_n _ _ _ _ _ _ _ _ _ _ _ _ _ _ hck.1 hck.2).mono ?_
          rintro r w2 ⟨rfl, hb⟩
          have HB3 : Hid (Bx w2 wr.heap.size [.int .i64 x0, .bool x1, .string x2, .int .i64 x3, .slice xa1 x4.length xk1, .int .i64 x5, .int .i64 x6, .string x7, .int .i64 x8, .int .i64 x9] ∧ Bx w2 w.heap.size [.int .i64 ck, .slice a1 nc k1, .slice (some ⟨xg, xoff, none⟩) no k2] ∧ Below w.heap.size w w2) := ⟨HB2.out.1.next hb, HB2.out.2.1.next hb, below_next HB2.out.2.2 hb⟩
          clear hb HB2
          by_cases e2 : tmdP ck x3 x8 x9
          case neg =>
            rw [tf_no e2]
            have HN : Hid (¬ goodR ck cp os) := Hid.intro (fun q => e2 (by
              have h1 := q.2.2.2.2.1 os[k] (List.getElem_mem hlx)
              rw [xH.out, ← HNC.out.1] at h1
              exact ((op_parts hnc2).1 h1).2))
            clear e2 e
            go_wp2
            go_ret
            exact ⟨good_none HN.out, HB3.out.2.2⟩
          rw [tf_yes e2]
          have HOP : Hid (opP ck cp.length os[k]) := Hid.intro (by rw [xH.out, ← HNC.out.1]; exact (op_parts hnc2).2 ⟨e, e2⟩)
          clear e e2
          by_cases e3 : x3 = 3
          · have e3' : (x3 != 3) = false := by simpa using e3
            have HBY : Hid (∀ o ∈ os.take k, busyP o os[k]) := Hid.intro (fun o ho q => q.2.2 (by rw [xH.out]; exact e3))
            have HK2 : Hid (rgK ck cp os (k + 1)) := Hid.intro ⟨mem_take_succ hlx HA.out.1.1 HOP.out, pair_take_succ hlx HA.out.1.2 HBY.out⟩
            have HB4 : Hid (Bx w2.drew w.heap.size [.int .i64 ck, .slice a1 nc k1, .slice (some ⟨xg, xoff, none⟩) no k2] ∧ Below w.heap.size w w2.drew) := ⟨HB3.out.2.1.next (below_drew _), below_next HB3.out.2.2 (below_drew _)⟩
            clear e3 HBY HOP
            go_upto_region 14 with fail
            refine wp_region_noPanic ?_
            refine wp_region_held_drew (S := fun W => Bx W wr.heap.size [.int .i64 x0, .bool x1, .string x2, .int .i64 x3, .slice xa1 x4.length xk1, .int .i64 x5, .int .i64 x6, .string x7, .int .i64 x8, .int .i64 x9]) (by kernel_rfl) (HB3.out.1.next (below_drew _)) (fun hHeld => ?_)
            refine take_v (v := ?_) 0 ⟨some 56, Op.fieldAddr 53 (Operand.tmp 6) 3, _, _, _, none⟩ rfl (fun _ _ _ h => h) ?_ hHeld ?_
            rotate_left
            · (intro W _; go_simp <;> (try with_reducible rfl))
            refine take_v (v := ?_) 1 ⟨some 57, Op.load 3 (Operand.tmp 56), _, _, _, none⟩ rfl (fun _ _ _ h => h) ?_ hHeld ?_
            rotate_left
            · (intro W hSW; (have s3 := hSW.cell 3 rfl; have sz := hSW.2); go_simp <;> (try with_reducible rfl))
            refine take_v (v := ?_) 2 ⟨some 58, Op.binOp BinOp.neq 3 (Operand.tmp 57) (Operand.const (Value.int IntKind.i64 3)) 3, _, _, _, none⟩ rfl (fun _ _ _ h => h) ?_ hHeld ?_
            rotate_left
            · (intro W _; go_simp <;> (try with_reducible rfl))
            refine take_v (v := ?_) 3 ⟨some 59, Op.move (Operand.tmp 58), _, _, _, none⟩ rfl (fun _ _ _ h => h) ?_ hHeld ?_
            rotate_left
            · (intro W _; go_simp <;> (try with_reducible rfl))
            refine take_n 4 ⟨some 60, Op.fieldAddr 29 (Operand.tmp 1) 2, _, _, _, some (3, true)⟩ rfl (fun _ _ _ h => h) hHeld ?_
            refine take_n 5 ⟨some 61, Op.load 27 (Operand.tmp 60), _, _, _, some (3, true)⟩ rfl (fun _ _ _ h => h) hHeld ?_
            refine take_n 6 ⟨some 62, Op.move (Operand.tmp 5), _, _, _, some (3, true)⟩ rfl (fun _ _ _ h => h) hHeld ?_
            refine take_n 7 ⟨some 63, Op.slice 27 (Operand.tmp 61) none (some (Operand.tmp 62)) none, _, _, _, some (3, true)⟩ rfl (fun _ _ _ h => h) hHeld ?_
            refine take_n 8 ⟨some 64, Op.fieldAddr 53 (Operand.tmp 6) 0, _, _, _, some (3, true)⟩ rfl (fun _ _ _ h => h) hHeld ?_
            refine take_n 9 ⟨some 65, Op.load 3 (Operand.tmp 64), _, _, _, some (3, true)⟩ rfl (fun _ _ _ h => h) hHeld ?_
            refine take_n 10 ⟨some 66, Op.call { callee := Callee.value (Operand.func 58), args := #[Operand.tmp 63, Operand.tmp 65], argTypes := #[27, 3] }, _, _, _, some (3, true)⟩ rfl (fun _ _ _ h => h) hHeld ?_
            refine take_v (v := ?_) 11 ⟨some 67, Op.pick (Operand.tmp 59) (Operand.tmp 66) (Operand.const (Value.bool false)), _, _, _, none⟩ rfl (fun _ _ _ h => h) ?_ hHeld ?_
            rotate_left
            · (intro W _; go_simp <;> (try with_reducible rfl))
            refine wpAnyH_done (by kernel_rfl) ?_ _
            refine NoPanic.normal ?_
            clear hHeld
            go_wp2
            go_roundw
            case rel => exact ⟨k + 1, by omega, by go_num, HK2.out, HB4.out⟩
            case measure => simp [intOf]; omega
          · have e3' : (x3 != 3) = true := by simpa using e3
            have htl : (os.take k).length = k := by rw [List.length_take]; omega
            have HD : Hid (Bx w2.drew wr.heap.size [.int .i64 x0, .bool x1, .string x2, .int .i64 x3, .slice xa1 x4.length xk1, .int .i64 x5, .int .i64 x6, .string x7, .int .i64 x8, .int .i64 x9] ∧ Bx w2.drew w.heap.size [.int .i64 ck, .slice a1 nc k1, .slice (some ⟨xg, xoff, none⟩) no k2] ∧ Below w.heap.size w w2.drew) := ⟨HB3.out.1.next (below_drew _), HB3.out.2.1.next (below_drew _), below_next HB3.out.2.2 (below_drew _)⟩
            have HCC : Hid (Calls Try.prog 58 #[.slice (some ⟨xg, xoff, none⟩) k k2, .int .i64 x0] w2.drew fun r w' => r = .returned (.bool (tf (bsyP (os.take k) x0))) ∧ Below w2.drew.heap.size w2.drew w') := Hid.intro (by
              have h1 := (HL.out.2.next HD.out.2.2).take k (by omega)
              have := isBusy_n (some ⟨xg, xoff, none⟩) k2 (os.take k) x0 w2.drew (by omega) (by rw [htl]; exact h1)
              rwa [htl] at this)
            have HX3 : Hid (x3 ≠ 3) := e3
            have hkk : k ≤ k2 := by omega
            clear e3 htl HB3
            go_upto_region 14 with fail
            refine wp_region_noPanic ?_
            refine wp_region_held_drew (S := fun W => Bx W wr.heap.size [.int .i64 x0, .bool x1, .string x2, .int .i64 x3, .slice xa1 x4.length xk1, .int .i64 x5, .int .i64 x6, .string x7, .int .i64 x8, .int .i64 x9] ∧ Bx W w.heap.size [.int .i64 ck, .slice a1 nc k1, .slice (some ⟨xg, xoff, none⟩) no k2]) (by kernel_rfl) ⟨HD.out.1, HD.out.2.1⟩ (fun hHeld => ?_)
            refine take_v (v := ?_) 0 ⟨some 56, Op.fieldAddr 53 (Operand.tmp 6) 3, _, _, _, none⟩ rfl (fun _ _ _ h => h) ?_ hHeld ?_
            rotate_left
            · (intro W _; go_simp <;> (try with_reducible rfl))
            refine take_v (v := ?_) 1 ⟨some 57, Op.load 3 (Operand.tmp 56), _, _, _, none⟩ rfl (fun _ _ _ h => h) ?_ hHeld ?_
            rotate_left
            · (intro W hSW; (have s0 := hSW.1.cell 0 rfl; have s3 := hSW.1.cell 3 rfl; have sz := hSW.1.2; have r2 := hSW.2.cell 2 rfl; have rz := hSW.2.2); go_simp <;> (try with_reducible rfl))
            refine take_v (v := ?_) 2 ⟨some 58, Op.binOp BinOp.neq 3 (Operand.tmp 57) (Operand.const (Value.int IntKind.i64 3)) 3, _, _, _, none⟩ rfl (fun _ _ _ h => h) ?_ hHeld ?_
            rotate_left
            · (intro W _; go_simp <;> (try with_reducible rfl))
            refine take_v (v := ?_) 3 ⟨some 59, Op.move (Operand.tmp 58), _, _, _, none⟩ rfl (fun _ _ _ h => h) ?_ hHeld ?_
            rotate_left
            · (intro W _; go_simp <;> (try with_reducible rfl))
            refine take_v (v := ?_) 4 ⟨some 60, Op.fieldAddr 29 (Operand.tmp 1) 2, _, _, _, some (3, true)⟩ rfl (fun _ _ _ h => h) ?_ hHeld ?_
            rotate_left
            · (intro W _; go_simp <;> (try with_reducible rfl))
            refine take_v (v := ?_) 5 ⟨some 61, Op.load 27 (Operand.tmp 60), _, _, _, some (3, true)⟩ rfl (fun _ _ _ h => h) ?_ hHeld ?_
            rotate_left
            · (intro W hSW; (have s0 := hSW.1.cell 0 rfl; have s3 := hSW.1.cell 3 rfl; have sz := hSW.1.2; have r2 := hSW.2.cell 2 rfl; have rz := hSW.2.2); go_simp <;> (try with_reducible rfl))
            refine take_v (v := ?_) 6 ⟨some 62, Op.move (Operand.tmp 5), _, _, _, some (3, true)⟩ rfl (fun _ _ _ h => h) ?_ hHeld ?_
            rotate_left
            · (intro W _; go_simp <;> (try with_reducible rfl))
            refine take_v (v := ?_) 7 ⟨some 63, Op.slice 27 (Operand.tmp 61) none (some (Operand.tmp 62)) none, _, _, _, some (3, true)⟩ rfl (fun _ _ _ h => h) ?_ hHeld ?_
            rotate_left
            · (intro W _; go_simp <;> (try with_reducible rfl))
            refine take_v (v := ?_) 8 ⟨some 64, Op.fieldAddr 53 (Operand.tmp 6) 0, _, _, _, some (3, true)⟩ rfl (fun _ _ _ h => h) ?_ hHeld ?_
            rotate_left
            · (intro W _; go_simp <;> (try with_reducible rfl))
            refine take_v (v := ?_) 9 ⟨some 65, Op.load 3 (Operand.tmp 64), _, _, _, some (3, true)⟩ rfl (fun _ _ _ h => h) ?_ hHeld ?_
            rotate_left
            · (intro W hSW; (have s0 := hSW.1.cell 0 rfl; have s3 := hSW.1.cell 3 rfl; have sz := hSW.1.2; have r2 := hSW.2.cell 2 rfl; have rz := hSW.2.2); go_simp <;> (try with_reducible rfl))
            refine ready_call 10 ⟨some 66, Op.call { callee := Callee.value (Operand.func 58), args := #[Operand.tmp 63, Operand.tmp 65], argTypes := #[27, 3] }, _, _, _, some (3, true)⟩ (by kernel_rfl) rfl (by kernel_rfl) (fun KC hK => ?_)
            go_wp2_with fail
            refine HCC.out.mono ?_
            rintro r w3 ⟨rfl, hb⟩
            have HB4 : Hid (Bx w3 wr.heap.size [.int .i64 x0, .bool x1, .string x2, .int .i64 x3, .slice xa1 x4.length xk1, .int .i64 x5, .int .i64 x6, .string x7, .int .i64 x8, .int .i64 x9] ∧ Bx w3 w.heap.size [.int .i64 ck, .slice a1 nc k1, .slice (some ⟨xg, xoff, none⟩) no k2] ∧ Below w.heap.size w w3) := ⟨HD.out.1.next hb, HD.out.2.1.next hb, below_next HD.out.2.2 hb⟩
            clear hb
            refine hK.out _ _ ⟨HB4.out.1, HB4.out.2.1⟩ (fun hHeld => ?_)
            clear hK KC
            refine take_v (v := ?_) 11 ⟨some 67, Op.pick (Operand.tmp 59) (Operand.tmp 66) (Operand.const (Value.bool false)), _, _, _, none⟩ rfl (fun _ _ _ h => h) ?_ hHeld ?_
            rotate_left
            · (intro W _; go_simp <;> (try with_reducible rfl))
            refine wpAnyH_done (by kernel_rfl) ?_ _
            refine NoPanic.normal ?_
            clear hHeld
            by_cases e4 : bsyP (os.take k) x0
            · rw [tf_yes e4]
              have HN : Hid (¬ goodR ck cp os) := Hid.intro (fun q => by
                obtain ⟨o, ho, h1, h2⟩ := e4
                refine pair_take_no (R := prP) hlx ho (fun q2 => q2.1 ⟨?_, h2, ?_⟩) q.2.2.2.2.2
                · rw [h1, xH.out]; rfl
                · rw [xH.out]; exact HX3.out)
              clear e4
              go_wp2
              go_ret
              exact ⟨good_none HN.out, HB4.out.2.2⟩
            · rw [tf_no e4]
              have HK2 : Hid (rgK ck cp os (k + 1)) := Hid.intro ⟨mem_take_succ hlx HA.out.1.1 HOP.out, pair_take_succ hlx HA.out.1.2 (fun o ho q => e4 ⟨o, ho, by have := q.1; rw [xH.out] at this; exact this, q.2.1⟩)⟩
              clear e4
              go_wp2
              go_roundw
              case rel => exact ⟨k + 1, by omega, by go_num, HK2.out, HB4.out.2⟩
              case measure => simp [intOf]; omega
        · have hkn : k = no := by omega
          have HK2 : Hid ((∀ o ∈ os, opP ck cp.length o) ∧ os.Pairwise busyP) := Hid.intro (by have := HA.out.1; unfold rgK at this; rwa [hkn, HNC.out.2, List.take_length] at this)
          have HLE : Hid (Lies wr (.list shRegOp) [.slice a2 os.length k2] os) := HL.out.2.next hBr
          have HCC : Hid (Calls Try.prog 60 #[.slice a2 no k2] wr fun r w' => (∃ a' cap', r = .returned (.slice a' (tmL os).length cap') ∧ (tmL os).length ≤ cap' ∧ cap' ≤ 9223372036854775807 ∧ Lies w' (.list .int) [.slice a' (tmL os).length cap'] (tmL os)) ∧ Below wr.heap.size wr w') := Hid.intro (by
            have := timesOf_n a2 k2 os wr (by have := HNC.out.2; omega) HLE.out
            rwa [← HNC.out.2] at this)
          have HTL : Hid ((tmL os).length ≤ 1000) := Hid.intro (by have := tm_len os; have := HNC.out.2; omega)
          have HBB := (show Hid (Below w.heap.size w wr) from hBr)
          clear hkn hbx hBr HLE
          go_wp2_with fail
          refine HCC.out.mono ?_
          rintro r w1 ⟨⟨a3, c3, rfl, hc1, hc2, hl3⟩, hb⟩
          have HB4 : Hid (Below w.heap.size w w1) := below_next HBB.out hb
          have HL3 : Hid (Lies w1 (.list .int) [.slice a3 (tmL os).length c3] (tmL os)) := hl3
          clear hb hl3 s0 s1 s2 sz
          go_wp2_with fail
          refine (areUnlike_n _ _ (tmL os) _ HTL.out hc1 hc2 HL3.out).mono ?_
          rintro r w2 ⟨rfl, hw⟩
          have hw := hw.symm
          subst hw
          have HF : Hid (tf (tmL os).Nodup = tf (goodR ck cp os)) := Hid.intro (tf_eq (by
            have hu := unlike_iff HK2.out.1
            constructor
            · intro q
              refine ⟨inR_iff.1 HC.out.1, ?_, by have := HNC.out.2; omega, HCP.out, HK2.out.1, hu.1 ⟨HK2.out.2, q⟩⟩
              have := inR_iff.1 HC.out.2
              have := HNC.out.1
              omega
            · intro q
              exact (hu.2 q.2.2.2.2.2).2))
          generalize tf (tmL os).Nodup = z at *
          go_wp2
          go_ret
          exact ⟨ret_bool HF.out, HB4.out⟩
end Go.Proofs.Ytaofolbnommpgaa
