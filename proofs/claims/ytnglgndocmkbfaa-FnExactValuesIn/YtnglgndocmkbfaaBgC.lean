/- Bags: the specification's l14Adds. Written by tools/mkBgA.py. -/
import Derived.Test.YtnglgndocmkbfaaBgA
namespace Go.Proofs.Ytnglgndocmkbfaa
open Go.RowKit
set_option linter.unusedVariables false
set_option linter.unusedSimpArgs false

set_option maxRecDepth 100000 in
set_option maxHeartbeats 4000000 in
theorem l14Adds_n (s : Option Addr) (cap : Nat) (l : List AdV) (w : World) (hn : smlA l) (h : Lies w (.list shAdd) [.slice s l.length cap] l) :
    Calls Try.prog 101 #[.slice s l.length cap] w fun r w' => r = .returned (.bool (tf (adsP l))) ∧ Below w.heap.size w w' := by
  have HL := Hid.intro h
  have HS := Hid.intro hn
  have hnl := hn.1
  clear h hn
  go_enter Try.func101, Try.ntmps101
  go_wp2
  go_loopw [7] (fun i wr => ∃ k : Nat, k ≤ l.length ∧ i = .int .i64 k ∧ adsK l k ∧ Below w.heap.size w wr) (fun i _ => l.length - (intOf i).toNat)
  case atStart => exact ⟨0, Nat.zero_le _, rfl, adsK_zero l, Below.refl _ _⟩
  case round =>
    obtain ⟨k, hk, rfl, hall, hBr⟩ := hrel
    have HA : Hid (adsK l k ∧ Below w.heap.size w wr) := ⟨hall, hBr⟩
    clear hall hBr
    by_cases hlt : k < l.length
    case neg =>
      have hkl : k = l.length := by omega
      subst hkl
      by_cases h40 : (l.length : Int) ≤ 40
      · have HN : Hid (tf (adsP l) = true) := tf_yes ⟨by omega, HA.out.1⟩
        go_wp2
        go_ret
        exact ⟨ret_bool HN.out.symm, HA.out.2⟩
      · have HN : Hid (tf (adsP l) = false) := tf_no (fun q => by have := q.1; omega)
        go_wp2
        go_ret
        exact ⟨ret_bool HN.out.symm, HA.out.2⟩
    have hlt' : (k : Int) < (l.length : Int) := by omega
    have HLE : Hid (Lies wr (.list shAdd) [.slice s l.length cap] l) := HL.out.next HA.out.2
    have HV : Hid (l[k].1.size ≤ maxLen) := Hid.intro (by have := HS.out.2 k hlt; unfold maxLen; omega)
    obtain ⟨xg, xoff, xgo, xgs, xec, xel, xhec, xle⟩ := Lies.elem (HLE.out) hlt
    subst xgo
    rcases xX : l[k] with ⟨x0, x1, x2, ⟨⟩⟩
    rw [xX] at xle
    have xH : Hid (l[k] = (x0, x1, x2, ())) := xX
    clear xX
    obtain xev := lies_Add xle
    subst xev
    have xc0 : wr.cell? ⟨xg, xoff + k * 3, none⟩ = some (.string x0) := xhec 0 (by simp)
    have xc1 : wr.cell? ⟨xg, xoff + k * 3 + 1, none⟩ = some (.int .i64 x1) := xhec 1 (by simp)
    have xc2 : wr.cell? ⟨xg, xoff + k * 3 + 2, none⟩ = some (.int .i64 x2) := xhec 2 (by simp)
    clear xhec xel xle
    rw [xH.out] at HV
    have HV : Hid (x0.size ≤ maxLen) := HV
    have HP : Hid (addB x0 x1 x2 = true ↔ addP l[k]) := Hid.intro (by rw [xH.out]; exact Iff.rfl)
    obtain ⟨w1, hw1⟩ : ∃ q, q = wr.alloc (.cells #[.string x0, .int .i64 x1, .int .i64 x2] 113) := ⟨_, rfl⟩
    have hb1 : Below wr.heap.size wr w1 := hw1 ▸ Go.Joins.below_alloc1 _ _
    have H1 : Hid (Bx w1 wr.heap.size [.string x0, .int .i64 x1, .int .i64 x2] ∧ Below w.heap.size w w1) := ⟨hw1 ▸ Bx.new wr [_, _, _] _, below_next HA.out.2 hb1⟩
    have HD : Hid (Bx w1.drew wr.heap.size [.string x0, .int .i64 x1, .int .i64 x2] ∧ Below w.heap.size w w1.drew) := ⟨H1.out.1.next (below_drew _), H1.out.2.drew⟩
    cases e1 : valOk x0
    · have HC : Hid (valOk x0 = false) := e1
      have HN : Hid (tf (adsP l) = false) := tf_no (fun q => by have q1 := HP.out.2 (q.2 k hlt hlt).1; unfold addB at q1; rw [e1] at q1; cases q1)
      clear e1
      have s0 := (H1.out.1).cell 0 rfl
      have s1 := (H1.out.1).cell 1 rfl
      have s2 := (H1.out.1).cell 2 rfl
      have sz := (H1.out.1).2
      go_upto_region 4 with fail
      rw [← hw1]
      clear hw1 s0 s1 s2 sz xc0 xc1 xc2
      refine wp_region_noPanic ?_
      refine wp_region_held_drew (S := fun W => Bx W wr.heap.size [.string x0, .int .i64 x1, .int .i64 x2]) (by kernel_rfl) HD.out.1 (fun hHeld => ?_)
      refine take_v (v := ?_) 0 ⟨some 12, Op.fieldAddr 113 (Operand.tmp 4) 0, _, _, _, none⟩ rfl (fun _ _ _ h => h) ?_ hHeld ?_
      rotate_left
      · (intro W _; go_simp <;> (try with_reducible rfl))
      refine take_v (v := ?_) 1 ⟨some 13, Op.load 9 (Operand.tmp 12), _, _, _, none⟩ rfl (fun _ _ _ h => h) ?_ hHeld ?_
      rotate_left
      · (intro W hSW; (have s0 := hSW.cell 0 rfl; have s1 := hSW.cell 1 rfl; have s2 := hSW.cell 2 rfl; have sz := hSW.2); go_simp <;> (try with_reducible rfl))
      refine ready_call 2 ⟨some 14, Op.call { callee := Callee.value (Operand.func 118), args := #[Operand.tmp 13], argTypes := #[9] }, _, _, _, none⟩ (by kernel_rfl) rfl (by kernel_rfl) (fun KC hK => ?_)
      go_wp2_with fail
      refine (HC.out ▸ l1Value_any x0 _ HV.out).mono ?_
      rintro r w' ⟨rfl, hw⟩
      have hw := hw.symm
      subst hw
      refine hK.out _ _ HD.out.1 (fun hHeld => ?_)
      clear hK KC
      refine take_v (v := ?_) 3 ⟨some 15, Op.unOp UnOp.not 4 (Operand.tmp 14), _, _, _, none⟩ rfl (fun _ _ _ h => h) ?_ hHeld ?_
      rotate_left
      · (intro W _; go_simp <;> (try with_reducible rfl))
      refine take_v (v := ?_) 4 ⟨some 16, Op.move (Operand.tmp 15), _, _, _, none⟩ rfl (fun _ _ _ h => h) ?_ hHeld ?_
      rotate_left
      · (intro W _; go_simp <;> (try with_reducible rfl))
      refine take_n 5 ⟨some 17, Op.fieldAddr 113 (Operand.tmp 4) 1, _, _, _, some (4, false)⟩ rfl (fun _ _ _ h => h) hHeld ?_
      refine take_n 6 ⟨some 18, Op.load 3 (Operand.tmp 17), _, _, _, some (4, false)⟩ rfl (fun _ _ _ h => h) hHeld ?_
      refine take_n 7 ⟨some 19, Op.call { callee := Callee.value (Operand.func 68), args := #[Operand.tmp 18, Operand.const (Value.int IntKind.i64 0), Operand.const (Value.int IntKind.i64 5)], argTypes := #[3, 3, 3] }, _, _, _, some (4, false)⟩ rfl (fun _ _ _ h => h) hHeld ?_
      refine take_n 8 ⟨some 20, Op.unOp UnOp.not 4 (Operand.tmp 19), _, _, _, some (4, false)⟩ rfl (fun _ _ _ h => h) hHeld ?_
      refine take_v (v := ?_) 9 ⟨some 21, Op.pick (Operand.tmp 16) (Operand.const (Value.bool true)) (Operand.tmp 20), _, _, _, none⟩ rfl (fun _ _ _ h => h) ?_ hHeld ?_
      rotate_left
      · (intro W _; go_simp <;> (try with_reducible rfl))
      refine take_v (v := ?_) 10 ⟨some 22, Op.move (Operand.tmp 21), _, _, _, none⟩ rfl (fun _ _ _ h => h) ?_ hHeld ?_
      rotate_left
      · (intro W _; go_simp <;> (try with_reducible rfl))
      refine take_n 11 ⟨some 23, Op.fieldAddr 113 (Operand.tmp 4) 2, _, _, _, some (10, false)⟩ rfl (fun _ _ _ h => h) hHeld ?_
      refine take_n 12 ⟨some 24, Op.load 3 (Operand.tmp 23), _, _, _, some (10, false)⟩ rfl (fun _ _ _ h => h) hHeld ?_
      refine take_n 13 ⟨some 25, Op.call { callee := Callee.value (Operand.func 68), args := #[Operand.tmp 24, Operand.const (Value.int IntKind.i64 1), Operand.const (Value.int IntKind.i64 1000)], argTypes := #[3, 3, 3] }, _, _, _, some (10, false)⟩ rfl (fun _ _ _ h => h) hHeld ?_
      refine take_n 14 ⟨some 26, Op.unOp UnOp.not 4 (Operand.tmp 25), _, _, _, some (10, false)⟩ rfl (fun _ _ _ h => h) hHeld ?_
      refine take_v (v := ?_) 15 ⟨some 27, Op.pick (Operand.tmp 22) (Operand.const (Value.bool true)) (Operand.tmp 26), _, _, _, none⟩ rfl (fun _ _ _ h => h) ?_ hHeld ?_
      rotate_left
      · (intro W _; go_simp <;> (try with_reducible rfl))
      refine take_v (v := ?_) 16 ⟨some 28, Op.move (Operand.tmp 27), _, _, _, none⟩ rfl (fun _ _ _ h => h) ?_ hHeld ?_
      rotate_left
      · (intro W _; go_simp <;> (try with_reducible rfl))
      refine take_n 17 ⟨some 29, Op.move (Operand.tmp 3), _, _, _, some (16, false)⟩ rfl (fun _ _ _ h => h) hHeld ?_
      refine take_n 18 ⟨some 30, Op.binOp BinOp.gtr 3 (Operand.tmp 29) (Operand.const (Value.int IntKind.i64 0)) 3, _, _, _, some (16, false)⟩ rfl (fun _ _ _ h => h) hHeld ?_
      refine take_n 19 ⟨some 31, Op.move (Operand.tmp 30), _, _, _, some (16, false)⟩ rfl (fun _ _ _ h => h) hHeld ?_
      refine take_n 20 ⟨some 32, Op.move (Operand.tmp 0), _, _, _, some (19, true)⟩ rfl (fun _ _ _ h => h) hHeld ?_
      refine take_n 21 ⟨some 33, Op.move (Operand.tmp 3), _, _, _, some (19, true)⟩ rfl (fun _ _ _ h => h) hHeld ?_
      refine take_n 22 ⟨some 34, Op.binOp BinOp.sub 3 (Operand.tmp 33) (Operand.const (Value.int IntKind.i64 1)) 3, _, _, _, some (19, true)⟩ rfl (fun _ _ _ h => h) hHeld ?_
      refine take_n 23 ⟨some 35, Op.indexAddr 44 (Operand.tmp 32) (Operand.tmp 34), _, _, _, some (19, true)⟩ rfl (fun _ _ _ h => h) hHeld ?_
      refine take_n 24 ⟨some 36, Op.load 113 (Operand.tmp 35), _, _, _, some (19, true)⟩ rfl (fun _ _ _ h => h) hHeld ?_
      refine take_n 25 ⟨some 37, Op.load 113 (Operand.tmp 4), _, _, _, some (19, true)⟩ rfl (fun _ _ _ h => h) hHeld ?_
      refine take_n 26 ⟨some 38, Op.call { callee := Callee.value (Operand.func 123), args := #[Operand.tmp 36, Operand.tmp 37], argTypes := #[113, 113] }, _, _, _, some (19, true)⟩ rfl (fun _ _ _ h => h) hHeld ?_
      refine take_n 27 ⟨some 39, Op.unOp UnOp.not 4 (Operand.tmp 38), _, _, _, some (19, true)⟩ rfl (fun _ _ _ h => h) hHeld ?_
      refine take_n 28 ⟨some 40, Op.pick (Operand.tmp 31) (Operand.tmp 39) (Operand.const (Value.bool false)), _, _, _, some (16, false)⟩ rfl (fun _ _ _ h => h) hHeld ?_
      refine take_v (v := ?_) 29 ⟨some 41, Op.pick (Operand.tmp 28) (Operand.const (Value.bool true)) (Operand.tmp 40), _, _, _, none⟩ rfl (fun _ _ _ h => h) ?_ hHeld ?_
      rotate_left
      · (intro W _; go_simp <;> (try with_reducible rfl))
      refine wpAnyH_done (by kernel_rfl) ?_ _
      refine NoPanic.normal ?_
      clear hHeld
      go_wp2
      go_ret
      exact ⟨ret_bool HN.out.symm, HD.out.2⟩
    have HC : Hid (valOk x0 = true) := e1
    clear e1
    cases e2 : inR x1 0 5
    · have HC2 : Hid (inR x1 0 5 = false) := e2
      have HN : Hid (tf (adsP l) = false) := tf_no (fun q => by have q1 := HP.out.2 (q.2 k hlt hlt).1; unfold addB at q1; rw [HC.out, e2] at q1; cases q1)
      clear e2
      have s0 := (H1.out.1).cell 0 rfl
      have s1 := (H1.out.1).cell 1 rfl
      have s2 := (H1.out.1).cell 2 rfl
      have sz := (H1.out.1).2
      go_upto_region 4 with fail
      rw [← hw1]
      clear hw1 s0 s1 s2 sz xc0 xc1 xc2
      refine wp_region_noPanic ?_
      refine wp_region_held_drew (S := fun W => Bx W wr.heap.size [.string x0, .int .i64 x1, .int .i64 x2]) (by kernel_rfl) HD.out.1 (fun hHeld => ?_)
      refine take_v (v := ?_) 0 ⟨some 12, Op.fieldAddr 113 (Operand.tmp 4) 0, _, _, _, none⟩ rfl (fun _ _ _ h => h) ?_ hHeld ?_
      rotate_left
      · (intro W _; go_simp <;> (try with_reducible rfl))
      refine take_v (v := ?_) 1 ⟨some 13, Op.load 9 (Operand.tmp 12), _, _, _, none⟩ rfl (fun _ _ _ h => h) ?_ hHeld ?_
      rotate_left
      · (intro W hSW; (have s0 := hSW.cell 0 rfl; have s1 := hSW.cell 1 rfl; have s2 := hSW.cell 2 rfl; have sz := hSW.2); go_simp <;> (try with_reducible rfl))
      refine ready_call 2 ⟨some 14, Op.call { callee := Callee.value (Operand.func 118), args := #[Operand.tmp 13], argTypes := #[9] }, _, _, _, none⟩ (by kernel_rfl) rfl (by kernel_rfl) (fun KC hK => ?_)
      go_wp2_with fail
      refine (HC.out ▸ l1Value_any x0 _ HV.out).mono ?_
      rintro r w' ⟨rfl, hw⟩
      have hw := hw.symm
      subst hw
      refine hK.out _ _ HD.out.1 (fun hHeld => ?_)
      clear hK KC
      refine take_v (v := ?_) 3 ⟨some 15, Op.unOp UnOp.not 4 (Operand.tmp 14), _, _, _, none⟩ rfl (fun _ _ _ h => h) ?_ hHeld ?_
      rotate_left
      · (intro W _; go_simp <;> (try with_reducible rfl))
      refine take_v (v := ?_) 4 ⟨some 16, Op.move (Operand.tmp 15), _, _, _, none⟩ rfl (fun _ _ _ h => h) ?_ hHeld ?_
      rotate_left
      · (intro W _; go_simp <;> (try with_reducible rfl))
      refine take_v (v := ?_) 5 ⟨some 17, Op.fieldAddr 113 (Operand.tmp 4) 1, _, _, _, some (4, false)⟩ rfl (fun _ _ _ h => h) ?_ hHeld ?_
      rotate_left
      · (intro W _; go_simp <;> (try with_reducible rfl))
      refine take_v (v := ?_) 6 ⟨some 18, Op.load 3 (Operand.tmp 17), _, _, _, some (4, false)⟩ rfl (fun _ _ _ h => h) ?_ hHeld ?_
      rotate_left
      · (intro W hSW; (have s0 := hSW.cell 0 rfl; have s1 := hSW.cell 1 rfl; have s2 := hSW.cell 2 rfl; have sz := hSW.2); go_simp <;> (try with_reducible rfl))
      refine ready_call 7 ⟨some 19, Op.call { callee := Callee.value (Operand.func 68), args := #[Operand.tmp 18, Operand.const (Value.int IntKind.i64 0), Operand.const (Value.int IntKind.i64 5)], argTypes := #[3, 3, 3] }, _, _, _, some (4, false)⟩ (by kernel_rfl) rfl (by kernel_rfl) (fun KC hK => ?_)
      go_wp2_with fail
      refine (HC2.out ▸ l1In_any x1 0 5 _).mono ?_
      rintro r w' ⟨rfl, hw⟩
      have hw := hw.symm
      subst hw
      refine hK.out _ _ HD.out.1 (fun hHeld => ?_)
      clear hK KC
      refine take_v (v := ?_) 8 ⟨some 20, Op.unOp UnOp.not 4 (Operand.tmp 19), _, _, _, some (4, false)⟩ rfl (fun _ _ _ h => h) ?_ hHeld ?_
      rotate_left
      · (intro W _; go_simp <;> (try with_reducible rfl))
      refine take_v (v := ?_) 9 ⟨some 21, Op.pick (Operand.tmp 16) (Operand.const (Value.bool true)) (Operand.tmp 20), _, _, _, none⟩ rfl (fun _ _ _ h => h) ?_ hHeld ?_
      rotate_left
      · (intro W _; go_simp <;> (try with_reducible rfl))
      refine take_v (v := ?_) 10 ⟨some 22, Op.move (Operand.tmp 21), _, _, _, none⟩ rfl (fun _ _ _ h => h) ?_ hHeld ?_
      rotate_left
      · (intro W _; go_simp <;> (try with_reducible rfl))
      refine take_n 11 ⟨some 23, Op.fieldAddr 113 (Operand.tmp 4) 2, _, _, _, some (10, false)⟩ rfl (fun _ _ _ h => h) hHeld ?_
      refine take_n 12 ⟨some 24, Op.load 3 (Operand.tmp 23), _, _, _, some (10, false)⟩ rfl (fun _ _ _ h => h) hHeld ?_
      refine take_n 13 ⟨some 25, Op.call { callee := Callee.value (Operand.func 68), args := #[Operand.tmp 24, Operand.const (Value.int IntKind.i64 1), Operand.const (Value.int IntKind.i64 1000)], argTypes := #[3, 3, 3] }, _, _, _, some (10, false)⟩ rfl (fun _ _ _ h => h) hHeld ?_
      refine take_n 14 ⟨some 26, Op.unOp UnOp.not 4 (Operand.tmp 25), _, _, _, some (10, false)⟩ rfl (fun _ _ _ h => h) hHeld ?_
      refine take_v (v := ?_) 15 ⟨some 27, Op.pick (Operand.tmp 22) (Operand.const (Value.bool true)) (Operand.tmp 26), _, _, _, none⟩ rfl (fun _ _ _ h => h) ?_ hHeld ?_
      rotate_left
      · (intro W _; go_simp <;> (try with_reducible rfl))
      refine take_v (v := ?_) 16 ⟨some 28, Op.move (Operand.tmp 27), _, _, _, none⟩ rfl (fun _ _ _ h => h) ?_ hHeld ?_
      rotate_left
      · (intro W _; go_simp <;> (try with_reducible rfl))
      refine take_n 17 ⟨some 29, Op.move (Operand.tmp 3), _, _, _, some (16, false)⟩ rfl (fun _ _ _ h => h) hHeld ?_
      refine take_n 18 ⟨some 30, Op.binOp BinOp.gtr 3 (Operand.tmp 29) (Operand.const (Value.int IntKind.i64 0)) 3, _, _, _, some (16, false)⟩ rfl (fun _ _ _ h => h) hHeld ?_
      refine take_n 19 ⟨some 31, Op.move (Operand.tmp 30), _, _, _, some (16, false)⟩ rfl (fun _ _ _ h => h) hHeld ?_
      refine take_n 20 ⟨some 32, Op.move (Operand.tmp 0), _, _, _, some (19, true)⟩ rfl (fun _ _ _ h => h) hHeld ?_
      refine take_n 21 ⟨some 33, Op.move (Operand.tmp 3), _, _, _, some (19, true)⟩ rfl (fun _ _ _ h => h) hHeld ?_
      refine take_n 22 ⟨some 34, Op.binOp BinOp.sub 3 (Operand.tmp 33) (Operand.const (Value.int IntKind.i64 1)) 3, _, _, _, some (19, true)⟩ rfl (fun _ _ _ h => h) hHeld ?_
      refine take_n 23 ⟨some 35, Op.indexAddr 44 (Operand.tmp 32) (Operand.tmp 34), _, _, _, some (19, true)⟩ rfl (fun _ _ _ h => h) hHeld ?_
      refine take_n 24 ⟨some 36, Op.load 113 (Operand.tmp 35), _, _, _, some (19, true)⟩ rfl (fun _ _ _ h => h) hHeld ?_
      refine take_n 25 ⟨some 37, Op.load 113 (Operand.tmp 4), _, _, _, some (19, true)⟩ rfl (fun _ _ _ h => h) hHeld ?_
      refine take_n 26 ⟨some 38, Op.call { callee := Callee.value (Operand.func 123), args := #[Operand.tmp 36, Operand.tmp 37], argTypes := #[113, 113] }, _, _, _, some (19, true)⟩ rfl (fun _ _ _ h => h) hHeld ?_
      refine take_n 27 ⟨some 39, Op.unOp UnOp.not 4 (Operand.tmp 38), _, _, _, some (19, true)⟩ rfl (fun _ _ _ h => h) hHeld ?_
      refine take_n 28 ⟨some 40, Op.pick (Operand.tmp 31) (Operand.tmp 39) (Operand.const (Value.bool false)), _, _, _, some (16, false)⟩ rfl (fun _ _ _ h => h) hHeld ?_
      refine take_v (v := ?_) 29 ⟨some 41, Op.pick (Operand.tmp 28) (Operand.const (Value.bool true)) (Operand.tmp 40), _, _, _, none⟩ rfl (fun _ _ _ h => h) ?_ hHeld ?_
      rotate_left
      · (intro W _; go_simp <;> (try with_reducible rfl))
      refine wpAnyH_done (by kernel_rfl) ?_ _
      refine NoPanic.normal ?_
      clear hHeld
      go_wp2
      go_ret
      exact ⟨ret_bool HN.out.symm, HD.out.2⟩
    have HC2 : Hid (inR x1 0 5 = true) := e2
    clear e2
    cases e3 : inR x2 1 1000
    · have HC3 : Hid (inR x2 1 1000 = false) := e3
      have HN : Hid (tf (adsP l) = false) := tf_no (fun q => by have q1 := HP.out.2 (q.2 k hlt hlt).1; unfold addB at q1; rw [HC.out, HC2.out, e3] at q1; cases q1)
      clear e3
      have s0 := (H1.out.1).cell 0 rfl
      have s1 := (H1.out.1).cell 1 rfl
      have s2 := (H1.out.1).cell 2 rfl
      have sz := (H1.out.1).2
      go_upto_region 4 with fail
      rw [← hw1]
      clear hw1 s0 s1 s2 sz xc0 xc1 xc2
      refine wp_region_noPanic ?_
      refine wp_region_held_drew (S := fun W => Bx W wr.heap.size [.string x0, .int .i64 x1, .int .i64 x2]) (by kernel_rfl) HD.out.1 (fun hHeld => ?_)
      refine take_v (v := ?_) 0 ⟨some 12, Op.fieldAddr 113 (Operand.tmp 4) 0, _, _, _, none⟩ rfl (fun _ _ _ h => h) ?_ hHeld ?_
      rotate_left
      · (intro W _; go_simp <;> (try with_reducible rfl))
      refine take_v (v := ?_) 1 ⟨some 13, Op.load 9 (Operand.tmp 12), _, _, _, none⟩ rfl (fun _ _ _ h => h) ?_ hHeld ?_
      rotate_left
      · (intro W hSW; (have s0 := hSW.cell 0 rfl; have s1 := hSW.cell 1 rfl; have s2 := hSW.cell 2 rfl; have sz := hSW.2); go_simp <;> (try with_reducible rfl))
      refine ready_call 2 ⟨some 14, Op.call { callee := Callee.value (Operand.func 118), args := #[Operand.tmp 13], argTypes := #[9] }, _, _, _, none⟩ (by kernel_rfl) rfl (by kernel_rfl) (fun KC hK => ?_)
      go_wp2_with fail
      refine (HC.out ▸ l1Value_any x0 _ HV.out).mono ?_
      rintro r w' ⟨rfl, hw⟩
      have hw := hw.symm
      subst hw
      refine hK.out _ _ HD.out.1 (fun hHeld => ?_)
      clear hK KC
      refine take_v (v := ?_) 3 ⟨some 15, Op.unOp UnOp.not 4 (Operand.tmp 14), _, _, _, none⟩ rfl (fun _ _ _ h => h) ?_ hHeld ?_
      rotate_left
      · (intro W _; go_simp <;> (try with_reducible rfl))
      refine take_v (v := ?_) 4 ⟨some 16, Op.move (Operand.tmp 15), _, _, _, none⟩ rfl (fun _ _ _ h => h) ?_ hHeld ?_
      rotate_left
      · (intro W _; go_simp <;> (try with_reducible rfl))
      refine take_v (v := ?_) 5 ⟨some 17, Op.fieldAddr 113 (Operand.tmp 4) 1, _, _, _, some (4, false)⟩ rfl (fun _ _ _ h => h) ?_ hHeld ?_
      rotate_left
      · (intro W _; go_simp <;> (try with_reducible rfl))
      refine take_v (v := ?_) 6 ⟨some 18, Op.load 3 (Operand.tmp 17), _, _, _, some (4, false)⟩ rfl (fun _ _ _ h => h) ?_ hHeld ?_
      rotate_left
      · (intro W hSW; (have s0 := hSW.cell 0 rfl; have s1 := hSW.cell 1 rfl; have s2 := hSW.cell 2 rfl; have sz := hSW.2); go_simp <;> (try with_reducible rfl))
      refine ready_call 7 ⟨some 19, Op.call { callee := Callee.value (Operand.func 68), args := #[Operand.tmp 18, Operand.const (Value.int IntKind.i64 0), Operand.const (Value.int IntKind.i64 5)], argTypes := #[3, 3, 3] }, _, _, _, some (4, false)⟩ (by kernel_rfl) rfl (by kernel_rfl) (fun KC hK => ?_)
      go_wp2_with fail
      refine (HC2.out ▸ l1In_any x1 0 5 _).mono ?_
      rintro r w' ⟨rfl, hw⟩
      have hw := hw.symm
      subst hw
      refine hK.out _ _ HD.out.1 (fun hHeld => ?_)
      clear hK KC
      refine take_v (v := ?_) 8 ⟨some 20, Op.unOp UnOp.not 4 (Operand.tmp 19), _, _, _, some (4, false)⟩ rfl (fun _ _ _ h => h) ?_ hHeld ?_
      rotate_left
      · (intro W _; go_simp <;> (try with_reducible rfl))
      refine take_v (v := ?_) 9 ⟨some 21, Op.pick (Operand.tmp 16) (Operand.const (Value.bool true)) (Operand.tmp 20), _, _, _, none⟩ rfl (fun _ _ _ h => h) ?_ hHeld ?_
      rotate_left
      · (intro W _; go_simp <;> (try with_reducible rfl))
      refine take_v (v := ?_) 10 ⟨some 22, Op.move (Operand.tmp 21), _, _, _, none⟩ rfl (fun _ _ _ h => h) ?_ hHeld ?_
      rotate_left
      · (intro W _; go_simp <;> (try with_reducible rfl))
      refine take_v (v := ?_) 11 ⟨some 23, Op.fieldAddr 113 (Operand.tmp 4) 2, _, _, _, some (10, false)⟩ rfl (fun _ _ _ h => h) ?_ hHeld ?_
      rotate_left
      · (intro W _; go_simp <;> (try with_reducible rfl))
      refine take_v (v := ?_) 12 ⟨some 24, Op.load 3 (Operand.tmp 23), _, _, _, some (10, false)⟩ rfl (fun _ _ _ h => h) ?_ hHeld ?_
      rotate_left
      · (intro W hSW; (have s0 := hSW.cell 0 rfl; have s1 := hSW.cell 1 rfl; have s2 := hSW.cell 2 rfl; have sz := hSW.2); go_simp <;> (try with_reducible rfl))
      refine ready_call 13 ⟨some 25, Op.call { callee := Callee.value (Operand.func 68), args := #[Operand.tmp 24, Operand.const (Value.int IntKind.i64 1), Operand.const (Value.int IntKind.i64 1000)], argTypes := #[3, 3, 3] }, _, _, _, some (10, false)⟩ (by kernel_rfl) rfl (by kernel_rfl) (fun KC hK => ?_)
      go_wp2_with fail
      refine (HC3.out ▸ l1In_any x2 1 1000 _).mono ?_
      rintro r w' ⟨rfl, hw⟩
      have hw := hw.symm
      subst hw
      refine hK.out _ _ HD.out.1 (fun hHeld => ?_)
      clear hK KC
      refine take_v (v := ?_) 14 ⟨some 26, Op.unOp UnOp.not 4 (Operand.tmp 25), _, _, _, some (10, false)⟩ rfl (fun _ _ _ h => h) ?_ hHeld ?_
      rotate_left
      · (intro W _; go_simp <;> (try with_reducible rfl))
      refine take_v (v := ?_) 15 ⟨some 27, Op.pick (Operand.tmp 22) (Operand.const (Value.bool true)) (Operand.tmp 26), _, _, _, none⟩ rfl (fun _ _ _ h => h) ?_ hHeld ?_
      rotate_left
      · (intro W _; go_simp <;> (try with_reducible rfl))
      refine take_v (v := ?_) 16 ⟨some 28, Op.move (Operand.tmp 27), _, _, _, none⟩ rfl (fun _ _ _ h => h) ?_ hHeld ?_
      rotate_left
      · (intro W _; go_simp <;> (try with_reducible rfl))
      refine take_n 17 ⟨some 29, Op.move (Operand.tmp 3), _, _, _, some (16, false)⟩ rfl (fun _ _ _ h => h) hHeld ?_
      refine take_n 18 ⟨some 30, Op.binOp BinOp.gtr 3 (Operand.tmp 29) (Operand.const (Value.int IntKind.i64 0)) 3, _, _, _, some (16, false)⟩ rfl (fun _ _ _ h => h) hHeld ?_
      refine take_n 19 ⟨some 31, Op.move (Operand.tmp 30), _, _, _, some (16, false)⟩ rfl (fun _ _ _ h => h) hHeld ?_
      refine take_n 20 ⟨some 32, Op.move (Operand.tmp 0), _, _, _, some (19, true)⟩ rfl (fun _ _ _ h => h) hHeld ?_
      refine take_n 21 ⟨some 33, Op.move (Operand.tmp 3), _, _, _, some (19, true)⟩ rfl (fun _ _ _ h => h) hHeld ?_
      refine take_n 22 ⟨some 34, Op.binOp BinOp.sub 3 (Operand.tmp 33) (Operand.const (Value.int IntKind.i64 1)) 3, _, _, _, some (19, true)⟩ rfl (fun _ _ _ h => h) hHeld ?_
      refine take_n 23 ⟨some 35, Op.indexAddr 44 (Operand.tmp 32) (Operand.tmp 34), _, _, _, some (19, true)⟩ rfl (fun _ _ _ h => h) hHeld ?_
      refine take_n 24 ⟨some 36, Op.load 113 (Operand.tmp 35), _, _, _, some (19, true)⟩ rfl (fun _ _ _ h => h) hHeld ?_
      refine take_n 25 ⟨some 37, Op.load 113 (Operand.tmp 4), _, _, _, some (19, true)⟩ rfl (fun _ _ _ h => h) hHeld ?_
      refine take_n 26 ⟨some 38, Op.call { callee := Callee.value (Operand.func 123), args := #[Operand.tmp 36, Operand.tmp 37], argTypes := #[113, 113] }, _, _, _, some (19, true)⟩ rfl (fun _ _ _ h => h) hHeld ?_
      refine take_n 27 ⟨some 39, Op.unOp UnOp.not 4 (Operand.tmp 38), _, _, _, some (19, true)⟩ rfl (fun _ _ _ h => h) hHeld ?_
      refine take_n 28 ⟨some 40, Op.pick (Operand.tmp 31) (Operand.tmp 39) (Operand.const (Value.bool false)), _, _, _, some (16, false)⟩ rfl (fun _ _ _ h => h) hHeld ?_
      refine take_v (v := ?_) 29 ⟨some 41, Op.pick (Operand.tmp 28) (Operand.const (Value.bool true)) (Operand.tmp 40), _, _, _, none⟩ rfl (fun _ _ _ h => h) ?_ hHeld ?_
      rotate_left
      · (intro W _; go_simp <;> (try with_reducible rfl))
      refine wpAnyH_done (by kernel_rfl) ?_ _
      refine NoPanic.normal ?_
      clear hHeld
      go_wp2
      go_ret
      exact ⟨ret_bool HN.out.symm, HD.out.2⟩
    have HC3 : Hid (inR x2 1 1000 = true) := e3
    have HPK : Hid (addP l[k]) := Hid.intro (HP.out.1 (by unfold addB; rw [HC.out, HC2.out, e3]; rfl))
    clear e3
    by_cases hk0 : k = 0
    · have HX : Hid (adsK l (k + 1)) := Hid.intro (adsK_succ HA.out.1 hlt HPK.out (fun i _ e => by omega))
      have hkn : ¬ (0 : Int) < (k : Int) := by omega
      have hkd : decide ((0 : Int) < (k : Int)) = false := decide_eq_false (by omega)
      have hke : decide (0 < k) = false := decide_eq_false (by omega)
      have hkf : ¬ 0 < k := by omega
      clear hk0
      have s0 := (H1.out.1).cell 0 rfl
      have s1 := (H1.out.1).cell 1 rfl
      have s2 := (H1.out.1).cell 2 rfl
      have sz := (H1.out.1).2
      go_upto_region 4 with fail
      rw [← hw1]
      clear hw1 s0 s1 s2 sz xc0 xc1 xc2
      refine wp_region_noPanic ?_
      refine wp_region_held_drew (S := fun W => Bx W wr.heap.size [.string x0, .int .i64 x1, .int .i64 x2]) (by kernel_rfl) HD.out.1 (fun hHeld => ?_)
      refine take_v (v := ?_) 0 ⟨some 12, Op.fieldAddr 113 (Operand.tmp 4) 0, _, _, _, none⟩ rfl (fun _ _ _ h => h) ?_ hHeld ?_
      rotate_left
      · (intro W _; go_simp <;> (try with_reducible rfl))
      refine take_v (v := ?_) 1 ⟨some 13, Op.load 9 (Operand.tmp 12), _, _, _, none⟩ rfl (fun _ _ _ h => h) ?_ hHeld ?_
      rotate_left
      · (intro W hSW; (have s0 := hSW.cell 0 rfl; have s1 := hSW.cell 1 rfl; have s2 := hSW.cell 2 rfl; have sz := hSW.2); go_simp <;> (try with_reducible rfl))
      refine ready_call 2 ⟨some 14, Op.call { callee := Callee.value (Operand.func 118), args := #[Operand.tmp 13], argTypes := #[9] }, _, _, _, none⟩ (by kernel_rfl) rfl (by kernel_rfl) (fun KC hK => ?_)
      go_wp2_with fail
      refine (HC.out ▸ l1Value_any x0 _ HV.out).mono ?_
      rintro r w' ⟨rfl, hw⟩
      have hw := hw.symm
      subst hw
      refine hK.out _ _ HD.out.1 (fun hHeld => ?_)
      clear hK KC
      refine take_v (v := ?_) 3 ⟨some 15, Op.unOp UnOp.not 4 (Operand.tmp 14), _, _, _, none⟩ rfl (fun _ _ _ h => h) ?_ hHeld ?_
      rotate_left
      · (intro W _; go_simp <;> (try with_reducible rfl))
      refine take_v (v := ?_) 4 ⟨some 16, Op.move (Operand.tmp 15), _, _, _, none⟩ rfl (fun _ _ _ h => h) ?_ hHeld ?_
      rotate_left
      · (intro W _; go_simp <;> (try with_reducible rfl))
      refine take_v (v := ?_) 5 ⟨some 17, Op.fieldAddr 113 (Operand.tmp 4) 1, _, _, _, some (4, false)⟩ rfl (fun _ _ _ h => h) ?_ hHeld ?_
      rotate_left
      · (intro W _; go_simp <;> (try with_reducible rfl))
      refine take_v (v := ?_) 6 ⟨some 18, Op.load 3 (Operand.tmp 17), _, _, _, some (4, false)⟩ rfl (fun _ _ _ h => h) ?_ hHeld ?_
      rotate_left
      · (intro W hSW; (have s0 := hSW.cell 0 rfl; have s1 := hSW.cell 1 rfl; have s2 := hSW.cell 2 rfl; have sz := hSW.2); go_simp <;> (try with_reducible rfl))
      refine ready_call 7 ⟨some 19, Op.call { callee := Callee.value (Operand.func 68), args := #[Operand.tmp 18, Operand.const (Value.int IntKind.i64 0), Operand.const (Value.int IntKind.i64 5)], argTypes := #[3, 3, 3] }, _, _, _, some (4, false)⟩ (by kernel_rfl) rfl (by kernel_rfl) (fun KC hK => ?_)
      go_wp2_with fail
      refine (HC2.out ▸ l1In_any x1 0 5 _).mono ?_
      rintro r w' ⟨rfl, hw⟩
      have hw := hw.symm
      subst hw
      refine hK.out _ _ HD.out.1 (fun hHeld => ?_)
      clear hK KC
      refine take_v (v := ?_) 8 ⟨some 20, Op.unOp UnOp.not 4 (Operand.tmp 19), _, _, _, some (4, false)⟩ rfl (fun _ _ _ h => h) ?_ hHeld ?_
      rotate_left
      · (intro W _; go_simp <;> (try with_reducible rfl))
      refine take_v (v := ?_) 9 ⟨some 21, Op.pick (Operand.tmp 16) (Operand.const (Value.bool true)) (Operand.tmp 20), _, _, _, none⟩ rfl (fun _ _ _ h => h) ?_ hHeld ?_
      rotate_left
      · (intro W _; go_simp <;> (try with_reducible rfl))
      refine take_v (v := ?_) 10 ⟨some 22, Op.move (Operand.tmp 21), _, _, _, none⟩ rfl (fun _ _ _ h => h) ?_ hHeld ?_
      rotate_left
      · (intro W _; go_simp <;> (try with_reducible rfl))
      refine take_v (v := ?_) 11 ⟨some 23, Op.fieldAddr 113 (Operand.tmp 4) 2, _, _, _, some (10, false)⟩ rfl (fun _ _ _ h => h) ?_ hHeld ?_
      rotate_left
      · (intro W _; go_simp <;> (try with_reducible rfl))
      refine take_v (v := ?_) 12 ⟨some 24, Op.load 3 (Operand.tmp 23), _, _, _, some (10, false)⟩ rfl (fun _ _ _ h => h) ?_ hHeld ?_
      rotate_left
      · (intro W hSW; (have s0 := hSW.cell 0 rfl; have s1 := hSW.cell 1 rfl; have s2 := hSW.cell 2 rfl; have sz := hSW.2); go_simp <;> (try with_reducible rfl))
      refine ready_call 13 ⟨some 25, Op.call { callee := Callee.value (Operand.func 68), args := #[Operand.tmp 24, Operand.const (Value.int IntKind.i64 1), Operand.const (Value.int IntKind.i64 1000)], argTypes := #[3, 3, 3] }, _, _, _, some (10, false)⟩ (by kernel_rfl) rfl (by kernel_rfl) (fun KC hK => ?_)
      go_wp2_with fail
      refine (HC3.out ▸ l1In_any x2 1 1000 _).mono ?_
      rintro r w' ⟨rfl, hw⟩
      have hw := hw.symm
      subst hw
      refine hK.out _ _ HD.out.1 (fun hHeld => ?_)
      clear hK KC
      refine take_v (v := ?_) 14 ⟨some 26, Op.unOp UnOp.not 4 (Operand.tmp 25), _, _, _, some (10, false)⟩ rfl (fun _ _ _ h => h) ?_ hHeld ?_
      rotate_left
      · (intro W _; go_simp <;> (try with_reducible rfl))
      refine take_v (v := ?_) 15 ⟨some 27, Op.pick (Operand.tmp 22) (Operand.const (Value.bool true)) (Operand.tmp 26), _, _, _, none⟩ rfl (fun _ _ _ h => h) ?_ hHeld ?_
      rotate_left
      · (intro W _; go_simp <;> (try with_reducible rfl))
      refine take_v (v := ?_) 16 ⟨some 28, Op.move (Operand.tmp 27), _, _, _, none⟩ rfl (fun _ _ _ h => h) ?_ hHeld ?_
      rotate_left
      · (intro W _; go_simp <;> (try with_reducible rfl))
      refine take_v (v := ?_) 17 ⟨some 29, Op.move (Operand.tmp 3), _, _, _, some (16, false)⟩ rfl (fun _ _ _ h => h) ?_ hHeld ?_
      rotate_left
      · (intro W _; go_simp <;> (try with_reducible rfl))
      refine take_v (v := ?_) 18 ⟨some 30, Op.binOp BinOp.gtr 3 (Operand.tmp 29) (Operand.const (Value.int IntKind.i64 0)) 3, _, _, _, some (16, false)⟩ rfl (fun _ _ _ h => h) ?_ hHeld ?_
      rotate_left
      · (intro W _; go_simp <;> (try with_reducible rfl))
      refine take_v (v := ?_) 19 ⟨some 31, Op.move (Operand.tmp 30), _, _, _, some (16, false)⟩ rfl (fun _ _ _ h => h) ?_ hHeld ?_
      rotate_left
      · (intro W _; go_simp <;> (try with_reducible rfl))
      refine take_n 20 ⟨some 32, Op.move (Operand.tmp 0), _, _, _, some (19, true)⟩ rfl (fun _ _ _ h => h) hHeld ?_
      refine take_n 21 ⟨some 33, Op.move (Operand.tmp 3), _, _, _, some (19, true)⟩ rfl (fun _ _ _ h => h) hHeld ?_
      refine take_n 22 ⟨some 34, Op.binOp BinOp.sub 3 (Operand.tmp 33) (Operand.const (Value.int IntKind.i64 1)) 3, _, _, _, some (19, true)⟩ rfl (fun _ _ _ h => h) hHeld ?_
      refine take_n 23 ⟨some 35, Op.indexAddr 44 (Operand.tmp 32) (Operand.tmp 34), _, _, _, some (19, true)⟩ rfl (fun _ _ _ h => h) hHeld ?_
      refine take_n 24 ⟨some 36, Op.load 113 (Operand.tmp 35), _, _, _, some (19, true)⟩ rfl (fun _ _ _ h => h) hHeld ?_
      refine take_n 25 ⟨some 37, Op.load 113 (Operand.tmp 4), _, _, _, some (19, true)⟩ rfl (fun _ _ _ h => h) hHeld ?_
      refine take_n 26 ⟨some 38, Op.call { callee := Callee.value (Operand.func 123), args := #[Operand.tmp 36, Operand.tmp 37], argTypes := #[113, 113] }, _, _, _, some (19, true)⟩ rfl (fun _ _ _ h => h) hHeld ?_
      refine take_n 27 ⟨some 39, Op.unOp UnOp.not 4 (Operand.tmp 38), _, _, _, some (19, true)⟩ rfl (fun _ _ _ h => h) hHeld ?_
      refine take_v (v := ?_) 28 ⟨some 40, Op.pick (Operand.tmp 31) (Operand.tmp 39) (Operand.const (Value.bool false)), _, _, _, some (16, false)⟩ rfl (fun _ _ _ h => h) ?_ hHeld ?_
      rotate_left
      · (intro W _; go_simp <;> (try with_reducible rfl))
      refine take_v (v := ?_) 29 ⟨some 41, Op.pick (Operand.tmp 28) (Operand.const (Value.bool true)) (Operand.tmp 40), _, _, _, none⟩ rfl (fun _ _ _ h => h) ?_ hHeld ?_
      rotate_left
      · (intro W _; go_simp <;> (try with_reducible rfl))
      refine wpAnyH_done (by kernel_rfl) ?_ _
      refine NoPanic.normal ?_
      clear hHeld
      go_wp2
      go_roundw
      case rel => exact ⟨k + 1, by omega, by go_num, HX.out, HD.out.2⟩
      case measure => simp [intOf]; omega
    obtain ⟨j, hj⟩ : ∃ j, k = j + 1 := ⟨k - 1, by omega⟩
    have HJ : Hid (k = j + 1) := hj
    have hjl : j < l.length := by omega
    have hj0 : (0 : Int) < (k : Int) := by omega
    have hjd : decide ((0 : Int) < (k : Int)) = true := decide_eq_true (by omega)
    have hje : decide (0 < k) = true := decide_eq_true (by omega)
    have hjf : 0 < k := by omega
    have hjw : IntKind.i64.wrap ((k : Int) - 1) = (j : Int) := by rw [w64s (by omega) (by omega)]; omega
    clear hj hk0
    have hjl' : (j : Int) < (l.length : Int) := by omega
    obtain ⟨yg, yoff, ygo, ygs, yec, yel, yhec, yle⟩ := Lies.elem HLE.out hjl
    simp only [Option.some.injEq, Addr.mk.injEq, and_true] at ygo
    obtain ⟨e1, e2⟩ := ygo
    subst e1 e2
    rcases yX : l[j] with ⟨y0, y1, y2, ⟨⟩⟩
    rw [yX] at yle
    have yH : Hid (l[j] = (y0, y1, y2, ())) := yX
    clear yX
    obtain rfl := lies_Add yle
    have yc0 : wr.cell? ⟨xg, xoff + j * 3, none⟩ = some (.string y0) := yhec 0 (by simp)
    have yc1 : wr.cell? ⟨xg, xoff + j * 3 + 1, none⟩ = some (.int .i64 y1) := yhec 1 (by simp)
    have yc2 : wr.cell? ⟨xg, xoff + j * 3 + 2, none⟩ = some (.int .i64 y2) := yhec 2 (by simp)
    have HYS : Hid (wr.cell? ⟨xg, xoff + j * 3, none⟩ = some (.string y0) ∧ wr.cell? ⟨xg, xoff + j * 3 + 1, none⟩ = some (.int .i64 y1) ∧ wr.cell? ⟨xg, xoff + j * 3 + 2, none⟩ = some (.int .i64 y2) ∧ xg < wr.heap.size) := ⟨yc0, yc1, yc2, xgs⟩
    clear yhec yel yle yc0 yc1 yc2
    have hbd := Below.trans hb1 (below_drew w1 |>.mono hb1.size)
    have HDY : Hid (Bx w1.drew wr.heap.size [.string x0, .int .i64 x1, .int .i64 x2] ∧ CeY w1.drew xg (xoff + j * 3) y0 y1 y2) := ⟨HD.out.1, CeY.next HYS.out hbd⟩
    have HLX : Hid (lesA y1 y2 x1 x2 ↔ lesX l[j] l[k]) := Hid.intro (by rw [yH.out, xH.out]; exact Iff.rfl)
    clear hbd
    obtain ⟨z, hz⟩ : ∃ z, z = tf (lesA y1 y2 x1 x2) := ⟨_, rfl⟩
    have HZ : Hid (z = true ↔ lesX l[j] l[k]) := Hid.intro (by rw [hz, tf_iff]; exact HLX.out)
    have HCC : Hid (∀ W, Calls Try.prog 123 #[.agg #[.string y0, .int .i64 y1, .int .i64 y2], .agg #[.string x0, .int .i64 x1, .int .i64 x2]] W (fun r w' => r = .returned (.bool z) ∧ Below W.heap.size W w')) := Hid.intro (fun W => by rw [hz]; exact l14Less_n y0 y1 y2 x0 x1 x2 W)
    clear hz
    by_cases hz : z = true
    · have HX : Hid (adsK l (k + 1)) := Hid.intro (adsK_succ HA.out.1 hlt HPK.out (fun i hi e => by have hj := HJ.out; have e2 : i = j := (by omega); subst e2; exact HZ.out.1 hz))
      subst hz
      have s0 := (H1.out.1).cell 0 rfl
      have s1 := (H1.out.1).cell 1 rfl
      have s2 := (H1.out.1).cell 2 rfl
      have sz := (H1.out.1).2
      go_upto_region 4 with fail
      rw [← hw1]
      clear hw1 s0 s1 s2 sz xc0 xc1 xc2 hb1
      refine wp_region_noPanic ?_
      refine wp_region_held_drew (S := fun W => Bx W wr.heap.size [.string x0, .int .i64 x1, .int .i64 x2] ∧ CeY W xg (xoff + j * 3) y0 y1 y2) (by kernel_rfl) HDY.out (fun hHeld => ?_)
      refine take_v (v := ?_) 0 ⟨some 12, Op.fieldAddr 113 (Operand.tmp 4) 0, _, _, _, none⟩ rfl (fun _ _ _ h => h) ?_ hHeld ?_
      rotate_left
      · (intro W _; go_simp <;> (try with_reducible rfl))
      refine take_v (v := ?_) 1 ⟨some 13, Op.load 9 (Operand.tmp 12), _, _, _, none⟩ rfl (fun _ _ _ h => h) ?_ hHeld ?_
      rotate_left
      · (intro W hSW; (have s0 := hSW.1.cell 0 rfl; have s1 := hSW.1.cell 1 rfl; have s2 := hSW.1.cell 2 rfl; have sz := hSW.1.2; have t0 := hSW.2.1; have t1 := hSW.2.2.1; have t2 := hSW.2.2.2.1; have tz := hSW.2.2.2.2); go_simp <;> (try with_reducible rfl))
      refine ready_call 2 ⟨some 14, Op.call { callee := Callee.value (Operand.func 118), args := #[Operand.tmp 13], argTypes := #[9] }, _, _, _, none⟩ (by kernel_rfl) rfl (by kernel_rfl) (fun KC hK => ?_)
      go_wp2_with fail
      refine (HC.out ▸ l1Value_any x0 _ HV.out).mono ?_
      rintro r w' ⟨rfl, hw⟩
      have hw := hw.symm
      subst hw
      refine hK.out _ _ HDY.out (fun hHeld => ?_)
      clear hK KC
      refine take_v (v := ?_) 3 ⟨some 15, Op.unOp UnOp.not 4 (Operand.tmp 14), _, _, _, none⟩ rfl (fun _ _ _ h => h) ?_ hHeld ?_
      rotate_left
      · (intro W _; go_simp <;> (try with_reducible rfl))
      refine take_v (v := ?_) 4 ⟨some 16, Op.move (Operand.tmp 15), _, _, _, none⟩ rfl (fun _ _ _ h => h) ?_ hHeld ?_
      rotate_left
      · (intro W _; go_simp <;> (try with_reducible rfl))
      refine take_v (v := ?_) 5 ⟨some 17, Op.fieldAddr 113 (Operand.tmp 4) 1, _, _, _, some (4, false)⟩ rfl (fun _ _ _ h => h) ?_ hHeld ?_
      rotate_left
      · (intro W _; go_simp <;> (try with_reducible rfl))
      refine take_v (v := ?_) 6 ⟨some 18, Op.load 3 (Operand.tmp 17), _, _, _, some (4, false)⟩ rfl (fun _ _ _ h => h) ?_ hHeld ?_
      rotate_left
      · (intro W hSW; (have s0 := hSW.1.cell 0 rfl; have s1 := hSW.1.cell 1 rfl; have s2 := hSW.1.cell 2 rfl; have sz := hSW.1.2; have t0 := hSW.2.1; have t1 := hSW.2.2.1; have t2 := hSW.2.2.2.1; have tz := hSW.2.2.2.2); go_simp <;> (try with_reducible rfl))
      refine ready_call 7 ⟨some 19, Op.call { callee := Callee.value (Operand.func 68), args := #[Operand.tmp 18, Operand.const (Value.int IntKind.i64 0), Operand.const (Value.int IntKind.i64 5)], argTypes := #[3, 3, 3] }, _, _, _, some (4, false)⟩ (by kernel_rfl) rfl (by kernel_rfl) (fun KC hK => ?_)
      go_wp2_with fail
      refine (HC2.out ▸ l1In_any x1 0 5 _).mono ?_
      rintro r w' ⟨rfl, hw⟩
      have hw := hw.symm
      subst hw
      refine hK.out _ _ HDY.out (fun hHeld => ?_)
      clear hK KC
      refine take_v (v := ?_) 8 ⟨some 20, Op.unOp UnOp.not 4 (Operand.tmp 19), _, _, _, some (4, false)⟩ rfl (fun _ _ _ h => h) ?_ hHeld ?_
      rotate_left
      · (intro W _; go_simp <;> (try with_reducible rfl))
      refine take_v (v := ?_) 9 ⟨some 21, Op.pick (Operand.tmp 16) (Operand.const (Value.bool true)) (Operand.tmp 20), _, _, _, none⟩ rfl (fun _ _ _ h => h) ?_ hHeld ?_
      rotate_left
      · (intro W _; go_simp <;> (try with_reducible rfl))
      refine take_v (v := ?_) 10 ⟨some 22, Op.move (Operand.tmp 21), _, _, _, none⟩ rfl (fun _ _ _ h => h) ?_ hHeld ?_
      rotate_left
      · (intro W _; go_simp <;> (try with_reducible rfl))
      refine take_v (v := ?_) 11 ⟨some 23, Op.fieldAddr 113 (Operand.tmp 4) 2, _, _, _, some (10, false)⟩ rfl (fun _ _ _ h => h) ?_ hHeld ?_
      rotate_left
      · (intro W _; go_simp <;> (try with_reducible rfl))
      refine take_v (v := ?_) 12 ⟨some 24, Op.load 3 (Operand.tmp 23), _, _, _, some (10, false)⟩ rfl (fun _ _ _ h => h) ?_ hHeld ?_
      rotate_left
      · (intro W hSW; (have s0 := hSW.1.cell 0 rfl; have s1 := hSW.1.cell 1 rfl; have s2 := hSW.1.cell 2 rfl; have sz := hSW.1.2; have t0 := hSW.2.1; have t1 := hSW.2.2.1; have t2 := hSW.2.2.2.1; have tz := hSW.2.2.2.2); go_simp <;> (try with_reducible rfl))
      refine ready_call 13 ⟨some 25, Op.call { callee := Callee.value (Operand.func 68), args := #[Operand.tmp 24, Operand.const (Value.int IntKind.i64 1), Operand.const (Value.int IntKind.i64 1000)], argTypes := #[3, 3, 3] }, _, _, _, some (10, false)⟩ (by kernel_rfl) rfl (by kernel_rfl) (fun KC hK => ?_)
      go_wp2_with fail
      refine (HC3.out ▸ l1In_any x2 1 1000 _).mono ?_
      rintro r w' ⟨rfl, hw⟩
      have hw := hw.symm
      subst hw
      refine hK.out _ _ HDY.out (fun hHeld => ?_)
      clear hK KC
      refine take_v (v := ?_) 14 ⟨some 26, Op.unOp UnOp.not 4 (Operand.tmp 25), _, _, _, some (10, false)⟩ rfl (fun _ _ _ h => h) ?_ hHeld ?_
      rotate_left
      · (intro W _; go_simp <;> (try with_reducible rfl))
      refine take_v (v := ?_) 15 ⟨some 27, Op.pick (Operand.tmp 22) (Operand.const (Value.bool true)) (Operand.tmp 26), _, _, _, none⟩ rfl (fun _ _ _ h => h) ?_ hHeld ?_
      rotate_left
      · (intro W _; go_simp <;> (try with_reducible rfl))
      refine take_v (v := ?_) 16 ⟨some 28, Op.move (Operand.tmp 27), _, _, _, none⟩ rfl (fun _ _ _ h => h) ?_ hHeld ?_
      rotate_left
      · (intro W _; go_simp <;> (try with_reducible rfl))
      refine take_v (v := ?_) 17 ⟨some 29, Op.move (Operand.tmp 3), _, _, _, some (16, false)⟩ rfl (fun _ _ _ h => h) ?_ hHeld ?_
      rotate_left
      · (intro W _; go_simp <;> (try with_reducible rfl))
      refine take_v (v := ?_) 18 ⟨some 30, Op.binOp BinOp.gtr 3 (Operand.tmp 29) (Operand.const (Value.int IntKind.i64 0)) 3, _, _, _, some (16, false)⟩ rfl (fun _ _ _ h => h) ?_ hHeld ?_
      rotate_left
      · (intro W _; go_simp <;> (try with_reducible rfl))
      refine take_v (v := ?_) 19 ⟨some 31, Op.move (Operand.tmp 30), _, _, _, some (16, false)⟩ rfl (fun _ _ _ h => h) ?_ hHeld ?_
      rotate_left
      · (intro W _; go_simp <;> (try with_reducible rfl))
      refine take_v (v := ?_) 20 ⟨some 32, Op.move (Operand.tmp 0), _, _, _, some (19, true)⟩ rfl (fun _ _ _ h => h) ?_ hHeld ?_
      rotate_left
      · (intro W _; go_simp <;> (try with_reducible rfl))
      refine take_v (v := ?_) 21 ⟨some 33, Op.move (Operand.tmp 3), _, _, _, some (19, true)⟩ rfl (fun _ _ _ h => h) ?_ hHeld ?_
      rotate_left
      · (intro W _; go_simp <;> (try with_reducible rfl))
      refine take_v (v := ?_) 22 ⟨some 34, Op.binOp BinOp.sub 3 (Operand.tmp 33) (Operand.const (Value.int IntKind.i64 1)) 3, _, _, _, some (19, true)⟩ rfl (fun _ _ _ h => h) ?_ hHeld ?_
      rotate_left
      · (intro W _; go_simp <;> (try with_reducible rfl))
      refine take_v (v := ?_) 23 ⟨some 35, Op.indexAddr 44 (Operand.tmp 32) (Operand.tmp 34), _, _, _, some (19, true)⟩ rfl (fun _ _ _ h => h) ?_ hHeld ?_
      rotate_left
      · (intro W _; go_simp <;> (try with_reducible rfl))
      refine take_v (v := ?_) 24 ⟨some 36, Op.load 113 (Operand.tmp 35), _, _, _, some (19, true)⟩ rfl (fun _ _ _ h => h) ?_ hHeld ?_
      rotate_left
      · (intro W hSW; (have s0 := hSW.1.cell 0 rfl; have s1 := hSW.1.cell 1 rfl; have s2 := hSW.1.cell 2 rfl; have sz := hSW.1.2; have t0 := hSW.2.1; have t1 := hSW.2.2.1; have t2 := hSW.2.2.2.1; have tz := hSW.2.2.2.2); go_simp <;> (try with_reducible rfl))
      refine take_v (v := ?_) 25 ⟨some 37, Op.load 113 (Operand.tmp 4), _, _, _, some (19, true)⟩ rfl (fun _ _ _ h => h) ?_ hHeld ?_
      rotate_left
      · (intro W hSW; (have s0 := hSW.1.cell 0 rfl; have s1 := hSW.1.cell 1 rfl; have s2 := hSW.1.cell 2 rfl; have sz := hSW.1.2; have t0 := hSW.2.1; have t1 := hSW.2.2.1; have t2 := hSW.2.2.2.1; have tz := hSW.2.2.2.2); go_simp <;> (try with_reducible rfl))
      refine ready_call 26 ⟨some 38, Op.call { callee := Callee.value (Operand.func 123), args := #[Operand.tmp 36, Operand.tmp 37], argTypes := #[113, 113] }, _, _, _, some (19, true)⟩ (by kernel_rfl) rfl (by kernel_rfl) (fun KC hK => ?_)
      go_wp2_with fail
      refine (HCC.out _).mono ?_
      rintro r w5 ⟨rfl, hb⟩
      have HF := Hid.intro (show _ ∧ _ from ⟨HDY.out.1.next hb, CeY.next HDY.out.2 hb⟩)
      have HFB := Hid.intro (below_next HD.out.2 hb)
      clear hb
      refine hK.out _ _ HF.out (fun hHeld => ?_)
      clear hK KC
      refine take_v (v := ?_) 27 ⟨some 39, Op.unOp UnOp.not 4 (Operand.tmp 38), _, _, _, some (19, true)⟩ rfl (fun _ _ _ h => h) ?_ hHeld ?_
      rotate_left
      · (intro W _; go_simp <;> (try with_reducible rfl))
      refine take_v (v := ?_) 28 ⟨some 40, Op.pick (Operand.tmp 31) (Operand.tmp 39) (Operand.const (Value.bool false)), _, _, _, some (16, false)⟩ rfl (fun _ _ _ h => h) ?_ hHeld ?_
      rotate_left
      · (intro W _; go_simp <;> (try with_reducible rfl))
      refine take_v (v := ?_) 29 ⟨some 41, Op.pick (Operand.tmp 28) (Operand.const (Value.bool true)) (Operand.tmp 40), _, _, _, none⟩ rfl (fun _ _ _ h => h) ?_ hHeld ?_
      rotate_left
      · (intro W _; go_simp <;> (try with_reducible rfl))
      refine wpAnyH_done (by kernel_rfl) ?_ _
      refine NoPanic.normal ?_
      clear hHeld
      go_wp2
      go_roundw
      case rel => exact ⟨k + 1, by omega, by go_num, HX.out, HFB.out⟩
      case measure => simp [intOf]; omega
    · have HN : Hid (tf (adsP l) = false) := tf_no (fun q => hz (HZ.out.2 ((q.2 k hlt hlt).2 j hjl HJ.out.symm)))
      have hz : z = false := by simpa using hz
      subst hz
      have s0 := (H1.out.1).cell 0 rfl
      have s1 := (H1.out.1).cell 1 rfl
      have s2 := (H1.out.1).cell 2 rfl
      have sz := (H1.out.1).2
      go_upto_region 4 with fail
      rw [← hw1]
      clear hw1 s0 s1 s2 sz xc0 xc1 xc2 hb1
      refine wp_region_noPanic ?_
      refine wp_region_held_drew (S := fun W => Bx W wr.heap.size [.string x0, .int .i64 x1, .int .i64 x2] ∧ CeY W xg (xoff + j * 3) y0 y1 y2) (by kernel_rfl) HDY.out (fun hHeld => ?_)
      refine take_v (v := ?_) 0 ⟨some 12, Op.fieldAddr 113 (Operand.tmp 4) 0, _, _, _, none⟩ rfl (fun _ _ _ h => h) ?_ hHeld ?_
      rotate_left
      · (intro W _; go_simp <;> (try with_reducible rfl))
      refine take_v (v := ?_) 1 ⟨some 13, Op.load 9 (Operand.tmp 12), _, _, _, none⟩ rfl (fun _ _ _ h => h) ?_ hHeld ?_
      rotate_left
      · (intro W hSW; (have s0 := hSW.1.cell 0 rfl; have s1 := hSW.1.cell 1 rfl; have s2 := hSW.1.cell 2 rfl; have sz := hSW.1.2; have t0 := hSW.2.1; have t1 := hSW.2.2.1; have t2 := hSW.2.2.2.1; have tz := hSW.2.2.2.2); go_simp <;> (try with_reducible rfl))
      refine ready_call 2 ⟨some 14, Op.call { callee := Callee.value (Operand.func 118), args := #[Operand.tmp 13], argTypes := #[9] }, _, _, _, none⟩ (by kernel_rfl) rfl (by kernel_rfl) (fun KC hK => ?_)
      go_wp2_with fail
      refine (HC.out ▸ l1Value_any x0 _ HV.out).mono ?_
      rintro r w' ⟨rfl, hw⟩
      have hw := hw.symm
      subst hw
      refine hK.out _ _ HDY.out (fun hHeld => ?_)
      clear hK KC
      refine take_v (v := ?_) 3 ⟨some 15, Op.unOp UnOp.not 4 (Operand.tmp 14), _, _, _, none⟩ rfl (fun _ _ _ h => h) ?_ hHeld ?_
      rotate_left
      · (intro W _; go_simp <;> (try with_reducible rfl))
      refine take_v (v := ?_) 4 ⟨some 16, Op.move (Operand.tmp 15), _, _, _, none⟩ rfl (fun _ _ _ h => h) ?_ hHeld ?_
      rotate_left
      · (intro W _; go_simp <;> (try with_reducible rfl))
      refine take_v (v := ?_) 5 ⟨some 17, Op.fieldAddr 113 (Operand.tmp 4) 1, _, _, _, some (4, false)⟩ rfl (fun _ _ _ h => h) ?_ hHeld ?_
      rotate_left
      · (intro W _; go_simp <;> (try with_reducible rfl))
      refine take_v (v := ?_) 6 ⟨some 18, Op.load 3 (Operand.tmp 17), _, _, _, some (4, false)⟩ rfl (fun _ _ _ h => h) ?_ hHeld ?_
      rotate_left
      · (intro W hSW; (have s0 := hSW.1.cell 0 rfl; have s1 := hSW.1.cell 1 rfl; have s2 := hSW.1.cell 2 rfl; have sz := hSW.1.2; have t0 := hSW.2.1; have t1 := hSW.2.2.1; have t2 := hSW.2.2.2.1; have tz := hSW.2.2.2.2); go_simp <;> (try with_reducible rfl))
      refine ready_call 7 ⟨some 19, Op.call { callee := Callee.value (Operand.func 68), args := #[Operand.tmp 18, Operand.const (Value.int IntKind.i64 0), Operand.const (Value.int IntKind.i64 5)], argTypes := #[3, 3, 3] }, _, _, _, some (4, false)⟩ (by kernel_rfl) rfl (by kernel_rfl) (fun KC hK => ?_)
      go_wp2_with fail
      refine (HC2.out ▸ l1In_any x1 0 5 _).mono ?_
      rintro r w' ⟨rfl, hw⟩
      have hw := hw.symm
      subst hw
      refine hK.out _ _ HDY.out (fun hHeld => ?_)
      clear hK KC
      refine take_v (v := ?_) 8 ⟨some 20, Op.unOp UnOp.not 4 (Operand.tmp 19), _, _, _, some (4, false)⟩ rfl (fun _ _ _ h => h) ?_ hHeld ?_
      rotate_left
      · (intro W _; go_simp <;> (try with_reducible rfl))
      refine take_v (v := ?_) 9 ⟨some 21, Op.pick (Operand.tmp 16) (Operand.const (Value.bool true)) (Operand.tmp 20), _, _, _, none⟩ rfl (fun _ _ _ h => h) ?_ hHeld ?_
      rotate_left
      · (intro W _; go_simp <;> (try with_reducible rfl))
      refine take_v (v := ?_) 10 ⟨some 22, Op.move (Operand.tmp 21), _, _, _, none⟩ rfl (fun _ _ _ h => h) ?_ hHeld ?_
      rotate_left
      · (intro W _; go_simp <;> (try with_reducible rfl))
      refine take_v (v := ?_) 11 ⟨some 23, Op.fieldAddr 113 (Operand.tmp 4) 2, _, _, _, some (10, false)⟩ rfl (fun _ _ _ h => h) ?_ hHeld ?_
      rotate_left
      · (intro W _; go_simp <;> (try with_reducible rfl))
      refine take_v (v := ?_) 12 ⟨some 24, Op.load 3 (Operand.tmp 23), _, _, _, some (10, false)⟩ rfl (fun _ _ _ h => h) ?_ hHeld ?_
      rotate_left
      · (intro W hSW; (have s0 := hSW.1.cell 0 rfl; have s1 := hSW.1.cell 1 rfl; have s2 := hSW.1.cell 2 rfl; have sz := hSW.1.2; have t0 := hSW.2.1; have t1 := hSW.2.2.1; have t2 := hSW.2.2.2.1; have tz := hSW.2.2.2.2); go_simp <;> (try with_reducible rfl))
      refine ready_call 13 ⟨some 25, Op.call { callee := Callee.value (Operand.func 68), args := #[Operand.tmp 24, Operand.const (Value.int IntKind.i64 1), Operand.const (Value.int IntKind.i64 1000)], argTypes := #[3, 3, 3] }, _, _, _, some (10, false)⟩ (by kernel_rfl) rfl (by kernel_rfl) (fun KC hK => ?_)
      go_wp2_with fail
      refine (HC3.out ▸ l1In_any x2 1 1000 _).mono ?_
      rintro r w' ⟨rfl, hw⟩
      have hw := hw.symm
      subst hw
      refine hK.out _ _ HDY.out (fun hHeld => ?_)
      clear hK KC
      refine take_v (v := ?_) 14 ⟨some 26, Op.unOp UnOp.not 4 (Operand.tmp 25), _, _, _, some (10, false)⟩ rfl (fun _ _ _ h => h) ?_ hHeld ?_
      rotate_left
      · (intro W _; go_simp <;> (try with_reducible rfl))
      refine take_v (v := ?_) 15 ⟨some 27, Op.pick (Operand.tmp 22) (Operand.const (Value.bool true)) (Operand.tmp 26), _, _, _, none⟩ rfl (fun _ _ _ h => h) ?_ hHeld ?_
      rotate_left
      · (intro W _; go_simp <;> (try with_reducible rfl))
      refine take_v (v := ?_) 16 ⟨some 28, Op.move (Operand.tmp 27), _, _, _, none⟩ rfl (fun _ _ _ h => h) ?_ hHeld ?_
      rotate_left
      · (intro W _; go_simp <;> (try with_reducible rfl))
      refine take_v (v := ?_) 17 ⟨some 29, Op.move (Operand.tmp 3), _, _, _, some (16, false)⟩ rfl (fun _ _ _ h => h) ?_ hHeld ?_
      rotate_left
      · (intro W _; go_simp <;> (try with_reducible rfl))
      refine take_v (v := ?_) 18 ⟨some 30, Op.binOp BinOp.gtr 3 (Operand.tmp 29) (Operand.const (Value.int IntKind.i64 0)) 3, _, _, _, some (16, false)⟩ rfl (fun _ _ _ h => h) ?_ hHeld ?_
      rotate_left
      · (intro W _; go_simp <;> (try with_reducible rfl))
      refine take_v (v := ?_) 19 ⟨some 31, Op.move (Operand.tmp 30), _, _, _, some (16, false)⟩ rfl (fun _ _ _ h => h) ?_ hHeld ?_
      rotate_left
      · (intro W _; go_simp <;> (try with_reducible rfl))
      refine take_v (v := ?_) 20 ⟨some 32, Op.move (Operand.tmp 0), _, _, _, some (19, true)⟩ rfl (fun _ _ _ h => h) ?_ hHeld ?_
      rotate_left
      · (intro W _; go_simp <;> (try with_reducible rfl))
      refine take_v (v := ?_) 21 ⟨some 33, Op.move (Operand.tmp 3), _, _, _, some (19, true)⟩ rfl (fun _ _ _ h => h) ?_ hHeld ?_
      rotate_left
      · (intro W _; go_simp <;> (try with_reducible rfl))
      refine take_v (v := ?_) 22 ⟨some 34, Op.binOp BinOp.sub 3 (Operand.tmp 33) (Operand.const (Value.int IntKind.i64 1)) 3, _, _, _, some (19, true)⟩ rfl (fun _ _ _ h => h) ?_ hHeld ?_
      rotate_left
      · (intro W _; go_simp <;> (try with_reducible rfl))
      refine take_v (v := ?_) 23 ⟨some 35, Op.indexAddr 44 (Operand.tmp 32) (Operand.tmp 34), _, _, _, some (19, true)⟩ rfl (fun _ _ _ h => h) ?_ hHeld ?_
      rotate_left
      · (intro W _; go_simp <;> (try with_reducible rfl))
      refine take_v (v := ?_) 24 ⟨some 36, Op.load 113 (Operand.tmp 35), _, _, _, some (19, true)⟩ rfl (fun _ _ _ h => h) ?_ hHeld ?_
      rotate_left
      · (intro W hSW; (have s0 := hSW.1.cell 0 rfl; have s1 := hSW.1.cell 1 rfl; have s2 := hSW.1.cell 2 rfl; have sz := hSW.1.2; have t0 := hSW.2.1; have t1 := hSW.2.2.1; have t2 := hSW.2.2.2.1; have tz := hSW.2.2.2.2); go_simp <;> (try with_reducible rfl))
      refine take_v (v := ?_) 25 ⟨some 37, Op.load 113 (Operand.tmp 4), _, _, _, some (19, true)⟩ rfl (fun _ _ _ h => h) ?_ hHeld ?_
      rotate_left
      · (intro W hSW; (have s0 := hSW.1.cell 0 rfl; have s1 := hSW.1.cell 1 rfl; have s2 := hSW.1.cell 2 rfl; have sz := hSW.1.2; have t0 := hSW.2.1; have t1 := hSW.2.2.1; have t2 := hSW.2.2.2.1; have tz := hSW.2.2.2.2); go_simp <;> (try with_reducible rfl))
      refine ready_call 26 ⟨some 38, Op.call { callee := Callee.value (Operand.func 123), args := #[Operand.tmp 36, Operand.tmp 37], argTypes := #[113, 113] }, _, _, _, some (19, true)⟩ (by kernel_rfl) rfl (by kernel_rfl) (fun KC hK => ?_)
      go_wp2_with fail
      refine (HCC.out _).mono ?_
      rintro r w5 ⟨rfl, hb⟩
      have HF := Hid.intro (show _ ∧ _ from ⟨HDY.out.1.next hb, CeY.next HDY.out.2 hb⟩)
      have HFB := Hid.intro (below_next HD.out.2 hb)
      clear hb
      refine hK.out _ _ HF.out (fun hHeld => ?_)
      clear hK KC
      refine take_v (v := ?_) 27 ⟨some 39, Op.unOp UnOp.not 4 (Operand.tmp 38), _, _, _, some (19, true)⟩ rfl (fun _ _ _ h => h) ?_ hHeld ?_
      rotate_left
      · (intro W _; go_simp <;> (try with_reducible rfl))
      refine take_v (v := ?_) 28 ⟨some 40, Op.pick (Operand.tmp 31) (Operand.tmp 39) (Operand.const (Value.bool false)), _, _, _, some (16, false)⟩ rfl (fun _ _ _ h => h) ?_ hHeld ?_
      rotate_left
      · (intro W _; go_simp <;> (try with_reducible rfl))
      refine take_v (v := ?_) 29 ⟨some 41, Op.pick (Operand.tmp 28) (Operand.const (Value.bool true)) (Operand.tmp 40), _, _, _, none⟩ rfl (fun _ _ _ h => h) ?_ hHeld ?_
      rotate_left
      · (intro W _; go_simp <;> (try with_reducible rfl))
      refine wpAnyH_done (by kernel_rfl) ?_ _
      refine NoPanic.normal ?_
      clear hHeld
      go_wp2
      go_ret
      exact ⟨ret_bool HN.out.symm, HFB.out⟩
end Go.Proofs.Ytnglgndocmkbfaa
