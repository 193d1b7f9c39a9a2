/- The contract of (*oneCopy).fits. -/
import Derived.Test.YtkniokbioggkeaaOnO
namespace Go.Proofs.Ytkniokbioggkeaa
open Go.RowKit
set_option linter.unusedVariables false

set_option maxRecDepth 100000 in
set_option maxHeartbeats 4000000 in
theorem fits_any (w0 w : World) (g : Nat) (a : Option Addr) (n cap : Nat) (V : Nat → CallV) (ord : List Nat) (KB : List (Nat × List Value)) (i : Nat) (hC : OneC w0 g a n cap V) (hi : i < n) (h : OneS w0 w g a n cap V ord KB) :
    Calls Try.prog 41 #[.pointer (some ⟨g, 0, none⟩), .int .i64 (i : Int)] w fun r w' => r = .returned (.bool (fitB V ord i)) ∧ OneS w0 w' g a n cap V ord KB := by
  obtain ⟨L, ov, lv, h1, h2, h3⟩ := h
  have h7 := hC.n7
  have hLl := h2.len
  have hi' : (i : Int) < (n : Int) := by omega
  rcases hC.at h3 with h | ⟨b, off, rfl, hbs, hE⟩
  · omega
  obtain ⟨c0, c1, c2, c3, c4, c5⟩ := call_cells hE hi
  obtain ⟨la, lc, rfl, hlc, hrow⟩ := SRow.of (F := cellF (cV L)) (c := 2) h1.2.2.1
  have hd : Below w.heap.size w (w.alloc (.cells #[.int .i64 (V i).f0, .bool (V i).f1, .string (V i).f2, .string (V i).f3, .int .i64 (V i).f4, .int .i64 (V i).f5] 28)).drew := (Go.Joins.below_alloc1 _ _).drew
  have HX : Hid (OneS w0 (w.alloc (.cells #[.int .i64 (V i).f0, .bool (V i).f1, .string (V i).f2, .string (V i).f3, .int .i64 (V i).f4, .int .i64 (V i).f5] 28)).drew g (some ⟨b, off, none⟩) n cap V ord KB ∧ Bx (w.alloc (.cells #[.int .i64 (V i).f0, .bool (V i).f1, .string (V i).f2, .string (V i).f3, .int .i64 (V i).f4, .int .i64 (V i).f5] 28)).drew g [.slice (some ⟨b, off, none⟩) n cap, ov, .slice la L.length lc] ∧ Bx (w.alloc (.cells #[.int .i64 (V i).f0, .bool (V i).f1, .string (V i).f2, .string (V i).f3, .int .i64 (V i).f4, .int .i64 (V i).f5] 28)).drew w.heap.size [.int .i64 (V i).f0, .bool (V i).f1, .string (V i).f2, .string (V i).f3, .int .i64 (V i).f4, .int .i64 (V i).f5] ∧ Sl (w.alloc (.cells #[.int .i64 (V i).f0, .bool (V i).f1, .string (V i).f2, .string (V i).f3, .int .i64 (V i).f4, .int .i64 (V i).f5] 28)).drew la L.length 2 (cellF (cV L)) ∧ riseL L ∧ valL L (V i).f2.toList = valO V ord (V i).f2.toList) :=
    ⟨OneS.next ⟨L, ov, _, h1, h2, h3⟩ hd, h1.1.next hd, (Bx.new w [.int .i64 (V i).f0, .bool (V i).f1, .string (V i).f2, .string (V i).f3, .int .i64 (V i).f4, .int .i64 (V i).f5] 28).next (Below.refl _ _).drew, hrow.sl.below hd (Nat.le_refl _), h2.1, h2.2.1 _⟩
  have k0 := h1.1.cell 0 rfl
  have kz := h1.1.2
  clear h1 h2 h3 hE hrow hd hC
  go_enter Try.func41, Try.ntmps41
  go_upto_region 2 with fail
  clear c0 c1 c2 c3 c4 c5 k0
  cases hw : (V i).f1
  · have HF : Hid (fitB V ord i = ((valO V ord (V i).f2.toList).toList == (V i).f3.toList)) := fit_read hw
    rw [hw] at HX
    refine wp_region_noPanic ?_
    refine wp_region_held_drew (S := fun W => Bx W g [.slice (some ⟨b, off, none⟩) n cap, ov, .slice la L.length lc] ∧ Bx W w.heap.size [.int .i64 (V i).f0, .bool false, .string (V i).f2, .string (V i).f3, .int .i64 (V i).f4, .int .i64 (V i).f5]) (by kernel_rfl) ⟨HX.out.2.1, HX.out.2.2.1⟩ (fun hHeld => ?_)
    refine take_v (v := ?_) 0 ⟨some 13, Op.fieldAddr 28 (Operand.tmp 5) 1, _, _, _, none⟩ rfl (fun _ _ _ h => h) ?_ hHeld ?_
    rotate_left
    · (intro W _; go_simp <;> (try with_reducible rfl))
    refine take_v (v := ?_) 1 ⟨some 14, Op.load 4 (Operand.tmp 13), _, _, _, none⟩ rfl (fun _ _ _ h => h) ?_ hHeld ?_
    rotate_left
    · (intro W hSW; (have s0 := hSW.1.cell 2 rfl; have sz := hSW.1.2; have t0 := hSW.2.cell 1 rfl; have t1 := hSW.2.cell 2 rfl; have t2 := hSW.2.cell 3 rfl; have tz := hSW.2.2); go_simp <;> (try with_reducible rfl))
    refine take_v (v := ?_) 2 ⟨some 15, Op.move (Operand.tmp 14), _, _, _, none⟩ rfl (fun _ _ _ h => h) ?_ hHeld ?_
    rotate_left
    · (intro W _; go_simp <;> (try with_reducible rfl))
    refine take_v (v := ?_) 3 ⟨some 16, Op.move (Operand.tmp 0), _, _, _, some (2, false)⟩ rfl (fun _ _ _ h => h) ?_ hHeld ?_
    rotate_left
    · (intro W _; go_simp <;> (try with_reducible rfl))
    refine take_v (v := ?_) 4 ⟨some 17, Op.nilCheck (Operand.tmp 16), _, _, _, some (2, false)⟩ rfl (fun _ _ _ h => h) ?_ hHeld ?_
    rotate_left
    · (intro W _; go_simp <;> (try with_reducible rfl))
    refine take_v (v := ?_) 5 ⟨some 18, Op.fieldAddr 58 (Operand.tmp 17) 2, _, _, _, some (2, false)⟩ rfl (fun _ _ _ h => h) ?_ hHeld ?_
    rotate_left
    · (intro W _; go_simp <;> (try with_reducible rfl))
    refine take_v (v := ?_) 6 ⟨some 19, Op.load 56 (Operand.tmp 18), _, _, _, some (2, false)⟩ rfl (fun _ _ _ h => h) ?_ hHeld ?_
    rotate_left
    · (intro W hSW; (have s0 := hSW.1.cell 2 rfl; have sz := hSW.1.2; have t0 := hSW.2.cell 1 rfl; have t1 := hSW.2.cell 2 rfl; have t2 := hSW.2.cell 3 rfl; have tz := hSW.2.2); go_simp <;> (try with_reducible rfl))
    refine take_v (v := ?_) 7 ⟨some 20, Op.fieldAddr 28 (Operand.tmp 5) 2, _, _, _, some (2, false)⟩ rfl (fun _ _ _ h => h) ?_ hHeld ?_
    rotate_left
    · (intro W _; go_simp <;> (try with_reducible rfl))
    refine take_v (v := ?_) 8 ⟨some 21, Op.load 9 (Operand.tmp 20), _, _, _, some (2, false)⟩ rfl (fun _ _ _ h => h) ?_ hHeld ?_
    rotate_left
    · (intro W hSW; (have s0 := hSW.1.cell 2 rfl; have sz := hSW.1.2; have t0 := hSW.2.cell 1 rfl; have t1 := hSW.2.cell 2 rfl; have t2 := hSW.2.cell 3 rfl; have tz := hSW.2.2); go_simp <;> (try with_reducible rfl))
    refine take_v (v := ?_) 10 ⟨some 23, Op.fieldAddr 28 (Operand.tmp 5) 3, _, _, _, some (2, false)⟩ rfl (fun _ _ _ h => h) ?_ hHeld ?_
    rotate_left
    · (intro W _; go_simp <;> (try with_reducible rfl))
    refine take_v (v := ?_) 11 ⟨some 24, Op.load 9 (Operand.tmp 23), _, _, _, some (2, false)⟩ rfl (fun _ _ _ h => h) ?_ hHeld ?_
    rotate_left
    · (intro W hSW; (have s0 := hSW.1.cell 2 rfl; have sz := hSW.1.2; have t0 := hSW.2.cell 1 rfl; have t1 := hSW.2.cell 2 rfl; have t2 := hSW.2.cell 3 rfl; have tz := hSW.2.2); go_simp <;> (try with_reducible rfl))
    refine ready_call 9 ⟨some 22, Op.call { callee := Callee.value (Operand.func 67), args := #[Operand.tmp 19, Operand.tmp 21], argTypes := #[56, 9] }, _, _, _, some (2, false)⟩ (by kernel_rfl) rfl (by kernel_rfl) (fun KC hK => ?_)
    go_wp2_with fail
    refine (valueIn_any _ _ L (V i).f2 _ (by omega) HX.out.2.2.2.2.1 HX.out.2.2.2.1).mono ?_
    rintro r w2 ⟨rfl, hb⟩
    have H2 : Hid (OneS w0 w2 g (some ⟨b, off, none⟩) n cap V ord KB ∧ Bx w2 g [.slice (some ⟨b, off, none⟩) n cap, ov, .slice la L.length lc] ∧ Bx w2 w.heap.size [.int .i64 (V i).f0, .bool false, .string (V i).f2, .string (V i).f3, .int .i64 (V i).f4, .int .i64 (V i).f5]) := ⟨HX.out.1.next hb, HX.out.2.1.next hb, HX.out.2.2.1.next hb⟩
    rw [HX.out.2.2.2.2.2]
    clear hb
    refine hK.out _ _ ⟨H2.out.2.1, H2.out.2.2⟩ (fun hHeld => ?_)
    clear hK KC
    refine take_v (v := ?_) 12 ⟨some 25, Op.binOp BinOp.eql 9 (Operand.tmp 22) (Operand.tmp 24) 9, _, _, _, some (2, false)⟩ rfl (fun _ _ _ h => h) ?_ hHeld ?_
    rotate_left
    · (intro W _; go_simp <;> (try with_reducible rfl))
    refine take_v (v := ?_) 13 ⟨some 26, Op.pick (Operand.tmp 15) (Operand.const (Value.bool true)) (Operand.tmp 25), _, _, _, none⟩ rfl (fun _ _ _ h => h) ?_ hHeld ?_
    rotate_left
    · (intro W _; go_simp <;> (try with_reducible rfl))
    refine take_v (v := ?_) 14 ⟨some 4, Op.assign (Operand.tmp 26), _, _, _, none⟩ rfl (fun _ _ _ h => h) ?_ hHeld ?_
    rotate_left
    · (intro W _; go_simp <;> (try with_reducible rfl))
    refine wpAnyH_done (by kernel_rfl) ?_ _
    refine NoPanic.normal ?_
    clear hHeld
    go_wp2
    go_ret
    exact ⟨ret_bool HF.out.symm, H2.out.1⟩
  · have HF : Hid (fitB V ord i = true) := fit_write hw
    rw [hw] at HX
    refine wp_region_noPanic ?_
    refine wp_region_held_drew (S := fun W => Bx W w.heap.size [.int .i64 (V i).f0, .bool true, .string (V i).f2, .string (V i).f3, .int .i64 (V i).f4, .int .i64 (V i).f5]) (by kernel_rfl) HX.out.2.2.1 (fun hHeld => ?_)
    refine take_v (v := ?_) 0 ⟨some 13, Op.fieldAddr 28 (Operand.tmp 5) 1, _, _, _, none⟩ rfl (fun _ _ _ h => h) ?_ hHeld ?_
    rotate_left
    · (intro W _; go_simp <;> (try with_reducible rfl))
    refine take_v (v := ?_) 1 ⟨some 14, Op.load 4 (Operand.tmp 13), _, _, _, none⟩ rfl (fun _ _ _ h => h) ?_ hHeld ?_
    rotate_left
    · (intro W hSW; (have t0 := hSW.cell 1 rfl; have tz := hSW.2); go_simp <;> (try with_reducible rfl))
    refine take_v (v := ?_) 2 ⟨some 15, Op.move (Operand.tmp 14), _, _, _, none⟩ rfl (fun _ _ _ h => h) ?_ hHeld ?_
    rotate_left
    · (intro W _; go_simp <;> (try with_reducible rfl))
    refine take_n 3 ⟨some 16, Op.move (Operand.tmp 0), _, _, _, some (2, false)⟩ rfl (fun _ _ _ h => h) hHeld ?_
    refine take_n 4 ⟨some 17, Op.nilCheck (Operand.tmp 16), _, _, _, some (2, false)⟩ rfl (fun _ _ _ h => h) hHeld ?_
    refine take_n 5 ⟨some 18, Op.fieldAddr 58 (Operand.tmp 17) 2, _, _, _, some (2, false)⟩ rfl (fun _ _ _ h => h) hHeld ?_
    refine take_n 6 ⟨some 19, Op.load 56 (Operand.tmp 18), _, _, _, some (2, false)⟩ rfl (fun _ _ _ h => h) hHeld ?_
    refine take_n 7 ⟨some 20, Op.fieldAddr 28 (Operand.tmp 5) 2, _, _, _, some (2, false)⟩ rfl (fun _ _ _ h => h) hHeld ?_
    refine take_n 8 ⟨some 21, Op.load 9 (Operand.tmp 20), _, _, _, some (2, false)⟩ rfl (fun _ _ _ h => h) hHeld ?_
    refine take_n 9 ⟨some 22, Op.call { callee := Callee.value (Operand.func 67), args := #[Operand.tmp 19, Operand.tmp 21], argTypes := #[56, 9] }, _, _, _, some (2, false)⟩ rfl (fun _ _ _ h => h) hHeld ?_
    refine take_n 10 ⟨some 23, Op.fieldAddr 28 (Operand.tmp 5) 3, _, _, _, some (2, false)⟩ rfl (fun _ _ _ h => h) hHeld ?_
    refine take_n 11 ⟨some 24, Op.load 9 (Operand.tmp 23), _, _, _, some (2, false)⟩ rfl (fun _ _ _ h => h) hHeld ?_
    refine take_n 12 ⟨some 25, Op.binOp BinOp.eql 9 (Operand.tmp 22) (Operand.tmp 24) 9, _, _, _, some (2, false)⟩ rfl (fun _ _ _ h => h) hHeld ?_
    refine take_v (v := ?_) 13 ⟨some 26, Op.pick (Operand.tmp 15) (Operand.const (Value.bool true)) (Operand.tmp 25), _, _, _, none⟩ rfl (fun _ _ _ h => h) ?_ hHeld ?_
    rotate_left
    · (intro W _; go_simp <;> (try with_reducible rfl))
    refine take_v (v := ?_) 14 ⟨some 4, Op.assign (Operand.tmp 26), _, _, _, none⟩ rfl (fun _ _ _ h => h) ?_ hHeld ?_
    rotate_left
    · (intro W _; go_simp <;> (try with_reducible rfl))
    refine wpAnyH_done (by kernel_rfl) ?_ _
    refine NoPanic.normal ?_
    clear hHeld
    go_wp2
    go_ret
    exact ⟨ret_bool HF.out.symm, HX.out.1⟩
end Go.Proofs.Ytkniokbioggkeaa
