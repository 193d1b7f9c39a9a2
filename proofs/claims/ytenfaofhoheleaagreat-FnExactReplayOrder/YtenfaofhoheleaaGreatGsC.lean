/- The contract of areWrites. -/
import Derived.Test.YtenfaofhoheleaaGreatGsB
namespace Go.Proofs.YtenfaofhoheleaaGreat
open Go.RowKit
set_option linter.unusedVariables false

theorem no_cell {C : Nat → CellV} {n k : Nat} (hk : k < n) (h : ¬ cell1 C k) : clB (cellsP C n) = false := clB_no fun g => h (g k hk)
set_option maxRecDepth 100000 in
set_option maxHeartbeats 4000000 in
theorem areWrites_any (a : Option Addr) (n cap : Nat) (C : Nat → CellV) (w : World) (hn : n ≤ 1048576) (hz : ∀ i, i < n → (C i).f0.size ≤ maxLen ∧ (C i).f1.size ≤ maxLen) (hs : Sl w a n 2 (cellF C)) :
    Calls Tryz.prog 86 #[.slice a n cap] w fun r w' => r = .returned (.bool (clB (cellsP C n))) ∧ Below w.heap.size w w' := by
  have HS : Hid (Sl w a n 2 (cellF C) ∧ (∀ i, i < n → (C i).f0.size ≤ maxLen ∧ (C i).f1.size ≤ maxLen)) := ⟨hs, hz⟩
  clear hs hz
  go_enter Tryz.func86, Tryz.ntmps86
  go_wp2
  go_loopw [7] (fun i wr => ∃ k : Nat, k ≤ n ∧ i = .int .i64 k ∧ cellsP C k ∧ Below w.heap.size w wr) (fun i _ => n - (intOf i).toNat)
  case atStart => exact ⟨0, Nat.zero_le _, rfl, fun i hi => absurd hi (by omega), Below.refl _ _⟩
  case round =>
    obtain ⟨k, hk, rfl, hall, hBr⟩ := hrel
    by_cases hlt : k < n
    · rcases HS.out.1.below hBr (Nat.le_refl _) with h | ⟨b, off, rfl, hbs, hE⟩
      · omega
      have hlt' : (k : Int) < (n : Int) := by omega
      obtain ⟨c0, c1⟩ := cell_cells hE hlt
      have hd : Below wr.heap.size wr (wr.alloc (.cells #[.string (C k).f0, .string (C k).f1] 55)).drew := (Go.Joins.below_alloc1 _ _).drew
      have H1d : Hid (Bx (wr.alloc (.cells #[.string (C k).f0, .string (C k).f1] 55)).drew wr.heap.size [.string (C k).f0, .string (C k).f1] ∧ Below w.heap.size w (wr.alloc (.cells #[.string (C k).f0, .string (C k).f1] 55)).drew ∧ cellsP C k) := ⟨(Bx.new wr [.string (C k).f0, .string (C k).f1] 55).next (Below.refl _ _).drew, below_next' hBr hd, hall⟩
      have HE : Hid (∀ q, q < n → (wr.alloc (.cells #[.string (C k).f0, .string (C k).f1] 55)).drew.cell? ⟨b, off + q * 2, none⟩ = some (.string (C q).f0)) := fun q hq => (hd.cell (p := ⟨b, off + q * 2, none⟩) hbs).trans (cell_cells hE hq).1
      clear hall hBr hE hd
      cases e1 : keyOk (C k).f0
      · have HK : Hid (∀ W, Calls Tryz.prog 82 #[.string (C k).f0] W fun r w' => r = .returned (.bool false) ∧ w' = W) := fun W => by have := isKey_any (C k).f0 W (HS.out.2 k hlt).1; rw [e1] at this; exact this
        have HN : Hid (clB (cellsP C n) = false) := no_cell hlt (fun g => by rw [g.1.1] at e1; cases e1)
        clear HE
        go_upto_region 4 with fail
        refine wp_region_noPanic ?_
        refine wp_region_held_drew (S := fun W => Bx W wr.heap.size [.string (C k).f0, .string (C k).f1]) (by kernel_rfl) H1d.out.1 (fun hHeld => ?_)
        refine take_v (v := ?_) 0 ⟨some 12, Op.fieldAddr 55 (Operand.tmp 4) 0, _, _, _, none⟩ rfl (fun _ _ _ h => h) ?_ hHeld ?_
        rotate_left
        · (intro W _; go_simp <;> (try with_reducible rfl))
        refine take_v (v := ?_) 1 ⟨some 13, Op.load 9 (Operand.tmp 12), _, _, _, none⟩ rfl (fun _ _ _ h => h) ?_ hHeld ?_
        rotate_left
        · (intro W hSW; (have s0 := hSW.cell 0 rfl; have s1 := hSW.cell 1 rfl; have s6 := hSW.2); go_simp <;> (try with_reducible rfl))
        refine ready_call 2 ⟨some 14, Op.call { callee := Callee.value (Operand.func 82), args := #[Operand.tmp 13], argTypes := #[9] }, _, _, _, none⟩ (by kernel_rfl) rfl (by kernel_rfl) (fun KC hK => ?_)
        go_wp2_with fail
        refine (HK.out _).mono ?_
        rintro r w2 ⟨rfl, rfl⟩
        refine hK.out _ _ hHeld (fun hHeld => ?_)
        clear hK KC
        refine take_v (v := ?_) 3 ⟨some 15, Op.unOp UnOp.not 4 (Operand.tmp 14), _, _, _, none⟩ rfl (fun _ _ _ h => h) ?_ hHeld ?_
        rotate_left
        · (intro W _; go_simp <;> (try with_reducible rfl))
        refine take_v (v := ?_) 4 ⟨some 16, Op.move (Operand.tmp 15), _, _, _, none⟩ rfl (fun _ _ _ h => h) ?_ hHeld ?_
        rotate_left
        · (intro W _; go_simp <;> (try with_reducible rfl))
        refine take_n 5 ⟨some 17, Op.fieldAddr 55 (Operand.tmp 4) 1, _, _, _, some (4, false)⟩ rfl (fun _ _ _ h => h) hHeld ?_
        refine take_n 6 ⟨some 18, Op.load 9 (Operand.tmp 17), _, _, _, some (4, false)⟩ rfl (fun _ _ _ h => h) hHeld ?_
        refine take_n 7 ⟨some 19, Op.call { callee := Callee.value (Operand.func 83), args := #[Operand.tmp 18], argTypes := #[9] }, _, _, _, some (4, false)⟩ rfl (fun _ _ _ h => h) hHeld ?_
        refine take_n 8 ⟨some 20, Op.unOp UnOp.not 4 (Operand.tmp 19), _, _, _, some (4, false)⟩ rfl (fun _ _ _ h => h) hHeld ?_
        refine take_v (v := ?_) 9 ⟨some 21, Op.pick (Operand.tmp 16) (Operand.const (Value.bool true)) (Operand.tmp 20), _, _, _, none⟩ rfl (fun _ _ _ h => h) ?_ hHeld ?_
        rotate_left
        · (intro W _; go_simp <;> (try with_reducible rfl))
        refine take_v (v := ?_) 10 ⟨some 22, Op.move (Operand.tmp 21), _, _, _, none⟩ rfl (fun _ _ _ h => h) ?_ hHeld ?_
        rotate_left
        · (intro W _; go_simp <;> (try with_reducible rfl))
        refine take_n 11 ⟨some 23, Op.move (Operand.tmp 3), _, _, _, some (10, false)⟩ rfl (fun _ _ _ h => h) hHeld ?_
        refine take_n 12 ⟨some 24, Op.binOp BinOp.gtr 3 (Operand.tmp 23) (Operand.const (Value.int IntKind.i64 0)) 3, _, _, _, some (10, false)⟩ rfl (fun _ _ _ h => h) hHeld ?_
        refine take_n 13 ⟨some 25, Op.move (Operand.tmp 24), _, _, _, some (10, false)⟩ rfl (fun _ _ _ h => h) hHeld ?_
        refine take_n 14 ⟨some 26, Op.move (Operand.tmp 0), _, _, _, some (13, true)⟩ rfl (fun _ _ _ h => h) hHeld ?_
        refine take_n 15 ⟨some 27, Op.move (Operand.tmp 3), _, _, _, some (13, true)⟩ rfl (fun _ _ _ h => h) hHeld ?_
        refine take_n 16 ⟨some 28, Op.binOp BinOp.sub 3 (Operand.tmp 27) (Operand.const (Value.int IntKind.i64 1)) 3, _, _, _, some (13, true)⟩ rfl (fun _ _ _ h => h) hHeld ?_
        refine take_n 17 ⟨some 29, Op.indexAddr 28 (Operand.tmp 26) (Operand.tmp 28), _, _, _, some (13, true)⟩ rfl (fun _ _ _ h => h) hHeld ?_
        refine take_n 18 ⟨some 30, Op.fieldAddr 55 (Operand.tmp 29) 0, _, _, _, some (13, true)⟩ rfl (fun _ _ _ h => h) hHeld ?_
        refine take_n 19 ⟨some 31, Op.load 9 (Operand.tmp 30), _, _, _, some (13, true)⟩ rfl (fun _ _ _ h => h) hHeld ?_
        refine take_n 20 ⟨some 32, Op.fieldAddr 55 (Operand.tmp 4) 0, _, _, _, some (13, true)⟩ rfl (fun _ _ _ h => h) hHeld ?_
        refine take_n 21 ⟨some 33, Op.load 9 (Operand.tmp 32), _, _, _, some (13, true)⟩ rfl (fun _ _ _ h => h) hHeld ?_
        refine take_n 22 ⟨some 34, Op.binOp BinOp.geq 9 (Operand.tmp 31) (Operand.tmp 33) 9, _, _, _, some (13, true)⟩ rfl (fun _ _ _ h => h) hHeld ?_
        refine take_n 23 ⟨some 35, Op.pick (Operand.tmp 25) (Operand.tmp 34) (Operand.const (Value.bool false)), _, _, _, some (10, false)⟩ rfl (fun _ _ _ h => h) hHeld ?_
        refine take_v (v := ?_) 24 ⟨some 36, Op.pick (Operand.tmp 22) (Operand.const (Value.bool true)) (Operand.tmp 35), _, _, _, none⟩ rfl (fun _ _ _ h => h) ?_ hHeld ?_
        rotate_left
        · (intro W _; go_simp <;> (try with_reducible rfl))
        refine wpAnyH_done (by kernel_rfl) ?_ _
        refine NoPanic.normal ?_
        go_wp2
        go_ret
        exact ⟨ret_bool HN.out.symm, H1d.out.2.1⟩
      have HK : Hid (∀ W, Calls Tryz.prog 82 #[.string (C k).f0] W fun r w' => r = .returned (.bool true) ∧ w' = W) := fun W => by have := isKey_any (C k).f0 W (HS.out.2 k hlt).1; rw [e1] at this; exact this
      cases e2 : valOk (C k).f1
      · have HL : Hid (∀ W, Calls Tryz.prog 83 #[.string (C k).f1] W fun r w' => r = .returned (.bool false) ∧ w' = W) := fun W => by have := isValue_any (C k).f1 W (HS.out.2 k hlt).2; rw [e2] at this; exact this
        have HN : Hid (clB (cellsP C n) = false) := no_cell hlt (fun g => by rw [g.1.2] at e2; cases e2)
        clear HE
        go_upto_region 4 with fail
        refine wp_region_noPanic ?_
        refine wp_region_held_drew (S := fun W => Bx W wr.heap.size [.string (C k).f0, .string (C k).f1]) (by kernel_rfl) H1d.out.1 (fun hHeld => ?_)
        refine take_v (v := ?_) 0 ⟨some 12, Op.fieldAddr 55 (Operand.tmp 4) 0, _, _, _, none⟩ rfl (fun _ _ _ h => h) ?_ hHeld ?_
        rotate_left
        · (intro W _; go_simp <;> (try with_reducible rfl))
        refine take_v (v := ?_) 1 ⟨some 13, Op.load 9 (Operand.tmp 12), _, _, _, none⟩ rfl (fun _ _ _ h => h) ?_ hHeld ?_
        rotate_left
        · (intro W hSW; (have s0 := hSW.cell 0 rfl; have s1 := hSW.cell 1 rfl; have s6 := hSW.2); go_simp <;> (try with_reducible rfl))
        refine ready_call 2 ⟨some 14, Op.call { callee := Callee.value (Operand.func 82), args := #[Operand.tmp 13], argTypes := #[9] }, _, _, _, none⟩ (by kernel_rfl) rfl (by kernel_rfl) (fun KC hK => ?_)
        go_wp2_with fail
        refine (HK.out _).mono ?_
        rintro r w2 ⟨rfl, rfl⟩
        refine hK.out _ _ hHeld (fun hHeld => ?_)
        clear hK KC
        refine take_v (v := ?_) 3 ⟨some 15, Op.unOp UnOp.not 4 (Operand.tmp 14), _, _, _, none⟩ rfl (fun _ _ _ h => h) ?_ hHeld ?_
        rotate_left
        · (intro W _; go_simp <;> (try with_reducible rfl))
        refine take_v (v := ?_) 4 ⟨some 16, Op.move (Operand.tmp 15), _, _, _, none⟩ rfl (fun _ _ _ h => h) ?_ hHeld ?_
        rotate_left
        · (intro W _; go_simp <;> (try with_reducible rfl))
        refine take_v (v := ?_) 5 ⟨some 17, Op.fieldAddr 55 (Operand.tmp 4) 1, _, _, _, some (4, false)⟩ rfl (fun _ _ _ h => h) ?_ hHeld ?_
        rotate_left
        · (intro W _; go_simp <;> (try with_reducible rfl))
        refine take_v (v := ?_) 6 ⟨some 18, Op.load 9 (Operand.tmp 17), _, _, _, some (4, false)⟩ rfl (fun _ _ _ h => h) ?_ hHeld ?_
        rotate_left
        · (intro W hSW; (have s0 := hSW.cell 0 rfl; have s1 := hSW.cell 1 rfl; have s6 := hSW.2); go_simp <;> (try with_reducible rfl))
        refine ready_call 7 ⟨some 19, Op.call { callee := Callee.value (Operand.func 83), args := #[Operand.tmp 18], argTypes := #[9] }, _, _, _, some (4, false)⟩ (by kernel_rfl) rfl (by kernel_rfl) (fun KC hK => ?_)
        go_wp2_with fail
        refine (HL.out _).mono ?_
        rintro r w2 ⟨rfl, rfl⟩
        refine hK.out _ _ hHeld (fun hHeld => ?_)
        clear hK KC
        refine take_v (v := ?_) 8 ⟨some 20, Op.unOp UnOp.not 4 (Operand.tmp 19), _, _, _, some (4, false)⟩ rfl (fun _ _ _ h => h) ?_ hHeld ?_
        rotate_left
        · (intro W _; go_simp <;> (try with_reducible rfl))
        refine take_v (v := ?_) 9 ⟨some 21, Op.pick (Operand.tmp 16) (Operand.const (Value.bool true)) (Operand.tmp 20), _, _, _, none⟩ rfl (fun _ _ _ h => h) ?_ hHeld ?_
        rotate_left
        · (intro W _; go_simp <;> (try with_reducible rfl))
        refine take_v (v := ?_) 10 ⟨some 22, Op.move (Operand.tmp 21), _, _, _, none⟩ rfl (fun _ _ _ h => h) ?_ hHeld ?_
        rotate_left
        · (intro W _; go_simp <;> (try with_reducible rfl))
        refine take_n 11 ⟨some 23, Op.move (Operand.tmp 3), _, _, _, some (10, false)⟩ rfl (fun _ _ _ h => h) hHeld ?_
        refine take_n 12 ⟨some 24, Op.binOp BinOp.gtr 3 (Operand.tmp 23) (Operand.const (Value.int IntKind.i64 0)) 3, _, _, _, some (10, false)⟩ rfl (fun _ _ _ h => h) hHeld ?_
        refine take_n 13 ⟨some 25, Op.move (Operand.tmp 24), _, _, _, some (10, false)⟩ rfl (fun _ _ _ h => h) hHeld ?_
        refine take_n 14 ⟨some 26, Op.move (Operand.tmp 0), _, _, _, some (13, true)⟩ rfl (fun _ _ _ h => h) hHeld ?_
        refine take_n 15 ⟨some 27, Op.move (Operand.tmp 3), _, _, _, some (13, true)⟩ rfl (fun _ _ _ h => h) hHeld ?_
        refine take_n 16 ⟨some 28, Op.binOp BinOp.sub 3 (Operand.tmp 27) (Operand.const (Value.int IntKind.i64 1)) 3, _, _, _, some (13, true)⟩ rfl (fun _ _ _ h => h) hHeld ?_
        refine take_n 17 ⟨some 29, Op.indexAddr 28 (Operand.tmp 26) (Operand.tmp 28), _, _, _, some (13, true)⟩ rfl (fun _ _ _ h => h) hHeld ?_
        refine take_n 18 ⟨some 30, Op.fieldAddr 55 (Operand.tmp 29) 0, _, _, _, some (13, true)⟩ rfl (fun _ _ _ h => h) hHeld ?_
        refine take_n 19 ⟨some 31, Op.load 9 (Operand.tmp 30), _, _, _, some (13, true)⟩ rfl (fun _ _ _ h => h) hHeld ?_
        refine take_n 20 ⟨some 32, Op.fieldAddr 55 (Operand.tmp 4) 0, _, _, _, some (13, true)⟩ rfl (fun _ _ _ h => h) hHeld ?_
        refine take_n 21 ⟨some 33, Op.load 9 (Operand.tmp 32), _, _, _, some (13, true)⟩ rfl (fun _ _ _ h => h) hHeld ?_
        refine take_n 22 ⟨some 34, Op.binOp BinOp.geq 9 (Operand.tmp 31) (Operand.tmp 33) 9, _, _, _, some (13, true)⟩ rfl (fun _ _ _ h => h) hHeld ?_
        refine take_n 23 ⟨some 35, Op.pick (Operand.tmp 25) (Operand.tmp 34) (Operand.const (Value.bool false)), _, _, _, some (10, false)⟩ rfl (fun _ _ _ h => h) hHeld ?_
        refine take_v (v := ?_) 24 ⟨some 36, Op.pick (Operand.tmp 22) (Operand.const (Value.bool true)) (Operand.tmp 35), _, _, _, none⟩ rfl (fun _ _ _ h => h) ?_ hHeld ?_
        rotate_left
        · (intro W _; go_simp <;> (try with_reducible rfl))
        refine wpAnyH_done (by kernel_rfl) ?_ _
        refine NoPanic.normal ?_
        go_wp2
        go_ret
        exact ⟨ret_bool HN.out.symm, H1d.out.2.1⟩
      have HL : Hid (∀ W, Calls Tryz.prog 83 #[.string (C k).f1] W fun r w' => r = .returned (.bool true) ∧ w' = W) := fun W => by have := isValue_any (C k).f1 W (HS.out.2 k hlt).2; rw [e2] at this; exact this
      by_cases hk0 : k = 0
      · have hk0' : decide ((0 : Int) < (k : Int)) = false := by simp; omega
        have hk0n : decide (0 < k) = false := by simp; omega
        have HY : Hid (cell1 C k) := ⟨⟨e1, e2⟩, fun h => absurd h (by omega)⟩
        clear HE hk0
        go_upto_region 4 with fail
        refine wp_region_noPanic ?_
        refine wp_region_held_drew (S := fun W => Bx W wr.heap.size [.string (C k).f0, .string (C k).f1]) (by kernel_rfl) H1d.out.1 (fun hHeld => ?_)
        refine take_v (v := ?_) 0 ⟨some 12, Op.fieldAddr 55 (Operand.tmp 4) 0, _, _, _, none⟩ rfl (fun _ _ _ h => h) ?_ hHeld ?_
        rotate_left
        · (intro W _; go_simp <;> (try with_reducible rfl))
        refine take_v (v := ?_) 1 ⟨some 13, Op.load 9 (Operand.tmp 12), _, _, _, none⟩ rfl (fun _ _ _ h => h) ?_ hHeld ?_
        rotate_left
        · (intro W hSW; (have s0 := hSW.cell 0 rfl; have s1 := hSW.cell 1 rfl; have s6 := hSW.2); go_simp <;> (try with_reducible rfl))
        refine ready_call 2 ⟨some 14, Op.call { callee := Callee.value (Operand.func 82), args := #[Operand.tmp 13], argTypes := #[9] }, _, _, _, none⟩ (by kernel_rfl) rfl (by kernel_rfl) (fun KC hK => ?_)
        go_wp2_with fail
        refine (HK.out _).mono ?_
        rintro r w2 ⟨rfl, rfl⟩
        refine hK.out _ _ hHeld (fun hHeld => ?_)
        clear hK KC
        refine take_v (v := ?_) 3 ⟨some 15, Op.unOp UnOp.not 4 (Operand.tmp 14), _, _, _, none⟩ rfl (fun _ _ _ h => h) ?_ hHeld ?_
        rotate_left
        · (intro W _; go_simp <;> (try with_reducible rfl))
        refine take_v (v := ?_) 4 ⟨some 16, Op.move (Operand.tmp 15), _, _, _, none⟩ rfl (fun _ _ _ h => h) ?_ hHeld ?_
        rotate_left
        · (intro W _; go_simp <;> (try with_reducible rfl))
        refine take_v (v := ?_) 5 ⟨some 17, Op.fieldAddr 55 (Operand.tmp 4) 1, _, _, _, some (4, false)⟩ rfl (fun _ _ _ h => h) ?_ hHeld ?_
        rotate_left
        · (intro W _; go_simp <;> (try with_reducible rfl))
        refine take_v (v := ?_) 6 ⟨some 18, Op.load 9 (Operand.tmp 17), _, _, _, some (4, false)⟩ rfl (fun _ _ _ h => h) ?_ hHeld ?_
        rotate_left
        · (intro W hSW; (have s0 := hSW.cell 0 rfl; have s1 := hSW.cell 1 rfl; have s6 := hSW.2); go_simp <;> (try with_reducible rfl))
        refine ready_call 7 ⟨some 19, Op.call { callee := Callee.value (Operand.func 83), args := #[Operand.tmp 18], argTypes := #[9] }, _, _, _, some (4, false)⟩ (by kernel_rfl) rfl (by kernel_rfl) (fun KC hK => ?_)
        go_wp2_with fail
        refine (HL.out _).mono ?_
        rintro r w2 ⟨rfl, rfl⟩
        refine hK.out _ _ hHeld (fun hHeld => ?_)
        clear hK KC
        refine take_v (v := ?_) 8 ⟨some 20, Op.unOp UnOp.not 4 (Operand.tmp 19), _, _, _, some (4, false)⟩ rfl (fun _ _ _ h => h) ?_ hHeld ?_
        rotate_left
        · (intro W _; go_simp <;> (try with_reducible rfl))
        refine take_v (v := ?_) 9 ⟨some 21, Op.pick (Operand.tmp 16) (Operand.const (Value.bool true)) (Operand.tmp 20), _, _, _, none⟩ rfl (fun _ _ _ h => h) ?_ hHeld ?_
        rotate_left
        · (intro W _; go_simp <;> (try with_reducible rfl))
        refine take_v (v := ?_) 10 ⟨some 22, Op.move (Operand.tmp 21), _, _, _, none⟩ rfl (fun _ _ _ h => h) ?_ hHeld ?_
        rotate_left
        · (intro W _; go_simp <;> (try with_reducible rfl))
        refine take_v (v := ?_) 11 ⟨some 23, Op.move (Operand.tmp 3), _, _, _, some (10, false)⟩ rfl (fun _ _ _ h => h) ?_ hHeld ?_
        rotate_left
        · (intro W _; go_simp <;> (try with_reducible rfl))
        refine take_v (v := ?_) 12 ⟨some 24, Op.binOp BinOp.gtr 3 (Operand.tmp 23) (Operand.const (Value.int IntKind.i64 0)) 3, _, _, _, some (10, false)⟩ rfl (fun _ _ _ h => h) ?_ hHeld ?_
        rotate_left
        · (intro W _; go_simp <;> (try with_reducible rfl))
        refine take_v (v := ?_) 13 ⟨some 25, Op.move (Operand.tmp 24), _, _, _, some (10, false)⟩ rfl (fun _ _ _ h => h) ?_ hHeld ?_
        rotate_left
        · (intro W _; go_simp <;> (try with_reducible rfl))
        refine take_n 14 ⟨some 26, Op.move (Operand.tmp 0), _, _, _, some (13, true)⟩ rfl (fun _ _ _ h => h) hHeld ?_
        refine take_n 15 ⟨some 27, Op.move (Operand.tmp 3), _, _, _, some (13, true)⟩ rfl (fun _ _ _ h => h) hHeld ?_
        refine take_n 16 ⟨some 28, Op.binOp BinOp.sub 3 (Operand.tmp 27) (Operand.const (Value.int IntKind.i64 1)) 3, _, _, _, some (13, true)⟩ rfl (fun _ _ _ h => h) hHeld ?_
        refine take_n 17 ⟨some 29, Op.indexAddr 28 (Operand.tmp 26) (Operand.tmp 28), _, _, _, some (13, true)⟩ rfl (fun _ _ _ h => h) hHeld ?_
        refine take_n 18 ⟨some 30, Op.fieldAddr 55 (Operand.tmp 29) 0, _, _, _, some (13, true)⟩ rfl (fun _ _ _ h => h) hHeld ?_
        refine take_n 19 ⟨some 31, Op.load 9 (Operand.tmp 30), _, _, _, some (13, true)⟩ rfl (fun _ _ _ h => h) hHeld ?_
        refine take_n 20 ⟨some 32, Op.fieldAddr 55 (Operand.tmp 4) 0, _, _, _, some (13, true)⟩ rfl (fun _ _ _ h => h) hHeld ?_
        refine take_n 21 ⟨some 33, Op.load 9 (Operand.tmp 32), _, _, _, some (13, true)⟩ rfl (fun _ _ _ h => h) hHeld ?_
        refine take_n 22 ⟨some 34, Op.binOp BinOp.geq 9 (Operand.tmp 31) (Operand.tmp 33) 9, _, _, _, some (13, true)⟩ rfl (fun _ _ _ h => h) hHeld ?_
        refine take_v (v := ?_) 23 ⟨some 35, Op.pick (Operand.tmp 25) (Operand.tmp 34) (Operand.const (Value.bool false)), _, _, _, some (10, false)⟩ rfl (fun _ _ _ h => h) ?_ hHeld ?_
        rotate_left
        · (intro W _; go_simp <;> (try with_reducible rfl))
        refine take_v (v := ?_) 24 ⟨some 36, Op.pick (Operand.tmp 22) (Operand.const (Value.bool true)) (Operand.tmp 35), _, _, _, none⟩ rfl (fun _ _ _ h => h) ?_ hHeld ?_
        rotate_left
        · (intro W _; go_simp <;> (try with_reducible rfl))
        refine wpAnyH_done (by kernel_rfl) ?_ _
        refine NoPanic.normal ?_
        go_wp2
        go_roundw
        case rel => exact ⟨k + 1, by omega, by go_num, upto_succ H1d.out.2.2 HY.out, H1d.out.2.1⟩
        case measure => simp [intOf]; omega
      · obtain ⟨q, hq⟩ : ∃ q, q = k - 1 := ⟨_, rfl⟩
        have hwq : IntKind.i64.wrap ((k : Int) - 1) = (q : Int) := by rw [IntKind.wrap_i64]; omega
        have HQ : Hid (k = q + 1) := by show k = q + 1; omega
        have hq0 : (0 : Int) < (k : Int) := by omega
        have hq0n : decide (0 < k) = true := by simp; omega
        have hqn : (q : Int) < (n : Int) := by omega
        have HQ1 := (show Hid _ from HE.out q (by omega))
        clear HE hk0 hq
        have HC : Hid (cell1 C k ↔ Op.bytesLess (C q).f0.toList (C k).f0.toList = true) := by
          show _ ↔ _
          have : k - 1 = q := by have := HQ.out; omega
          constructor
          · intro g; have := g.2 (by omega); rwa [‹k - 1 = q›] at this
          · intro g; exact ⟨⟨e1, e2⟩, fun _ => by rw [‹k - 1 = q›]; exact g⟩
        cases e3 : Op.bytesLess (C q).f0.toList (C k).f0.toList
        · have HN : Hid (clB (cellsP C n) = false) := no_cell hlt (fun g => by rw [HC.out.1 g] at e3; cases e3)
          go_upto_region 4 with fail
          refine wp_region_noPanic ?_
          refine wp_region_held_drew (S := fun W => Bx W wr.heap.size [.string (C k).f0, .string (C k).f1] ∧ W.cell? ⟨b, off + q * 2, none⟩ = some (.string (C q).f0)) (by kernel_rfl) ⟨H1d.out.1, HQ1.out⟩ (fun hHeld => ?_)
          refine take_v (v := ?_) 0 ⟨some 12, Op.fieldAddr 55 (Operand.tmp 4) 0, _, _, _, none⟩ rfl (fun _ _ _ h => h) ?_ hHeld ?_
          rotate_left
          · (intro W _; go_simp <;> (try with_reducible rfl))
          refine take_v (v := ?_) 1 ⟨some 13, Op.load 9 (Operand.tmp 12), _, _, _, none⟩ rfl (fun _ _ _ h => h) ?_ hHeld ?_
          rotate_left
          · (intro W hSW; (have s0 := hSW.1.cell 0 rfl; have s1 := hSW.1.cell 1 rfl; have s6 := hSW.1.2; have s7 := hSW.2); go_simp <;> (try with_reducible rfl))
          refine ready_call 2 ⟨some 14, Op.call { callee := Callee.value (Operand.func 82), args := #[Operand.tmp 13], argTypes := #[9] }, _, _, _, none⟩ (by kernel_rfl) rfl (by kernel_rfl) (fun KC hK => ?_)
          go_wp2_with fail
          refine (HK.out _).mono ?_
          rintro r w2 ⟨rfl, rfl⟩
          refine hK.out _ _ hHeld (fun hHeld => ?_)
          clear hK KC
          refine take_v (v := ?_) 3 ⟨some 15, Op.unOp UnOp.not 4 (Operand.tmp 14), _, _, _, none⟩ rfl (fun _ _ _ h => h) ?_ hHeld ?_
          rotate_left
          · (intro W _; go_simp <;> (try with_reducible rfl))
          refine take_v (v := ?_) 4 ⟨some 16, Op.move (Operand.tmp 15), _, _, _, none⟩ rfl (fun _ _ _ h => h) ?_ hHeld ?_
          rotate_left
          · (intro W _; go_simp <;> (try with_reducible rfl))
          refine take_v (v := ?_) 5 ⟨some 17, Op.fieldAddr 55 (Operand.tmp 4) 1, _, _, _, some (4, false)⟩ rfl (fun _ _ _ h => h) ?_ hHeld ?_
          rotate_left
          · (intro W _; go_simp <;> (try with_reducible rfl))
          refine take_v (v := ?_) 6 ⟨some 18, Op.load 9 (Operand.tmp 17), _, _, _, some (4, false)⟩ rfl (fun _ _ _ h => h) ?_ hHeld ?_
          rotate_left
          · (intro W hSW; (have s0 := hSW.1.cell 0 rfl; have s1 := hSW.1.cell 1 rfl; have s6 := hSW.1.2; have s7 := hSW.2); go_simp <;> (try with_reducible rfl))
          refine ready_call 7 ⟨some 19, Op.call { callee := Callee.value (Operand.func 83), args := #[Operand.tmp 18], argTypes := #[9] }, _, _, _, some (4, false)⟩ (by kernel_rfl) rfl (by kernel_rfl) (fun KC hK => ?_)
          go_wp2_with fail
          refine (HL.out _).mono ?_
          rintro r w2 ⟨rfl, rfl⟩
          refine hK.out _ _ hHeld (fun hHeld => ?_)
          clear hK KC
          refine take_v (v := ?_) 8 ⟨some 20, Op.unOp UnOp.not 4 (Operand.tmp 19), _, _, _, some (4, false)⟩ rfl (fun _ _ _ h => h) ?_ hHeld ?_
          rotate_left
          · (intro W _; go_simp <;> (try with_reducible rfl))
          refine take_v (v := ?_) 9 ⟨some 21, Op.pick (Operand.tmp 16) (Operand.const (Value.bool true)) (Operand.tmp 20), _, _, _, none⟩ rfl (fun _ _ _ h => h) ?_ hHeld ?_
          rotate_left
          · (intro W _; go_simp <;> (try with_reducible rfl))
          refine take_v (v := ?_) 10 ⟨some 22, Op.move (Operand.tmp 21), _, _, _, none⟩ rfl (fun _ _ _ h => h) ?_ hHeld ?_
          rotate_left
          · (intro W _; go_simp <;> (try with_reducible rfl))
          refine take_v (v := ?_) 11 ⟨some 23, Op.move (Operand.tmp 3), _, _, _, some (10, false)⟩ rfl (fun _ _ _ h => h) ?_ hHeld ?_
          rotate_left
          · (intro W _; go_simp <;> (try with_reducible rfl))
          refine take_v (v := ?_) 12 ⟨some 24, Op.binOp BinOp.gtr 3 (Operand.tmp 23) (Operand.const (Value.int IntKind.i64 0)) 3, _, _, _, some (10, false)⟩ rfl (fun _ _ _ h => h) ?_ hHeld ?_
          rotate_left
          · (intro W _; go_simp <;> (try with_reducible rfl))
          refine take_v (v := ?_) 13 ⟨some 25, Op.move (Operand.tmp 24), _, _, _, some (10, false)⟩ rfl (fun _ _ _ h => h) ?_ hHeld ?_
          rotate_left
          · (intro W _; go_simp <;> (try with_reducible rfl))
          refine take_v (v := ?_) 14 ⟨some 26, Op.move (Operand.tmp 0), _, _, _, some (13, true)⟩ rfl (fun _ _ _ h => h) ?_ hHeld ?_
          rotate_left
          · (intro W _; go_simp <;> (try with_reducible rfl))
          refine take_v (v := ?_) 15 ⟨some 27, Op.move (Operand.tmp 3), _, _, _, some (13, true)⟩ rfl (fun _ _ _ h => h) ?_ hHeld ?_
          rotate_left
          · (intro W _; go_simp <;> (try with_reducible rfl))
          refine take_v (v := ?_) 16 ⟨some 28, Op.binOp BinOp.sub 3 (Operand.tmp 27) (Operand.const (Value.int IntKind.i64 1)) 3, _, _, _, some (13, true)⟩ rfl (fun _ _ _ h => h) ?_ hHeld ?_
          rotate_left
          · (intro W _; go_simp <;> (try with_reducible rfl))
          refine take_v (v := ?_) 17 ⟨some 29, Op.indexAddr 28 (Operand.tmp 26) (Operand.tmp 28), _, _, _, some (13, true)⟩ rfl (fun _ _ _ h => h) ?_ hHeld ?_
          rotate_left
          · (intro W _; go_simp <;> (try with_reducible rfl))
          refine take_v (v := ?_) 18 ⟨some 30, Op.fieldAddr 55 (Operand.tmp 29) 0, _, _, _, some (13, true)⟩ rfl (fun _ _ _ h => h) ?_ hHeld ?_
          rotate_left
          · (intro W _; go_simp <;> (try with_reducible rfl))
          refine take_v (v := ?_) 19 ⟨some 31, Op.load 9 (Operand.tmp 30), _, _, _, some (13, true)⟩ rfl (fun _ _ _ h => h) ?_ hHeld ?_
          rotate_left
          · (intro W hSW; (have s0 := hSW.1.cell 0 rfl; have s1 := hSW.1.cell 1 rfl; have s6 := hSW.1.2; have s7 := hSW.2); go_simp <;> (try with_reducible rfl))
          refine take_v (v := ?_) 20 ⟨some 32, Op.fieldAddr 55 (Operand.tmp 4) 0, _, _, _, some (13, true)⟩ rfl (fun _ _ _ h => h) ?_ hHeld ?_
          rotate_left
          · (intro W _; go_simp <;> (try with_reducible rfl))
          refine take_v (v := ?_) 21 ⟨some 33, Op.load 9 (Operand.tmp 32), _, _, _, some (13, true)⟩ rfl (fun _ _ _ h => h) ?_ hHeld ?_
          rotate_left
          · (intro W hSW; (have s0 := hSW.1.cell 0 rfl; have s1 := hSW.1.cell 1 rfl; have s6 := hSW.1.2; have s7 := hSW.2); go_simp <;> (try with_reducible rfl))
          refine take_v (v := ?_) 22 ⟨some 34, Op.binOp BinOp.geq 9 (Operand.tmp 31) (Operand.tmp 33) 9, _, _, _, some (13, true)⟩ rfl (fun _ _ _ h => h) ?_ hHeld ?_
          rotate_left
          · (intro W _; go_simp <;> (try with_reducible rfl))
          refine take_v (v := ?_) 23 ⟨some 35, Op.pick (Operand.tmp 25) (Operand.tmp 34) (Operand.const (Value.bool false)), _, _, _, some (10, false)⟩ rfl (fun _ _ _ h => h) ?_ hHeld ?_
          rotate_left
          · (intro W _; go_simp <;> (try with_reducible rfl))
          refine take_v (v := ?_) 24 ⟨some 36, Op.pick (Operand.tmp 22) (Operand.const (Value.bool true)) (Operand.tmp 35), _, _, _, none⟩ rfl (fun _ _ _ h => h) ?_ hHeld ?_
          rotate_left
          · (intro W _; go_simp <;> (try with_reducible rfl))
          refine wpAnyH_done (by kernel_rfl) ?_ _
          refine NoPanic.normal ?_
          go_wp2
          go_ret
          exact ⟨ret_bool HN.out.symm, H1d.out.2.1⟩
        · have HY : Hid (cell1 C k) := HC.out.2 e3
          go_upto_region 4 with fail
          refine wp_region_noPanic ?_
          refine wp_region_held_drew (S := fun W => Bx W wr.heap.size [.string (C k).f0, .string (C k).f1] ∧ W.cell? ⟨b, off + q * 2, none⟩ = some (.string (C q).f0)) (by kernel_rfl) ⟨H1d.out.1, HQ1.out⟩ (fun hHeld => ?_)
          refine take_v (v := ?_) 0 ⟨some 12, Op.fieldAddr 55 (Operand.tmp 4) 0, _, _, _, none⟩ rfl (fun _ _ _ h => h) ?_ hHeld ?_
          rotate_left
          · (intro W _; go_simp <;> (try with_reducible rfl))
          refine take_v (v := ?_) 1 ⟨some 13, Op.load 9 (Operand.tmp 12), _, _, _, none⟩ rfl (fun _ _ _ h => h) ?_ hHeld ?_
          rotate_left
          · (intro W hSW; (have s0 := hSW.1.cell 0 rfl; have s1 := hSW.1.cell 1 rfl; have s6 := hSW.1.2; have s7 := hSW.2); go_simp <;> (try with_reducible rfl))
          refine ready_call 2 ⟨some 14, Op.call { callee := Callee.value (Operand.func 82), args := #[Operand.tmp 13], argTypes := #[9] }, _, _, _, none⟩ (by kernel_rfl) rfl (by kernel_rfl) (fun KC hK => ?_)
          go_wp2_with fail
          refine (HK.out _).mono ?_
          rintro r w2 ⟨rfl, rfl⟩
          refine hK.out _ _ hHeld (fun hHeld => ?_)
          clear hK KC
          refine take_v (v := ?_) 3 ⟨some 15, Op.unOp UnOp.not 4 (Operand.tmp 14), _, _, _, none⟩ rfl (fun _ _ _ h => h) ?_ hHeld ?_
          rotate_left
          · (intro W _; go_simp <;> (try with_reducible rfl))
          refine take_v (v := ?_) 4 ⟨some 16, Op.move (Operand.tmp 15), _, _, _, none⟩ rfl (fun _ _ _ h => h) ?_ hHeld ?_
          rotate_left
          · (intro W _; go_simp <;> (try with_reducible rfl))
          refine take_v (v := ?_) 5 ⟨some 17, Op.fieldAddr 55 (Operand.tmp 4) 1, _, _, _, some (4, false)⟩ rfl (fun _ _ _ h => h) ?_ hHeld ?_
          rotate_left
          · (intro W _; go_simp <;> (try with_reducible rfl))
          refine take_v (v := ?_) 6 ⟨some 18, Op.load 9 (Operand.tmp 17), _, _, _, some (4, false)⟩ rfl (fun _ _ _ h => h) ?_ hHeld ?_
          rotate_left
          · (intro W hSW; (have s0 := hSW.1.cell 0 rfl; have s1 := hSW.1.cell 1 rfl; have s6 := hSW.1.2; have s7 := hSW.2); go_simp <;> (try with_reducible rfl))
          refine ready_call 7 ⟨some 19, Op.call { callee := Callee.value (Operand.func 83), args := #[Operand.tmp 18], argTypes := #[9] }, _, _, _, some (4, false)⟩ (by kernel_rfl) rfl (by kernel_rfl) (fun KC hK => ?_)
          go_wp2_with fail
          refine (HL.out _).mono ?_
          rintro r w2 ⟨rfl, rfl⟩
          refine hK.out _ _ hHeld (fun hHeld => ?_)
          clear hK KC
          refine take_v (v := ?_) 8 ⟨some 20, Op.unOp UnOp.not 4 (Operand.tmp 19), _, _, _, some (4, false)⟩ rfl (fun _ _ _ h => h) ?_ hHeld ?_
          rotate_left
          · (intro W _; go_simp <;> (try with_reducible rfl))
          refine take_v (v := ?_) 9 ⟨some 21, Op.pick (Operand.tmp 16) (Operand.const (Value.bool true)) (Operand.tmp 20), _, _, _, none⟩ rfl (fun _ _ _ h => h) ?_ hHeld ?_
          rotate_left
          · (intro W _; go_simp <;> (try with_reducible rfl))
          refine take_v (v := ?_) 10 ⟨some 22, Op.move (Operand.tmp 21), _, _, _, none⟩ rfl (fun _ _ _ h => h) ?_ hHeld ?_
          rotate_left
          · (intro W _; go_simp <;> (try with_reducible rfl))
          refine take_v (v := ?_) 11 ⟨some 23, Op.move (Operand.tmp 3), _, _, _, some (10, false)⟩ rfl (fun _ _ _ h => h) ?_ hHeld ?_
          rotate_left
          · (intro W _; go_simp <;> (try with_reducible rfl))
          refine take_v (v := ?_) 12 ⟨some 24, Op.binOp BinOp.gtr 3 (Operand.tmp 23) (Operand.const (Value.int IntKind.i64 0)) 3, _, _, _, some (10, false)⟩ rfl (fun _ _ _ h => h) ?_ hHeld ?_
          rotate_left
          · (intro W _; go_simp <;> (try with_reducible rfl))
          refine take_v (v := ?_) 13 ⟨some 25, Op.move (Operand.tmp 24), _, _, _, some (10, false)⟩ rfl (fun _ _ _ h => h) ?_ hHeld ?_
          rotate_left
          · (intro W _; go_simp <;> (try with_reducible rfl))
          refine take_v (v := ?_) 14 ⟨some 26, Op.move (Operand.tmp 0), _, _, _, some (13, true)⟩ rfl (fun _ _ _ h => h) ?_ hHeld ?_
          rotate_left
          · (intro W _; go_simp <;> (try with_reducible rfl))
          refine take_v (v := ?_) 15 ⟨some 27, Op.move (Operand.tmp 3), _, _, _, some (13, true)⟩ rfl (fun _ _ _ h => h) ?_ hHeld ?_
          rotate_left
          · (intro W _; go_simp <;> (try with_reducible rfl))
          refine take_v (v := ?_) 16 ⟨some 28, Op.binOp BinOp.sub 3 (Operand.tmp 27) (Operand.const (Value.int IntKind.i64 1)) 3, _, _, _, some (13, true)⟩ rfl (fun _ _ _ h => h) ?_ hHeld ?_
          rotate_left
          · (intro W _; go_simp <;> (try with_reducible rfl))
          refine take_v (v := ?_) 17 ⟨some 29, Op.indexAddr 28 (Operand.tmp 26) (Operand.tmp 28), _, _, _, some (13, true)⟩ rfl (fun _ _ _ h => h) ?_ hHeld ?_
          rotate_left
          · (intro W _; go_simp <;> (try with_reducible rfl))
          refine take_v (v := ?_) 18 ⟨some 30, Op.fieldAddr 55 (Operand.tmp 29) 0, _, _, _, some (13, true)⟩ rfl (fun _ _ _ h => h) ?_ hHeld ?_
          rotate_left
          · (intro W _; go_simp <;> (try with_reducible rfl))
          refine take_v (v := ?_) 19 ⟨some 31, Op.load 9 (Operand.tmp 30), _, _, _, some (13, true)⟩ rfl (fun _ _ _ h => h) ?_ hHeld ?_
          rotate_left
          · (intro W hSW; (have s0 := hSW.1.cell 0 rfl; have s1 := hSW.1.cell 1 rfl; have s6 := hSW.1.2; have s7 := hSW.2); go_simp <;> (try with_reducible rfl))
          refine take_v (v := ?_) 20 ⟨some 32, Op.fieldAddr 55 (Operand.tmp 4) 0, _, _, _, some (13, true)⟩ rfl (fun _ _ _ h => h) ?_ hHeld ?_
          rotate_left
          · (intro W _; go_simp <;> (try with_reducible rfl))
          refine take_v (v := ?_) 21 ⟨some 33, Op.load 9 (Operand.tmp 32), _, _, _, some (13, true)⟩ rfl (fun _ _ _ h => h) ?_ hHeld ?_
          rotate_left
          · (intro W hSW; (have s0 := hSW.1.cell 0 rfl; have s1 := hSW.1.cell 1 rfl; have s6 := hSW.1.2; have s7 := hSW.2); go_simp <;> (try with_reducible rfl))
          refine take_v (v := ?_) 22 ⟨some 34, Op.binOp BinOp.geq 9 (Operand.tmp 31) (Operand.tmp 33) 9, _, _, _, some (13, true)⟩ rfl (fun _ _ _ h => h) ?_ hHeld ?_
          rotate_left
          · (intro W _; go_simp <;> (try with_reducible rfl))
          refine take_v (v := ?_) 23 ⟨some 35, Op.pick (Operand.tmp 25) (Operand.tmp 34) (Operand.const (Value.bool false)), _, _, _, some (10, false)⟩ rfl (fun _ _ _ h => h) ?_ hHeld ?_
          rotate_left
          · (intro W _; go_simp <;> (try with_reducible rfl))
          refine take_v (v := ?_) 24 ⟨some 36, Op.pick (Operand.tmp 22) (Operand.const (Value.bool true)) (Operand.tmp 35), _, _, _, none⟩ rfl (fun _ _ _ h => h) ?_ hHeld ?_
          rotate_left
          · (intro W _; go_simp <;> (try with_reducible rfl))
          refine wpAnyH_done (by kernel_rfl) ?_ _
          refine NoPanic.normal ?_
          go_wp2
          go_roundw
          case rel => exact ⟨k + 1, by omega, by go_num, upto_succ H1d.out.2.2 HY.out, H1d.out.2.1⟩
          case measure => simp [intOf]; omega
    · have hkn : k = n := by omega
      subst hkn
      have HN : Hid (clB (cellsP C k) = true) := clB_yes hall
      have HB : Hid (Below w.heap.size w wr) := hBr
      clear hall hBr
      go_wp2
      go_ret
      exact ⟨ret_bool HN.out.symm, HB.out⟩
end Go.Proofs.YtenfaofhoheleaaGreat
