/- The contracts of areHolds and areWaits. -/
import Derived.Test.YtnapgnkhajkbkaaGlC
import Derived.Test.YtnapgnkhajkbkaaRg
namespace Go.Proofs.Ytnapgnkhajkbkaa
open Go.RowKit
set_option linter.unusedVariables false

theorem isHold_is {t m : Int} {q : Bool} (h : hdOk t m = q) (w : World) :
    Calls Try.prog 61 #[.agg #[.int .i64 t, .int .i64 m]] w fun r w' => r = .returned (.bool q) ∧ Below w.heap.size w w' := h ▸ isHold_any t m w
theorem holds_no {T M : Nat → Int} {n k : Nat} (hk : k < n) (h : ¬ hold1 T M n k) : decide (holdsP T M n) = false := by
  simp only [decide_eq_false_iff_not]; exact fun g => h (g.2 k hk)
set_option maxRecDepth 100000 in
set_option maxHeartbeats 2000000 in
theorem areHolds_any (a : Option Addr) (n cap : Nat) (T M : Nat → Int) (w : World) (hn : n ≤ 1048576) (hs : Sl w a n 2 (hdF T M)) :
    Calls Try.prog 50 #[.slice a n cap] w fun r w' => r = .returned (.bool (decide (holdsP T M n))) ∧ Below w.heap.size w w' := by
  have HS : Hid (Sl w a n 2 (hdF T M)) := hs
  clear hs
  go_enter Try.func50, Try.ntmps50
  go_wp2
  go_loopw [7] (fun i wr => ∃ k : Nat, k ≤ n ∧ i = .int .i64 k ∧ (∀ j, j < k → hold1 T M n j) ∧ Below w.heap.size w wr) (fun i _ => n - (intOf i).toNat)
  case atStart => exact ⟨0, Nat.zero_le _, rfl, fun j hj => absurd hj (by omega), Below.refl _ _⟩
  case round =>
    obtain ⟨k, hk, rfl, hall, hBr⟩ := hrel
    by_cases hlt : k < n
    · rcases HS.out.below hBr (Nat.le_refl _) with h | ⟨b, off, rfl, hbs, hE⟩
      · omega
      have hlt' : (k : Int) < (n : Int) := by omega
      obtain ⟨c0, c1⟩ := hd_cells hE hlt
      have hz : w.heap.size ≤ wr.heap.size := hBr.size
      have HH : Hid ((∀ j, j < k → hold1 T M n j) ∧ Below w.heap.size w wr) := ⟨hall, hBr⟩
      have hp : 0 < k → wr.cell? ⟨b, off + (k - 1) * 2, none⟩ = some (.int .i64 (T (k - 1))) := fun h => (hd_cells hE (show k - 1 < n by omega)).1
      clear hE hall hBr
      have hx0 := Bx.new wr [.int .i64 (T k), .int .i64 (M k)] 50
      have HX : Hid (Bx (wr.alloc (.cells #[.int .i64 (T k), .int .i64 (M k)] 50)).drew wr.heap.size [.int .i64 (T k), .int .i64 (M k)]) := hx0.next (Below.refl _ _).drew
      have HB1 : Hid (Below w.heap.size w (wr.alloc (.cells #[.int .i64 (T k), .int .i64 (M k)] 50)).drew) := (HH.out.2.alloc hz _).drew
      clear hx0
      cases hd : hdOk (T k) (M k)
      · have HN : Hid (decide (holdsP T M n) = false) := holds_no hlt (fun g => by rw [g.1] at hd; cases hd)
        clear hp
        go_upto_region 4 with fail
        go_cut [29] (fun s29 wx => s29 = .bool true ∧ Below w.heap.size w wx)
        case first =>
          refine wp_region_noPanic ?_
          refine wp_region_held_drew (S := fun W => W.cell? ⟨wr.heap.size, 0, none⟩ = some (.int .i64 (T k)) ∧ W.cell? ⟨wr.heap.size, 1, none⟩ = some (.int .i64 (M k))) (by kernel_rfl) ⟨HX.out.cell 0 rfl, HX.out.cell 1 rfl⟩ (fun hHeld => ?_)
          refine take_v (v := ?_) 0 ⟨some 12, Op.load 50 (Operand.tmp 4), _, _, _, none⟩ rfl (fun _ _ _ h => h) ?_ hHeld ?_
          rotate_left
          · (intro W hSW; obtain ⟨sw0, sw1⟩ := hSW; go_simp <;> (try with_reducible rfl))
          refine ready_call 1 ⟨some 13, Op.call { callee := Callee.value (Operand.func 61), args := #[Operand.tmp 12], argTypes := #[50] }, _, _, _, none⟩ (by kernel_rfl) rfl (by kernel_rfl) (fun KC hK => ?_)
          go_wp2_with fail
          refine (isHold_is hd _).mono ?_
          rintro e w1 ⟨rfl, hb⟩
          refine hK.out _ _ ⟨(hb.cell (p := ⟨wr.heap.size, 0, none⟩) (by simp)).trans hHeld.1, (hb.cell (p := ⟨wr.heap.size, 1, none⟩) (by simp)).trans hHeld.2⟩ (fun hHeld => ?_)
          clear hK KC
          refine take_v (v := ?_) 2 ⟨some 14, Op.unOp UnOp.not 4 (Operand.tmp 13), _, _, _, none⟩ rfl (fun _ _ _ h => h) ?_ hHeld ?_
          rotate_left
          · (intro W _; go_simp <;> (try with_reducible rfl))
          refine take_v (v := ?_) 3 ⟨some 15, Op.move (Operand.tmp 14), _, _, _, none⟩ rfl (fun _ _ _ h => h) ?_ hHeld ?_
          rotate_left
          · (intro W _; go_simp <;> (try with_reducible rfl))
          refine take_n 4 ⟨some 16, Op.move (Operand.tmp 3), _, _, _, some (3, false)⟩ rfl (fun _ _ _ h => h) hHeld ?_
          refine take_n 5 ⟨some 17, Op.binOp BinOp.gtr 3 (Operand.tmp 16) (Operand.const (Value.int IntKind.i64 0)) 3, _, _, _, some (3, false)⟩ rfl (fun _ _ _ h => h) hHeld ?_
          refine take_n 6 ⟨some 18, Op.move (Operand.tmp 17), _, _, _, some (3, false)⟩ rfl (fun _ _ _ h => h) hHeld ?_
          refine take_n 7 ⟨some 19, Op.move (Operand.tmp 0), _, _, _, some (6, true)⟩ rfl (fun _ _ _ h => h) hHeld ?_
          refine take_n 8 ⟨some 20, Op.move (Operand.tmp 3), _, _, _, some (6, true)⟩ rfl (fun _ _ _ h => h) hHeld ?_
          refine take_n 9 ⟨some 21, Op.binOp BinOp.sub 3 (Operand.tmp 20) (Operand.const (Value.int IntKind.i64 1)) 3, _, _, _, some (6, true)⟩ rfl (fun _ _ _ h => h) hHeld ?_
          refine take_n 10 ⟨some 22, Op.indexAddr 46 (Operand.tmp 19) (Operand.tmp 21), _, _, _, some (6, true)⟩ rfl (fun _ _ _ h => h) hHeld ?_
          refine take_n 11 ⟨some 23, Op.fieldAddr 50 (Operand.tmp 22) 0, _, _, _, some (6, true)⟩ rfl (fun _ _ _ h => h) hHeld ?_
          refine take_n 12 ⟨some 24, Op.load 3 (Operand.tmp 23), _, _, _, some (6, true)⟩ rfl (fun _ _ _ h => h) hHeld ?_
          refine take_n 13 ⟨some 25, Op.fieldAddr 50 (Operand.tmp 4) 0, _, _, _, some (6, true)⟩ rfl (fun _ _ _ h => h) hHeld ?_
          refine take_n 14 ⟨some 26, Op.load 3 (Operand.tmp 25), _, _, _, some (6, true)⟩ rfl (fun _ _ _ h => h) hHeld ?_
          refine take_n 15 ⟨some 27, Op.binOp BinOp.geq 3 (Operand.tmp 24) (Operand.tmp 26) 3, _, _, _, some (6, true)⟩ rfl (fun _ _ _ h => h) hHeld ?_
          refine take_n 16 ⟨some 28, Op.pick (Operand.tmp 18) (Operand.tmp 27) (Operand.const (Value.bool false)), _, _, _, some (3, false)⟩ rfl (fun _ _ _ h => h) hHeld ?_
          refine take_v (v := ?_) 17 ⟨some 29, Op.pick (Operand.tmp 15) (Operand.const (Value.bool true)) (Operand.tmp 28), _, _, _, none⟩ rfl (fun _ _ _ h => h) ?_ hHeld ?_
          rotate_left
          · (intro W _; go_simp <;> (try with_reducible rfl))
          refine wpAnyH_done (by kernel_rfl) ?_ _
          refine NoPanic.normal ?_
          go_wp2_with fail
          go_meet
          exact ⟨rfl, HB1.out.trans (hb.mono (by have := HB1.out.size; exact this))⟩
        case rest =>
          obtain ⟨rfl, hb2⟩ := hcut
          go_wp2
          go_ret
          exact ⟨ret_bool HN.out.symm, hb2⟩
      · by_cases hk0 : k = 0
        · have hk0' : decide ((0 : Int) < (k : Int)) = false := by simp; omega
          have hk0n : decide (0 < k) = false := by simp; omega
          have HK0 : Hid (k = 0) := hk0
          clear hk0
          clear hp
          go_upto_region 4 with fail
          go_cut [29] (fun s29 wx => s29 = .bool false ∧ Bx wx wr.heap.size [.int .i64 (T k), .int .i64 (M k)] ∧ Below w.heap.size w wx)
          case first =>
            refine wp_region_noPanic ?_
            refine wp_region_held_drew (S := fun W => W.cell? ⟨wr.heap.size, 0, none⟩ = some (.int .i64 (T k)) ∧ W.cell? ⟨wr.heap.size, 1, none⟩ = some (.int .i64 (M k))) (by kernel_rfl) ⟨HX.out.cell 0 rfl, HX.out.cell 1 rfl⟩ (fun hHeld => ?_)
            refine take_v (v := ?_) 0 ⟨some 12, Op.load 50 (Operand.tmp 4), _, _, _, none⟩ rfl (fun _ _ _ h => h) ?_ hHeld ?_
            rotate_left
            · (intro W hSW; obtain ⟨sw0, sw1⟩ := hSW; go_simp <;> (try with_reducible rfl))
            refine ready_call 1 ⟨some 13, Op.call { callee := Callee.value (Operand.func 61), args := #[Operand.tmp 12], argTypes := #[50] }, _, _, _, none⟩ (by kernel_rfl) rfl (by kernel_rfl) (fun KC hK => ?_)
            go_wp2_with fail
            refine (isHold_is hd _).mono ?_
            rintro e w1 ⟨rfl, hb⟩
            refine hK.out _ _ ⟨(hb.cell (p := ⟨wr.heap.size, 0, none⟩) (by simp)).trans hHeld.1, (hb.cell (p := ⟨wr.heap.size, 1, none⟩) (by simp)).trans hHeld.2⟩ (fun hHeld => ?_)
            clear hK KC
            refine take_v (v := ?_) 2 ⟨some 14, Op.unOp UnOp.not 4 (Operand.tmp 13), _, _, _, none⟩ rfl (fun _ _ _ h => h) ?_ hHeld ?_
            rotate_left
            · (intro W _; go_simp <;> (try with_reducible rfl))
            refine take_v (v := ?_) 3 ⟨some 15, Op.move (Operand.tmp 14), _, _, _, none⟩ rfl (fun _ _ _ h => h) ?_ hHeld ?_
            rotate_left
            · (intro W _; go_simp <;> (try with_reducible rfl))
            refine take_v (v := ?_) 4 ⟨some 16, Op.move (Operand.tmp 3), _, _, _, some (3, false)⟩ rfl (fun _ _ _ h => h) ?_ hHeld ?_
            rotate_left
            · (intro W _; go_simp <;> (try with_reducible rfl))
            refine take_v (v := ?_) 5 ⟨some 17, Op.binOp BinOp.gtr 3 (Operand.tmp 16) (Operand.const (Value.int IntKind.i64 0)) 3, _, _, _, some (3, false)⟩ rfl (fun _ _ _ h => h) ?_ hHeld ?_
            rotate_left
            · (intro W _; go_simp <;> (try with_reducible rfl))
            refine take_v (v := ?_) 6 ⟨some 18, Op.move (Operand.tmp 17), _, _, _, some (3, false)⟩ rfl (fun _ _ _ h => h) ?_ hHeld ?_
            rotate_left
            · (intro W _; go_simp <;> (try with_reducible rfl))
            refine take_n 7 ⟨some 19, Op.move (Operand.tmp 0), _, _, _, some (6, true)⟩ rfl (fun _ _ _ h => h) hHeld ?_
            refine take_n 8 ⟨some 20, Op.move (Operand.tmp 3), _, _, _, some (6, true)⟩ rfl (fun _ _ _ h => h) hHeld ?_
            refine take_n 9 ⟨some 21, Op.binOp BinOp.sub 3 (Operand.tmp 20) (Operand.const (Value.int IntKind.i64 1)) 3, _, _, _, some (6, true)⟩ rfl (fun _ _ _ h => h) hHeld ?_
            refine take_n 10 ⟨some 22, Op.indexAddr 46 (Operand.tmp 19) (Operand.tmp 21), _, _, _, some (6, true)⟩ rfl (fun _ _ _ h => h) hHeld ?_
            refine take_n 11 ⟨some 23, Op.fieldAddr 50 (Operand.tmp 22) 0, _, _, _, some (6, true)⟩ rfl (fun _ _ _ h => h) hHeld ?_
            refine take_n 12 ⟨some 24, Op.load 3 (Operand.tmp 23), _, _, _, some (6, true)⟩ rfl (fun _ _ _ h => h) hHeld ?_
            refine take_n 13 ⟨some 25, Op.fieldAddr 50 (Operand.tmp 4) 0, _, _, _, some (6, true)⟩ rfl (fun _ _ _ h => h) hHeld ?_
            refine take_n 14 ⟨some 26, Op.load 3 (Operand.tmp 25), _, _, _, some (6, true)⟩ rfl (fun _ _ _ h => h) hHeld ?_
            refine take_n 15 ⟨some 27, Op.binOp BinOp.geq 3 (Operand.tmp 24) (Operand.tmp 26) 3, _, _, _, some (6, true)⟩ rfl (fun _ _ _ h => h) hHeld ?_
            refine take_v (v := ?_) 16 ⟨some 28, Op.pick (Operand.tmp 18) (Operand.tmp 27) (Operand.const (Value.bool false)), _, _, _, some (3, false)⟩ rfl (fun _ _ _ h => h) ?_ hHeld ?_
            rotate_left
            · (intro W _; go_simp <;> (try with_reducible rfl))
            refine take_v (v := ?_) 17 ⟨some 29, Op.pick (Operand.tmp 15) (Operand.const (Value.bool true)) (Operand.tmp 28), _, _, _, none⟩ rfl (fun _ _ _ h => h) ?_ hHeld ?_
            rotate_left
            · (intro W _; go_simp <;> (try with_reducible rfl))
            refine wpAnyH_done (by kernel_rfl) ?_ _
            refine NoPanic.normal ?_
            go_wp2_with fail
            go_meet
            exact ⟨rfl, HX.out.next hb, HB1.out.trans (hb.mono (by have := HB1.out.size; exact this))⟩
          case rest =>
            obtain ⟨rfl, hxx, hb2⟩ := hcut
            have g1 := hxx.cell 1 rfl
            have gz := hxx.2
            cases hm : (M k == 2)
            · have HY : Hid (hold1 T M n k) := ⟨hd, fun h => absurd HK0.out (by omega), fun h => by simp [h] at hm⟩
              go_wp2
              go_roundw
              case rel => exact ⟨k + 1, by omega, by go_num, upto_succ HH.out.1 HY.out, hb2⟩
              case measure => simp [intOf]; omega
            · by_cases hn1 : n ≤ 1
              · have HY : Hid (hold1 T M n k) := ⟨hd, fun h => absurd HK0.out (by omega), fun h => hn1⟩
                have hn1' : ¬ (1 : Int) < (n : Int) := by omega
                go_wp2
                go_roundw
                case rel => exact ⟨k + 1, by omega, by go_num, upto_succ HH.out.1 HY.out, hb2⟩
                case measure => simp [intOf]; omega
              · have hn1' : (1 : Int) < (n : Int) := by omega
                have HN : Hid (decide (holdsP T M n) = false) := holds_no hlt (fun g => hn1 (g.2.2 (by simpa using hm)))
                go_wp2
                go_ret
                exact ⟨ret_bool HN.out.symm, hb2⟩
        · have hp1 := hp (by omega)
          obtain ⟨q, hq⟩ : ∃ q, q = k - 1 := ⟨_, rfl⟩
          rw [← hq] at hp1
          have hwq : IntKind.i64.wrap ((k : Int) - 1) = (q : Int) := by rw [IntKind.wrap_i64]; omega
          have HQ : Hid (k = q + 1) := by show k = q + 1; omega
          clear hp
          have HP : Hid ((wr.alloc (.cells #[.int .i64 (T k), .int .i64 (M k)] 50)).drew.cell? ⟨b, off + q * 2, none⟩ = some (.int .i64 (T q))) := (((Below.refl wr.heap.size wr).alloc (Nat.le_refl _) _).drew.cell (p := ⟨b, off + q * 2, none⟩) hbs).trans hp1
          have hq0 : (0 : Int) < (k : Int) := by omega
          have hq0n : decide (0 < k) = true := by simp; omega
          have hqn : (q : Int) < (n : Int) := by omega
          clear hp1 hq hk0
          go_upto_region 4 with fail
          go_cut [29] (fun s29 wx => s29 = .bool (decide (T k ≤ T q)) ∧ Bx wx wr.heap.size [.int .i64 (T k), .int .i64 (M k)] ∧ Below w.heap.size w wx)
          case first =>
            refine wp_region_noPanic ?_
            refine wp_region_held_drew (S := fun W => W.cell? ⟨wr.heap.size, 0, none⟩ = some (.int .i64 (T k)) ∧ W.cell? ⟨wr.heap.size, 1, none⟩ = some (.int .i64 (M k)) ∧ W.cell? ⟨b, off + q * 2, none⟩ = some (.int .i64 (T q))) (by kernel_rfl) ⟨HX.out.cell 0 rfl, HX.out.cell 1 rfl, HP.out⟩ (fun hHeld => ?_)
            refine take_v (v := ?_) 0 ⟨some 12, Op.load 50 (Operand.tmp 4), _, _, _, none⟩ rfl (fun _ _ _ h => h) ?_ hHeld ?_
            rotate_left
            · (intro W hSW; obtain ⟨sw0, sw1, sw2⟩ := hSW; go_simp <;> (try with_reducible rfl))
            refine ready_call 1 ⟨some 13, Op.call { callee := Callee.value (Operand.func 61), args := #[Operand.tmp 12], argTypes := #[50] }, _, _, _, none⟩ (by kernel_rfl) rfl (by kernel_rfl) (fun KC hK => ?_)
            go_wp2_with fail
            refine (isHold_is hd _).mono ?_
            rintro e w1 ⟨rfl, hb⟩
            refine hK.out _ _ ⟨(hb.cell (p := ⟨wr.heap.size, 0, none⟩) (by simp)).trans hHeld.1, (hb.cell (p := ⟨wr.heap.size, 1, none⟩) (by simp)).trans hHeld.2.1, (hb.cell (p := ⟨b, off + q * 2, none⟩) (by simp; omega)).trans hHeld.2.2⟩ (fun hHeld => ?_)
            clear hK KC
            refine take_v (v := ?_) 2 ⟨some 14, Op.unOp UnOp.not 4 (Operand.tmp 13), _, _, _, none⟩ rfl (fun _ _ _ h => h) ?_ hHeld ?_
            rotate_left
            · (intro W _; go_simp <;> (try with_reducible rfl))
            refine take_v (v := ?_) 3 ⟨some 15, Op.move (Operand.tmp 14), _, _, _, none⟩ rfl (fun _ _ _ h => h) ?_ hHeld ?_
            rotate_left
            · (intro W _; go_simp <;> (try with_reducible rfl))
            refine take_v (v := ?_) 4 ⟨some 16, Op.move (Operand.tmp 3), _, _, _, some (3, false)⟩ rfl (fun _ _ _ h => h) ?_ hHeld ?_
            rotate_left
            · (intro W _; go_simp <;> (try with_reducible rfl))
            refine take_v (v := ?_) 5 ⟨some 17, Op.binOp BinOp.gtr 3 (Operand.tmp 16) (Operand.const (Value.int IntKind.i64 0)) 3, _, _, _, some (3, false)⟩ rfl (fun _ _ _ h => h) ?_ hHeld ?_
            rotate_left
            · (intro W _; go_simp <;> (try with_reducible rfl))
            refine take_v (v := ?_) 6 ⟨some 18, Op.move (Operand.tmp 17), _, _, _, some (3, false)⟩ rfl (fun _ _ _ h => h) ?_ hHeld ?_
            rotate_left
            · (intro W _; go_simp <;> (try with_reducible rfl))
            refine take_v (v := ?_) 7 ⟨some 19, Op.move (Operand.tmp 0), _, _, _, some (6, true)⟩ rfl (fun _ _ _ h => h) ?_ hHeld ?_
            rotate_left
            · (intro W _; go_simp <;> (try with_reducible rfl))
            refine take_v (v := ?_) 8 ⟨some 20, Op.move (Operand.tmp 3), _, _, _, some (6, true)⟩ rfl (fun _ _ _ h => h) ?_ hHeld ?_
            rotate_left
            · (intro W _; go_simp <;> (try with_reducible rfl))
            refine take_v (v := ?_) 9 ⟨some 21, Op.binOp BinOp.sub 3 (Operand.tmp 20) (Operand.const (Value.int IntKind.i64 1)) 3, _, _, _, some (6, true)⟩ rfl (fun _ _ _ h => h) ?_ hHeld ?_
            rotate_left
            · (intro W _; go_simp <;> (try with_reducible rfl))
            refine take_v (v := ?_) 10 ⟨some 22, Op.indexAddr 46 (Operand.tmp 19) (Operand.tmp 21), _, _, _, some (6, true)⟩ rfl (fun _ _ _ h => h) ?_ hHeld ?_
            rotate_left
            · (intro W _; go_simp <;> (try with_reducible rfl))
            refine take_v (v := ?_) 11 ⟨some 23, Op.fieldAddr 50 (Operand.tmp 22) 0, _, _, _, some (6, true)⟩ rfl (fun _ _ _ h => h) ?_ hHeld ?_
            rotate_left
            · (intro W _; go_simp <;> (try with_reducible rfl))
            refine take_v (v := ?_) 12 ⟨some 24, Op.load 3 (Operand.tmp 23), _, _, _, some (6, true)⟩ rfl (fun _ _ _ h => h) ?_ hHeld ?_
            rotate_left
            · (intro W hSW; obtain ⟨sw0, sw1, sw2⟩ := hSW; go_simp <;> (try with_reducible rfl))
            refine take_v (v := ?_) 13 ⟨some 25, Op.fieldAddr 50 (Operand.tmp 4) 0, _, _, _, some (6, true)⟩ rfl (fun _ _ _ h => h) ?_ hHeld ?_
            rotate_left
            · (intro W _; go_simp <;> (try with_reducible rfl))
            refine take_v (v := ?_) 14 ⟨some 26, Op.load 3 (Operand.tmp 25), _, _, _, some (6, true)⟩ rfl (fun _ _ _ h => h) ?_ hHeld ?_
            rotate_left
            · (intro W hSW; obtain ⟨sw0, sw1, sw2⟩ := hSW; go_simp <;> (try with_reducible rfl))
            refine take_v (v := ?_) 15 ⟨some 27, Op.binOp BinOp.geq 3 (Operand.tmp 24) (Operand.tmp 26) 3, _, _, _, some (6, true)⟩ rfl (fun _ _ _ h => h) ?_ hHeld ?_
            rotate_left
            · (intro W _; go_simp <;> (try with_reducible rfl))
            refine take_v (v := ?_) 16 ⟨some 28, Op.pick (Operand.tmp 18) (Operand.tmp 27) (Operand.const (Value.bool false)), _, _, _, some (3, false)⟩ rfl (fun _ _ _ h => h) ?_ hHeld ?_
            rotate_left
            · (intro W _; go_simp <;> (try with_reducible rfl))
            refine take_v (v := ?_) 17 ⟨some 29, Op.pick (Operand.tmp 15) (Operand.const (Value.bool true)) (Operand.tmp 28), _, _, _, none⟩ rfl (fun _ _ _ h => h) ?_ hHeld ?_
            rotate_left
            · (intro W _; go_simp <;> (try with_reducible rfl))
            refine wpAnyH_done (by kernel_rfl) ?_ _
            refine NoPanic.normal ?_
            go_wp2_with fail
            go_meet
            exact ⟨rfl, HX.out.next hb, HB1.out.trans (hb.mono (by have := HB1.out.size; exact this))⟩
          case rest =>
            obtain ⟨rfl, hxx, hb2⟩ := hcut
            have g1 := hxx.cell 1 rfl
            have gz := hxx.2
            by_cases ho : T k ≤ T q
            · have HN : Hid (decide (holdsP T M n) = false) := holds_no hlt (fun g => by have := g.2.1 (by have := HQ.out; omega); rw [HQ.out, Nat.add_sub_cancel, ← HQ.out] at this; omega)
              go_wp2
              go_ret
              exact ⟨ret_bool HN.out.symm, hb2⟩
            have ho' : T q < T k := by omega
            have HO : Hid (T q < T k) := by show T q < T k; omega
            cases hm : (M k == 2)
            · have HY : Hid (hold1 T M n k) := ⟨hd, fun h => by rw [show k - 1 = q by have := HQ.out; omega]; exact HO.out, fun h => by simp [h] at hm⟩
              clear ho
              go_wp2
              go_roundw
              case rel => exact ⟨k + 1, by omega, by go_num, upto_succ HH.out.1 HY.out, hb2⟩
              case measure => simp [intOf]; omega
            · have hn1' : (1 : Int) < (n : Int) := by have := HQ.out; omega
              have HN : Hid (decide (holdsP T M n) = false) := holds_no hlt (fun g => by have := g.2.2 (by simpa using hm); have := HQ.out; omega)
              clear ho
              go_wp2
              go_ret
              exact ⟨ret_bool HN.out.symm, hb2⟩
    · have hkn : k = n := by omega
      subst hkn
      have HH : Hid ((∀ j, j < k → hold1 T M k j) ∧ Below w.heap.size w wr) := ⟨hall, hBr⟩
      clear hall hBr
      by_cases h0 : 0 < k
      · have h0' : (0 : Int) < (k : Int) := by omega
        have HY : Hid (decide (holdsP T M k) = true) := by show _ = _; simp only [decide_eq_true_eq]; exact ⟨h0, HH.out.1⟩
        go_wp2
        go_ret
        exact ⟨ret_bool HY.out.symm, HH.out.2⟩
      · have h0' : ¬ (0 : Int) < (k : Int) := by omega
        have HY : Hid (decide (holdsP T M k) = false) := by show _ = _; simp only [decide_eq_false_iff_not]; exact fun g => h0 g.1
        go_wp2
        go_ret
        exact ⟨ret_bool HY.out.symm, HH.out.2⟩
end Go.Proofs.Ytnapgnkhajkbkaa
