/- The place of a key among locks: the contracts of lockPlace and of the specification's l4At. -/
import Derived.Test.YtedjllmbpcpfjaaCmS
namespace Go.Proofs.Ytedjllmbpcpfjaa
open Go.RowKit
set_option linter.unusedVariables false

set_option maxRecDepth 100000 in
set_option maxHeartbeats 4000000 in
theorem search_any (a : Option Addr) (n cap : Nat) (V : Nat → LkV) (A : Nat → LkA) (t : ByteArray) (w : World) (hn : n ≤ 1048576) (hr : Rising V n) (hs : LkS w a n V A) :
    Calls Try.prog 99 #[.slice a n cap, .string t, .func (.func 100) #[] #[]] w fun r w' => r = .returned (.tuple #[.int .i64 (plc V n t : Int), .bool (fnd V n t)]) ∧ Below w.heap.size w w' := by
  have HS : Hid (LkS w a n V A ∧ Rising V n) := ⟨hs, hr⟩
  clear hs hr
  go_enter Try.func99, Try.ntmps99
  go_wp2
  go_loopw [9, 10] (fun i j wr => ∃ x y : Nat, x ≤ y ∧ y ≤ n ∧ i = .int .i64 x ∧ j = .int .i64 y ∧ (∀ q, q < x → lsK V t q = true) ∧ (∀ q, y ≤ q → q < n → lsK V t q = false) ∧ Below w.heap.size w wr) (fun i j _ => (intOf j - intOf i).toNat)
  case atStart => exact ⟨0, n, Nat.zero_le _, Nat.le_refl _, rfl, rfl, fun q hq => absurd hq (by omega), fun q h1 h2 => by omega, Below.refl _ _⟩
  case round =>
    obtain ⟨x, y, hxy, hyn, rfl, rfl, hlo, hhi, hBr⟩ := hrel
    have HH : Hid ((∀ q, q < x → lsK V t q = true) ∧ (∀ q, y ≤ q → q < n → lsK V t q = false) ∧ Below w.heap.size w wr) := ⟨hlo, hhi, hBr⟩
    by_cases hlt : x < y
    · have hlt' : (x : Int) < (y : Int) := by omega
      obtain ⟨h, hh⟩ : ∃ h : Nat, h = (x + y) / 2 := ⟨_, rfl⟩
      have hxh : x ≤ h := by omega
      have hhy : h < y := by omega
      have hs1 := HS.out.1.next hBr
      have hat := hs1.2 h (by omega)
      rcases hs1.1 with hz | ⟨b, off, rfl, hbs, hE⟩
      · omega
      obtain ⟨c0, c1, c2⟩ := lk_cells hE (show h < n by omega)
      have HQ : Hid (h = (x + y) / 2) := hh
      clear hlo hhi hBr hs1 hE hh
      go_upto_region 5 with fail
      rw [show ((x : Int) + (y : Int)) / 2 = (h : Int) from by have := HQ.out; omega]
      have hhn : (h : Int) < (n : Int) := by omega
      go_wp2_with fail
      refine (place1_any _ _ _ _ _ _ _ _ _).mono ?_
      rintro r w1 ⟨rfl, hb1⟩
      have HB : Hid (Below w.heap.size w w1) := below_next HH.out.2.2 hb1
      obtain ⟨z, hz⟩ : ∃ z, z = Lib.compareBytes (V h).key.toList t.toList := ⟨_, rfl⟩
      have hzb := cmp_bd (V h).key.toList t.toList
      have HZ : Hid ((z < 0) ↔ lsK V t h = true) := by show _ ↔ _; rw [hz]; exact less_cmp _ _
      rw [← hz] at hzb ⊢
      clear hz hb1 c0 c1 c2
      by_cases hl : z < 0
      · go_wp2
        go_roundw
        case rel => exact ⟨h + 1, y, by omega, hyn, by go_num, rfl, fun q hq => ls_down HS.out.2 (show q ≤ h by omega) (by omega) (HZ.out.1 hl), HH.out.2.1, HB.out⟩
        case measure => simp [intOf]; omega
      · have HL : Hid (lsK V t h = false) := by
          show _ = _
          cases hc : lsK V t h
          · rfl
          · exact absurd (HZ.out.2 hc) hl
        have hl' : decide (z < 0) = false := by simp; omega
        go_wp2
        go_roundw
        case rel => exact ⟨x, h, hxh, by omega, rfl, rfl, HH.out.1, fun q h1 h2 => ls_up HS.out.2 h1 h2 HL.out, HB.out⟩
        case measure => simp [intOf]; omega
    · have hxy' : x = y := by omega
      subst hxy'
      have HP : Hid (plc V n t = x) := plc_at hyn hlo (by
        rcases Nat.lt_or_ge x n with g | g
        · exact Or.inr (hhi x (Nat.le_refl _) g)
        · exact Or.inl (by omega))
      by_cases hxn : x < n
      · have hxn' : (x : Int) < (n : Int) := by omega
        have hs1 := HS.out.1.next hBr
        rcases hs1.1 with hz | ⟨b, off, rfl, hbs, hE⟩
        · omega
        obtain ⟨c0, c1, c2⟩ := lk_cells hE hxn
        clear hlo hhi hBr hs1 hE
        go_wp2_with fail
        refine (place1_any _ _ _ _ _ _ _ _ _).mono ?_
        rintro r w1 ⟨rfl, hb1⟩
        have HB : Hid (Below w.heap.size w w1) := below_next HH.out.2.2 hb1
        obtain ⟨z, hz⟩ : ∃ z, z = Lib.compareBytes (V x).key.toList t.toList := ⟨_, rfl⟩
        have HF : Hid (fnd V n t = (z == 0)) := by
          show fnd V n t = (z == 0)
          rw [fnd, HP.out, decide_eq_true hxn, Bool.true_and, hz]
          rw [Bool.eq_iff_iff]
          simp only [beq_iff_eq]
          exact (eq_cmp _ _).symm
        rw [← hz]
        clear hz hb1 c0 c1 c2
        cases hz0 : (z == 0)
        all_goals
          go_wp2
          exact bodyPost_ret (v := .tuple #[.int .i64 (x : Int), .bool (fnd V n t)]) (by rw [HF.out, hz0]; simp [results, Try.results99, go_sem]) rfl ⟨by rw [HP.out], HB.out⟩
      · have hxn' : ¬ (x : Int) < (n : Int) := by omega
        have HF : Hid (fnd V n t = false) := by show fnd V n t = false; rw [fnd, HP.out, decide_eq_false hxn]; rfl
        clear hlo hhi hBr
        go_wp2
        exact bodyPost_ret (v := .tuple #[.int .i64 (x : Int), .bool false]) (by simp [results, Try.results99, go_sem]) rfl ⟨by rw [HP.out, HF.out], HH.out.2.2⟩

set_option maxHeartbeats 1000000 in
theorem lockPlace_any (a : Option Addr) (n cap : Nat) (V : Nat → LkV) (A : Nat → LkA) (t : ByteArray) (w : World) (hn : n ≤ 1048576) (hr : Rising V n) (hs : LkS w a n V A) :
    Calls Try.prog 63 #[.slice a n cap, .string t] w fun r w' => r = .returned (.tuple #[.int .i64 (plc V n t : Int), .bool (fnd V n t)]) ∧ Below w.heap.size w w' := by
  have HS : Hid (LkS w a n V A ∧ Rising V n) := ⟨hs, hr⟩
  clear hs hr
  go_enter Try.func63, Try.ntmps63
  go_wp2_with fail
  refine (search_any _ _ _ V A t _ hn HS.out.2 HS.out.1).mono ?_
  rintro r w1 ⟨rfl, hb1⟩
  have HB : Hid (Below w.heap.size w w1) := hb1
  clear hb1
  go_wp2
  exact bodyPost_ret (v := .tuple #[.int .i64 (plc V n t : Int), .bool (fnd V n t)]) (by simp [results, Try.results63, go_sem]) rfl ⟨rfl, HB.out⟩

set_option maxRecDepth 100000 in
set_option maxHeartbeats 4000000 in
theorem l4At_any (a : Option Addr) (n cap : Nat) (V : Nat → LkV) (A : Nat → LkA) (t : ByteArray) (w : World) (hn : n ≤ 1048576) (hs : LkS w a n V A) :
    Calls Try.prog 70 #[.slice a n cap, .string t] w fun r w' => r = .returned (.tuple #[.int .i64 (plc V n t : Int), .bool (fnd V n t)]) ∧ Below w.heap.size w w' := by
  have HS : Hid (LkS w a n V A) := hs
  clear hs
  go_enter Try.func70, Try.ntmps70
  go_wp2
  go_loop [6] (fun i => ∃ k : Nat, k ≤ n ∧ i = .int .i64 k ∧ (∀ q, q < k → lsK V t q = true)) (fun i => n - (intOf i).toNat)
  case atStart => exact ⟨0, Nat.zero_le _, rfl, fun q hq => absurd hq (by omega)⟩
  case round =>
    obtain ⟨k, hk, rfl, hlo⟩ := hrel
    have HH : Hid (∀ q, q < k → lsK V t q = true) := hlo
    by_cases hlt : k < n
    · have hlt' : (k : Int) < (n : Int) := by omega
      rcases HS.out.1 with hz | ⟨b, off, rfl, hbs, hE⟩
      · omega
      obtain ⟨c0, c1, c2⟩ := lk_cells hE hlt
      have HL : Hid (lsK V t k = Op.bytesLess (V k).key.toList t.toList) := rfl
      clear hlo hE
      cases hl : Op.bytesLess (V k).key.toList t.toList
      · have HP : Hid (plc V n t = k) := plc_at hk HH.out (Or.inr (by rw [HL.out]; exact hl))
        have HF : Hid (fnd V n t = ((V k).key.toList == t.toList)) := by show fnd V n t = _; rw [fnd, HP.out, decide_eq_true hlt, Bool.true_and]
        obtain ⟨f, hf⟩ : ∃ f, ((V k).key.toList == t.toList) = f := ⟨_, rfl⟩
        have hfd : decide (k < n) = true := by simp; omega
        go_upto_region 4 with fail
        refine wp_region_noPanic ?_
        refine wp_region_held_drew (S := fun W => W.cell? ⟨b, off + k * 3, none⟩ = some (.string (V k).key)) (by kernel_rfl) (by simpa using c0) (fun hHeld => ?_)
        refine take_v (v := ?_) 0 ⟨some 22, Op.move (Operand.tmp 6), _, _, _, none⟩ rfl (fun _ _ _ h => h) ?_ hHeld ?_
        rotate_left
        · (intro W _; go_simp <;> (try with_reducible rfl))
        refine take_v (v := ?_) 1 ⟨some 23, Op.move (Operand.tmp 6), _, _, _, none⟩ rfl (fun _ _ _ h => h) ?_ hHeld ?_
        rotate_left
        · (intro W _; go_simp <;> (try with_reducible rfl))
        refine take_v (v := ?_) 2 ⟨some 24, Op.move (Operand.tmp 0), _, _, _, none⟩ rfl (fun _ _ _ h => h) ?_ hHeld ?_
        rotate_left
        · (intro W _; go_simp <;> (try with_reducible rfl))
        refine take_v (v := ?_) 3 ⟨some 25, Op.call { callee := Callee.builtin Builtin.len, args := #[Operand.tmp 24], argTypes := #[25] }, _, _, _, none⟩ rfl (fun _ _ _ h => h) ?_ hHeld ?_
        rotate_left
        · (intro W _; go_simp <;> (try with_reducible rfl))
        refine take_v (v := ?_) 4 ⟨some 26, Op.binOp BinOp.lss 3 (Operand.tmp 23) (Operand.tmp 25) 3, _, _, _, none⟩ rfl (fun _ _ _ h => h) ?_ hHeld ?_
        rotate_left
        · (intro W _; go_simp <;> (try with_reducible rfl))
        refine take_v (v := ?_) 5 ⟨some 27, Op.move (Operand.tmp 26), _, _, _, none⟩ rfl (fun _ _ _ h => h) ?_ hHeld ?_
        rotate_left
        · (intro W _; go_simp <;> (try with_reducible rfl))
        refine take_v (v := ?_) 6 ⟨some 28, Op.move (Operand.tmp 0), _, _, _, some (5, true)⟩ rfl (fun _ _ _ h => h) ?_ hHeld ?_
        rotate_left
        · (intro W _; go_simp <;> (try with_reducible rfl))
        refine take_v (v := ?_) 7 ⟨some 29, Op.move (Operand.tmp 6), _, _, _, some (5, true)⟩ rfl (fun _ _ _ h => h) ?_ hHeld ?_
        rotate_left
        · (intro W _; go_simp <;> (try with_reducible rfl))
        refine take_v (v := ?_) 8 ⟨some 30, Op.indexAddr 25 (Operand.tmp 28) (Operand.tmp 29), _, _, _, some (5, true)⟩ rfl (fun _ _ _ h => h) ?_ hHeld ?_
        rotate_left
        · (intro W _; go_simp <;> (try with_reducible rfl))
        refine take_v (v := ?_) 9 ⟨some 31, Op.fieldAddr 48 (Operand.tmp 30) 0, _, _, _, some (5, true)⟩ rfl (fun _ _ _ h => h) ?_ hHeld ?_
        rotate_left
        · (intro W _; go_simp <;> (try with_reducible rfl))
        refine take_v (v := ?_) 10 ⟨some 32, Op.load 9 (Operand.tmp 31), _, _, _, some (5, true)⟩ rfl (fun _ _ _ h => h) ?_ hHeld ?_
        rotate_left
        · (intro W hSW; obtain sw0 := hSW; go_simp <;> (try with_reducible rfl))
        refine take_v (v := ?_) 11 ⟨some 33, Op.move (Operand.tmp 1), _, _, _, some (5, true)⟩ rfl (fun _ _ _ h => h) ?_ hHeld ?_
        rotate_left
        · (intro W _; go_simp <;> (try with_reducible rfl))
        refine take_v (v := ?_) 12 ⟨some 34, Op.binOp BinOp.eql 9 (Operand.tmp 32) (Operand.tmp 33) 9, _, _, _, some (5, true)⟩ rfl (fun _ _ _ h => h) ?_ hHeld ?_
        rotate_left
        · (intro W _; go_simp <;> (try with_reducible rfl))
        refine take_v (v := ?_) 13 ⟨some 35, Op.pick (Operand.tmp 27) (Operand.tmp 34) (Operand.const (Value.bool false)), _, _, _, none⟩ rfl (fun _ _ _ h => h) ?_ hHeld ?_
        rotate_left
        · (intro W _; go_simp <;> (try with_reducible rfl))
        refine take_v (v := ?_) 14 ⟨some 4, Op.assign (Operand.tmp 22), _, _, _, none⟩ rfl (fun _ _ _ h => h) ?_ hHeld ?_
        rotate_left
        · (intro W _; go_simp <;> (try with_reducible rfl))
        refine take_v (v := ?_) 15 ⟨some 5, Op.assign (Operand.tmp 35), _, _, _, none⟩ rfl (fun _ _ _ h => h) ?_ hHeld ?_
        rotate_left
        · (intro W _; go_simp <;> (try with_reducible rfl))
        refine wpAnyH_done (by kernel_rfl) ?_ _
        refine NoPanic.normal ?_
        go_wp2
        exact bodyPost_ret (v := .tuple #[.int .i64 (k : Int), .bool (fnd V n t)]) (by rw [HF.out, hf]; simp [results, Try.results70, go_sem]) rfl ⟨by rw [HP.out], (Below.refl _ _).drew⟩
      · go_wp2
        go_round
        case rel => exact ⟨k + 1, by omega, by go_num, upto_succ HH.out (by rw [HL.out]; exact hl)⟩
        case measure => simp [intOf]; omega
    · have hkn : k = n := by omega
      have HP : Hid (plc V n t = k) := plc_at hk HH.out (Or.inl hkn)
      have HF : Hid (fnd V n t = false) := by show fnd V n t = false; rw [fnd, HP.out, decide_eq_false hlt]; rfl
      have hlt1 : decide ((k : Int) < (n : Int)) = false := by simp; omega
      have hlt2 : decide (k < n) = false := by simp; omega
      clear hlo hkn
      go_upto_region 4 with fail
      refine wp_region_noPanic ?_
      refine wp_region_held_drew (S := fun W => True) (by kernel_rfl) trivial (fun hHeld => ?_)
      refine take_v (v := ?_) 0 ⟨some 22, Op.move (Operand.tmp 6), _, _, _, none⟩ rfl (fun _ _ _ h => h) ?_ hHeld ?_
      rotate_left
      · (intro W _; go_simp <;> (try with_reducible rfl))
      refine take_v (v := ?_) 1 ⟨some 23, Op.move (Operand.tmp 6), _, _, _, none⟩ rfl (fun _ _ _ h => h) ?_ hHeld ?_
      rotate_left
      · (intro W _; go_simp <;> (try with_reducible rfl))
      refine take_v (v := ?_) 2 ⟨some 24, Op.move (Operand.tmp 0), _, _, _, none⟩ rfl (fun _ _ _ h => h) ?_ hHeld ?_
      rotate_left
      · (intro W _; go_simp <;> (try with_reducible rfl))
      refine take_v (v := ?_) 3 ⟨some 25, Op.call { callee := Callee.builtin Builtin.len, args := #[Operand.tmp 24], argTypes := #[25] }, _, _, _, none⟩ rfl (fun _ _ _ h => h) ?_ hHeld ?_
      rotate_left
      · (intro W _; go_simp <;> (try with_reducible rfl))
      refine take_v (v := ?_) 4 ⟨some 26, Op.binOp BinOp.lss 3 (Operand.tmp 23) (Operand.tmp 25) 3, _, _, _, none⟩ rfl (fun _ _ _ h => h) ?_ hHeld ?_
      rotate_left
      · (intro W _; go_simp <;> (try with_reducible rfl))
      refine take_v (v := ?_) 5 ⟨some 27, Op.move (Operand.tmp 26), _, _, _, none⟩ rfl (fun _ _ _ h => h) ?_ hHeld ?_
      rotate_left
      · (intro W _; go_simp <;> (try with_reducible rfl))
      refine take_n 6 ⟨some 28, Op.move (Operand.tmp 0), _, _, _, some (5, true)⟩ rfl (fun _ _ _ h => h) hHeld ?_
      refine take_n 7 ⟨some 29, Op.move (Operand.tmp 6), _, _, _, some (5, true)⟩ rfl (fun _ _ _ h => h) hHeld ?_
      refine take_n 8 ⟨some 30, Op.indexAddr 25 (Operand.tmp 28) (Operand.tmp 29), _, _, _, some (5, true)⟩ rfl (fun _ _ _ h => h) hHeld ?_
      refine take_n 9 ⟨some 31, Op.fieldAddr 48 (Operand.tmp 30) 0, _, _, _, some (5, true)⟩ rfl (fun _ _ _ h => h) hHeld ?_
      refine take_n 10 ⟨some 32, Op.load 9 (Operand.tmp 31), _, _, _, some (5, true)⟩ rfl (fun _ _ _ h => h) hHeld ?_
      refine take_n 11 ⟨some 33, Op.move (Operand.tmp 1), _, _, _, some (5, true)⟩ rfl (fun _ _ _ h => h) hHeld ?_
      refine take_n 12 ⟨some 34, Op.binOp BinOp.eql 9 (Operand.tmp 32) (Operand.tmp 33) 9, _, _, _, some (5, true)⟩ rfl (fun _ _ _ h => h) hHeld ?_
      refine take_v (v := ?_) 13 ⟨some 35, Op.pick (Operand.tmp 27) (Operand.tmp 34) (Operand.const (Value.bool false)), _, _, _, none⟩ rfl (fun _ _ _ h => h) ?_ hHeld ?_
      rotate_left
      · (intro W _; go_simp <;> (try with_reducible rfl))
      refine take_v (v := ?_) 14 ⟨some 4, Op.assign (Operand.tmp 22), _, _, _, none⟩ rfl (fun _ _ _ h => h) ?_ hHeld ?_
      rotate_left
      · (intro W _; go_simp <;> (try with_reducible rfl))
      refine take_v (v := ?_) 15 ⟨some 5, Op.assign (Operand.tmp 35), _, _, _, none⟩ rfl (fun _ _ _ h => h) ?_ hHeld ?_
      rotate_left
      · (intro W _; go_simp <;> (try with_reducible rfl))
      refine wpAnyH_done (by kernel_rfl) ?_ _
      refine NoPanic.normal ?_
      go_wp2
      exact bodyPost_ret (v := .tuple #[.int .i64 (k : Int), .bool false]) (by simp [results, Try.results70, go_sem]) rfl ⟨by rw [HP.out, HF.out], (Below.refl _ _).drew⟩
end Go.Proofs.Ytedjllmbpcpfjaa
