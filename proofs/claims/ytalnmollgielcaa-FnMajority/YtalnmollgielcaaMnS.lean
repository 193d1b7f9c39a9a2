/- The contract of the specification's MinimalOf. -/
import Derived.Test.YtalnmollgielcaaMnB
import Derived.Laws.AppendOwnNone
namespace Go.Proofs.Ytalnmollgielcaa
open Go.RowKit
set_option linter.unusedVariables false

def smB (X : Nat → Int) (n : Nat) (Y : Nat → Int) (p : Nat) : Bool := decide (n = p) && decide ((mtTo X Y p n).length = n)
theorem group_fld (v : Value) (W : World) : (Instr.field 25 (.agg #[v]) 0).run Try.prog W = .ok v W := by kernel_rfl
set_option maxRecDepth 100000 in
set_option maxHeartbeats 2000000 in
theorem l8Same_any (a : Option Addr) (n cap : Nat) (X : Nat → Int) (a' : Option Addr) (p cap' : Nat) (Y : Nat → Int) (w : World) (hn : n ≤ 1048576) (hp : p ≤ 1048576) (hs : Sl w a n 1 (intF X)) (hs' : Sl w a' p 1 (intF Y)) :
    Calls Try.prog 70 #[.agg #[.slice a n cap], .agg #[.slice a' p cap']] w fun r w' => r = .returned (.bool (smB X n Y p)) ∧ Below w.heap.size w w' := by
  have HS : Hid (Sl w a n 1 (intF X) ∧ Sl w a' p 1 (intF Y)) := ⟨hs, hs'⟩
  clear hs hs'
  have hfd : ∀ (v : Value) (W : World), (Instr.field 25 (.agg #[v]) 0).run Try.prog W = .ok v W := group_fld
  obtain ⟨w0, hw0⟩ : ∃ x, x = ((w.alloc (.cells #[.slice a n cap] 25)).alloc (.cells #[.slice a' p cap'] 25)) := ⟨_, rfl⟩
  have H0 : Hid (BoxS w0.drew w.heap.size (.slice a n cap) ∧ BoxS w0.drew (w.heap.size + 1) (.slice a' p cap') ∧ Below w.heap.size w w0.drew) := Hid.intro (by
    have hb : Below w.heap.size w w0 := by rw [hw0]; exact ((Below.refl _ _).alloc (Nat.le_refl _) _).alloc (by simp) _
    refine ⟨BoxS.next ?_ (below_drew _), BoxS.next ?_ (below_drew _), below_next hb (below_drew _)⟩
    · rw [hw0]; exact (BoxS.new w _ _).next (Go.Joins.below_alloc1 _ _)
    · rw [hw0]
      have := BoxS.new (w.alloc (.cells #[.slice a n cap] 25)) (.slice a' p cap') 25
      simpa using this)
  by_cases hnp : n = p
  · have HN : Hid (smB X n Y p = decide ((mtTo X Y p n).length = n)) := Hid.intro (by simp [smB, hnp])
    have e1 : ((n : Int) == (p : Int)) = true := by simp [hnp]
    have HNP : Hid (n = p) := hnp
    clear hnp
    go_enter Try.func70, Try.ntmps70
    go_upto_region 1 with fail
    rw [← hw0]
    clear hw0
    refine wp_region_noPanic ?_
    refine wp_region_held_drew (S := fun W => BoxS W w.heap.size (.slice a n cap) ∧ BoxS W (w.heap.size + 1) (.slice a' p cap')) (by kernel_rfl) ⟨H0.out.1, H0.out.2.1⟩ (fun hHeld => ?_)
    refine take_v (v := ?_) 0 ⟨some 5, Op.fieldAddr 25 (Operand.tmp 2) 0, _, _, _, none⟩ rfl (fun _ _ _ h => h) ?_ hHeld ?_
    rotate_left
    · (intro W _; go_simp <;> (try with_reducible rfl))
    refine take_v (v := ?_) 1 ⟨some 6, Op.load 23 (Operand.tmp 5), _, _, _, none⟩ rfl (fun _ _ _ h => h) ?_ hHeld ?_
    rotate_left
    · (intro W hSW; (have s0 := hSW.1.1; have s0z := hSW.1.2; have s1 := hSW.2.1; have s1z := hSW.2.2); go_simp <;> (try with_reducible rfl))
    refine take_v (v := ?_) 2 ⟨some 7, Op.call { callee := Callee.builtin Builtin.len, args := #[Operand.tmp 6], argTypes := #[23] }, _, _, _, none⟩ rfl (fun _ _ _ h => h) ?_ hHeld ?_
    rotate_left
    · (intro W _; go_simp <;> (try with_reducible rfl))
    refine take_v (v := ?_) 3 ⟨some 8, Op.fieldAddr 25 (Operand.tmp 3) 0, _, _, _, none⟩ rfl (fun _ _ _ h => h) ?_ hHeld ?_
    rotate_left
    · (intro W _; go_simp <;> (try with_reducible rfl))
    refine take_v (v := ?_) 4 ⟨some 9, Op.load 23 (Operand.tmp 8), _, _, _, none⟩ rfl (fun _ _ _ h => h) ?_ hHeld ?_
    rotate_left
    · (intro W hSW; (have s0 := hSW.1.1; have s0z := hSW.1.2; have s1 := hSW.2.1; have s1z := hSW.2.2); go_simp <;> (try with_reducible rfl))
    refine take_v (v := ?_) 5 ⟨some 10, Op.call { callee := Callee.builtin Builtin.len, args := #[Operand.tmp 9], argTypes := #[23] }, _, _, _, none⟩ rfl (fun _ _ _ h => h) ?_ hHeld ?_
    rotate_left
    · (intro W _; go_simp <;> (try with_reducible rfl))
    refine take_v (v := ?_) 6 ⟨some 11, Op.binOp BinOp.eql 3 (Operand.tmp 7) (Operand.tmp 10) 3, _, _, _, none⟩ rfl (fun _ _ _ h => h) ?_ hHeld ?_
    rotate_left
    · (intro W _; go_simp <;> (try with_reducible rfl))
    refine take_v (v := ?_) 7 ⟨some 12, Op.move (Operand.tmp 11), _, _, _, none⟩ rfl (fun _ _ _ h => h) ?_ hHeld ?_
    rotate_left
    · (intro W _; go_simp <;> (try with_reducible rfl))
    refine take_v (v := ?_) 8 ⟨some 13, Op.load 25 (Operand.tmp 2), _, _, _, some (7, true)⟩ rfl (fun _ _ _ h => h) ?_ hHeld ?_
    rotate_left
    · (intro W hSW; (have s0 := hSW.1.1; have s0z := hSW.1.2; have s1 := hSW.2.1; have s1z := hSW.2.2); go_simp <;> (try with_reducible rfl))
    refine take_v (v := ?_) 9 ⟨some 14, Op.load 25 (Operand.tmp 3), _, _, _, some (7, true)⟩ rfl (fun _ _ _ h => h) ?_ hHeld ?_
    rotate_left
    · (intro W hSW; (have s0 := hSW.1.1; have s0z := hSW.1.2; have s1 := hSW.2.1; have s1z := hSW.2.2); go_simp <;> (try with_reducible rfl))
    refine take_v (v := ?_) 13 ⟨some 18, Op.fieldAddr 25 (Operand.tmp 2) 0, _, _, _, some (7, true)⟩ rfl (fun _ _ _ h => h) ?_ hHeld ?_
    rotate_left
    · (intro W _; go_simp <;> (try with_reducible rfl))
    refine take_v (v := ?_) 14 ⟨some 19, Op.load 23 (Operand.tmp 18), _, _, _, some (7, true)⟩ rfl (fun _ _ _ h => h) ?_ hHeld ?_
    rotate_left
    · (intro W hSW; (have s0 := hSW.1.1; have s0z := hSW.1.2; have s1 := hSW.2.1; have s1z := hSW.2.2); go_simp <;> (try with_reducible rfl))
    refine take_v (v := ?_) 15 ⟨some 20, Op.call { callee := Callee.builtin Builtin.len, args := #[Operand.tmp 19], argTypes := #[23] }, _, _, _, some (7, true)⟩ rfl (fun _ _ _ h => h) ?_ hHeld ?_
    rotate_left
    · (intro W _; go_simp <;> (try with_reducible rfl))
    refine ready_call 10 ⟨some 15, Op.call { callee := Callee.value (Operand.func 67), args := #[Operand.tmp 13, Operand.tmp 14], argTypes := #[25, 25] }, _, _, _, some (7, true)⟩ (by kernel_rfl) rfl (by kernel_rfl) (fun KC hK => ?_)
    go_wp2_with fail
    refine (l8Meet_any _ _ _ X _ _ _ Y _ hn hp (HS.out.1.kept H0.out.2.2) (HS.out.2.kept H0.out.2.2)).mono ?_
    rintro r w2 ⟨⟨a5, cap5, rfl, hi5⟩, hb2⟩
    have H2 : Hid (BoxS w2 w.heap.size (.slice a n cap) ∧ BoxS w2 (w.heap.size + 1) (.slice a' p cap') ∧ Below w.heap.size w w2) := ⟨H0.out.1.next hb2, H0.out.2.1.next hb2, below_next H0.out.2.2 hb2⟩
    clear hb2 hi5
    refine hK.out _ _ ⟨H2.out.1, H2.out.2.1⟩ (fun hHeld => ?_)
    clear hK KC
    refine take_v (v := ?_) 11 ⟨some 16, Op.field 25 (Operand.tmp 15) 0, _, _, _, some (7, true)⟩ rfl (fun _ _ _ h => h) ?_ hHeld ?_
    rotate_left
    · (intro W _; go_simp <;> (try with_reducible rfl))
    refine take_v (v := ?_) 12 ⟨some 17, Op.call { callee := Callee.builtin Builtin.len, args := #[Operand.tmp 16], argTypes := #[23] }, _, _, _, some (7, true)⟩ rfl (fun _ _ _ h => h) ?_ hHeld ?_
    rotate_left
    · (intro W _; go_simp <;> (try with_reducible rfl))
    refine take_v (v := ?_) 16 ⟨some 21, Op.binOp BinOp.eql 3 (Operand.tmp 17) (Operand.tmp 20) 3, _, _, _, some (7, true)⟩ rfl (fun _ _ _ h => h) ?_ hHeld ?_
    rotate_left
    · (intro W _; go_simp <;> (try with_reducible rfl))
    refine take_v (v := ?_) 17 ⟨some 22, Op.pick (Operand.tmp 12) (Operand.tmp 21) (Operand.const (Value.bool false)), _, _, _, none⟩ rfl (fun _ _ _ h => h) ?_ hHeld ?_
    rotate_left
    · (intro W _; go_simp <;> (try with_reducible rfl))
    refine take_v (v := ?_) 18 ⟨some 4, Op.assign (Operand.tmp 22), _, _, _, none⟩ rfl (fun _ _ _ h => h) ?_ hHeld ?_
    rotate_left
    · (intro W _; go_simp <;> (try with_reducible rfl))
    refine wpAnyH_done (by kernel_rfl) ?_ _
    refine NoPanic.normal ?_
    clear hHeld
    have HB : Hid ((((mtTo X Y p n).length : Int) == (n : Int)) = smB X n Y p) := Hid.intro (by rw [HN.out, Bool.eq_iff_iff]; simp only [beq_iff_eq, decide_eq_true_eq]; omega)
    generalize (mtTo X Y p n).length = l at *
    go_wp2
    go_ret
    exact ⟨ret_bool HB.out, H2.out.2.2⟩
  · have HN : Hid (smB X n Y p = false) := Hid.intro (by simp [smB, hnp])
    have e1 : ((n : Int) == (p : Int)) = false := by simp; omega
    have HNP : Hid (¬ n = p) := hnp
    clear hnp
    go_enter Try.func70, Try.ntmps70
    go_upto_region 1 with fail
    rw [← hw0]
    clear hw0
    refine wp_region_noPanic ?_
    refine wp_region_held_drew (S := fun W => BoxS W w.heap.size (.slice a n cap) ∧ BoxS W (w.heap.size + 1) (.slice a' p cap')) (by kernel_rfl) ⟨H0.out.1, H0.out.2.1⟩ (fun hHeld => ?_)
    refine take_v (v := ?_) 0 ⟨some 5, Op.fieldAddr 25 (Operand.tmp 2) 0, _, _, _, none⟩ rfl (fun _ _ _ h => h) ?_ hHeld ?_
    rotate_left
    · (intro W _; go_simp <;> (try with_reducible rfl))
    refine take_v (v := ?_) 1 ⟨some 6, Op.load 23 (Operand.tmp 5), _, _, _, none⟩ rfl (fun _ _ _ h => h) ?_ hHeld ?_
    rotate_left
    · (intro W hSW; (have s0 := hSW.1.1; have s0z := hSW.1.2; have s1 := hSW.2.1; have s1z := hSW.2.2); go_simp <;> (try with_reducible rfl))
    refine take_v (v := ?_) 2 ⟨some 7, Op.call { callee := Callee.builtin Builtin.len, args := #[Operand.tmp 6], argTypes := #[23] }, _, _, _, none⟩ rfl (fun _ _ _ h => h) ?_ hHeld ?_
    rotate_left
    · (intro W _; go_simp <;> (try with_reducible rfl))
    refine take_v (v := ?_) 3 ⟨some 8, Op.fieldAddr 25 (Operand.tmp 3) 0, _, _, _, none⟩ rfl (fun _ _ _ h => h) ?_ hHeld ?_
    rotate_left
    · (intro W _; go_simp <;> (try with_reducible rfl))
    refine take_v (v := ?_) 4 ⟨some 9, Op.load 23 (Operand.tmp 8), _, _, _, none⟩ rfl (fun _ _ _ h => h) ?_ hHeld ?_
    rotate_left
    · (intro W hSW; (have s0 := hSW.1.1; have s0z := hSW.1.2; have s1 := hSW.2.1; have s1z := hSW.2.2); go_simp <;> (try with_reducible rfl))
    refine take_v (v := ?_) 5 ⟨some 10, Op.call { callee := Callee.builtin Builtin.len, args := #[Operand.tmp 9], argTypes := #[23] }, _, _, _, none⟩ rfl (fun _ _ _ h => h) ?_ hHeld ?_
    rotate_left
    · (intro W _; go_simp <;> (try with_reducible rfl))
    refine take_v (v := ?_) 6 ⟨some 11, Op.binOp BinOp.eql 3 (Operand.tmp 7) (Operand.tmp 10) 3, _, _, _, none⟩ rfl (fun _ _ _ h => h) ?_ hHeld ?_
    rotate_left
    · (intro W _; go_simp <;> (try with_reducible rfl))
    refine take_v (v := ?_) 7 ⟨some 12, Op.move (Operand.tmp 11), _, _, _, none⟩ rfl (fun _ _ _ h => h) ?_ hHeld ?_
    rotate_left
    · (intro W _; go_simp <;> (try with_reducible rfl))
    refine take_n 8 ⟨some 13, Op.load 25 (Operand.tmp 2), _, _, _, some (7, true)⟩ rfl (fun _ _ _ h => h) hHeld ?_
    refine take_n 9 ⟨some 14, Op.load 25 (Operand.tmp 3), _, _, _, some (7, true)⟩ rfl (fun _ _ _ h => h) hHeld ?_
    refine take_n 10 ⟨some 15, Op.call { callee := Callee.value (Operand.func 67), args := #[Operand.tmp 13, Operand.tmp 14], argTypes := #[25, 25] }, _, _, _, some (7, true)⟩ rfl (fun _ _ _ h => h) hHeld ?_
    refine take_n 11 ⟨some 16, Op.field 25 (Operand.tmp 15) 0, _, _, _, some (7, true)⟩ rfl (fun _ _ _ h => h) hHeld ?_
    refine take_n 12 ⟨some 17, Op.call { callee := Callee.builtin Builtin.len, args := #[Operand.tmp 16], argTypes := #[23] }, _, _, _, some (7, true)⟩ rfl (fun _ _ _ h => h) hHeld ?_
    refine take_n 13 ⟨some 18, Op.fieldAddr 25 (Operand.tmp 2) 0, _, _, _, some (7, true)⟩ rfl (fun _ _ _ h => h) hHeld ?_
    refine take_n 14 ⟨some 19, Op.load 23 (Operand.tmp 18), _, _, _, some (7, true)⟩ rfl (fun _ _ _ h => h) hHeld ?_
    refine take_n 15 ⟨some 20, Op.call { callee := Callee.builtin Builtin.len, args := #[Operand.tmp 19], argTypes := #[23] }, _, _, _, some (7, true)⟩ rfl (fun _ _ _ h => h) hHeld ?_
    refine take_n 16 ⟨some 21, Op.binOp BinOp.eql 3 (Operand.tmp 17) (Operand.tmp 20) 3, _, _, _, some (7, true)⟩ rfl (fun _ _ _ h => h) hHeld ?_
    refine take_v (v := ?_) 17 ⟨some 22, Op.pick (Operand.tmp 12) (Operand.tmp 21) (Operand.const (Value.bool false)), _, _, _, none⟩ rfl (fun _ _ _ h => h) ?_ hHeld ?_
    rotate_left
    · (intro W _; go_simp <;> (try with_reducible rfl))
    refine take_v (v := ?_) 18 ⟨some 4, Op.assign (Operand.tmp 22), _, _, _, none⟩ rfl (fun _ _ _ h => h) ?_ hHeld ?_
    rotate_left
    · (intro W _; go_simp <;> (try with_reducible rfl))
    refine wpAnyH_done (by kernel_rfl) ?_ _
    refine NoPanic.normal ?_
    clear hHeld
    go_wp2
    go_ret
    exact ⟨ret_bool HN.out.symm, H0.out.2.2⟩
end Go.Proofs.Ytalnmollgielcaa
