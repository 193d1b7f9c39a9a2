/- The contract of impl.cloneCopy. Written by tools/mkClone.py. -/
import Derived.Test.YtaofolbnommpgaaMgA
import Derived.Test.YtaofolbnommpgaaRg2
import Derived.Test.YtaofolbnommpgaaCln
namespace Go.Proofs.Ytaofolbnommpgaa
open Go.RowKit
set_option linter.unusedVariables false

set_option maxRecDepth 100000 in
set_option maxHeartbeats 4000000 in
theorem cloneCopy_n (n i : Int) (t : ByteArray) (w : World) (h2 : t.size ≤ 281474976710656) :
    Calls Try.prog 72 #[.agg #[.int .i64 n, .int .i64 i, .string t]] w fun r w' => r = .returned (.agg #[.int .i64 n, .int .i64 i, .string t]) ∧ Below w.heap.size w w' := by
  have hnx : ∀ {a b c : World}, Below a.heap.size a b → Below b.heap.size b c → Below a.heap.size a c := fun h k => h.trans (k.mono h.size)
  have H0 : Hid (Bx ((w.alloc (.cells #[.int .i64 n, .int .i64 i, .string t] 48)).alloc (.cells #[.int .i64 0, .int .i64 0, .string ⟨#[]⟩] 48)).drew w.heap.size [.int .i64 n, .int .i64 i, .string t] ∧ Bx ((w.alloc (.cells #[.int .i64 n, .int .i64 i, .string t] 48)).alloc (.cells #[.int .i64 0, .int .i64 0, .string ⟨#[]⟩] 48)).drew (w.heap.size + 1) [.int .i64 0, .int .i64 0, .string ⟨#[]⟩] ∧ Below w.heap.size w ((w.alloc (.cells #[.int .i64 n, .int .i64 i, .string t] 48)).alloc (.cells #[.int .i64 0, .int .i64 0, .string ⟨#[]⟩] 48)).drew) := by
    have h2 := Bx.new (w.alloc (.cells #[.int .i64 n, .int .i64 i, .string t] 48)) [.int .i64 0, .int .i64 0, .string ⟨#[]⟩] 48
    rw [World.size_alloc] at h2
    exact ⟨((Bx.new w [.int .i64 n, .int .i64 i, .string t] 48).alloc _).next (Below.refl _ _).drew, h2.next (Below.refl _ _).drew, (hnx (Go.Joins.below_alloc1 _ _) (Go.Joins.below_alloc1 _ _)).drew⟩
  go_enter Try.func72, Try.ntmps72
  go_upto_region 1 with fail
  refine wp_region_noPanic ?_
  refine wp_region_held_drew (S := fun W => Bx W w.heap.size [.int .i64 n, .int .i64 i, .string t] ∧ Below w.heap.size w W) (by kernel_rfl) ⟨H0.out.1, H0.out.2.2⟩ (fun hHeld => ?_)
  refine take_v (v := ?_) 0 ⟨some 3, Op.fieldAddr 48 (Operand.tmp 1) 0, _, _, _, none⟩ rfl (fun _ _ _ h => h) ?_ hHeld ?_
  rotate_left
  · (intro W _; go_simp <;> (try with_reducible rfl))
  refine take_v (v := ?_) 1 ⟨some 4, Op.load 3 (Operand.tmp 3), _, _, _, none⟩ rfl (fun _ _ _ h => h) ?_ hHeld ?_
  rotate_left
  · (intro W hSW; (have s0 := hSW.1.cell 0 rfl; have s1 := hSW.1.cell 1 rfl; have s2 := hSW.1.cell 2 rfl; have sz := hSW.1.2); go_simp <;> (try with_reducible rfl))
  refine take_v (v := ?_) 2 ⟨some 5, Op.fieldAddr 48 (Operand.tmp 1) 1, _, _, _, none⟩ rfl (fun _ _ _ h => h) ?_ hHeld ?_
  rotate_left
  · (intro W _; go_simp <;> (try with_reducible rfl))
  refine take_v (v := ?_) 3 ⟨some 6, Op.load 3 (Operand.tmp 5), _, _, _, none⟩ rfl (fun _ _ _ h => h) ?_ hHeld ?_
  rotate_left
  · (intro W hSW; (have s0 := hSW.1.cell 0 rfl; have s1 := hSW.1.cell 1 rfl; have s2 := hSW.1.cell 2 rfl; have sz := hSW.1.2); go_simp <;> (try with_reducible rfl))
  refine take_v (v := ?_) 4 ⟨some 7, Op.fieldAddr 48 (Operand.tmp 1) 2, _, _, _, none⟩ rfl (fun _ _ _ h => h) ?_ hHeld ?_
  rotate_left
  · (intro W _; go_simp <;> (try with_reducible rfl))
  refine take_v (v := ?_) 5 ⟨some 8, Op.load 9 (Operand.tmp 7), _, _, _, none⟩ rfl (fun _ _ _ h => h) ?_ hHeld ?_
  rotate_left
  · (intro W hSW; (have s0 := hSW.1.cell 0 rfl; have s1 := hSW.1.cell 1 rfl; have s2 := hSW.1.cell 2 rfl; have sz := hSW.1.2); go_simp <;> (try with_reducible rfl))
  refine ready_call 6 ⟨some 9, Op.call { callee := Callee.value (Operand.func 92), args := #[Operand.tmp 8], argTypes := #[9] }, _, _, _, none⟩ (by kernel_rfl) rfl (by kernel_rfl) (fun KC hK => ?_)
  go_wp2_with fail
  refine (clone_any _ _ h2).mono ?_
  rintro r w1 ⟨rfl, hb⟩
  have H1 : Hid (Bx w1 w.heap.size [.int .i64 n, .int .i64 i, .string t] ∧ Bx w1 (w.heap.size + 1) [.int .i64 0, .int .i64 0, .string ⟨#[]⟩] ∧ Below w.heap.size w w1) := ⟨H0.out.1.next hb, H0.out.2.1.next hb, hnx H0.out.2.2 hb⟩
  clear hb
  refine hK.out _ _ ⟨H1.out.1, H1.out.2.2⟩ (fun hHeld => ?_)
  clear hK KC
  refine take_v (v := ?_) 7 ⟨some 10, Op.build 48 #[(0, Operand.tmp 4), (1, Operand.tmp 6), (2, Operand.tmp 9)], _, _, _, none⟩ rfl (fun _ _ _ h => h) ?_ hHeld ?_
  rotate_left
  · (intro W _; go_simp <;> (try with_reducible rfl))
  refine ready_call 8 ⟨none, Op.store 48 (Operand.tmp 2) (Operand.tmp 10), _, _, _, none⟩ (by kernel_rfl) rfl (by kernel_rfl) (fun KC hK => ?_)
  have d0 := H1.out.2.1.cell 0 rfl
  have d1 := H1.out.2.1.cell 1 rfl
  have d2 := H1.out.2.1.cell 2 rfl
  have z0 := H1.out.2.1.frz 0 (by simp)
  have z1 := H1.out.2.1.frz 1 (by simp)
  have z2 := H1.out.2.1.frz 2 (by simp)
  have sz := H1.out.2.1.2
  go_wp2_with fail
  have HO := (show Hid (Bx _ _ [.int .i64 n, .int .i64 i, .string t]) from (((H1.out.2.1.set (k := 0) (by simp) (.int .i64 n)).set (k := 1) (by simp) (.int .i64 i)).set (k := 2) (by simp) (.string t)))
  have hne : w.heap.size ≠ w.heap.size + 1 := by omega
  have hle : w.heap.size ≤ w.heap.size + 1 := by omega
  clear d0 z0 d1 z1 d2 z2 sz
  refine hK.out _ _ ⟨(((H1.out.1.other hne).other hne).other hne), (((H1.out.2.2.setCell (by exact hle) _).setCell (by exact hle) _).setCell (by exact hle) _)⟩ (fun hHeld => ?_)
  clear hK KC
  refine wpAnyH_done (by kernel_rfl) ?_ _
  refine NoPanic.normal ?_
  have q0 := HO.out.cell 0 rfl
  have q1 := HO.out.cell 1 rfl
  have q2 := HO.out.cell 2 rfl
  have HE := (show Hid (_ ∧ _) from hHeld)
  clear hHeld HO H0 H1 hnx
  go_wp2
  exact bodyPost_ret (v := .agg #[.int .i64 n, .int .i64 i, .string t]) (by simp [results, Try.results72, go_sem, *]) rfl ⟨rfl, HE.out.2⟩
end Go.Proofs.Ytaofolbnommpgaa
