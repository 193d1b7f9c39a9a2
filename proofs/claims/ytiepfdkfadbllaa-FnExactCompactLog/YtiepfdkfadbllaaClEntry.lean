/- The contract of cloneEntry. Written by tools/mkClone.py. -/
import Derived.Test.YtiepfdkfadbllaaRwEntry
import Derived.Test.YtiepfdkfadbllaaRg2
import Derived.Test.YtiepfdkfadbllaaCln
namespace Go.Proofs.Ytiepfdkfadbllaa
open Go.RowKit
set_option linter.unusedVariables false

set_option maxRecDepth 100000 in
set_option maxHeartbeats 4000000 in
theorem cloneEntry_any (v : EntryV) (w : World) (h1 : v.f1.size ≤ 281474976710656) (h2 : v.f2.size ≤ 281474976710656) :
    Calls Try.prog 57 #[.agg #[.int .i64 v.f0, .string v.f1, .string v.f2, .int .i64 v.f3, .int .i64 v.f4, .bool v.f5]] w fun r w' => r = .returned (.agg #[.int .i64 v.f0, .string v.f1, .string v.f2, .int .i64 v.f3, .int .i64 v.f4, .bool v.f5]) ∧ Below w.heap.size w w' := by
  have hnx : ∀ {a b c : World}, Below a.heap.size a b → Below b.heap.size b c → Below a.heap.size a c := fun h k => h.trans (k.mono h.size)
  have H0 : Hid (Bx ((w.alloc (.cells #[.int .i64 v.f0, .string v.f1, .string v.f2, .int .i64 v.f3, .int .i64 v.f4, .bool v.f5] 33)).alloc (.cells #[.int .i64 0, .string ⟨#[]⟩, .string ⟨#[]⟩, .int .i64 0, .int .i64 0, .bool false] 33)).drew w.heap.size [.int .i64 v.f0, .string v.f1, .string v.f2, .int .i64 v.f3, .int .i64 v.f4, .bool v.f5] ∧ Bx ((w.alloc (.cells #[.int .i64 v.f0, .string v.f1, .string v.f2, .int .i64 v.f3, .int .i64 v.f4, .bool v.f5] 33)).alloc (.cells #[.int .i64 0, .string ⟨#[]⟩, .string ⟨#[]⟩, .int .i64 0, .int .i64 0, .bool false] 33)).drew (w.heap.size + 1) [.int .i64 0, .string ⟨#[]⟩, .string ⟨#[]⟩, .int .i64 0, .int .i64 0, .bool false] ∧ Below w.heap.size w ((w.alloc (.cells #[.int .i64 v.f0, .string v.f1, .string v.f2, .int .i64 v.f3, .int .i64 v.f4, .bool v.f5] 33)).alloc (.cells #[.int .i64 0, .string ⟨#[]⟩, .string ⟨#[]⟩, .int .i64 0, .int .i64 0, .bool false] 33)).drew) := by
    have h2 := Bx.new (w.alloc (.cells #[.int .i64 v.f0, .string v.f1, .string v.f2, .int .i64 v.f3, .int .i64 v.f4, .bool v.f5] 33)) [.int .i64 0, .string ⟨#[]⟩, .string ⟨#[]⟩, .int .i64 0, .int .i64 0, .bool false] 33
    rw [World.size_alloc] at h2
    exact ⟨((Bx.new w [.int .i64 v.f0, .string v.f1, .string v.f2, .int .i64 v.f3, .int .i64 v.f4, .bool v.f5] 33).alloc _).next (Below.refl _ _).drew, h2.next (Below.refl _ _).drew, (hnx (Go.Joins.below_alloc1 _ _) (Go.Joins.below_alloc1 _ _)).drew⟩
  go_enter Try.func57, Try.ntmps57
  go_upto_region 1 with fail
  refine wp_region_noPanic ?_
  refine wp_region_held_drew (S := fun W => Bx W w.heap.size [.int .i64 v.f0, .string v.f1, .string v.f2, .int .i64 v.f3, .int .i64 v.f4, .bool v.f5] ∧ Below w.heap.size w W) (by kernel_rfl) ⟨H0.out.1, H0.out.2.2⟩ (fun hHeld => ?_)
  refine take_v (v := ?_) 0 ⟨some 3, Op.fieldAddr 33 (Operand.tmp 1) 0, _, _, _, none⟩ rfl (fun _ _ _ h => h) ?_ hHeld ?_
  rotate_left
  · (intro W _; go_simp <;> (try with_reducible rfl))
  refine take_v (v := ?_) 1 ⟨some 4, Op.load 3 (Operand.tmp 3), _, _, _, none⟩ rfl (fun _ _ _ h => h) ?_ hHeld ?_
  rotate_left
  · (intro W hSW; (have s0 := hSW.1.cell 0 rfl; have s1 := hSW.1.cell 1 rfl; have s2 := hSW.1.cell 2 rfl; have s3 := hSW.1.cell 3 rfl; have s4 := hSW.1.cell 4 rfl; have s5 := hSW.1.cell 5 rfl; have sz := hSW.1.2); go_simp <;> (try with_reducible rfl))
  refine take_v (v := ?_) 2 ⟨some 5, Op.fieldAddr 33 (Operand.tmp 1) 1, _, _, _, none⟩ rfl (fun _ _ _ h => h) ?_ hHeld ?_
  rotate_left
  · (intro W _; go_simp <;> (try with_reducible rfl))
  refine take_v (v := ?_) 3 ⟨some 6, Op.load 9 (Operand.tmp 5), _, _, _, none⟩ rfl (fun _ _ _ h => h) ?_ hHeld ?_
  rotate_left
  · (intro W hSW; (have s0 := hSW.1.cell 0 rfl; have s1 := hSW.1.cell 1 rfl; have s2 := hSW.1.cell 2 rfl; have s3 := hSW.1.cell 3 rfl; have s4 := hSW.1.cell 4 rfl; have s5 := hSW.1.cell 5 rfl; have sz := hSW.1.2); go_simp <;> (try with_reducible rfl))
  refine take_v (v := ?_) 5 ⟨some 8, Op.fieldAddr 33 (Operand.tmp 1) 2, _, _, _, none⟩ rfl (fun _ _ _ h => h) ?_ hHeld ?_
  rotate_left
  · (intro W _; go_simp <;> (try with_reducible rfl))
  refine take_v (v := ?_) 6 ⟨some 9, Op.load 9 (Operand.tmp 8), _, _, _, none⟩ rfl (fun _ _ _ h => h) ?_ hHeld ?_
  rotate_left
  · (intro W hSW; (have s0 := hSW.1.cell 0 rfl; have s1 := hSW.1.cell 1 rfl; have s2 := hSW.1.cell 2 rfl; have s3 := hSW.1.cell 3 rfl; have s4 := hSW.1.cell 4 rfl; have s5 := hSW.1.cell 5 rfl; have sz := hSW.1.2); go_simp <;> (try with_reducible rfl))
  refine take_v (v := ?_) 8 ⟨some 11, Op.fieldAddr 33 (Operand.tmp 1) 3, _, _, _, none⟩ rfl (fun _ _ _ h => h) ?_ hHeld ?_
  rotate_left
  · (intro W _; go_simp <;> (try with_reducible rfl))
  refine take_v (v := ?_) 9 ⟨some 12, Op.load 31 (Operand.tmp 11), _, _, _, none⟩ rfl (fun _ _ _ h => h) ?_ hHeld ?_
  rotate_left
  · (intro W hSW; (have s0 := hSW.1.cell 0 rfl; have s1 := hSW.1.cell 1 rfl; have s2 := hSW.1.cell 2 rfl; have s3 := hSW.1.cell 3 rfl; have s4 := hSW.1.cell 4 rfl; have s5 := hSW.1.cell 5 rfl; have sz := hSW.1.2); go_simp <;> (try with_reducible rfl))
  refine ready_call 4 ⟨some 7, Op.call { callee := Callee.value (Operand.func 82), args := #[Operand.tmp 6], argTypes := #[9] }, _, _, _, none⟩ (by kernel_rfl) rfl (by kernel_rfl) (fun KC hK => ?_)
  go_wp2_with fail
  refine (clone_any _ _ h1).mono ?_
  rintro r w1 ⟨rfl, hb⟩
  have H1 : Hid (Bx w1 w.heap.size [.int .i64 v.f0, .string v.f1, .string v.f2, .int .i64 v.f3, .int .i64 v.f4, .bool v.f5] ∧ Bx w1 (w.heap.size + 1) [.int .i64 0, .string ⟨#[]⟩, .string ⟨#[]⟩, .int .i64 0, .int .i64 0, .bool false] ∧ Below w.heap.size w w1) := ⟨H0.out.1.next hb, H0.out.2.1.next hb, hnx H0.out.2.2 hb⟩
  clear hb
  refine hK.out _ _ ⟨H1.out.1, H1.out.2.2⟩ (fun hHeld => ?_)
  clear hK KC
  refine ready_call 7 ⟨some 10, Op.call { callee := Callee.value (Operand.func 82), args := #[Operand.tmp 9], argTypes := #[9] }, _, _, _, none⟩ (by kernel_rfl) rfl (by kernel_rfl) (fun KC hK => ?_)
  go_wp2_with fail
  refine (clone_any _ _ h2).mono ?_
  rintro r w2 ⟨rfl, hb⟩
  have H2 : Hid (Bx w2 w.heap.size [.int .i64 v.f0, .string v.f1, .string v.f2, .int .i64 v.f3, .int .i64 v.f4, .bool v.f5] ∧ Bx w2 (w.heap.size + 1) [.int .i64 0, .string ⟨#[]⟩, .string ⟨#[]⟩, .int .i64 0, .int .i64 0, .bool false] ∧ Below w.heap.size w w2) := ⟨H1.out.1.next hb, H1.out.2.1.next hb, hnx H1.out.2.2 hb⟩
  clear hb
  refine hK.out _ _ ⟨H2.out.1, H2.out.2.2⟩ (fun hHeld => ?_)
  clear hK KC
  refine take_v (v := ?_) 10 ⟨some 13, Op.build 33 #[(0, Operand.tmp 4), (1, Operand.tmp 7), (2, Operand.tmp 10), (3, Operand.tmp 12)], _, _, _, none⟩ rfl (fun _ _ _ h => h) ?_ hHeld ?_
  rotate_left
  · (intro W _; go_simp <;> (try with_reducible rfl))
  refine ready_call 11 ⟨none, Op.store 33 (Operand.tmp 2) (Operand.tmp 13), _, _, _, none⟩ (by kernel_rfl) rfl (by kernel_rfl) (fun KC hK => ?_)
  have d0 := H2.out.2.1.cell 0 rfl
  have d1 := H2.out.2.1.cell 1 rfl
  have d2 := H2.out.2.1.cell 2 rfl
  have d3 := H2.out.2.1.cell 3 rfl
  have d4 := H2.out.2.1.cell 4 rfl
  have d5 := H2.out.2.1.cell 5 rfl
  have z0 := H2.out.2.1.frz 0 (by simp)
  have z1 := H2.out.2.1.frz 1 (by simp)
  have z2 := H2.out.2.1.frz 2 (by simp)
  have z3 := H2.out.2.1.frz 3 (by simp)
  have z4 := H2.out.2.1.frz 4 (by simp)
  have z5 := H2.out.2.1.frz 5 (by simp)
  have sz := H2.out.2.1.2
  go_wp2_with fail
  have HO := (show Hid (Bx _ _ [.int .i64 v.f0, .string v.f1, .string v.f2, .int .i64 v.f3, .int .i64 v.f4, .bool v.f5]) from ((((((H2.out.2.1.set (k := 0) (by simp) (.int .i64 v.f0)).set (k := 1) (by simp) (.string v.f1)).set (k := 2) (by simp) (.string v.f2)).set (k := 3) (by simp) (.int .i64 v.f3)).set (k := 4) (by simp) (.int .i64 v.f4)).set (k := 5) (by simp) (.bool v.f5)))
  have hne : w.heap.size ≠ w.heap.size + 1 := by omega
  have hle : w.heap.size ≤ w.heap.size + 1 := by omega
  clear d0 z0 d1 z1 d2 z2 d3 z3 d4 z4 d5 z5 sz
  refine hK.out _ _ ⟨((((((H2.out.1.other hne).other hne).other hne).other hne).other hne).other hne), ((((((H2.out.2.2.setCell (by exact hle) _).setCell (by exact hle) _).setCell (by exact hle) _).setCell (by exact hle) _).setCell (by exact hle) _).setCell (by exact hle) _)⟩ (fun hHeld => ?_)
  clear hK KC
  refine wpAnyH_done (by kernel_rfl) ?_ _
  refine NoPanic.normal ?_
  have q0 := HO.out.cell 0 rfl
  have q1 := HO.out.cell 1 rfl
  have q2 := HO.out.cell 2 rfl
  have q3 := HO.out.cell 3 rfl
  have q4 := HO.out.cell 4 rfl
  have q5 := HO.out.cell 5 rfl
  have HE := (show Hid (_ ∧ _) from hHeld)
  clear hHeld HO H0 H1 H2 hnx
  go_wp2
  exact bodyPost_ret (v := .agg #[.int .i64 v.f0, .string v.f1, .string v.f2, .int .i64 v.f3, .int .i64 v.f4, .bool v.f5]) (by simp [results, Try.results57, go_sem, *]) rfl ⟨rfl, HE.out.2⟩
end Go.Proofs.Ytiepfdkfadbllaa
