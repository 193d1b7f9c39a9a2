/- Synods: whose turn it is. -/
import Derived.Test.YtmhkfangfhanlaaSyP
namespace Go.Proofs.Ytmhkfangfhanlaa
open Go.RowKit
set_option linter.unusedVariables false
set_option linter.unusedSimpArgs false

set_option maxRecDepth 100000 in
set_option maxHeartbeats 4000000 in
theorem turnOf_n (ac : Bool) (k i sb ga na ka gp np kp : Nat) (W : World) (hk : k < np) (hi : i < na) (hkp : np ≤ kp) (hka : na ≤ ka) (hn : na ≤ 1000) (hp : np ≤ 1000) (t0 : W.cell? ⟨sb, 0, none⟩ = some (.slice (some ⟨ga, 0, none⟩) na ka)) (t1 : W.cell? ⟨sb, 1, none⟩ = some (.slice (some ⟨gp, 0, none⟩) np kp)) (tz : sb < W.heap.size) :
    Calls Try.prog 75 #[.pointer (some ⟨sb, 0, none⟩), .agg #[.bool ac, .int .i64 ((k : Int) + 1), .int .i64 i]] W fun r w' => r = .returned (.agg (TV ((k : Int) + 1) i na ga (i * 3) gp (k * 5))) ∧ Below W.heap.size W w' := by
  obtain ⟨w1, hw1⟩ : ∃ x, x = (W.alloc (.cells #[.bool ac, .int .i64 ((k : Int) + 1), .int .i64 i] 65)).alloc (.cells #[.int .i64 0, .int .i64 0, .int .i64 0, .pointer none, .pointer none] 111) := ⟨_, rfl⟩
  have HD : Hid (Bx w1.drew W.heap.size [.bool ac, .int .i64 ((k : Int) + 1), .int .i64 i] ∧ Bx w1.drew (W.heap.size + 1) [.int .i64 0, .int .i64 0, .int .i64 0, .pointer none, .pointer none] ∧ w1.drew.cell? ⟨sb, 0, none⟩ = some (.slice (some ⟨ga, 0, none⟩) na ka) ∧ w1.drew.cell? ⟨sb, 1, none⟩ = some (.slice (some ⟨gp, 0, none⟩) np kp) ∧ sb < w1.drew.heap.size ∧ Below W.heap.size W w1.drew) := by
    have hb1 : Below W.heap.size W w1 := hw1 ▸ (Go.Joins.below_alloc1 W _).alloc (by simp) _
    have hb : Below W.heap.size W w1.drew := below_dN hb1 _
    exact ⟨(hw1 ▸ (Bx.new W [_, _, _] _).alloc _ : Bx w1 _ _).next (below_drew _), (hw1 ▸ Bx.newAt (by simp) : Bx w1 (W.heap.size + 1) [.int .i64 0, .int .i64 0, .int .i64 0, .pointer none, .pointer none]).next (below_drew _), (hb.cell (p := ⟨sb, 0, none⟩) tz).trans t0, (hb.cell (p := ⟨sb, 1, none⟩) tz).trans t1, Nat.lt_of_lt_of_le tz hb.size, hb⟩
  have hsb : sb ≠ W.heap.size + 1 := by omega
  have hwr : IntKind.i64.wrap (k : Int) = k := by rw [IntKind.wrap_i64]; omega
  clear t0 t1 tz
  go_enter Try.func75, Try.ntmps75
  go_upto_region 1 with fail
  rw [← hw1]
  clear hw1
  refine wp_region_noPanic ?_
  refine wp_region_held_drew (S := fun X => Bx X W.heap.size [.bool ac, .int .i64 ((k : Int) + 1), .int .i64 i] ∧ X.cell? ⟨sb, 0, none⟩ = some (.slice (some ⟨ga, 0, none⟩) na ka) ∧ X.cell? ⟨sb, 1, none⟩ = some (.slice (some ⟨gp, 0, none⟩) np kp) ∧ sb < X.heap.size) (by kernel_rfl) ⟨HD.out.1, HD.out.2.2.1, HD.out.2.2.2.1, HD.out.2.2.2.2.1⟩ (fun hHeld => ?_)
  obtain ⟨X0, hX0⟩ : ∃ x, x = w1.drew := ⟨_, rfl⟩
  rw [← hX0] at HD hHeld ⊢
  clear hX0
  refine take_v (v := ?_) 0 ⟨some 5, Op.fieldAddr 65 (Operand.tmp 3) 1, _, _, _, none⟩ rfl (fun _ _ _ h => h) ?_ hHeld ?_
  rotate_left
  · (intro W _; go_simp <;> (try with_reducible rfl))
  refine take_v (v := ?_) 1 ⟨some 6, Op.load 3 (Operand.tmp 5), _, _, _, none⟩ rfl (fun _ _ _ h => h) ?_ hHeld ?_
  rotate_left
  · (intro W hSW; (have s0 := hSW.1.cell 0 rfl; have s1 := hSW.1.cell 1 rfl; have s2 := hSW.1.cell 2 rfl; have sz := hSW.1.2; have t0 := hSW.2.1; have t1 := hSW.2.2.1; have tz := hSW.2.2.2); go_simp <;> (try with_reducible rfl))
  refine take_v (v := ?_) 2 ⟨some 7, Op.fieldAddr 65 (Operand.tmp 3) 2, _, _, _, none⟩ rfl (fun _ _ _ h => h) ?_ hHeld ?_
  rotate_left
  · (intro W _; go_simp <;> (try with_reducible rfl))
  refine take_v (v := ?_) 3 ⟨some 8, Op.load 3 (Operand.tmp 7), _, _, _, none⟩ rfl (fun _ _ _ h => h) ?_ hHeld ?_
  rotate_left
  · (intro W hSW; (have s0 := hSW.1.cell 0 rfl; have s1 := hSW.1.cell 1 rfl; have s2 := hSW.1.cell 2 rfl; have sz := hSW.1.2; have t0 := hSW.2.1; have t1 := hSW.2.2.1; have tz := hSW.2.2.2); go_simp <;> (try with_reducible rfl))
  refine take_v (v := ?_) 4 ⟨some 9, Op.move (Operand.tmp 0), _, _, _, none⟩ rfl (fun _ _ _ h => h) ?_ hHeld ?_
  rotate_left
  · (intro W _; go_simp <;> (try with_reducible rfl))
  refine take_v (v := ?_) 5 ⟨some 10, Op.nilCheck (Operand.tmp 9), _, _, _, none⟩ rfl (fun _ _ _ h => h) ?_ hHeld ?_
  rotate_left
  · (intro W _; go_simp <;> (try with_reducible rfl))
  refine take_v (v := ?_) 6 ⟨some 11, Op.fieldAddr 30 (Operand.tmp 10) 0, _, _, _, none⟩ rfl (fun _ _ _ h => h) ?_ hHeld ?_
  rotate_left
  · (intro W _; go_simp <;> (try with_reducible rfl))
  refine take_v (v := ?_) 7 ⟨some 12, Op.load 27 (Operand.tmp 11), _, _, _, none⟩ rfl (fun _ _ _ h => h) ?_ hHeld ?_
  rotate_left
  · (intro W hSW; (have s0 := hSW.1.cell 0 rfl; have s1 := hSW.1.cell 1 rfl; have s2 := hSW.1.cell 2 rfl; have sz := hSW.1.2; have t0 := hSW.2.1; have t1 := hSW.2.2.1; have tz := hSW.2.2.2); go_simp <;> (try with_reducible rfl))
  refine take_v (v := ?_) 8 ⟨some 13, Op.call { callee := Callee.builtin Builtin.len, args := #[Operand.tmp 12], argTypes := #[27] }, _, _, _, none⟩ rfl (fun _ _ _ h => h) ?_ hHeld ?_
  rotate_left
  · (intro W _; go_simp <;> (try with_reducible rfl))
  refine take_v (v := ?_) 9 ⟨some 14, Op.move (Operand.tmp 0), _, _, _, none⟩ rfl (fun _ _ _ h => h) ?_ hHeld ?_
  rotate_left
  · (intro W _; go_simp <;> (try with_reducible rfl))
  refine take_v (v := ?_) 10 ⟨some 15, Op.nilCheck (Operand.tmp 14), _, _, _, none⟩ rfl (fun _ _ _ h => h) ?_ hHeld ?_
  rotate_left
  · (intro W _; go_simp <;> (try with_reducible rfl))
  refine take_v (v := ?_) 11 ⟨some 16, Op.fieldAddr 30 (Operand.tmp 15) 0, _, _, _, none⟩ rfl (fun _ _ _ h => h) ?_ hHeld ?_
  rotate_left
  · (intro W _; go_simp <;> (try with_reducible rfl))
  refine take_v (v := ?_) 12 ⟨some 17, Op.load 27 (Operand.tmp 16), _, _, _, none⟩ rfl (fun _ _ _ h => h) ?_ hHeld ?_
  rotate_left
  · (intro W hSW; (have s0 := hSW.1.cell 0 rfl; have s1 := hSW.1.cell 1 rfl; have s2 := hSW.1.cell 2 rfl; have sz := hSW.1.2; have t0 := hSW.2.1; have t1 := hSW.2.2.1; have tz := hSW.2.2.2); go_simp <;> (try with_reducible rfl))
  refine take_v (v := ?_) 13 ⟨some 18, Op.fieldAddr 65 (Operand.tmp 3) 2, _, _, _, none⟩ rfl (fun _ _ _ h => h) ?_ hHeld ?_
  rotate_left
  · (intro W _; go_simp <;> (try with_reducible rfl))
  refine take_v (v := ?_) 14 ⟨some 19, Op.load 3 (Operand.tmp 18), _, _, _, none⟩ rfl (fun _ _ _ h => h) ?_ hHeld ?_
  rotate_left
  · (intro W hSW; (have s0 := hSW.1.cell 0 rfl; have s1 := hSW.1.cell 1 rfl; have s2 := hSW.1.cell 2 rfl; have sz := hSW.1.2; have t0 := hSW.2.1; have t1 := hSW.2.2.1; have tz := hSW.2.2.2); go_simp <;> (try with_reducible rfl))
  refine take_v (v := ?_) 15 ⟨some 20, Op.indexAddr 27 (Operand.tmp 17) (Operand.tmp 19), _, _, _, none⟩ rfl (fun _ _ _ h => h) ?_ hHeld ?_
  rotate_left
  · (intro W _; go_simp <;> (try with_reducible rfl))
  refine take_v (v := ?_) 16 ⟨some 21, Op.move (Operand.tmp 0), _, _, _, none⟩ rfl (fun _ _ _ h => h) ?_ hHeld ?_
  rotate_left
  · (intro W _; go_simp <;> (try with_reducible rfl))
  refine take_v (v := ?_) 17 ⟨some 22, Op.nilCheck (Operand.tmp 21), _, _, _, none⟩ rfl (fun _ _ _ h => h) ?_ hHeld ?_
  rotate_left
  · (intro W _; go_simp <;> (try with_reducible rfl))
  refine take_v (v := ?_) 18 ⟨some 23, Op.fieldAddr 30 (Operand.tmp 22) 1, _, _, _, none⟩ rfl (fun _ _ _ h => h) ?_ hHeld ?_
  rotate_left
  · (intro W _; go_simp <;> (try with_reducible rfl))
  refine take_v (v := ?_) 19 ⟨some 24, Op.load 28 (Operand.tmp 23), _, _, _, none⟩ rfl (fun _ _ _ h => h) ?_ hHeld ?_
  rotate_left
  · (intro W hSW; (have s0 := hSW.1.cell 0 rfl; have s1 := hSW.1.cell 1 rfl; have s2 := hSW.1.cell 2 rfl; have sz := hSW.1.2; have t0 := hSW.2.1; have t1 := hSW.2.2.1; have tz := hSW.2.2.2); go_simp <;> (try with_reducible rfl))
  refine take_v (v := ?_) 20 ⟨some 25, Op.fieldAddr 65 (Operand.tmp 3) 1, _, _, _, none⟩ rfl (fun _ _ _ h => h) ?_ hHeld ?_
  rotate_left
  · (intro W _; go_simp <;> (try with_reducible rfl))
  refine take_v (v := ?_) 21 ⟨some 26, Op.load 3 (Operand.tmp 25), _, _, _, none⟩ rfl (fun _ _ _ h => h) ?_ hHeld ?_
  rotate_left
  · (intro W hSW; (have s0 := hSW.1.cell 0 rfl; have s1 := hSW.1.cell 1 rfl; have s2 := hSW.1.cell 2 rfl; have sz := hSW.1.2; have t0 := hSW.2.1; have t1 := hSW.2.2.1; have tz := hSW.2.2.2); go_simp <;> (try with_reducible rfl))
  refine take_v (v := ?_) 22 ⟨some 27, Op.binOp BinOp.sub 3 (Operand.tmp 26) (Operand.const (Value.int IntKind.i64 1)) 3, _, _, _, none⟩ rfl (fun _ _ _ h => h) ?_ hHeld ?_
  rotate_left
  · (intro W _; go_simp <;> (try with_reducible rfl))
  refine take_v (v := ?_) 23 ⟨some 28, Op.indexAddr 28 (Operand.tmp 24) (Operand.tmp 27), _, _, _, none⟩ rfl (fun _ _ _ h => h) ?_ hHeld ?_
  rotate_left
  · (intro W _; go_simp <;> (try with_reducible rfl))
  refine take_v (v := ?_) 24 ⟨some 29, Op.build 111 #[(0, Operand.tmp 6), (1, Operand.tmp 8), (2, Operand.tmp 13), (3, Operand.tmp 20), (4, Operand.tmp 28)], _, _, _, none⟩ rfl (fun _ _ _ h => h) ?_ hHeld ?_
  rotate_left
  · (intro W _; go_simp <;> (try with_reducible rfl))
  refine ready_call 25 ⟨none, Op.store 111 (Operand.tmp 4) (Operand.tmp 29), _, _, _, none⟩ (by kernel_rfl) rfl (by kernel_rfl) (fun KC hK => ?_)
  have d0 := HD.out.2.1.cell 0 rfl
  have d1 := HD.out.2.1.cell 1 rfl
  have d2 := HD.out.2.1.cell 2 rfl
  have d3 := HD.out.2.1.cell 3 rfl
  have d4 := HD.out.2.1.cell 4 rfl
  have f0 := HD.out.2.1.frz 0 (by simp)
  have f1 := HD.out.2.1.frz 1 (by simp)
  have f2 := HD.out.2.1.frz 2 (by simp)
  have f3 := HD.out.2.1.frz 3 (by simp)
  have f4 := HD.out.2.1.frz 4 (by simp)
  have dz := HD.out.2.1.2
  go_wp2_with fail
  have HF := (show Hid (Bx (((((X0.setCell ⟨W.heap.size + 1, 0, none⟩ (.int .i64 ((k : Int) + 1))).setCell ⟨W.heap.size + 1, 1, none⟩ (.int .i64 i)).setCell ⟨W.heap.size + 1, 2, none⟩ (.int .i64 na)).setCell ⟨W.heap.size + 1, 3, none⟩ (.pointer (some ⟨ga, i * 3, none⟩))).setCell ⟨W.heap.size + 1, 4, none⟩ (.pointer (some ⟨gp, k * 5, none⟩))) (W.heap.size + 1) [.int .i64 ((k : Int) + 1), .int .i64 i, .int .i64 na, .pointer (some ⟨ga, i * 3, none⟩), .pointer (some ⟨gp, k * 5, none⟩)] ∧ Below W.heap.size W (((((X0.setCell ⟨W.heap.size + 1, 0, none⟩ (.int .i64 ((k : Int) + 1))).setCell ⟨W.heap.size + 1, 1, none⟩ (.int .i64 i)).setCell ⟨W.heap.size + 1, 2, none⟩ (.int .i64 na)).setCell ⟨W.heap.size + 1, 3, none⟩ (.pointer (some ⟨ga, i * 3, none⟩))).setCell ⟨W.heap.size + 1, 4, none⟩ (.pointer (some ⟨gp, k * 5, none⟩)))) from ⟨((((HD.out.2.1.set (k := 0) (by simp) _).set (k := 1) (by simp) _).set (k := 2) (by simp) _).set (k := 3) (by simp) _).set (k := 4) (by simp) _, ((set5 X0 (W.heap.size + 1) _ _ _ _ _).below (fun j hj => by omega) HD.out.2.2.2.2.2.size |> HD.out.2.2.2.2.2.trans)⟩)
  clear d0 d1 d2 d3 d4 f0 f1 f2 f3 f4 dz
  have hs1 : W.heap.size ≠ W.heap.size + 1 := by omega
  have hs2 : W.heap.size + 1 ≠ sb := Ne.symm hsb
  refine hK.out _ _ ⟨((((HD.out.1.other hs1).other hs1).other hs1).other hs1).other hs1, by rw [World.cell?_setCell_other _ _ _ _ (addr_ne' hs2), World.cell?_setCell_other _ _ _ _ (addr_ne' hs2), World.cell?_setCell_other _ _ _ _ (addr_ne' hs2), World.cell?_setCell_other _ _ _ _ (addr_ne' hs2), World.cell?_setCell_other _ _ _ _ (addr_ne' hs2)]; exact HD.out.2.2.1, by rw [World.cell?_setCell_other _ _ _ _ (addr_ne' hs2), World.cell?_setCell_other _ _ _ _ (addr_ne' hs2), World.cell?_setCell_other _ _ _ _ (addr_ne' hs2), World.cell?_setCell_other _ _ _ _ (addr_ne' hs2), World.cell?_setCell_other _ _ _ _ (addr_ne' hs2)]; exact HD.out.2.2.2.1, by simpa using HD.out.2.2.2.2.1⟩ (fun hHeld => ?_)
  clear hK KC
  refine wpAnyH_done (by kernel_rfl) ?_ _
  refine NoPanic.normal ?_
  clear hHeld
  obtain ⟨X9, hX9⟩ : ∃ x, x = (((((X0.setCell ⟨W.heap.size + 1, 0, none⟩ (.int .i64 ((k : Int) + 1))).setCell ⟨W.heap.size + 1, 1, none⟩ (.int .i64 i)).setCell ⟨W.heap.size + 1, 2, none⟩ (.int .i64 na)).setCell ⟨W.heap.size + 1, 3, none⟩ (.pointer (some ⟨ga, i * 3, none⟩))).setCell ⟨W.heap.size + 1, 4, none⟩ (.pointer (some ⟨gp, k * 5, none⟩))) := ⟨_, rfl⟩
  rw [← hX9] at HF ⊢
  clear hX9
  have d0 := HF.out.1.cell 0 rfl
  have d1 := HF.out.1.cell 1 rfl
  have d2 := HF.out.1.cell 2 rfl
  have d3 := HF.out.1.cell 3 rfl
  have d4 := HF.out.1.cell 4 rfl
  have dz := HF.out.1.2
  go_wp2
  refine bodyPost_ret (v := .agg (TV ((k : Int) + 1) i na ga (i * 3) gp (k * 5))) (by simp [results, Try.results75, go_sem, *]) rfl ⟨rfl, HF.out.2⟩
end Go.Proofs.Ytmhkfangfhanlaa
