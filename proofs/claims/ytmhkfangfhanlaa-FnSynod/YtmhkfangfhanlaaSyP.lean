/- Synods: what a turn does: promise. -/
import Derived.Test.YtmhkfangfhanlaaSyY
namespace Go.Proofs.Ytmhkfangfhanlaa
open Go.RowKit
set_option linter.unusedVariables false
set_option linter.unusedSimpArgs false

set_option maxRecDepth 100000 in
set_option maxHeartbeats 4000000 in
theorem promise_n (bal node n : Int) (W0 W : World) (lo ga oa gp op : Nat) (S0 : Nat → Prop) (v1 v2 : Value) (B1 B2 : Nat → Prop) (p b : Int) (v own : ByteArray) (ps : List (Sh.T shPromise)) (fx : Bool) (val : ByteArray) (vt : List (Sh.T .int)) (hvs : v.size ≤ 1073741824) (hpl : ps.length ≤ 1000) (hri : ps.Pairwise (fun x y => pnd x < pnd y)) (h : Loc W0 lo ga oa gp op S0 W v1 v2 B1 B2 p b v own ps fx val vt) :
    Calls Try.prog 106 #[.agg (TV bal node n ga oa gp op)] W fun r w' => r = .returned (.tuple #[]) ∧ ∃ v5 B5, Loc W0 lo ga oa gp op S0 w' v5 v2 B5 B2 bal b v own (putP ps (mkPm node b v)) fx val vt := by
  have HH : Hid (Loc W0 lo ga oa gp op S0 W v1 v2 B1 B2 p b v own ps fx val vt) := h
  obtain ⟨a1, k1, hv1⟩ := h.2.2.1.vform
  subst hv1
  have c0 : W.cell? ⟨ga, oa, none⟩ = some (.int .i64 p) := h.1.cell (j := 0) rfl
  have f0 := h.1.frz oa
  have za := h.1.lt
  have zp := h.2.1.lt
  have hgw : gp ≠ W.heap.size := by omega
  have haw : ga ≠ W.heap.size := by omega
  have HBW : Hid (∀ k, B1 k ∨ B2 k → k ≠ W.heap.size) := fun k hk => Nat.ne_of_lt (h.2.2.2.2.2.1 k hk).2.2.1
  obtain ⟨w1, hw1⟩ : ∃ x, x = (W.setCell ⟨ga, oa, none⟩ (.int .i64 bal)).alloc (.cells (TV bal node n ga oa gp op) 111) := ⟨_, rfl⟩
  have HD : Hid (Loc W0 lo ga oa gp op S0 w1.drew (.slice a1 ps.length k1) v2 B1 B2 bal b v own ps fx val vt ∧ Bx w1.drew W.heap.size [.int .i64 bal, .int .i64 node, .int .i64 n, .pointer (some ⟨ga, oa, none⟩), .pointer (some ⟨gp, op, none⟩)]) := by
    have e1 : Loc W0 lo ga oa gp op S0 w1 (.slice a1 ps.length k1) v2 B1 B2 bal b v own ps fx val vt := hw1 ▸ (HH.out.setA bal).next (Go.Joins.below_alloc1 _ _)
    have e2 : Bx w1 W.heap.size [.int .i64 bal, .int .i64 node, .int .i64 n, .pointer (some ⟨ga, oa, none⟩), .pointer (some ⟨gp, op, none⟩)] := hw1 ▸ Bx.newAt (by simp)
    exact ⟨e1.next (below_drew _), e2.next (below_drew _)⟩
  have HVS : Hid (v.size ≤ 281474976710656 ∧ ps.Pairwise (fun x y => pnd x < pnd y)) := ⟨by omega, hri⟩
  clear h hvs hri HH
  go_enter Try.func106, Try.ntmps106
  go_upto_region 2 with fail
  rw [← hw1]
  clear hw1 c0 f0
  go_cut [2] (fun s2 wx => ∃ b3, s2 = .pointer (some ⟨b3, 0, none⟩) ∧ Loc W0 lo ga oa gp op S0 wx (.slice a1 ps.length k1) v2 B1 B2 bal b v own ps fx val vt ∧ Bx wx W.heap.size [.int .i64 bal, .int .i64 node, .int .i64 n, .pointer (some ⟨ga, oa, none⟩), .pointer (some ⟨gp, op, none⟩)] ∧ Bx wx b3 [.int .i64 node, .int .i64 b, .string v] ∧ W.heap.size < b3 ∧ W0.heap.size ≤ b3 ∧ ∀ k, B1 k ∨ B2 k → k ≠ b3)
  case first =>
    refine wp_region_noPanic ?_
    refine wp_region_held_drew (S := fun X => Bx X W.heap.size [.int .i64 bal, .int .i64 node, .int .i64 n, .pointer (some ⟨ga, oa, none⟩), .pointer (some ⟨gp, op, none⟩)] ∧ X.cell? ⟨ga, oa + 1, none⟩ = some (.int .i64 b) ∧ X.cell? ⟨ga, oa + 2, none⟩ = some (.string v) ∧ ga < X.heap.size) (by kernel_rfl) ⟨HD.out.2, HD.out.1.1.cell (j := 1) rfl, HD.out.1.1.cell (j := 2) rfl, HD.out.1.1.lt⟩ (fun hHeld => ?_)
    obtain ⟨X0, hX0⟩ : ∃ x, x = w1.drew := ⟨_, rfl⟩
    rw [← hX0] at HD hHeld ⊢
    clear hX0
    refine take_v (v := ?_) 0 ⟨some 11, Op.fieldAddr 111 (Operand.tmp 1) 1, _, _, _, none⟩ rfl (fun _ _ _ h => h) ?_ hHeld ?_
    rotate_left
    · (intro W _; go_simp <;> (try with_reducible rfl))
    refine take_v (v := ?_) 1 ⟨some 12, Op.load 3 (Operand.tmp 11), _, _, _, none⟩ rfl (fun _ _ _ h => h) ?_ hHeld ?_
    rotate_left
    · (intro W hSW; (have s0 := hSW.1.cell 0 rfl; have s1 := hSW.1.cell 1 rfl; have s2 := hSW.1.cell 2 rfl; have s3 := hSW.1.cell 3 rfl; have s4 := hSW.1.cell 4 rfl; have sz := hSW.1.2; have t1 := hSW.2.1; have t2 := hSW.2.2.1; have tz := hSW.2.2.2); go_simp <;> (try with_reducible rfl))
    refine take_v (v := ?_) 2 ⟨some 13, Op.fieldAddr 111 (Operand.tmp 1) 3, _, _, _, none⟩ rfl (fun _ _ _ h => h) ?_ hHeld ?_
    rotate_left
    · (intro W _; go_simp <;> (try with_reducible rfl))
    refine take_v (v := ?_) 3 ⟨some 14, Op.load 108 (Operand.tmp 13), _, _, _, none⟩ rfl (fun _ _ _ h => h) ?_ hHeld ?_
    rotate_left
    · (intro W hSW; (have s0 := hSW.1.cell 0 rfl; have s1 := hSW.1.cell 1 rfl; have s2 := hSW.1.cell 2 rfl; have s3 := hSW.1.cell 3 rfl; have s4 := hSW.1.cell 4 rfl; have sz := hSW.1.2; have t1 := hSW.2.1; have t2 := hSW.2.2.1; have tz := hSW.2.2.2); go_simp <;> (try with_reducible rfl))
    refine take_v (v := ?_) 4 ⟨some 15, Op.nilCheck (Operand.tmp 14), _, _, _, none⟩ rfl (fun _ _ _ h => h) ?_ hHeld ?_
    rotate_left
    · (intro W _; go_simp <;> (try with_reducible rfl))
    refine take_v (v := ?_) 5 ⟨some 16, Op.fieldAddr 91 (Operand.tmp 15) 1, _, _, _, none⟩ rfl (fun _ _ _ h => h) ?_ hHeld ?_
    rotate_left
    · (intro W _; go_simp <;> (try with_reducible rfl))
    refine take_v (v := ?_) 6 ⟨some 17, Op.load 3 (Operand.tmp 16), _, _, _, none⟩ rfl (fun _ _ _ h => h) ?_ hHeld ?_
    rotate_left
    · (intro W hSW; (have s0 := hSW.1.cell 0 rfl; have s1 := hSW.1.cell 1 rfl; have s2 := hSW.1.cell 2 rfl; have s3 := hSW.1.cell 3 rfl; have s4 := hSW.1.cell 4 rfl; have sz := hSW.1.2; have t1 := hSW.2.1; have t2 := hSW.2.2.1; have tz := hSW.2.2.2); go_simp <;> (try with_reducible rfl))
    refine take_v (v := ?_) 7 ⟨some 18, Op.fieldAddr 111 (Operand.tmp 1) 3, _, _, _, none⟩ rfl (fun _ _ _ h => h) ?_ hHeld ?_
    rotate_left
    · (intro W _; go_simp <;> (try with_reducible rfl))
    refine take_v (v := ?_) 8 ⟨some 19, Op.load 108 (Operand.tmp 18), _, _, _, none⟩ rfl (fun _ _ _ h => h) ?_ hHeld ?_
    rotate_left
    · (intro W hSW; (have s0 := hSW.1.cell 0 rfl; have s1 := hSW.1.cell 1 rfl; have s2 := hSW.1.cell 2 rfl; have s3 := hSW.1.cell 3 rfl; have s4 := hSW.1.cell 4 rfl; have sz := hSW.1.2; have t1 := hSW.2.1; have t2 := hSW.2.2.1; have tz := hSW.2.2.2); go_simp <;> (try with_reducible rfl))
    refine take_v (v := ?_) 9 ⟨some 20, Op.nilCheck (Operand.tmp 19), _, _, _, none⟩ rfl (fun _ _ _ h => h) ?_ hHeld ?_
    rotate_left
    · (intro W _; go_simp <;> (try with_reducible rfl))
    refine take_v (v := ?_) 10 ⟨some 21, Op.fieldAddr 91 (Operand.tmp 20) 2, _, _, _, none⟩ rfl (fun _ _ _ h => h) ?_ hHeld ?_
    rotate_left
    · (intro W _; go_simp <;> (try with_reducible rfl))
    refine take_v (v := ?_) 11 ⟨some 22, Op.load 9 (Operand.tmp 21), _, _, _, none⟩ rfl (fun _ _ _ h => h) ?_ hHeld ?_
    rotate_left
    · (intro W hSW; (have s0 := hSW.1.cell 0 rfl; have s1 := hSW.1.cell 1 rfl; have s2 := hSW.1.cell 2 rfl; have s3 := hSW.1.cell 3 rfl; have s4 := hSW.1.cell 4 rfl; have sz := hSW.1.2; have t1 := hSW.2.1; have t2 := hSW.2.2.1; have tz := hSW.2.2.2); go_simp <;> (try with_reducible rfl))
    refine ready_two 12 14 ⟨some 23, Op.call { callee := Callee.value (Operand.func 53), args := #[Operand.tmp 22], argTypes := #[9] }, _, _, _, none⟩ ⟨some 2, Op.alloc 96, _, _, _, none⟩ (by kernel_rfl) rfl rfl (by kernel_rfl) (by kernel_rfl) (fun KC hK => ?_) (fun KC hK => ?_)
    ·
      go_wp2_with fail
      refine (clone_any _ _ HVS.out.1).mono ?_
      rintro r X1 ⟨rfl, hb⟩
      have HD := (show Hid (Loc W0 lo ga oa gp op S0 X1 (.slice a1 ps.length k1) v2 B1 B2 bal b v own ps fx val vt ∧ Bx X1 W.heap.size [.int .i64 bal, .int .i64 node, .int .i64 n, .pointer (some ⟨ga, oa, none⟩), .pointer (some ⟨gp, op, none⟩)]) from ⟨HD.out.1.next hb, HD.out.2.next hb⟩)
      (first | (have HB3 := (show Hid (Bx X1 b3 [.int .i64 0, .int .i64 0, .string ⟨#[]⟩] ∧ W.heap.size < b3 ∧ W0.heap.size ≤ b3 ∧ ∀ k, B1 k ∨ B2 k → k ≠ b3) from ⟨HB3.out.1.next hb, HB3.out.2⟩)) | skip)
      clear hb
      refine hK.out _ _ ⟨HD.out.2, HD.out.1.1.cell (j := 1) rfl, HD.out.1.1.cell (j := 2) rfl, HD.out.1.1.lt⟩ (fun hHeld => ?_)
      clear hK KC
      refine take_v (v := ?_) 13 ⟨some 24, Op.build 96 #[(0, Operand.tmp 12), (1, Operand.tmp 17), (2, Operand.tmp 23)], _, _, _, none⟩ rfl (fun _ _ _ h => h) ?_ hHeld ?_
      rotate_left
      · (intro W _; go_simp <;> (try with_reducible rfl))
      refine ready_call 14 ⟨some 2, Op.alloc 96, _, _, _, none⟩ (by kernel_rfl) rfl (by kernel_rfl) (fun KC hK => ?_)
      go_wp2_with fail
      (first | (obtain ⟨X4, hX4⟩ : ∃ x, x = X1.alloc (.cells #[.int .i64 0, .int .i64 0, .string ⟨#[]⟩] 96) := ⟨_, rfl⟩; have hb : Below X1.heap.size X1 X4 := hX4 ▸ Go.Joins.below_alloc1 _ _; obtain ⟨b3, hb3E⟩ : ∃ b, b = X1.heap.size := ⟨_, rfl⟩; have HB3 : Hid (Bx X4 b3 [.int .i64 0, .int .i64 0, .string ⟨#[]⟩] ∧ W.heap.size < b3 ∧ W0.heap.size ≤ b3 ∧ ∀ k, B1 k ∨ B2 k → k ≠ b3) := ⟨hb3E ▸ hX4 ▸ Bx.new X1 [_, _, _] _, by rw [hb3E]; exact HD.out.2.2, by rw [hb3E]; exact HD.out.1.2.2.2.2.2.2.2.2.2.1.size, fun k hk => by rw [hb3E]; exact Nat.ne_of_lt (HD.out.1.2.2.2.2.2.1 k hk).2.2.1⟩; have HD := (show Hid (Loc W0 lo ga oa gp op S0 X4 (.slice a1 ps.length k1) v2 B1 B2 bal b v own ps fx val vt ∧ Bx X4 W.heap.size [.int .i64 bal, .int .i64 node, .int .i64 n, .pointer (some ⟨ga, oa, none⟩), .pointer (some ⟨gp, op, none⟩)]) from ⟨HD.out.1.next hb, HD.out.2.next hb⟩); rw [← hX4, ← hb3E]; clear hb hX4 hb3E) | (obtain ⟨X4, hX4⟩ : ∃ x, x = X0.alloc (.cells #[.int .i64 0, .int .i64 0, .string ⟨#[]⟩] 96) := ⟨_, rfl⟩; have hb : Below X0.heap.size X0 X4 := hX4 ▸ Go.Joins.below_alloc1 _ _; obtain ⟨b3, hb3E⟩ : ∃ b, b = X0.heap.size := ⟨_, rfl⟩; have HB3 : Hid (Bx X4 b3 [.int .i64 0, .int .i64 0, .string ⟨#[]⟩] ∧ W.heap.size < b3 ∧ W0.heap.size ≤ b3 ∧ ∀ k, B1 k ∨ B2 k → k ≠ b3) := ⟨hb3E ▸ hX4 ▸ Bx.new X0 [_, _, _] _, by rw [hb3E]; exact HD.out.2.2, by rw [hb3E]; exact HD.out.1.2.2.2.2.2.2.2.2.2.1.size, fun k hk => by rw [hb3E]; exact Nat.ne_of_lt (HD.out.1.2.2.2.2.2.1 k hk).2.2.1⟩; have HD := (show Hid (Loc W0 lo ga oa gp op S0 X4 (.slice a1 ps.length k1) v2 B1 B2 bal b v own ps fx val vt ∧ Bx X4 W.heap.size [.int .i64 bal, .int .i64 node, .int .i64 n, .pointer (some ⟨ga, oa, none⟩), .pointer (some ⟨gp, op, none⟩)]) from ⟨HD.out.1.next hb, HD.out.2.next hb⟩); rw [← hX4, ← hb3E]; clear hb hX4 hb3E))
      refine hK.out _ _ ⟨HD.out.2, HD.out.1.1.cell (j := 1) rfl, HD.out.1.1.cell (j := 2) rfl, HD.out.1.1.lt⟩ (fun hHeld => ?_)
      clear hK KC
      refine ready_call 15 ⟨none, Op.store 96 (Operand.tmp 2) (Operand.tmp 24), _, _, _, none⟩ (by kernel_rfl) rfl (by kernel_rfl) (fun KC hK => ?_)
      have d0 := HB3.out.1.cell 0 rfl
      have d1 := HB3.out.1.cell 1 rfl
      have d2 := HB3.out.1.cell 2 rfl
      have f0 := HB3.out.1.frz 0 (by simp)
      have f1 := HB3.out.1.frz 1 (by simp)
      have f2 := HB3.out.1.frz 2 (by simp)
      have dz := HB3.out.1.2
      have hbb := HB3.out.2.1
      go_wp2_with fail
      have hnb : W.heap.size ≠ b3 := by omega
      (first | (have HF := (show Hid ((Loc W0 lo ga oa gp op S0 (((X1.setCell ⟨b3, 0, none⟩ (.int .i64 node)).setCell ⟨b3, 1, none⟩ (.int .i64 b)).setCell ⟨b3, 2, none⟩ (.string v)) (.slice a1 ps.length k1) v2 B1 B2 bal b v own ps fx val vt) ∧ Bx (((X1.setCell ⟨b3, 0, none⟩ (.int .i64 node)).setCell ⟨b3, 1, none⟩ (.int .i64 b)).setCell ⟨b3, 2, none⟩ (.string v)) W.heap.size [.int .i64 bal, .int .i64 node, .int .i64 n, .pointer (some ⟨ga, oa, none⟩), .pointer (some ⟨gp, op, none⟩)] ∧ Bx (((X1.setCell ⟨b3, 0, none⟩ (.int .i64 node)).setCell ⟨b3, 1, none⟩ (.int .i64 b)).setCell ⟨b3, 2, none⟩ (.string v)) b3 [.int .i64 node, .int .i64 b, .string v]) from ⟨HD.out.1.fresh3 HB3.out.2.2.1 HB3.out.2.2.2 (.int .i64 node) (.int .i64 b) (.string v), ((HD.out.2.other hnb).other hnb).other hnb, ((HB3.out.1.set (k := 0) (by simp) (.int .i64 node)).set (k := 1) (by simp) (.int .i64 b)).set (k := 2) (by simp) (.string v)⟩)) | (have HF := (show Hid ((Loc W0 lo ga oa gp op S0 (((X4.setCell ⟨b3, 0, none⟩ (.int .i64 node)).setCell ⟨b3, 1, none⟩ (.int .i64 b)).setCell ⟨b3, 2, none⟩ (.string v)) (.slice a1 ps.length k1) v2 B1 B2 bal b v own ps fx val vt) ∧ Bx (((X4.setCell ⟨b3, 0, none⟩ (.int .i64 node)).setCell ⟨b3, 1, none⟩ (.int .i64 b)).setCell ⟨b3, 2, none⟩ (.string v)) W.heap.size [.int .i64 bal, .int .i64 node, .int .i64 n, .pointer (some ⟨ga, oa, none⟩), .pointer (some ⟨gp, op, none⟩)] ∧ Bx (((X4.setCell ⟨b3, 0, none⟩ (.int .i64 node)).setCell ⟨b3, 1, none⟩ (.int .i64 b)).setCell ⟨b3, 2, none⟩ (.string v)) b3 [.int .i64 node, .int .i64 b, .string v]) from ⟨HD.out.1.fresh3 HB3.out.2.2.1 HB3.out.2.2.2 (.int .i64 node) (.int .i64 b) (.string v), ((HD.out.2.other hnb).other hnb).other hnb, ((HB3.out.1.set (k := 0) (by simp) (.int .i64 node)).set (k := 1) (by simp) (.int .i64 b)).set (k := 2) (by simp) (.string v)⟩)))
      clear d0 d1 d2 f0 f1 f2 dz
      refine hK.out _ _ ⟨HF.out.2.1, HF.out.1.1.cell (j := 1) rfl, HF.out.1.1.cell (j := 2) rfl, HF.out.1.1.lt⟩ (fun hHeld => ?_)
      clear hK KC
      refine wpAnyH_done (by kernel_rfl) ?_ _
      refine NoPanic.normal ?_
      go_wp2_with fail
      go_meet
      exact ⟨b3, rfl, HF.out.1, HF.out.2.1, HF.out.2.2, HB3.out.2⟩
    ·
      go_wp2_with fail
      (first | (obtain ⟨X4, hX4⟩ : ∃ x, x = X1.alloc (.cells #[.int .i64 0, .int .i64 0, .string ⟨#[]⟩] 96) := ⟨_, rfl⟩; have hb : Below X1.heap.size X1 X4 := hX4 ▸ Go.Joins.below_alloc1 _ _; obtain ⟨b3, hb3E⟩ : ∃ b, b = X1.heap.size := ⟨_, rfl⟩; have HB3 : Hid (Bx X4 b3 [.int .i64 0, .int .i64 0, .string ⟨#[]⟩] ∧ W.heap.size < b3 ∧ W0.heap.size ≤ b3 ∧ ∀ k, B1 k ∨ B2 k → k ≠ b3) := ⟨hb3E ▸ hX4 ▸ Bx.new X1 [_, _, _] _, by rw [hb3E]; exact HD.out.2.2, by rw [hb3E]; exact HD.out.1.2.2.2.2.2.2.2.2.2.1.size, fun k hk => by rw [hb3E]; exact Nat.ne_of_lt (HD.out.1.2.2.2.2.2.1 k hk).2.2.1⟩; have HD := (show Hid (Loc W0 lo ga oa gp op S0 X4 (.slice a1 ps.length k1) v2 B1 B2 bal b v own ps fx val vt ∧ Bx X4 W.heap.size [.int .i64 bal, .int .i64 node, .int .i64 n, .pointer (some ⟨ga, oa, none⟩), .pointer (some ⟨gp, op, none⟩)]) from ⟨HD.out.1.next hb, HD.out.2.next hb⟩); rw [← hX4, ← hb3E]; clear hb hX4 hb3E) | (obtain ⟨X4, hX4⟩ : ∃ x, x = X0.alloc (.cells #[.int .i64 0, .int .i64 0, .string ⟨#[]⟩] 96) := ⟨_, rfl⟩; have hb : Below X0.heap.size X0 X4 := hX4 ▸ Go.Joins.below_alloc1 _ _; obtain ⟨b3, hb3E⟩ : ∃ b, b = X0.heap.size := ⟨_, rfl⟩; have HB3 : Hid (Bx X4 b3 [.int .i64 0, .int .i64 0, .string ⟨#[]⟩] ∧ W.heap.size < b3 ∧ W0.heap.size ≤ b3 ∧ ∀ k, B1 k ∨ B2 k → k ≠ b3) := ⟨hb3E ▸ hX4 ▸ Bx.new X0 [_, _, _] _, by rw [hb3E]; exact HD.out.2.2, by rw [hb3E]; exact HD.out.1.2.2.2.2.2.2.2.2.2.1.size, fun k hk => by rw [hb3E]; exact Nat.ne_of_lt (HD.out.1.2.2.2.2.2.1 k hk).2.2.1⟩; have HD := (show Hid (Loc W0 lo ga oa gp op S0 X4 (.slice a1 ps.length k1) v2 B1 B2 bal b v own ps fx val vt ∧ Bx X4 W.heap.size [.int .i64 bal, .int .i64 node, .int .i64 n, .pointer (some ⟨ga, oa, none⟩), .pointer (some ⟨gp, op, none⟩)]) from ⟨HD.out.1.next hb, HD.out.2.next hb⟩); rw [← hX4, ← hb3E]; clear hb hX4 hb3E))
      refine hK.out _ _ ⟨HD.out.2, HD.out.1.1.cell (j := 1) rfl, HD.out.1.1.cell (j := 2) rfl, HD.out.1.1.lt⟩ (fun hHeld => ?_)
      clear hK KC
      refine ready_call 12 ⟨some 23, Op.call { callee := Callee.value (Operand.func 53), args := #[Operand.tmp 22], argTypes := #[9] }, _, _, _, none⟩ (by kernel_rfl) rfl (by kernel_rfl) (fun KC hK => ?_)
      go_wp2_with fail
      refine (clone_any _ _ HVS.out.1).mono ?_
      rintro r X1 ⟨rfl, hb⟩
      have HD := (show Hid (Loc W0 lo ga oa gp op S0 X1 (.slice a1 ps.length k1) v2 B1 B2 bal b v own ps fx val vt ∧ Bx X1 W.heap.size [.int .i64 bal, .int .i64 node, .int .i64 n, .pointer (some ⟨ga, oa, none⟩), .pointer (some ⟨gp, op, none⟩)]) from ⟨HD.out.1.next hb, HD.out.2.next hb⟩)
      (first | (have HB3 := (show Hid (Bx X1 b3 [.int .i64 0, .int .i64 0, .string ⟨#[]⟩] ∧ W.heap.size < b3 ∧ W0.heap.size ≤ b3 ∧ ∀ k, B1 k ∨ B2 k → k ≠ b3) from ⟨HB3.out.1.next hb, HB3.out.2⟩)) | skip)
      clear hb
      refine hK.out _ _ ⟨HD.out.2, HD.out.1.1.cell (j := 1) rfl, HD.out.1.1.cell (j := 2) rfl, HD.out.1.1.lt⟩ (fun hHeld => ?_)
      clear hK KC
      refine take_v (v := ?_) 13 ⟨some 24, Op.build 96 #[(0, Operand.tmp 12), (1, Operand.tmp 17), (2, Operand.tmp 23)], _, _, _, none⟩ rfl (fun _ _ _ h => h) ?_ hHeld ?_
      rotate_left
      · (intro W _; go_simp <;> (try with_reducible rfl))
      refine ready_call 15 ⟨none, Op.store 96 (Operand.tmp 2) (Operand.tmp 24), _, _, _, none⟩ (by kernel_rfl) rfl (by kernel_rfl) (fun KC hK => ?_)
      have d0 := HB3.out.1.cell 0 rfl
      have d1 := HB3.out.1.cell 1 rfl
      have d2 := HB3.out.1.cell 2 rfl
      have f0 := HB3.out.1.frz 0 (by simp)
      have f1 := HB3.out.1.frz 1 (by simp)
      have f2 := HB3.out.1.frz 2 (by simp)
      have dz := HB3.out.1.2
      have hbb := HB3.out.2.1
      go_wp2_with fail
      have hnb : W.heap.size ≠ b3 := by omega
      (first | (have HF := (show Hid ((Loc W0 lo ga oa gp op S0 (((X1.setCell ⟨b3, 0, none⟩ (.int .i64 node)).setCell ⟨b3, 1, none⟩ (.int .i64 b)).setCell ⟨b3, 2, none⟩ (.string v)) (.slice a1 ps.length k1) v2 B1 B2 bal b v own ps fx val vt) ∧ Bx (((X1.setCell ⟨b3, 0, none⟩ (.int .i64 node)).setCell ⟨b3, 1, none⟩ (.int .i64 b)).setCell ⟨b3, 2, none⟩ (.string v)) W.heap.size [.int .i64 bal, .int .i64 node, .int .i64 n, .pointer (some ⟨ga, oa, none⟩), .pointer (some ⟨gp, op, none⟩)] ∧ Bx (((X1.setCell ⟨b3, 0, none⟩ (.int .i64 node)).setCell ⟨b3, 1, none⟩ (.int .i64 b)).setCell ⟨b3, 2, none⟩ (.string v)) b3 [.int .i64 node, .int .i64 b, .string v]) from ⟨HD.out.1.fresh3 HB3.out.2.2.1 HB3.out.2.2.2 (.int .i64 node) (.int .i64 b) (.string v), ((HD.out.2.other hnb).other hnb).other hnb, ((HB3.out.1.set (k := 0) (by simp) (.int .i64 node)).set (k := 1) (by simp) (.int .i64 b)).set (k := 2) (by simp) (.string v)⟩)) | (have HF := (show Hid ((Loc W0 lo ga oa gp op S0 (((X4.setCell ⟨b3, 0, none⟩ (.int .i64 node)).setCell ⟨b3, 1, none⟩ (.int .i64 b)).setCell ⟨b3, 2, none⟩ (.string v)) (.slice a1 ps.length k1) v2 B1 B2 bal b v own ps fx val vt) ∧ Bx (((X4.setCell ⟨b3, 0, none⟩ (.int .i64 node)).setCell ⟨b3, 1, none⟩ (.int .i64 b)).setCell ⟨b3, 2, none⟩ (.string v)) W.heap.size [.int .i64 bal, .int .i64 node, .int .i64 n, .pointer (some ⟨ga, oa, none⟩), .pointer (some ⟨gp, op, none⟩)] ∧ Bx (((X4.setCell ⟨b3, 0, none⟩ (.int .i64 node)).setCell ⟨b3, 1, none⟩ (.int .i64 b)).setCell ⟨b3, 2, none⟩ (.string v)) b3 [.int .i64 node, .int .i64 b, .string v]) from ⟨HD.out.1.fresh3 HB3.out.2.2.1 HB3.out.2.2.2 (.int .i64 node) (.int .i64 b) (.string v), ((HD.out.2.other hnb).other hnb).other hnb, ((HB3.out.1.set (k := 0) (by simp) (.int .i64 node)).set (k := 1) (by simp) (.int .i64 b)).set (k := 2) (by simp) (.string v)⟩)))
      clear d0 d1 d2 f0 f1 f2 dz
      refine hK.out _ _ ⟨HF.out.2.1, HF.out.1.1.cell (j := 1) rfl, HF.out.1.1.cell (j := 2) rfl, HF.out.1.1.lt⟩ (fun hHeld => ?_)
      clear hK KC
      refine wpAnyH_done (by kernel_rfl) ?_ _
      refine NoPanic.normal ?_
      go_wp2_with fail
      go_meet
      exact ⟨b3, rfl, HF.out.1, HF.out.2.1, HF.out.2.2, HB3.out.2⟩
  case rest =>
    obtain ⟨b3, rfl, hP, hT, hB3, hb3⟩ := hcut
    obtain ⟨wd, hwd⟩ : ∃ x, x = wc := ⟨_, rfl⟩
    subst hwd
    have HD : Hid (Loc W0 lo ga oa gp op S0 wd.drew (.slice a1 ps.length k1) v2 B1 B2 bal b v own ps fx val vt ∧ Bx wd.drew W.heap.size [.int .i64 bal, .int .i64 node, .int .i64 n, .pointer (some ⟨ga, oa, none⟩), .pointer (some ⟨gp, op, none⟩)] ∧ Bx wd.drew b3 [.int .i64 node, .int .i64 b, .string v]) := ⟨hP.next (below_drew _), hT.next (below_drew _), hB3.next (below_drew _)⟩
    have HB3 : Hid (W.heap.size < b3 ∧ W0.heap.size ≤ b3 ∧ ∀ k, B1 k ∨ B2 k → k ≠ b3) := hb3
    have HGB : Hid (b3 ≠ gp) := Hid.intro (by omega)
    clear hP hT hB3 hb3
    go_upto_region 3 with fail
    refine wp_region_noPanic ?_
    refine wp_region_held_drew (S := fun X => Bx X W.heap.size [.int .i64 bal, .int .i64 node, .int .i64 n, .pointer (some ⟨ga, oa, none⟩), .pointer (some ⟨gp, op, none⟩)] ∧ X.cell? ⟨gp, op + 1, none⟩ = some (.slice a1 ps.length k1) ∧ gp < X.heap.size) (by kernel_rfl) ⟨HD.out.2.1, HD.out.1.2.1.cell (j := 1) rfl, HD.out.1.2.1.lt⟩ (fun hHeld => ?_)
    refine take_v (v := ?_) 0 ⟨some 26, Op.fieldAddr 111 (Operand.tmp 1) 4, _, _, _, none⟩ rfl (fun _ _ _ h => h) ?_ hHeld ?_
    rotate_left
    · (intro W _; go_simp <;> (try with_reducible rfl))
    refine take_v (v := ?_) 1 ⟨some 27, Op.load 109 (Operand.tmp 26), _, _, _, none⟩ rfl (fun _ _ _ h => h) ?_ hHeld ?_
    rotate_left
    · (intro W hSW; (have s0 := hSW.1.cell 0 rfl; have s1 := hSW.1.cell 1 rfl; have s2 := hSW.1.cell 2 rfl; have s3 := hSW.1.cell 3 rfl; have s4 := hSW.1.cell 4 rfl; have sz := hSW.1.2; have t1 := hSW.2.1; have tz := hSW.2.2); go_simp <;> (try with_reducible rfl))
    refine take_v (v := ?_) 2 ⟨some 28, Op.nilCheck (Operand.tmp 27), _, _, _, none⟩ rfl (fun _ _ _ h => h) ?_ hHeld ?_
    rotate_left
    · (intro W _; go_simp <;> (try with_reducible rfl))
    refine take_v (v := ?_) 3 ⟨some 29, Op.fieldAddr 43 (Operand.tmp 28) 1, _, _, _, none⟩ rfl (fun _ _ _ h => h) ?_ hHeld ?_
    rotate_left
    · (intro W _; go_simp <;> (try with_reducible rfl))
    refine take_v (v := ?_) 4 ⟨some 30, Op.load 40 (Operand.tmp 29), _, _, _, none⟩ rfl (fun _ _ _ h => h) ?_ hHeld ?_
    rotate_left
    · (intro W hSW; (have s0 := hSW.1.cell 0 rfl; have s1 := hSW.1.cell 1 rfl; have s2 := hSW.1.cell 2 rfl; have s3 := hSW.1.cell 3 rfl; have s4 := hSW.1.cell 4 rfl; have sz := hSW.1.2; have t1 := hSW.2.1; have tz := hSW.2.2); go_simp <;> (try with_reducible rfl))
    refine take_v (v := ?_) 5 ⟨some 31, Op.fieldAddr 111 (Operand.tmp 1) 1, _, _, _, none⟩ rfl (fun _ _ _ h => h) ?_ hHeld ?_
    rotate_left
    · (intro W _; go_simp <;> (try with_reducible rfl))
    refine take_v (v := ?_) 6 ⟨some 32, Op.load 3 (Operand.tmp 31), _, _, _, none⟩ rfl (fun _ _ _ h => h) ?_ hHeld ?_
    rotate_left
    · (intro W hSW; (have s0 := hSW.1.cell 0 rfl; have s1 := hSW.1.cell 1 rfl; have s2 := hSW.1.cell 2 rfl; have s3 := hSW.1.cell 3 rfl; have s4 := hSW.1.cell 4 rfl; have sz := hSW.1.2; have t1 := hSW.2.1; have tz := hSW.2.2); go_simp <;> (try with_reducible rfl))
    refine ready_call 7 ⟨some 33, Op.call { callee := Callee.value (Operand.func 121), args := #[Operand.tmp 30, Operand.tmp 32, Operand.func 122], argTypes := #[40, 3, 164] }, _, _, _, none⟩ (by kernel_rfl) rfl (by kernel_rfl) (fun KC hK => ?_)
    go_wp2_with fail
    refine (searchPromise_n a1 k1 ps node _ hpl HVS.out.2 HD.out.1.2.2.1.lies).mono ?_
    rintro r X3 ⟨rfl, hb⟩
    have HE : Hid (Loc W0 lo ga oa gp op S0 X3 (.slice a1 ps.length k1) v2 B1 B2 bal b v own ps fx val vt ∧ Bx X3 W.heap.size [.int .i64 bal, .int .i64 node, .int .i64 n, .pointer (some ⟨ga, oa, none⟩), .pointer (some ⟨gp, op, none⟩)] ∧ Bx X3 b3 [.int .i64 node, .int .i64 b, .string v]) := ⟨HD.out.1.next hb, HD.out.2.1.next hb, HD.out.2.2.next hb⟩
    clear hb
    refine hK.out _ _ ⟨HE.out.2.1, HE.out.1.2.1.cell (j := 1) rfl, HE.out.1.2.1.lt⟩ (fun hHeld => ?_)
    clear hK KC
    refine take_v (v := ?_) 8 ⟨some 25, Op.move (Operand.tmp 33), _, _, _, none⟩ rfl (fun _ _ _ h => h) ?_ hHeld ?_
    rotate_left
    · (intro W _; go_simp <;> (try with_reducible rfl))
    refine take_v (v := ?_) 9 ⟨some 34, Op.extract (Operand.tmp 25) 0, _, _, _, none⟩ rfl (fun _ _ _ h => h) ?_ hHeld ?_
    rotate_left
    · (intro W _; go_simp <;> (try with_reducible rfl))
    refine take_v (v := ?_) 10 ⟨some 35, Op.extract (Operand.tmp 25) 1, _, _, _, none⟩ rfl (fun _ _ _ h => h) ?_ hHeld ?_
    rotate_left
    · (intro W _; go_simp <;> (try with_reducible rfl))
    refine take_v (v := ?_) 11 ⟨some 3, Op.assign (Operand.tmp 34), _, _, _, none⟩ rfl (fun _ _ _ h => h) ?_ hHeld ?_
    rotate_left
    · (intro W _; go_simp <;> (try with_reducible rfl))
    refine take_v (v := ?_) 12 ⟨some 4, Op.assign (Operand.tmp 35), _, _, _, none⟩ rfl (fun _ _ _ h => h) ?_ hHeld ?_
    rotate_left
    · (intro W _; go_simp <;> (try with_reducible rfl))
    refine wpAnyH_done (by kernel_rfl) ?_ _
    refine NoPanic.normal ?_
    clear hHeld HD
    have hcl := lsP_le ps node
    have HLT : Hid (hsP ps node = true → lsP ps node < ps.length) := Hid.intro lsP_lt
    have HPU : Hid (putP ps (mkPm node b v) = if hsP ps node then ps.set (lsP ps node) (mkPm node b v) else ps.take (lsP ps node) ++ mkPm node b v :: ps.drop (lsP ps node)) := Hid.intro rfl
    generalize lsP ps node = cI at *
    generalize hsP ps node = hs at *
    have HG : Hid (Loc W0 lo ga oa gp op S0 X3.drew (.slice a1 ps.length k1) v2 B1 B2 bal b v own ps fx val vt ∧ Bx X3.drew W.heap.size [.int .i64 bal, .int .i64 node, .int .i64 n, .pointer (some ⟨ga, oa, none⟩), .pointer (some ⟨gp, op, none⟩)] ∧ Bx X3.drew b3 [.int .i64 node, .int .i64 b, .string v]) := ⟨HE.out.1.next (below_drew _), HE.out.2.1.next (below_drew _), HE.out.2.2.next (below_drew _)⟩
    clear HE
    cases hs
    · go_upto_region 6 with fail
      refine wp_region_noPanic ?_
      refine wp_region_held_drew (S := fun X => Bx X W.heap.size [.int .i64 bal, .int .i64 node, .int .i64 n, .pointer (some ⟨ga, oa, none⟩), .pointer (some ⟨gp, op, none⟩)] ∧ Bx X b3 [.int .i64 node, .int .i64 b, .string v]) (by kernel_rfl) HG.out.2 (fun hHeld => ?_)
      obtain ⟨X4, hX4⟩ : ∃ x, x = X3.drew := ⟨_, rfl⟩
      rw [← hX4] at HG hHeld ⊢
      clear hX4
      refine take_v (v := ?_) 0 ⟨some 45, Op.fieldAddr 111 (Operand.tmp 1) 4, _, _, _, none⟩ rfl (fun _ _ _ h => h) ?_ hHeld ?_
      rotate_left
      · (intro W _; go_simp <;> (try with_reducible rfl))
      refine take_v (v := ?_) 1 ⟨some 46, Op.load 109 (Operand.tmp 45), _, _, _, none⟩ rfl (fun _ _ _ h => h) ?_ hHeld ?_
      rotate_left
      · (intro W hSW; (have s0 := hSW.1.cell 0 rfl; have s1 := hSW.1.cell 1 rfl; have s2 := hSW.1.cell 2 rfl; have s3 := hSW.1.cell 3 rfl; have s4 := hSW.1.cell 4 rfl; have sz := hSW.1.2; have r0 := hSW.2.cell 0 rfl; have r1 := hSW.2.cell 1 rfl; have r2 := hSW.2.cell 2 rfl; have rz := hSW.2.2); go_simp <;> (try with_reducible rfl))
      refine take_v (v := ?_) 2 ⟨some 47, Op.fieldAddr 111 (Operand.tmp 1) 4, _, _, _, none⟩ rfl (fun _ _ _ h => h) ?_ hHeld ?_
      rotate_left
      · (intro W _; go_simp <;> (try with_reducible rfl))
      refine take_v (v := ?_) 3 ⟨some 48, Op.load 109 (Operand.tmp 47), _, _, _, none⟩ rfl (fun _ _ _ h => h) ?_ hHeld ?_
      rotate_left
      · (intro W hSW; (have s0 := hSW.1.cell 0 rfl; have s1 := hSW.1.cell 1 rfl; have s2 := hSW.1.cell 2 rfl; have s3 := hSW.1.cell 3 rfl; have s4 := hSW.1.cell 4 rfl; have sz := hSW.1.2; have r0 := hSW.2.cell 0 rfl; have r1 := hSW.2.cell 1 rfl; have r2 := hSW.2.cell 2 rfl; have rz := hSW.2.2); go_simp <;> (try with_reducible rfl))
      refine take_v (v := ?_) 4 ⟨some 49, Op.nilCheck (Operand.tmp 48), _, _, _, none⟩ rfl (fun _ _ _ h => h) ?_ hHeld ?_
      rotate_left
      · (intro W _; go_simp <;> (try with_reducible rfl))
      refine take_v (v := ?_) 5 ⟨some 50, Op.fieldAddr 43 (Operand.tmp 49) 1, _, _, _, none⟩ rfl (fun _ _ _ h => h) ?_ hHeld ?_
      rotate_left
      · (intro W _; go_simp <;> (try with_reducible rfl))
      refine take_v (v := ?_) 7 ⟨some 52, Op.move (Operand.tmp 3), _, _, _, none⟩ rfl (fun _ _ _ h => h) ?_ hHeld ?_
      rotate_left
      · (intro W _; go_simp <;> (try with_reducible rfl))
      refine take_v (v := ?_) 8 ⟨some 53, Op.load 96 (Operand.tmp 2), _, _, _, none⟩ rfl (fun _ _ _ h => h) ?_ hHeld ?_
      rotate_left
      · (intro W hSW; (have s0 := hSW.1.cell 0 rfl; have s1 := hSW.1.cell 1 rfl; have s2 := hSW.1.cell 2 rfl; have s3 := hSW.1.cell 3 rfl; have s4 := hSW.1.cell 4 rfl; have sz := hSW.1.2; have r0 := hSW.2.cell 0 rfl; have r1 := hSW.2.cell 1 rfl; have r2 := hSW.2.cell 2 rfl; have rz := hSW.2.2); go_simp <;> (try with_reducible rfl))
      refine ready_two 6 9 ⟨some 51, Op.load 40 (Operand.tmp 50), _, _, _, none⟩ ⟨some 54, Op.buildSlice 40 1 #[(0, Operand.tmp 53)], _, _, _, none⟩ (by kernel_rfl) rfl rfl (by kernel_rfl) (by kernel_rfl) (fun KC hK => ?_) (fun KC hK => ?_)
      ·
        have q4 : X4.cell? ⟨gp, op + 1, none⟩ = some (.slice a1 ps.length k1) := HG.out.1.2.1.cell (j := 1) rfl
        have qz := HG.out.1.2.1.lt
        go_wp2_with fail
        clear q4 qz
        refine hK.out _ _ hHeld (fun hHeld => ?_)
        clear hK KC
        refine ready_call 9 ⟨some 54, Op.buildSlice 40 1 #[(0, Operand.tmp 53)], _, _, _, none⟩ (by kernel_rfl) rfl (by kernel_rfl) (fun KC hK => ?_)
        go_wp2_with fail
        have hb := Go.Joins.below_alloc1 X4 (.cells #[.int .i64 node, .int .i64 b, .string v] 96)
        have H7 := (show Hid (Loc W0 lo ga oa gp op S0 (X4.alloc (.cells #[.int .i64 node, .int .i64 b, .string v] 96)) (.slice a1 ps.length k1) v2 B1 B2 bal b v own ps fx val vt ∧ Bx (X4.alloc (.cells #[.int .i64 node, .int .i64 b, .string v] 96)) W.heap.size [.int .i64 bal, .int .i64 node, .int .i64 n, .pointer (some ⟨ga, oa, none⟩), .pointer (some ⟨gp, op, none⟩)] ∧ Bx (X4.alloc (.cells #[.int .i64 node, .int .i64 b, .string v] 96)) b3 [.int .i64 node, .int .i64 b, .string v]) from ⟨HG.out.1.next hb, HG.out.2.1.next hb, HG.out.2.2.next hb⟩)
        clear hb
        refine hK.out _ _ H7.out.2 (fun hHeld => ?_)
        clear hK KC
        refine ready_call 10 ⟨some 55, Op.call { callee := Callee.value (Operand.func 123), args := #[Operand.tmp 51, Operand.tmp 52, Operand.tmp 54], argTypes := #[40, 3, 40] }, _, _, _, none⟩ (by kernel_rfl) rfl (by kernel_rfl) (fun KC hK => ?_)
        go_wp2_with fail
        refine (insert_P lo ps.length cI X4.heap.size (.slice a1 ps.length k1) (prC ps) [.int .i64 node, .int .i64 b, .string v] 96 _ hcl (by omega) (H7.out.1.2.2.1.flat rfl).1 (flat_one (s := tyPromise) ps) (heap_alloc_new X4 _) rfl (by intro u hu; simp at hu; rcases hu with rfl | rfl | rfl <;> rfl) (by have h1 := H7.out.1.2.2.2.2.2.2.2.2.2.2; have h2 := H7.out.1.2.2.2.2.2.2.2.2.2.1.size; exact Nat.le_trans h1 h2) (fun e => by have := ((HG.out.1.2.2.1.flat rfl).1.lt _ e).2; omega)).mono ?_
        rintro r X6 ⟨v5, rfl, ho, hgr, hwh⟩
        have HF := Hid.intro (Loc.list1 (l' := ps.take cI ++ mkPm node b v :: ps.drop cI) H7.out.1 (by rw [insP_len _ _ _ hcl, ← insP_cells _ _ _ _ _ hcl]; exact ho) hgr hwh)
        obtain ⟨a5, L5, k5, hv5⟩ : ∃ a5 L5 k5, v5 = .slice a5 L5 k5 := (by obtain ⟨a, k, e⟩ := HF.out.1.2.2.1.vform; exact ⟨a, _, k, e⟩)
        have HBX := (show Hid (Bx X6 W.heap.size [.int .i64 bal, .int .i64 node, .int .i64 n, .pointer (some ⟨ga, oa, none⟩), .pointer (some ⟨gp, op, none⟩)] ∧ Bx X6 b3 [.int .i64 node, .int .i64 b, .string v]) from ⟨H7.out.2.1.grow hgr (fun e => HBW.out _ (Or.inl ((HG.out.1.2.2.1.flat rfl).2 _ e.symm)) rfl), H7.out.2.2.grow hgr (fun e => HB3.out.2.2 _ (Or.inl ((HG.out.1.2.2.1.flat rfl).2 _ e.symm)) rfl)⟩)
        subst hv5
        clear ho hgr hwh
        refine hK.out _ _ HBX.out (fun hHeld => ?_)
        clear hK KC
        refine take_v (v := ?_) 11 ⟨some 56, Op.nilCheck (Operand.tmp 46), _, _, _, none⟩ rfl (fun _ _ _ h => h) ?_ hHeld ?_
        rotate_left
        · (intro W _; go_simp <;> (try with_reducible rfl))
        refine take_v (v := ?_) 12 ⟨some 57, Op.fieldAddr 43 (Operand.tmp 56) 1, _, _, _, none⟩ rfl (fun _ _ _ h => h) ?_ hHeld ?_
        rotate_left
        · (intro W _; go_simp <;> (try with_reducible rfl))
        refine ready_call 13 ⟨none, Op.store 40 (Operand.tmp 57) (Operand.tmp 55), _, _, _, none⟩ (by kernel_rfl) rfl (by kernel_rfl) (fun KC hK => ?_)
        have q4 : X6.cell? ⟨gp, op + 1, none⟩ = some (.slice a1 ps.length k1) := HF.out.2.cell (j := 1) rfl
        have g4 := HF.out.2.frz (op + 1)
        have qz := HF.out.2.lt
        go_wp2_with fail
        have hgb : b3 ≠ gp := HGB.out
        clear q4 g4 qz
        refine hK.out _ _ ⟨HBX.out.1.other (Ne.symm hgw), HBX.out.2.other hgb⟩ (fun hHeld => ?_)
        clear hK KC
        refine wpAnyH_done (by kernel_rfl) ?_ _
        refine NoPanic.normal ?_
        clear hHeld
        go_wp2
        go_end0
        rw [HPU.out]
        exact ⟨rfl, _, _, HF.out.1⟩
      ·
        go_wp2_with fail
        have hb := Go.Joins.below_alloc1 X4 (.cells #[.int .i64 node, .int .i64 b, .string v] 96)
        have H7 := (show Hid (Loc W0 lo ga oa gp op S0 (X4.alloc (.cells #[.int .i64 node, .int .i64 b, .string v] 96)) (.slice a1 ps.length k1) v2 B1 B2 bal b v own ps fx val vt ∧ Bx (X4.alloc (.cells #[.int .i64 node, .int .i64 b, .string v] 96)) W.heap.size [.int .i64 bal, .int .i64 node, .int .i64 n, .pointer (some ⟨ga, oa, none⟩), .pointer (some ⟨gp, op, none⟩)] ∧ Bx (X4.alloc (.cells #[.int .i64 node, .int .i64 b, .string v] 96)) b3 [.int .i64 node, .int .i64 b, .string v]) from ⟨HG.out.1.next hb, HG.out.2.1.next hb, HG.out.2.2.next hb⟩)
        clear hb
        refine hK.out _ _ H7.out.2 (fun hHeld => ?_)
        clear hK KC
        refine ready_call 6 ⟨some 51, Op.load 40 (Operand.tmp 50), _, _, _, none⟩ (by kernel_rfl) rfl (by kernel_rfl) (fun KC hK => ?_)
        have q4 : X4.cell? ⟨gp, op + 1, none⟩ = some (.slice a1 ps.length k1) := HG.out.1.2.1.cell (j := 1) rfl
        have qz := HG.out.1.2.1.lt
        go_wp2_with fail
        clear q4 qz
        refine hK.out _ _ hHeld (fun hHeld => ?_)
        clear hK KC
        refine ready_call 10 ⟨some 55, Op.call { callee := Callee.value (Operand.func 123), args := #[Operand.tmp 51, Operand.tmp 52, Operand.tmp 54], argTypes := #[40, 3, 40] }, _, _, _, none⟩ (by kernel_rfl) rfl (by kernel_rfl) (fun KC hK => ?_)
        go_wp2_with fail
        refine (insert_P lo ps.length cI X4.heap.size (.slice a1 ps.length k1) (prC ps) [.int .i64 node, .int .i64 b, .string v] 96 _ hcl (by omega) (H7.out.1.2.2.1.flat rfl).1 (flat_one (s := tyPromise) ps) (heap_alloc_new X4 _) rfl (by intro u hu; simp at hu; rcases hu with rfl | rfl | rfl <;> rfl) (by have h1 := H7.out.1.2.2.2.2.2.2.2.2.2.2; have h2 := H7.out.1.2.2.2.2.2.2.2.2.2.1.size; exact Nat.le_trans h1 h2) (fun e => by have := ((HG.out.1.2.2.1.flat rfl).1.lt _ e).2; omega)).mono ?_
        rintro r X6 ⟨v5, rfl, ho, hgr, hwh⟩
        have HF := Hid.intro (Loc.list1 (l' := ps.take cI ++ mkPm node b v :: ps.drop cI) H7.out.1 (by rw [insP_len _ _ _ hcl, ← insP_cells _ _ _ _ _ hcl]; exact ho) hgr hwh)
        obtain ⟨a5, L5, k5, hv5⟩ : ∃ a5 L5 k5, v5 = .slice a5 L5 k5 := (by obtain ⟨a, k, e⟩ := HF.out.1.2.2.1.vform; exact ⟨a, _, k, e⟩)
        have HBX := (show Hid (Bx X6 W.heap.size [.int .i64 bal, .int .i64 node, .int .i64 n, .pointer (some ⟨ga, oa, none⟩), .pointer (some ⟨gp, op, none⟩)] ∧ Bx X6 b3 [.int .i64 node, .int .i64 b, .string v]) from ⟨H7.out.2.1.grow hgr (fun e => HBW.out _ (Or.inl ((HG.out.1.2.2.1.flat rfl).2 _ e.symm)) rfl), H7.out.2.2.grow hgr (fun e => HB3.out.2.2 _ (Or.inl ((HG.out.1.2.2.1.flat rfl).2 _ e.symm)) rfl)⟩)
        subst hv5
        clear ho hgr hwh
        refine hK.out _ _ HBX.out (fun hHeld => ?_)
        clear hK KC
        refine take_v (v := ?_) 11 ⟨some 56, Op.nilCheck (Operand.tmp 46), _, _, _, none⟩ rfl (fun _ _ _ h => h) ?_ hHeld ?_
        rotate_left
        · (intro W _; go_simp <;> (try with_reducible rfl))
        refine take_v (v := ?_) 12 ⟨some 57, Op.fieldAddr 43 (Operand.tmp 56) 1, _, _, _, none⟩ rfl (fun _ _ _ h => h) ?_ hHeld ?_
        rotate_left
        · (intro W _; go_simp <;> (try with_reducible rfl))
        refine ready_call 13 ⟨none, Op.store 40 (Operand.tmp 57) (Operand.tmp 55), _, _, _, none⟩ (by kernel_rfl) rfl (by kernel_rfl) (fun KC hK => ?_)
        have q4 : X6.cell? ⟨gp, op + 1, none⟩ = some (.slice a1 ps.length k1) := HF.out.2.cell (j := 1) rfl
        have g4 := HF.out.2.frz (op + 1)
        have qz := HF.out.2.lt
        go_wp2_with fail
        have hgb : b3 ≠ gp := HGB.out
        clear q4 g4 qz
        refine hK.out _ _ ⟨HBX.out.1.other (Ne.symm hgw), HBX.out.2.other hgb⟩ (fun hHeld => ?_)
        clear hK KC
        refine wpAnyH_done (by kernel_rfl) ?_ _
        refine NoPanic.normal ?_
        clear hHeld
        go_wp2
        go_end0
        rw [HPU.out]
        exact ⟨rfl, _, _, HF.out.1⟩
    · obtain ⟨g, cap, u0, u1, u2, e1, hg, q0, q1, q2, hfz, hBg, hcap, hset⟩ := HG.out.1.set1 (HLT.out rfl)
      cases e1
      have hlt := HLT.out rfl
      have HQ : Hid (X3.drew.cell? ⟨g, cI * 3, none⟩ = some u0 ∧ X3.drew.cell? ⟨g, cI * 3 + 1, none⟩ = some u1 ∧ X3.drew.cell? ⟨g, cI * 3 + 2, none⟩ = some u2 ∧ (∀ j, X3.drew.frozen? ⟨g, j, none⟩ = false)) := ⟨q0, q1, q2, hfz⟩
      have HS := Hid.intro (hset node b v)
      have h1 : g ≠ W.heap.size := HBW.out _ (Or.inl hBg)
      have h2 : g ≠ b3 := HB3.out.2.2 _ (Or.inl hBg)
      have h3 : g ≠ gp := (HG.out.1.2.2.2.2.2.1 g (Or.inl hBg)).2.1
      clear q0 q1 q2 hfz hBg hset HLT
      go_upto_region 5 with fail
      refine wp_region_noPanic ?_
      refine wp_region_held_drew (S := fun X => Bx X W.heap.size [.int .i64 bal, .int .i64 node, .int .i64 n, .pointer (some ⟨ga, oa, none⟩), .pointer (some ⟨gp, op, none⟩)] ∧ Bx X b3 [.int .i64 node, .int .i64 b, .string v] ∧ X.cell? ⟨gp, op + 1, none⟩ = some (.slice (some ⟨g, 0, none⟩) ps.length k1) ∧ gp < X.heap.size) (by kernel_rfl) ⟨HG.out.2.1, HG.out.2.2, HG.out.1.2.1.cell (j := 1) rfl, HG.out.1.2.1.lt⟩ (fun hHeld => ?_)
      obtain ⟨X4, hX4⟩ : ∃ x, x = X3.drew := ⟨_, rfl⟩
      rw [← hX4] at HG HQ HS hg hHeld ⊢
      clear hX4
      refine take_v (v := ?_) 0 ⟨some 37, Op.fieldAddr 111 (Operand.tmp 1) 4, _, _, _, none⟩ rfl (fun _ _ _ h => h) ?_ hHeld ?_
      rotate_left
      · (intro W _; go_simp <;> (try with_reducible rfl))
      refine take_v (v := ?_) 1 ⟨some 38, Op.load 109 (Operand.tmp 37), _, _, _, none⟩ rfl (fun _ _ _ h => h) ?_ hHeld ?_
      rotate_left
      · (intro W hSW; (have s0 := hSW.1.cell 0 rfl; have s1 := hSW.1.cell 1 rfl; have s2 := hSW.1.cell 2 rfl; have s3 := hSW.1.cell 3 rfl; have s4 := hSW.1.cell 4 rfl; have sz := hSW.1.2; have r0 := hSW.2.1.cell 0 rfl; have r1 := hSW.2.1.cell 1 rfl; have r2 := hSW.2.1.cell 2 rfl; have rz := hSW.2.1.2; have t1 := hSW.2.2.1; have tz := hSW.2.2.2); go_simp <;> (try with_reducible rfl))
      refine take_v (v := ?_) 2 ⟨some 39, Op.nilCheck (Operand.tmp 38), _, _, _, none⟩ rfl (fun _ _ _ h => h) ?_ hHeld ?_
      rotate_left
      · (intro W _; go_simp <;> (try with_reducible rfl))
      refine take_v (v := ?_) 3 ⟨some 40, Op.fieldAddr 43 (Operand.tmp 39) 1, _, _, _, none⟩ rfl (fun _ _ _ h => h) ?_ hHeld ?_
      rotate_left
      · (intro W _; go_simp <;> (try with_reducible rfl))
      refine take_v (v := ?_) 4 ⟨some 41, Op.load 40 (Operand.tmp 40), _, _, _, none⟩ rfl (fun _ _ _ h => h) ?_ hHeld ?_
      rotate_left
      · (intro W hSW; (have s0 := hSW.1.cell 0 rfl; have s1 := hSW.1.cell 1 rfl; have s2 := hSW.1.cell 2 rfl; have s3 := hSW.1.cell 3 rfl; have s4 := hSW.1.cell 4 rfl; have sz := hSW.1.2; have r0 := hSW.2.1.cell 0 rfl; have r1 := hSW.2.1.cell 1 rfl; have r2 := hSW.2.1.cell 2 rfl; have rz := hSW.2.1.2; have t1 := hSW.2.2.1; have tz := hSW.2.2.2); go_simp <;> (try with_reducible rfl))
      refine take_v (v := ?_) 5 ⟨some 42, Op.move (Operand.tmp 3), _, _, _, none⟩ rfl (fun _ _ _ h => h) ?_ hHeld ?_
      rotate_left
      · (intro W _; go_simp <;> (try with_reducible rfl))
      refine take_v (v := ?_) 6 ⟨some 43, Op.load 96 (Operand.tmp 2), _, _, _, none⟩ rfl (fun _ _ _ h => h) ?_ hHeld ?_
      rotate_left
      · (intro W hSW; (have s0 := hSW.1.cell 0 rfl; have s1 := hSW.1.cell 1 rfl; have s2 := hSW.1.cell 2 rfl; have s3 := hSW.1.cell 3 rfl; have s4 := hSW.1.cell 4 rfl; have sz := hSW.1.2; have r0 := hSW.2.1.cell 0 rfl; have r1 := hSW.2.1.cell 1 rfl; have r2 := hSW.2.1.cell 2 rfl; have rz := hSW.2.1.2; have t1 := hSW.2.2.1; have tz := hSW.2.2.2); go_simp <;> (try with_reducible rfl))
      refine take_v (v := ?_) 7 ⟨some 44, Op.indexAddr 40 (Operand.tmp 41) (Operand.tmp 42), _, _, _, none⟩ rfl (fun _ _ _ h => h) ?_ hHeld ?_
      rotate_left
      · (intro W _; go_simp <;> (try with_reducible rfl))
      refine ready_call 8 ⟨none, Op.store 96 (Operand.tmp 44) (Operand.tmp 43), _, _, _, none⟩ (by kernel_rfl) rfl (by kernel_rfl) (fun KC hK => ?_)
      have q0 := HQ.out.1
      have q1 := HQ.out.2.1
      have q2 := HQ.out.2.2.1
      have f0 := HQ.out.2.2.2 (cI * 3)
      have f1 := HQ.out.2.2.2 (cI * 3 + 1)
      have f2 := HQ.out.2.2.2 (cI * 3 + 2)
      go_wp2_with fail
      clear q0 q1 q2 f0 f1 f2
      refine hK.out _ _ ⟨((HG.out.2.1.other (Ne.symm h1)).other (Ne.symm h1)).other (Ne.symm h1), ((HG.out.2.2.other (Ne.symm h2)).other (Ne.symm h2)).other (Ne.symm h2), HS.out.2.1.cell (j := 1) rfl, HS.out.2.1.lt⟩ (fun hHeld => ?_)
      clear hK KC
      refine wpAnyH_done (by kernel_rfl) ?_ _
      refine NoPanic.normal ?_
      clear hHeld
      go_wp2
      refine bodyPost_ret (results_none rfl _ _ _) rfl ?_
      rw [HPU.out]
      exact ⟨rfl, _, _, HS.out⟩
end Go.Proofs.Ytmhkfangfhanlaa
