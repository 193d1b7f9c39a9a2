/- Synods: what a turn does: fix, vote. -/
import Derived.Test.YtmhkfangfhanlaaSyU
namespace Go.Proofs.Ytmhkfangfhanlaa
open Go.RowKit
set_option linter.unusedVariables false
set_option linter.unusedSimpArgs false

set_option maxRecDepth 100000 in
set_option maxHeartbeats 4000000 in
theorem fix_n (bal node n : Int) (W0 W : World) (lo ga oa gp op : Nat) (S0 : Nat → Prop) (v1 v2 : Value) (B1 B2 : Nat → Prop) (p b : Int) (v own : ByteArray) (ps : List (Sh.T shPromise)) (fx : Bool) (val : ByteArray) (vt : List (Sh.T .int)) (hz : szD (.list shPromise) ps ≤ 1073741824) (hfs : (fixV own ps).size ≤ 1073741824) (h : Loc W0 lo ga oa gp op S0 W v1 v2 B1 B2 p b v own ps fx val vt) :
    Calls Try.prog 108 #[.agg (TV bal node n ga oa gp op)] W fun r w' => r = .returned (.tuple #[]) ∧ Loc W0 lo ga oa gp op S0 w' v1 v2 B1 B2 p b v own ps true (fixV own ps) vt := by
  have HH : Hid (Loc W0 lo ga oa gp op S0 W v1 v2 B1 B2 p b v own ps fx val vt ∧ szD (.list shPromise) ps ≤ 1073741824) := ⟨h, hz⟩
  obtain ⟨a1, k1, hv1⟩ := h.2.2.1.vform
  obtain ⟨a2, k2, hv2⟩ := h.2.2.2.1.vform
  subst hv1 hv2
  have d2 : W.cell? ⟨gp, op + 2, none⟩ = some (.bool fx) := h.2.1.cell (j := 2) rfl
  have f2 := h.2.1.frz (op + 2)
  have zp := h.2.1.lt
  have hgw : gp ≠ W.heap.size := by omega
  clear h hz
  obtain ⟨w1, hw1⟩ : ∃ x, x = (W.setCell ⟨gp, op + 2, none⟩ (.bool true)).alloc (.cells (TV bal node n ga oa gp op) 111) := ⟨_, rfl⟩
  have H1 : Hid (Loc W0 lo ga oa gp op S0 w1.drew (.slice a1 ps.length k1) (.slice a2 vt.length k2) B1 B2 p b v own ps true val vt ∧ Bx w1.drew W.heap.size [.int .i64 bal, .int .i64 node, .int .i64 n, .pointer (some ⟨ga, oa, none⟩), .pointer (some ⟨gp, op, none⟩)]) := by
    have e1 : Loc W0 lo ga oa gp op S0 w1 (.slice a1 ps.length k1) (.slice a2 vt.length k2) B1 B2 p b v own ps true val vt := hw1 ▸ (HH.out.1.setF true).next (Go.Joins.below_alloc1 _ _)
    have e2 : Bx w1 W.heap.size [.int .i64 bal, .int .i64 node, .int .i64 n, .pointer (some ⟨ga, oa, none⟩), .pointer (some ⟨gp, op, none⟩)] := hw1 ▸ Bx.newAt (by simp)
    exact ⟨e1.next (below_drew _), e2.next (below_drew _)⟩
  have HFX : Hid (∀ X, Loc W0 lo ga oa gp op S0 X (.slice a1 ps.length k1) (.slice a2 vt.length k2) B1 B2 p b v own ps true val vt → Calls Try.prog 92 #[.agg #[.string own, .slice a1 ps.length k1, .bool true, .string val, .slice a2 vt.length k2]] X fun r w' => r = .returned (.string (fixV own ps)) ∧ Below X.heap.size X w') := Hid.intro (fun X hX => fixedValue_n own a1 k1 ps true val a2 vt.length k2 X HH.out.2 hX.2.2.1.lies)
  obtain ⟨fv, hfv⟩ : ∃ t, t = fixV own ps := ⟨_, rfl⟩
  rw [← hfv] at HFX hfs ⊢
  clear hfv
  have HFS : Hid (fv.size ≤ 281474976710656) := Hid.intro (by omega)
  go_enter Try.func108, Try.ntmps108
  go_upto_region 2 with fail
  rw [← hw1]
  clear hw1 d2 f2
  refine wp_region_noPanic ?_
  refine wp_region_held_drew (S := fun X => Bx X W.heap.size [.int .i64 bal, .int .i64 node, .int .i64 n, .pointer (some ⟨ga, oa, none⟩), .pointer (some ⟨gp, op, none⟩)]) (by kernel_rfl) H1.out.2 (fun hHeld => ?_)
  obtain ⟨X0, hX0⟩ : ∃ x, x = w1.drew := ⟨_, rfl⟩
  rw [← hX0] at H1 hHeld ⊢
  clear hX0
  refine take_v (v := ?_) 0 ⟨some 6, Op.fieldAddr 111 (Operand.tmp 1) 4, _, _, _, none⟩ rfl (fun _ _ _ h => h) ?_ hHeld ?_
  rotate_left
  · (intro W _; go_simp <;> (try with_reducible rfl))
  refine take_v (v := ?_) 1 ⟨some 7, Op.load 109 (Operand.tmp 6), _, _, _, none⟩ rfl (fun _ _ _ h => h) ?_ hHeld ?_
  rotate_left
  · (intro W hSW; (have s0 := hSW.cell 0 rfl; have s1 := hSW.cell 1 rfl; have s2 := hSW.cell 2 rfl; have s3 := hSW.cell 3 rfl; have s4 := hSW.cell 4 rfl; have sz := hSW.2); go_simp <;> (try with_reducible rfl))
  refine take_v (v := ?_) 2 ⟨some 8, Op.fieldAddr 111 (Operand.tmp 1) 4, _, _, _, none⟩ rfl (fun _ _ _ h => h) ?_ hHeld ?_
  rotate_left
  · (intro W _; go_simp <;> (try with_reducible rfl))
  refine take_v (v := ?_) 3 ⟨some 9, Op.load 109 (Operand.tmp 8), _, _, _, none⟩ rfl (fun _ _ _ h => h) ?_ hHeld ?_
  rotate_left
  · (intro W hSW; (have s0 := hSW.cell 0 rfl; have s1 := hSW.cell 1 rfl; have s2 := hSW.cell 2 rfl; have s3 := hSW.cell 3 rfl; have s4 := hSW.cell 4 rfl; have sz := hSW.2); go_simp <;> (try with_reducible rfl))
  refine take_v (v := ?_) 4 ⟨some 10, Op.nilCheck (Operand.tmp 9), _, _, _, none⟩ rfl (fun _ _ _ h => h) ?_ hHeld ?_
  rotate_left
  · (intro W _; go_simp <;> (try with_reducible rfl))
  refine ready_call 5 ⟨some 11, Op.load 43 (Operand.tmp 10), _, _, _, none⟩ (by kernel_rfl) rfl (by kernel_rfl) (fun KC hK => ?_)
  have q0 : X0.cell? ⟨gp, op, none⟩ = some (.string own) := H1.out.1.2.1.cell (j := 0) rfl
  have q1 : X0.cell? ⟨gp, op + 1, none⟩ = some (.slice a1 ps.length k1) := H1.out.1.2.1.cell (j := 1) rfl
  have q2 : X0.cell? ⟨gp, op + 2, none⟩ = some (.bool true) := H1.out.1.2.1.cell (j := 2) rfl
  have q3 : X0.cell? ⟨gp, op + 3, none⟩ = some (.string val) := H1.out.1.2.1.cell (j := 3) rfl
  have q4 : X0.cell? ⟨gp, op + 4, none⟩ = some (.slice a2 vt.length k2) := H1.out.1.2.1.cell (j := 4) rfl
  have qz := H1.out.1.2.1.lt
  go_wp2_with fail
  clear q0 q1 q2 q3 q4 qz
  refine hK.out _ _ hHeld (fun hHeld => ?_)
  clear hK KC
  refine ready_call 6 ⟨some 12, Op.call { callee := Callee.value (Operand.func 92), args := #[Operand.tmp 11], argTypes := #[43] }, _, _, _, none⟩ (by kernel_rfl) rfl (by kernel_rfl) (fun KC hK => ?_)
  go_wp2_with fail
  refine (HFX.out _ H1.out.1).mono ?_
  rintro r X1 ⟨rfl, hb⟩
  have H2 : Hid (Loc W0 lo ga oa gp op S0 X1 (.slice a1 ps.length k1) (.slice a2 vt.length k2) B1 B2 p b v own ps true val vt ∧ Bx X1 W.heap.size [.int .i64 bal, .int .i64 node, .int .i64 n, .pointer (some ⟨ga, oa, none⟩), .pointer (some ⟨gp, op, none⟩)]) := ⟨H1.out.1.next hb, H1.out.2.next hb⟩
  clear hb
  refine hK.out _ _ H2.out.2 (fun hHeld => ?_)
  clear hK KC
  refine ready_call 7 ⟨some 13, Op.call { callee := Callee.value (Operand.func 53), args := #[Operand.tmp 12], argTypes := #[9] }, _, _, _, none⟩ (by kernel_rfl) rfl (by kernel_rfl) (fun KC hK => ?_)
  go_wp2_with fail
  refine (clone_any _ _ HFS.out).mono ?_
  rintro r X2 ⟨rfl, hb⟩
  have H3 : Hid (Loc W0 lo ga oa gp op S0 X2 (.slice a1 ps.length k1) (.slice a2 vt.length k2) B1 B2 p b v own ps true val vt ∧ Bx X2 W.heap.size [.int .i64 bal, .int .i64 node, .int .i64 n, .pointer (some ⟨ga, oa, none⟩), .pointer (some ⟨gp, op, none⟩)]) := ⟨H2.out.1.next hb, H2.out.2.next hb⟩
  clear hb
  refine hK.out _ _ H3.out.2 (fun hHeld => ?_)
  clear hK KC
  refine take_v (v := ?_) 8 ⟨some 14, Op.nilCheck (Operand.tmp 7), _, _, _, none⟩ rfl (fun _ _ _ h => h) ?_ hHeld ?_
  rotate_left
  · (intro W _; go_simp <;> (try with_reducible rfl))
  refine take_v (v := ?_) 9 ⟨some 15, Op.fieldAddr 43 (Operand.tmp 14) 3, _, _, _, none⟩ rfl (fun _ _ _ h => h) ?_ hHeld ?_
  rotate_left
  · (intro W _; go_simp <;> (try with_reducible rfl))
  refine ready_call 10 ⟨none, Op.store 9 (Operand.tmp 15) (Operand.tmp 13), _, _, _, none⟩ (by kernel_rfl) rfl (by kernel_rfl) (fun KC hK => ?_)
  have q3 : X2.cell? ⟨gp, op + 3, none⟩ = some (.string val) := H3.out.1.2.1.cell (j := 3) rfl
  have g3 := H3.out.1.2.1.frz (op + 3)
  have qz := H3.out.1.2.1.lt
  go_wp2_with fail
  have HF := Hid.intro (H3.out.1.setV fv)
  clear q3 g3 qz
  refine hK.out _ _ (H3.out.2.other (Ne.symm hgw)) (fun hHeld => ?_)
  clear hK KC
  refine wpAnyH_done (by kernel_rfl) ?_ _
  refine NoPanic.normal ?_
  clear hHeld
  go_wp2
  go_end0
  exact ⟨rfl, HF.out⟩

def cntI (l : List (Sh.T .int)) (x : Int) : Nat := List.countP (fun a : Int => decide (a < x)) l
def insI (l : List (Sh.T .int)) (x : Int) : List (Sh.T .int) := l.take (cntI l x) ++ x :: l.drop (cntI l x)
theorem cntI_le (l : List (Sh.T .int)) (x : Int) : cntI l x ≤ l.length := List.countP_le_length ..
theorem insI_len (l : List (Sh.T .int)) (x : Int) : (insI l x).length = l.length + 1 := by
  have := cntI_le l x
  unfold insI; rw [List.length_append, List.length_cons, List.length_take, List.length_drop]; omega
theorem insI_cells (l : List (Sh.T .int)) (x : Int) : putAt (inC l) [.int .i64 x] (cntI l x * 1) = inC (insI l x) := flat_put (α := Int) (f := valC .int) (c := 1) (fun y => rfl) (cntI_le l x)

set_option maxRecDepth 100000 in
set_option maxHeartbeats 4000000 in
theorem vote_n (bal node n : Int) (W0 W : World) (lo ga oa gp op : Nat) (S0 : Nat → Prop) (v1 v2 : Value) (B1 B2 : Nat → Prop) (p b : Int) (v own : ByteArray) (ps : List (Sh.T shPromise)) (fx : Bool) (val : ByteArray) (vt : List (Sh.T .int)) (hvs : val.size ≤ 1073741824) (hvt : vt.length ≤ 1000) (hri : List.Pairwise (fun a b : Int => a ≤ b) vt) (h : Loc W0 lo ga oa gp op S0 W v1 v2 B1 B2 p b v own ps fx val vt) :
    Calls Try.prog 110 #[.agg (TV bal node n ga oa gp op)] W fun r w' => r = .returned (.tuple #[]) ∧ ∃ v5 B5, Loc W0 lo ga oa gp op S0 w' v1 v5 B1 B5 bal bal val own ps fx val (insI vt node) := by
  obtain ⟨a2, k2, hv2⟩ := h.2.2.2.1.vform
  subst hv2
  have zp := h.2.1.lt
  have za := h.1.lt
  have hgw : gp ≠ W.heap.size := by omega
  have haw : ga ≠ W.heap.size := by omega
  have HBW : Hid (∀ k, B1 k ∨ B2 k → k ≠ W.heap.size) := fun k hk => Nat.ne_of_lt (h.2.2.2.2.2.1 k hk).2.2.1
  obtain ⟨w1, hw1⟩ : ∃ x, x = W.alloc (.cells (TV bal node n ga oa gp op) 111) := ⟨_, rfl⟩
  have H1 : Hid (Loc W0 lo ga oa gp op S0 w1.drew v1 (.slice a2 vt.length k2) B1 B2 p b v own ps fx val vt ∧ Bx w1.drew W.heap.size [.int .i64 bal, .int .i64 node, .int .i64 n, .pointer (some ⟨ga, oa, none⟩), .pointer (some ⟨gp, op, none⟩)]) := by
    have e1 : Loc W0 lo ga oa gp op S0 w1 v1 (.slice a2 vt.length k2) B1 B2 p b v own ps fx val vt := hw1 ▸ h.next (Go.Joins.below_alloc1 _ _)
    have e2 : Bx w1 W.heap.size [.int .i64 bal, .int .i64 node, .int .i64 n, .pointer (some ⟨ga, oa, none⟩), .pointer (some ⟨gp, op, none⟩)] := hw1 ▸ Bx.new W [_, _, _, _, _] _
    exact ⟨e1.next (below_drew _), e2.next (below_drew _)⟩
  have HVS : Hid (val.size ≤ 281474976710656 ∧ List.Pairwise (fun a b : Int => a ≤ b) vt) := ⟨by omega, hri⟩
  clear h hvs hri
  go_enter Try.func110, Try.ntmps110
  go_upto_region 1 with fail
  rw [← hw1]
  clear hw1
  refine wp_region_noPanic ?_
  refine wp_region_held_drew (S := fun X => Bx X W.heap.size [.int .i64 bal, .int .i64 node, .int .i64 n, .pointer (some ⟨ga, oa, none⟩), .pointer (some ⟨gp, op, none⟩)] ∧ X.cell? ⟨gp, op + 3, none⟩ = some (.string val) ∧ gp < X.heap.size) (by kernel_rfl) ⟨H1.out.2, H1.out.1.2.1.cell (j := 3) rfl, H1.out.1.2.1.lt⟩ (fun hHeld => ?_)
  refine take_v (v := ?_) 0 ⟨some 4, Op.fieldAddr 111 (Operand.tmp 1) 3, _, _, _, none⟩ rfl (fun _ _ _ h => h) ?_ hHeld ?_
  rotate_left
  · (intro W _; go_simp <;> (try with_reducible rfl))
  refine take_v (v := ?_) 1 ⟨some 5, Op.load 108 (Operand.tmp 4), _, _, _, none⟩ rfl (fun _ _ _ h => h) ?_ hHeld ?_
  rotate_left
  · (intro W hSW; (have s0 := hSW.1.cell 0 rfl; have s1 := hSW.1.cell 1 rfl; have s2 := hSW.1.cell 2 rfl; have s3 := hSW.1.cell 3 rfl; have s4 := hSW.1.cell 4 rfl; have sz := hSW.1.2; have t3 := hSW.2.1; have tz := hSW.2.2); go_simp <;> (try with_reducible rfl))
  refine take_v (v := ?_) 2 ⟨some 6, Op.fieldAddr 111 (Operand.tmp 1) 0, _, _, _, none⟩ rfl (fun _ _ _ h => h) ?_ hHeld ?_
  rotate_left
  · (intro W _; go_simp <;> (try with_reducible rfl))
  refine take_v (v := ?_) 3 ⟨some 7, Op.load 3 (Operand.tmp 6), _, _, _, none⟩ rfl (fun _ _ _ h => h) ?_ hHeld ?_
  rotate_left
  · (intro W hSW; (have s0 := hSW.1.cell 0 rfl; have s1 := hSW.1.cell 1 rfl; have s2 := hSW.1.cell 2 rfl; have s3 := hSW.1.cell 3 rfl; have s4 := hSW.1.cell 4 rfl; have sz := hSW.1.2; have t3 := hSW.2.1; have tz := hSW.2.2); go_simp <;> (try with_reducible rfl))
  refine take_v (v := ?_) 4 ⟨some 8, Op.fieldAddr 111 (Operand.tmp 1) 0, _, _, _, none⟩ rfl (fun _ _ _ h => h) ?_ hHeld ?_
  rotate_left
  · (intro W _; go_simp <;> (try with_reducible rfl))
  refine take_v (v := ?_) 5 ⟨some 9, Op.load 3 (Operand.tmp 8), _, _, _, none⟩ rfl (fun _ _ _ h => h) ?_ hHeld ?_
  rotate_left
  · (intro W hSW; (have s0 := hSW.1.cell 0 rfl; have s1 := hSW.1.cell 1 rfl; have s2 := hSW.1.cell 2 rfl; have s3 := hSW.1.cell 3 rfl; have s4 := hSW.1.cell 4 rfl; have sz := hSW.1.2; have t3 := hSW.2.1; have tz := hSW.2.2); go_simp <;> (try with_reducible rfl))
  refine take_v (v := ?_) 6 ⟨some 10, Op.fieldAddr 111 (Operand.tmp 1) 4, _, _, _, none⟩ rfl (fun _ _ _ h => h) ?_ hHeld ?_
  rotate_left
  · (intro W _; go_simp <;> (try with_reducible rfl))
  refine take_v (v := ?_) 7 ⟨some 11, Op.load 109 (Operand.tmp 10), _, _, _, none⟩ rfl (fun _ _ _ h => h) ?_ hHeld ?_
  rotate_left
  · (intro W hSW; (have s0 := hSW.1.cell 0 rfl; have s1 := hSW.1.cell 1 rfl; have s2 := hSW.1.cell 2 rfl; have s3 := hSW.1.cell 3 rfl; have s4 := hSW.1.cell 4 rfl; have sz := hSW.1.2; have t3 := hSW.2.1; have tz := hSW.2.2); go_simp <;> (try with_reducible rfl))
  refine take_v (v := ?_) 8 ⟨some 12, Op.nilCheck (Operand.tmp 11), _, _, _, none⟩ rfl (fun _ _ _ h => h) ?_ hHeld ?_
  rotate_left
  · (intro W _; go_simp <;> (try with_reducible rfl))
  refine take_v (v := ?_) 9 ⟨some 13, Op.fieldAddr 43 (Operand.tmp 12) 3, _, _, _, none⟩ rfl (fun _ _ _ h => h) ?_ hHeld ?_
  rotate_left
  · (intro W _; go_simp <;> (try with_reducible rfl))
  refine take_v (v := ?_) 10 ⟨some 14, Op.load 9 (Operand.tmp 13), _, _, _, none⟩ rfl (fun _ _ _ h => h) ?_ hHeld ?_
  rotate_left
  · (intro W hSW; (have s0 := hSW.1.cell 0 rfl; have s1 := hSW.1.cell 1 rfl; have s2 := hSW.1.cell 2 rfl; have s3 := hSW.1.cell 3 rfl; have s4 := hSW.1.cell 4 rfl; have sz := hSW.1.2; have t3 := hSW.2.1; have tz := hSW.2.2); go_simp <;> (try with_reducible rfl))
  refine ready_call 11 ⟨some 15, Op.call { callee := Callee.value (Operand.func 53), args := #[Operand.tmp 14], argTypes := #[9] }, _, _, _, none⟩ (by kernel_rfl) rfl (by kernel_rfl) (fun KC hK => ?_)
  go_wp2_with fail
  refine (clone_any _ _ HVS.out.1).mono ?_
  rintro r X1 ⟨rfl, hb⟩
  have H2 : Hid (Loc W0 lo ga oa gp op S0 X1 v1 (.slice a2 vt.length k2) B1 B2 p b v own ps fx val vt ∧ Bx X1 W.heap.size [.int .i64 bal, .int .i64 node, .int .i64 n, .pointer (some ⟨ga, oa, none⟩), .pointer (some ⟨gp, op, none⟩)]) := ⟨H1.out.1.next hb, H1.out.2.next hb⟩
  clear hb
  refine hK.out _ _ ⟨H2.out.2, H2.out.1.2.1.cell (j := 3) rfl, H2.out.1.2.1.lt⟩ (fun hHeld => ?_)
  clear hK KC
  refine take_v (v := ?_) 12 ⟨some 16, Op.build 91 #[(0, Operand.tmp 7), (1, Operand.tmp 9), (2, Operand.tmp 15)], _, _, _, none⟩ rfl (fun _ _ _ h => h) ?_ hHeld ?_
  rotate_left
  · (intro W _; go_simp <;> (try with_reducible rfl))
  refine take_v (v := ?_) 13 ⟨some 17, Op.nilCheck (Operand.tmp 5), _, _, _, none⟩ rfl (fun _ _ _ h => h) ?_ hHeld ?_
  rotate_left
  · (intro W _; go_simp <;> (try with_reducible rfl))
  refine ready_call 14 ⟨none, Op.store 91 (Operand.tmp 17) (Operand.tmp 16), _, _, _, none⟩ (by kernel_rfl) rfl (by kernel_rfl) (fun KC hK => ?_)
  have c0 : X1.cell? ⟨ga, oa, none⟩ = some (.int .i64 p) := H2.out.1.1.cell (j := 0) rfl
  have c1 : X1.cell? ⟨ga, oa + 1, none⟩ = some (.int .i64 b) := H2.out.1.1.cell (j := 1) rfl
  have c2 : X1.cell? ⟨ga, oa + 2, none⟩ = some (.string v) := H2.out.1.1.cell (j := 2) rfl
  have f0 := H2.out.1.1.frz oa
  have f1 := H2.out.1.1.frz (oa + 1)
  have f2 := H2.out.1.1.frz (oa + 2)
  have cz := H2.out.1.1.lt
  go_wp2_with fail
  have H3 := (show Hid (Loc W0 lo ga oa gp op S0 (((X1.setCell ⟨ga, oa, none⟩ (.int .i64 bal)).setCell ⟨ga, oa + 1, none⟩ (.int .i64 bal)).setCell ⟨ga, oa + 2, none⟩ (.string val)) v1 (.slice a2 vt.length k2) B1 B2 bal bal val own ps fx val vt ∧ Bx (((X1.setCell ⟨ga, oa, none⟩ (.int .i64 bal)).setCell ⟨ga, oa + 1, none⟩ (.int .i64 bal)).setCell ⟨ga, oa + 2, none⟩ (.string val)) W.heap.size [.int .i64 bal, .int .i64 node, .int .i64 n, .pointer (some ⟨ga, oa, none⟩), .pointer (some ⟨gp, op, none⟩)]) from ⟨H2.out.1.setA3 bal bal val, ((H2.out.2.other (Ne.symm haw)).other (Ne.symm haw)).other (Ne.symm haw)⟩)
  clear c0 c1 c2 f0 f1 f2 cz
  refine hK.out _ _ ⟨H3.out.2, H3.out.1.2.1.cell (j := 3) rfl, H3.out.1.2.1.lt⟩ (fun hHeld => ?_)
  clear hK KC
  refine wpAnyH_done (by kernel_rfl) ?_ _
  refine NoPanic.normal ?_
  clear hHeld H1 H2
  obtain ⟨X2, hX2⟩ : ∃ x, x = ((X1.setCell ⟨ga, oa, none⟩ (.int .i64 bal)).setCell ⟨ga, oa + 1, none⟩ (.int .i64 bal)).setCell ⟨ga, oa + 2, none⟩ (.string val) := ⟨_, rfl⟩
  rw [← hX2] at H3 ⊢
  clear hX2
  have H4 : Hid (Loc W0 lo ga oa gp op S0 X2.drew v1 (.slice a2 vt.length k2) B1 B2 bal bal val own ps fx val vt ∧ Bx X2.drew W.heap.size [.int .i64 bal, .int .i64 node, .int .i64 n, .pointer (some ⟨ga, oa, none⟩), .pointer (some ⟨gp, op, none⟩)]) := ⟨H3.out.1.next (below_drew _), H3.out.2.next (below_drew _)⟩
  clear H3
  go_upto_region 2 with fail
  refine wp_region_noPanic ?_
  refine wp_region_held_drew (S := fun X => Bx X W.heap.size [.int .i64 bal, .int .i64 node, .int .i64 n, .pointer (some ⟨ga, oa, none⟩), .pointer (some ⟨gp, op, none⟩)] ∧ X.cell? ⟨gp, op + 4, none⟩ = some (.slice a2 vt.length k2) ∧ gp < X.heap.size) (by kernel_rfl) ⟨H4.out.2, H4.out.1.2.1.cell (j := 4) rfl, H4.out.1.2.1.lt⟩ (fun hHeld => ?_)
  refine take_v (v := ?_) 0 ⟨some 19, Op.fieldAddr 111 (Operand.tmp 1) 4, _, _, _, none⟩ rfl (fun _ _ _ h => h) ?_ hHeld ?_
  rotate_left
  · (intro W _; go_simp <;> (try with_reducible rfl))
  refine take_v (v := ?_) 1 ⟨some 20, Op.load 109 (Operand.tmp 19), _, _, _, none⟩ rfl (fun _ _ _ h => h) ?_ hHeld ?_
  rotate_left
  · (intro W hSW; (have s0 := hSW.1.cell 0 rfl; have s1 := hSW.1.cell 1 rfl; have s2 := hSW.1.cell 2 rfl; have s3 := hSW.1.cell 3 rfl; have s4 := hSW.1.cell 4 rfl; have sz := hSW.1.2; have t3 := hSW.2.1; have tz := hSW.2.2); go_simp <;> (try with_reducible rfl))
  refine take_v (v := ?_) 2 ⟨some 21, Op.nilCheck (Operand.tmp 20), _, _, _, none⟩ rfl (fun _ _ _ h => h) ?_ hHeld ?_
  rotate_left
  · (intro W _; go_simp <;> (try with_reducible rfl))
  refine take_v (v := ?_) 3 ⟨some 22, Op.fieldAddr 43 (Operand.tmp 21) 4, _, _, _, none⟩ rfl (fun _ _ _ h => h) ?_ hHeld ?_
  rotate_left
  · (intro W _; go_simp <;> (try with_reducible rfl))
  refine take_v (v := ?_) 4 ⟨some 23, Op.load 41 (Operand.tmp 22), _, _, _, none⟩ rfl (fun _ _ _ h => h) ?_ hHeld ?_
  rotate_left
  · (intro W hSW; (have s0 := hSW.1.cell 0 rfl; have s1 := hSW.1.cell 1 rfl; have s2 := hSW.1.cell 2 rfl; have s3 := hSW.1.cell 3 rfl; have s4 := hSW.1.cell 4 rfl; have sz := hSW.1.2; have t3 := hSW.2.1; have tz := hSW.2.2); go_simp <;> (try with_reducible rfl))
  refine take_v (v := ?_) 5 ⟨some 24, Op.fieldAddr 111 (Operand.tmp 1) 1, _, _, _, none⟩ rfl (fun _ _ _ h => h) ?_ hHeld ?_
  rotate_left
  · (intro W _; go_simp <;> (try with_reducible rfl))
  refine take_v (v := ?_) 6 ⟨some 25, Op.load 3 (Operand.tmp 24), _, _, _, none⟩ rfl (fun _ _ _ h => h) ?_ hHeld ?_
  rotate_left
  · (intro W hSW; (have s0 := hSW.1.cell 0 rfl; have s1 := hSW.1.cell 1 rfl; have s2 := hSW.1.cell 2 rfl; have s3 := hSW.1.cell 3 rfl; have s4 := hSW.1.cell 4 rfl; have sz := hSW.1.2; have t3 := hSW.2.1; have tz := hSW.2.2); go_simp <;> (try with_reducible rfl))
  refine ready_call 7 ⟨some 26, Op.call { callee := Callee.value (Operand.func 125), args := #[Operand.tmp 23, Operand.tmp 25], argTypes := #[41, 3] }, _, _, _, none⟩ (by kernel_rfl) rfl (by kernel_rfl) (fun KC hK => ?_)
  go_wp2_with fail
  refine (searchInt_n a2 k2 vt node _ hvt HVS.out.2 H4.out.1.2.2.2.1.lies).mono ?_
  rintro r X3 ⟨⟨zz, rfl⟩, hb⟩
  have H5 : Hid (Loc W0 lo ga oa gp op S0 X3 v1 (.slice a2 vt.length k2) B1 B2 bal bal val own ps fx val vt ∧ Bx X3 W.heap.size [.int .i64 bal, .int .i64 node, .int .i64 n, .pointer (some ⟨ga, oa, none⟩), .pointer (some ⟨gp, op, none⟩)]) := ⟨H4.out.1.next hb, H4.out.2.next hb⟩
  clear hb
  refine hK.out _ _ ⟨H5.out.2, H5.out.1.2.1.cell (j := 4) rfl, H5.out.1.2.1.lt⟩ (fun hHeld => ?_)
  clear hK KC
  refine take_v (v := ?_) 8 ⟨some 18, Op.move (Operand.tmp 26), _, _, _, none⟩ rfl (fun _ _ _ h => h) ?_ hHeld ?_
  rotate_left
  · (intro W _; go_simp <;> (try with_reducible rfl))
  refine take_v (v := ?_) 9 ⟨some 27, Op.extract (Operand.tmp 18) 0, _, _, _, none⟩ rfl (fun _ _ _ h => h) ?_ hHeld ?_
  rotate_left
  · (intro W _; go_simp <;> (try with_reducible rfl))
  refine take_v (v := ?_) 10 ⟨some 28, Op.extract (Operand.tmp 18) 1, _, _, _, none⟩ rfl (fun _ _ _ h => h) ?_ hHeld ?_
  rotate_left
  · (intro W _; go_simp <;> (try with_reducible rfl))
  refine take_v (v := ?_) 11 ⟨some 2, Op.assign (Operand.tmp 27), _, _, _, none⟩ rfl (fun _ _ _ h => h) ?_ hHeld ?_
  rotate_left
  · (intro W _; go_simp <;> (try with_reducible rfl))
  refine take_v (v := ?_) 12 ⟨some 3, Op.assign (Operand.tmp 28), _, _, _, none⟩ rfl (fun _ _ _ h => h) ?_ hHeld ?_
  rotate_left
  · (intro W _; go_simp <;> (try with_reducible rfl))
  refine wpAnyH_done (by kernel_rfl) ?_ _
  refine NoPanic.normal ?_
  clear hHeld H4
  have hcl := cntI_le vt node
  obtain ⟨cI, hcI⟩ : ∃ c, c = cntI vt node := ⟨_, rfl⟩
  have HCI : Hid (cI = cntI vt node) := hcI
  rw [show List.countP (fun a : Int => decide (a < node)) vt = cI from hcI.symm]
  rw [← hcI] at hcl
  clear hcI
  have H6 : Hid (Loc W0 lo ga oa gp op S0 X3.drew v1 (.slice a2 vt.length k2) B1 B2 bal bal val own ps fx val vt ∧ Bx X3.drew W.heap.size [.int .i64 bal, .int .i64 node, .int .i64 n, .pointer (some ⟨ga, oa, none⟩), .pointer (some ⟨gp, op, none⟩)]) := ⟨H5.out.1.next (below_drew _), H5.out.2.next (below_drew _)⟩
  clear H5
  go_upto_region 3 with fail
  refine wp_region_noPanic ?_
  refine wp_region_held_drew (S := fun X => Bx X W.heap.size [.int .i64 bal, .int .i64 node, .int .i64 n, .pointer (some ⟨ga, oa, none⟩), .pointer (some ⟨gp, op, none⟩)]) (by kernel_rfl) H6.out.2 (fun hHeld => ?_)
  obtain ⟨X4, hX4⟩ : ∃ x, x = X3.drew := ⟨_, rfl⟩
  rw [← hX4] at H6 hHeld ⊢
  clear hX4
  refine take_v (v := ?_) 0 ⟨some 29, Op.fieldAddr 111 (Operand.tmp 1) 4, _, _, _, none⟩ rfl (fun _ _ _ h => h) ?_ hHeld ?_
  rotate_left
  · (intro W _; go_simp <;> (try with_reducible rfl))
  refine take_v (v := ?_) 1 ⟨some 30, Op.load 109 (Operand.tmp 29), _, _, _, none⟩ rfl (fun _ _ _ h => h) ?_ hHeld ?_
  rotate_left
  · (intro W hSW; (have s0 := hSW.cell 0 rfl; have s1 := hSW.cell 1 rfl; have s2 := hSW.cell 2 rfl; have s3 := hSW.cell 3 rfl; have s4 := hSW.cell 4 rfl; have sz := hSW.2); go_simp <;> (try with_reducible rfl))
  refine take_v (v := ?_) 2 ⟨some 31, Op.fieldAddr 111 (Operand.tmp 1) 4, _, _, _, none⟩ rfl (fun _ _ _ h => h) ?_ hHeld ?_
  rotate_left
  · (intro W _; go_simp <;> (try with_reducible rfl))
  refine take_v (v := ?_) 3 ⟨some 32, Op.load 109 (Operand.tmp 31), _, _, _, none⟩ rfl (fun _ _ _ h => h) ?_ hHeld ?_
  rotate_left
  · (intro W hSW; (have s0 := hSW.cell 0 rfl; have s1 := hSW.cell 1 rfl; have s2 := hSW.cell 2 rfl; have s3 := hSW.cell 3 rfl; have s4 := hSW.cell 4 rfl; have sz := hSW.2); go_simp <;> (try with_reducible rfl))
  refine take_v (v := ?_) 4 ⟨some 33, Op.nilCheck (Operand.tmp 32), _, _, _, none⟩ rfl (fun _ _ _ h => h) ?_ hHeld ?_
  rotate_left
  · (intro W _; go_simp <;> (try with_reducible rfl))
  refine take_v (v := ?_) 5 ⟨some 34, Op.fieldAddr 43 (Operand.tmp 33) 4, _, _, _, none⟩ rfl (fun _ _ _ h => h) ?_ hHeld ?_
  rotate_left
  · (intro W _; go_simp <;> (try with_reducible rfl))
  refine take_v (v := ?_) 7 ⟨some 36, Op.move (Operand.tmp 2), _, _, _, none⟩ rfl (fun _ _ _ h => h) ?_ hHeld ?_
  rotate_left
  · (intro W _; go_simp <;> (try with_reducible rfl))
  refine take_v (v := ?_) 8 ⟨some 37, Op.fieldAddr 111 (Operand.tmp 1) 1, _, _, _, none⟩ rfl (fun _ _ _ h => h) ?_ hHeld ?_
  rotate_left
  · (intro W _; go_simp <;> (try with_reducible rfl))
  refine take_v (v := ?_) 9 ⟨some 38, Op.load 3 (Operand.tmp 37), _, _, _, none⟩ rfl (fun _ _ _ h => h) ?_ hHeld ?_
  rotate_left
  · (intro W hSW; (have s0 := hSW.cell 0 rfl; have s1 := hSW.cell 1 rfl; have s2 := hSW.cell 2 rfl; have s3 := hSW.cell 3 rfl; have s4 := hSW.cell 4 rfl; have sz := hSW.2); go_simp <;> (try with_reducible rfl))
  refine ready_two 6 10 ⟨some 35, Op.load 41 (Operand.tmp 34), _, _, _, none⟩ ⟨some 39, Op.buildSlice 41 1 #[(0, Operand.tmp 38)], _, _, _, none⟩ (by kernel_rfl) rfl rfl (by kernel_rfl) (by kernel_rfl) (fun KC hK => ?_) (fun KC hK => ?_)
  ·
    have q4 : X4.cell? ⟨gp, op + 4, none⟩ = some (.slice a2 vt.length k2) := H6.out.1.2.1.cell (j := 4) rfl
    have qz := H6.out.1.2.1.lt
    go_wp2_with fail
    clear q4 qz
    refine hK.out _ _ hHeld (fun hHeld => ?_)
    clear hK KC
    refine ready_call 10 ⟨some 39, Op.buildSlice 41 1 #[(0, Operand.tmp 38)], _, _, _, none⟩ (by kernel_rfl) rfl (by kernel_rfl) (fun KC hK => ?_)
    go_wp2_with fail
    have hb := Go.Joins.below_alloc1 X4 (.cells #[.int .i64 node] 3)
    have H7 := (show Hid (Loc W0 lo ga oa gp op S0 (X4.alloc (.cells #[.int .i64 node] 3)) v1 (.slice a2 vt.length k2) B1 B2 bal bal val own ps fx val vt ∧ Bx (X4.alloc (.cells #[.int .i64 node] 3)) W.heap.size [.int .i64 bal, .int .i64 node, .int .i64 n, .pointer (some ⟨ga, oa, none⟩), .pointer (some ⟨gp, op, none⟩)]) from ⟨H6.out.1.next hb, H6.out.2.next hb⟩)
    clear hb
    refine hK.out _ _ H7.out.2 (fun hHeld => ?_)
    clear hK KC
    refine ready_call 11 ⟨some 40, Op.call { callee := Callee.value (Operand.func 126), args := #[Operand.tmp 35, Operand.tmp 36, Operand.tmp 39], argTypes := #[41, 3, 41] }, _, _, _, none⟩ (by kernel_rfl) rfl (by kernel_rfl) (fun KC hK => ?_)
    go_wp2_with fail
    refine (insert_I lo vt.length cI X4.heap.size (.slice a2 vt.length k2) (inC vt) [.int .i64 node] 3 _ hcl (by omega) (H7.out.1.2.2.2.1.flat rfl).1 (flat_one (s := .int) vt) (heap_alloc_new X4 _) rfl (by intro u hu; simp at hu; subst hu; rfl) (by have h1 := H7.out.1.2.2.2.2.2.2.2.2.2.2; have h2 := H7.out.1.2.2.2.2.2.2.2.2.2.1.size; exact Nat.le_trans h1 h2) (fun e => by have := ((H6.out.1.2.2.2.1.flat rfl).1.lt _ e).2; omega)).mono ?_
    rintro r X6 ⟨v5, rfl, ho, hgr, hwh⟩
    have HF := Hid.intro (Loc.list2 (l' := insI vt node) H7.out.1 (by rw [insI_len, ← insI_cells, ← HCI.out]; exact ho) hgr hwh)
    obtain ⟨a5, k5, hv5⟩ := HF.out.1.2.2.2.1.vform
    have HBX := Hid.intro (H7.out.2.grow hgr (fun e => HBW.out _ (Or.inr ((H6.out.1.2.2.2.1.flat rfl).2 _ e.symm)) rfl))
    subst hv5
    clear ho hgr hwh
    refine hK.out _ _ HBX.out (fun hHeld => ?_)
    clear hK KC
    refine take_v (v := ?_) 12 ⟨some 41, Op.nilCheck (Operand.tmp 30), _, _, _, none⟩ rfl (fun _ _ _ h => h) ?_ hHeld ?_
    rotate_left
    · (intro W _; go_simp <;> (try with_reducible rfl))
    refine take_v (v := ?_) 13 ⟨some 42, Op.fieldAddr 43 (Operand.tmp 41) 4, _, _, _, none⟩ rfl (fun _ _ _ h => h) ?_ hHeld ?_
    rotate_left
    · (intro W _; go_simp <;> (try with_reducible rfl))
    refine ready_call 14 ⟨none, Op.store 41 (Operand.tmp 42) (Operand.tmp 40), _, _, _, none⟩ (by kernel_rfl) rfl (by kernel_rfl) (fun KC hK => ?_)
    have q4 : X6.cell? ⟨gp, op + 4, none⟩ = some (.slice a2 vt.length k2) := HF.out.2.cell (j := 4) rfl
    have g4 := HF.out.2.frz (op + 4)
    have qz := HF.out.2.lt
    go_wp2_with fail
    clear q4 g4 qz
    refine hK.out _ _ (HBX.out.other (Ne.symm hgw)) (fun hHeld => ?_)
    clear hK KC
    refine wpAnyH_done (by kernel_rfl) ?_ _
    refine NoPanic.normal ?_
    clear hHeld
    go_wp2
    go_end0
    exact ⟨rfl, _, _, HF.out.1⟩
  ·
    go_wp2_with fail
    have hb := Go.Joins.below_alloc1 X4 (.cells #[.int .i64 node] 3)
    have H7 := (show Hid (Loc W0 lo ga oa gp op S0 (X4.alloc (.cells #[.int .i64 node] 3)) v1 (.slice a2 vt.length k2) B1 B2 bal bal val own ps fx val vt ∧ Bx (X4.alloc (.cells #[.int .i64 node] 3)) W.heap.size [.int .i64 bal, .int .i64 node, .int .i64 n, .pointer (some ⟨ga, oa, none⟩), .pointer (some ⟨gp, op, none⟩)]) from ⟨H6.out.1.next hb, H6.out.2.next hb⟩)
    clear hb
    refine hK.out _ _ H7.out.2 (fun hHeld => ?_)
    clear hK KC
    refine ready_call 6 ⟨some 35, Op.load 41 (Operand.tmp 34), _, _, _, none⟩ (by kernel_rfl) rfl (by kernel_rfl) (fun KC hK => ?_)
    have q4 : X4.cell? ⟨gp, op + 4, none⟩ = some (.slice a2 vt.length k2) := H6.out.1.2.1.cell (j := 4) rfl
    have qz := H6.out.1.2.1.lt
    go_wp2_with fail
    clear q4 qz
    refine hK.out _ _ hHeld (fun hHeld => ?_)
    clear hK KC
    refine ready_call 11 ⟨some 40, Op.call { callee := Callee.value (Operand.func 126), args := #[Operand.tmp 35, Operand.tmp 36, Operand.tmp 39], argTypes := #[41, 3, 41] }, _, _, _, none⟩ (by kernel_rfl) rfl (by kernel_rfl) (fun KC hK => ?_)
    go_wp2_with fail
    refine (insert_I lo vt.length cI X4.heap.size (.slice a2 vt.length k2) (inC vt) [.int .i64 node] 3 _ hcl (by omega) (H7.out.1.2.2.2.1.flat rfl).1 (flat_one (s := .int) vt) (heap_alloc_new X4 _) rfl (by intro u hu; simp at hu; subst hu; rfl) (by have h1 := H7.out.1.2.2.2.2.2.2.2.2.2.2; have h2 := H7.out.1.2.2.2.2.2.2.2.2.2.1.size; exact Nat.le_trans h1 h2) (fun e => by have := ((H6.out.1.2.2.2.1.flat rfl).1.lt _ e).2; omega)).mono ?_
    rintro r X6 ⟨v5, rfl, ho, hgr, hwh⟩
    have HF := Hid.intro (Loc.list2 (l' := insI vt node) H7.out.1 (by rw [insI_len, ← insI_cells, ← HCI.out]; exact ho) hgr hwh)
    obtain ⟨a5, k5, hv5⟩ := HF.out.1.2.2.2.1.vform
    have HBX := Hid.intro (H7.out.2.grow hgr (fun e => HBW.out _ (Or.inr ((H6.out.1.2.2.2.1.flat rfl).2 _ e.symm)) rfl))
    subst hv5
    clear ho hgr hwh
    refine hK.out _ _ HBX.out (fun hHeld => ?_)
    clear hK KC
    refine take_v (v := ?_) 12 ⟨some 41, Op.nilCheck (Operand.tmp 30), _, _, _, none⟩ rfl (fun _ _ _ h => h) ?_ hHeld ?_
    rotate_left
    · (intro W _; go_simp <;> (try with_reducible rfl))
    refine take_v (v := ?_) 13 ⟨some 42, Op.fieldAddr 43 (Operand.tmp 41) 4, _, _, _, none⟩ rfl (fun _ _ _ h => h) ?_ hHeld ?_
    rotate_left
    · (intro W _; go_simp <;> (try with_reducible rfl))
    refine ready_call 14 ⟨none, Op.store 41 (Operand.tmp 42) (Operand.tmp 40), _, _, _, none⟩ (by kernel_rfl) rfl (by kernel_rfl) (fun KC hK => ?_)
    have q4 : X6.cell? ⟨gp, op + 4, none⟩ = some (.slice a2 vt.length k2) := HF.out.2.cell (j := 4) rfl
    have g4 := HF.out.2.frz (op + 4)
    have qz := HF.out.2.lt
    go_wp2_with fail
    clear q4 g4 qz
    refine hK.out _ _ (HBX.out.other (Ne.symm hgw)) (fun hHeld => ?_)
    clear hK KC
    refine wpAnyH_done (by kernel_rfl) ?_ _
    refine NoPanic.normal ?_
    clear hHeld
    go_wp2
    go_end0
    exact ⟨rfl, _, _, HF.out.1⟩
end Go.Proofs.Ytmhkfangfhanlaa
