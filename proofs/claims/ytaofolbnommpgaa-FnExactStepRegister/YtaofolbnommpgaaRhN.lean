/- Registers: an op meets a node. -/
import Derived.Test.YtaofolbnommpgaaRhL
import Derived.Test.YtaofolbnommpgaaRhG
import Derived.Deep.RegionHeld3
namespace Go.Proofs.Ytaofolbnommpgaa
open Go.RowKit
set_option linter.unusedVariables false
set_option linter.unusedSimpArgs false

theorem newerOf_c (n i : Int) (t : ByteArray) (n' i' : Int) (t' : ByteArray) (m j : Int) (u : ByteArray) (w : World) (h : nwC (n, i, t, ()) (n', i', t', ()) = (m, j, u, ())) :
    Calls Try.prog 71 #[.agg #[.int .i64 n, .int .i64 i, .string t], .agg #[.int .i64 n', .int .i64 i', .string t']] w fun r w' => r = .returned (.agg #[.int .i64 m, .int .i64 j, .string u]) ∧ Below w.heap.size w w' := by
  cases hb : nwB n' i' n i
  · have e : nwC (n, i, t, ()) (n', i', t', ()) = (n, i, t, ()) := by unfold nwC; simp only [hb]; rfl
    rw [e] at h; cases h
    exact newerOf_no n i t n' i' t' w hb
  · have e : nwC (n, i, t, ()) (n', i', t', ()) = (n', i', t', ()) := by unfold nwC; simp only [hb]; rfl
    rw [e] at h; cases h
    exact newerOf_yes n i t n' i' t' w hb

set_option maxRecDepth 100000 in
set_option maxHeartbeats 2000000 in
theorem kept_n (gc oc : Nat) (n i : Int) (t : ByteArray) (W : World) (c0 : W.cell? ⟨gc, oc, none⟩ = some (.int .i64 n)) (c1 : W.cell? ⟨gc, oc + 1, none⟩ = some (.int .i64 i)) (c2 : W.cell? ⟨gc, oc + 2, none⟩ = some (.string t)) (hz : gc < W.heap.size) :
    Calls Try.prog 166 #[.agg #[.pointer (some ⟨gc, oc, none⟩)]] W fun r w' => r = .returned (.agg #[.int .i64 n, .int .i64 i, .string t]) ∧ Below W.heap.size W w' := by
  have hne1 : gc ≠ W.heap.size := by omega
  have hne2 : gc ≠ W.heap.size + 1 := by omega
  go_enter Try.func166, Try.ntmps166
  go_wp2
  refine bodyPost_ret (v := .agg #[.int .i64 n, .int .i64 i, .string t]) (by simp [results, Try.results166, go_sem, *]) rfl ⟨rfl, (by repeat (first | refine Below.setCell ?_ (by (try simp) <;> omega) _ | refine Below.alloc ?_ (by (try simp) <;> omega) _ | refine Below.drew ?_ | assumption | exact Below.refl _ _ | refine Below.trans ?_ (Below.mono (by assumption) (by (try simp) <;> omega))))⟩

set_option maxRecDepth 100000 in
set_option maxHeartbeats 4000000 in
theorem learn_n (W0 W : World) (lo gc oc go oo : Nat) (S0 : Nat → Prop) (v1 : Value) (B1 : Nat → Prop) (n i : Int) (t : ByteArray) (ec : List Value) (sn : List (Sh.T .int)) (b0 b1 : Int) (b2 : ByteArray) (m j : Int) (u : ByteArray) (hu : u.size ≤ 281474976710656) (hm : nwC (n, i, t, ()) (b0, b1, b2, ()) = (m, j, u, ())) (h : Loc W0 lo gc oc go oo S0 W v1 B1 (cpC n i t) ec sn) :
    Calls Try.prog 167 #[.agg #[.pointer (some ⟨gc, oc, none⟩)], .agg #[.int .i64 b0, .int .i64 b1, .string b2]] W fun r w' => r = .returned (.tuple #[]) ∧ Loc W0 lo gc oc go oo S0 w' v1 B1 (cpC m j u) ec sn := by
  have hz := h.lt1
  have hgw : gc ≠ W.heap.size := by omega
  have hgw1 : gc ≠ W.heap.size + 1 := by omega
  obtain ⟨w1, hw1⟩ : ∃ x, x = (W.alloc (.cells #[.pointer (some ⟨gc, oc, none⟩)] 155)).alloc (.cells #[.int .i64 b0, .int .i64 b1, .string b2] 48) := ⟨_, rfl⟩
  have hb1 : Below W.heap.size W w1 := hw1 ▸ ((Below.refl _ _).alloc (Nat.le_refl _) _).alloc (by simp) _
  have H1 : Hid (Loc W0 lo gc oc go oo S0 w1.drew v1 B1 (cpC n i t) ec sn ∧ Bx w1.drew W.heap.size [.pointer (some ⟨gc, oc, none⟩)] ∧ Bx w1.drew (W.heap.size + 1) [.int .i64 b0, .int .i64 b1, .string b2]) := by
    have e1 : Loc W0 lo gc oc go oo S0 w1 v1 B1 (cpC n i t) ec sn := h.next hb1
    have e2 : Bx w1 W.heap.size [.pointer (some ⟨gc, oc, none⟩)] := hw1 ▸ (Bx.new W [_] _).alloc _
    have e3 : Bx w1 (W.heap.size + 1) [.int .i64 b0, .int .i64 b1, .string b2] := hw1 ▸ Bx.newAt (by simp)
    exact ⟨e1.next (below_drew _), e2.next (below_drew _), e3.next (below_drew _)⟩
  have HM : Hid (nwC (n, i, t, ()) (b0, b1, b2, ()) = (m, j, u, ()) ∧ u.size ≤ 281474976710656) := ⟨hm, hu⟩
  clear h hb1 hm hu
  go_enter Try.func167, Try.ntmps167
  go_upto_region 1 with fail
  rw [← hw1]
  clear hw1
  refine wp_region_noPanic ?_
  refine wp_region_held_drew (S := fun X => Bx X W.heap.size [.pointer (some ⟨gc, oc, none⟩)] ∧ Bx X (W.heap.size + 1) [.int .i64 b0, .int .i64 b1, .string b2]) (by kernel_rfl) ⟨H1.out.2.1, H1.out.2.2⟩ (fun hHeld => ?_)
  obtain ⟨X0, hX0⟩ : ∃ x, x = w1.drew := ⟨_, rfl⟩
  rw [← hX0] at H1 hHeld ⊢
  clear hX0
  refine take_v (v := ?_) 0 ⟨some 4, Op.fieldAddr 155 (Operand.tmp 2) 0, _, _, _, none⟩ rfl (fun _ _ _ h => h) ?_ hHeld ?_
  rotate_left
  · (intro W _; go_simp <;> (try with_reducible rfl))
  refine take_v (v := ?_) 1 ⟨some 5, Op.load 153 (Operand.tmp 4), _, _, _, none⟩ rfl (fun _ _ _ h => h) ?_ hHeld ?_
  rotate_left
  · (intro W hSW; (have s0 := hSW.1.cell 0 rfl; have sz := hSW.1.2; have t0 := hSW.2.cell 0 rfl; have t1 := hSW.2.cell 1 rfl; have t2 := hSW.2.cell 2 rfl; have tz := hSW.2.2); go_simp <;> (try with_reducible rfl))
  refine take_v (v := ?_) 2 ⟨some 6, Op.fieldAddr 155 (Operand.tmp 2) 0, _, _, _, none⟩ rfl (fun _ _ _ h => h) ?_ hHeld ?_
  rotate_left
  · (intro W _; go_simp <;> (try with_reducible rfl))
  refine take_v (v := ?_) 3 ⟨some 7, Op.load 153 (Operand.tmp 6), _, _, _, none⟩ rfl (fun _ _ _ h => h) ?_ hHeld ?_
  rotate_left
  · (intro W hSW; (have s0 := hSW.1.cell 0 rfl; have sz := hSW.1.2; have t0 := hSW.2.cell 0 rfl; have t1 := hSW.2.cell 1 rfl; have t2 := hSW.2.cell 2 rfl; have tz := hSW.2.2); go_simp <;> (try with_reducible rfl))
  refine take_v (v := ?_) 4 ⟨some 8, Op.nilCheck (Operand.tmp 7), _, _, _, none⟩ rfl (fun _ _ _ h => h) ?_ hHeld ?_
  rotate_left
  · (intro W _; go_simp <;> (try with_reducible rfl))
  refine take_v (v := ?_) 6 ⟨some 10, Op.load 48 (Operand.tmp 3), _, _, _, none⟩ rfl (fun _ _ _ h => h) ?_ hHeld ?_
  rotate_left
  · (intro W hSW; (have s0 := hSW.1.cell 0 rfl; have sz := hSW.1.2; have t0 := hSW.2.cell 0 rfl; have t1 := hSW.2.cell 1 rfl; have t2 := hSW.2.cell 2 rfl; have tz := hSW.2.2); go_simp <;> (try with_reducible rfl))
  refine ready_call 5 ⟨some 9, Op.load 48 (Operand.tmp 8), _, _, _, none⟩ (by kernel_rfl) rfl (by kernel_rfl) (fun KC hK => ?_)
  have q0 : X0.cell? ⟨gc, oc, none⟩ = some (.int .i64 n) := H1.out.1.cC 0 rfl
  have q1 : X0.cell? ⟨gc, oc + 1, none⟩ = some (.int .i64 i) := H1.out.1.cC 1 rfl
  have q2 : X0.cell? ⟨gc, oc + 2, none⟩ = some (.string t) := H1.out.1.cC 2 rfl
  have qz := H1.out.1.lt1
  go_wp2_with fail
  clear q0 q1 q2 qz
  refine hK.out _ _ hHeld (fun hHeld => ?_)
  clear hK KC
  refine ready_call 7 ⟨some 11, Op.call { callee := Callee.value (Operand.func 71), args := #[Operand.tmp 9, Operand.tmp 10], argTypes := #[48, 48] }, _, _, _, none⟩ (by kernel_rfl) rfl (by kernel_rfl) (fun KC hK => ?_)
  go_wp2_with fail
  refine (newerOf_c n i t b0 b1 b2 m j u _ HM.out.1).mono ?_
  rintro r X1 ⟨rfl, hb⟩
  have H2 : Hid (Loc W0 lo gc oc go oo S0 X1 v1 B1 (cpC n i t) ec sn ∧ Bx X1 W.heap.size [.pointer (some ⟨gc, oc, none⟩)] ∧ Bx X1 (W.heap.size + 1) [.int .i64 b0, .int .i64 b1, .string b2]) := ⟨H1.out.1.next hb, H1.out.2.1.next hb, H1.out.2.2.next hb⟩
  clear hb
  refine hK.out _ _ H2.out.2 (fun hHeld => ?_)
  clear hK KC
  refine ready_call 8 ⟨some 12, Op.call { callee := Callee.value (Operand.func 72), args := #[Operand.tmp 11], argTypes := #[48] }, _, _, _, none⟩ (by kernel_rfl) rfl (by kernel_rfl) (fun KC hK => ?_)
  go_wp2_with fail
  refine (cloneCopy_n m j u _ HM.out.2).mono ?_
  rintro r X2 ⟨rfl, hb⟩
  have H3 : Hid (Loc W0 lo gc oc go oo S0 X2 v1 B1 (cpC n i t) ec sn ∧ Bx X2 W.heap.size [.pointer (some ⟨gc, oc, none⟩)] ∧ Bx X2 (W.heap.size + 1) [.int .i64 b0, .int .i64 b1, .string b2]) := ⟨H2.out.1.next hb, H2.out.2.1.next hb, H2.out.2.2.next hb⟩
  clear hb
  refine hK.out _ _ H3.out.2 (fun hHeld => ?_)
  clear hK KC
  refine take_v (v := ?_) 9 ⟨some 13, Op.nilCheck (Operand.tmp 5), _, _, _, none⟩ rfl (fun _ _ _ h => h) ?_ hHeld ?_
  rotate_left
  · (intro W _; go_simp <;> (try with_reducible rfl))
  refine ready_call 10 ⟨none, Op.store 48 (Operand.tmp 13) (Operand.tmp 12), _, _, _, none⟩ (by kernel_rfl) rfl (by kernel_rfl) (fun KC hK => ?_)
  have q0 : X2.cell? ⟨gc, oc, none⟩ = some (.int .i64 n) := H3.out.1.cC 0 rfl
  have q1 : X2.cell? ⟨gc, oc + 1, none⟩ = some (.int .i64 i) := H3.out.1.cC 1 rfl
  have q2 : X2.cell? ⟨gc, oc + 2, none⟩ = some (.string t) := H3.out.1.cC 2 rfl
  have f0 := H3.out.1.1.frz oc
  have f1 := H3.out.1.1.frz (oc + 1)
  have f2 := H3.out.1.1.frz (oc + 2)
  have qz := H3.out.1.lt1
  go_wp2_with fail
  have HF := Hid.intro (((H3.out.1.setC (j := 0) (by simp) (.int .i64 m)).setC (j := 1) (by simp) (.int .i64 j)).setC (j := 2) (by simp) (.string u))
  clear q0 q1 q2 f0 f1 f2 qz
  refine hK.out _ _ ⟨((H3.out.2.1.other (Ne.symm hgw)).other (Ne.symm hgw)).other (Ne.symm hgw), ((H3.out.2.2.other (Ne.symm hgw1)).other (Ne.symm hgw1)).other (Ne.symm hgw1)⟩ (fun hHeld => ?_)
  clear hK KC
  refine wpAnyH_done (by kernel_rfl) ?_ _
  refine NoPanic.normal ?_
  clear hHeld
  go_wp2
  go_end0
  exact ⟨rfl, HF.out⟩

/-- A node behind an interface. -/
abbrev KV (gc oc : Nat) : Value := .iface 155 (.agg #[.pointer (some ⟨gc, oc, none⟩)])

set_option maxRecDepth 100000 in
set_option maxHeartbeats 4000000 in
theorem meet1_n (W0 W : World) (lo gc oc go oo : Nat) (S0 : Nat → Prop) (v1 : Value) (B1 : Nat → Prop) (n i : Int) (t : ByteArray) (x0 : Int) (x1 : Bool) (x2 : ByteArray) (b0 b1 : Int) (b2 : ByteArray) (x8 x9 : Int) (sn : List (Sh.T .int)) (m j : Int) (u : ByteArray) (hu : u.size ≤ 281474976710656) (hm : nwC (b0, b1, b2, ()) (n, i, t, ()) = (m, j, u, ())) (h : Loc W0 lo gc oc go oo S0 W v1 B1 (cpC n i t) (opC x0 x1 x2 1 v1 b0 b1 b2 x8 x9) sn) :
    Calls Try.prog 121 #[.pointer (some ⟨go, oo, none⟩), KV gc oc] W fun r w' => r = .returned (.tuple #[]) ∧ Loc W0 lo gc oc go oo S0 w' v1 B1 (cpC n i t) (opC x0 x1 x2 1 v1 m j u x8 x9) sn := by
  have H0 : Hid (Loc W0 lo gc oc go oo S0 W v1 B1 (cpC n i t) (opC x0 x1 x2 1 v1 b0 b1 b2 x8 x9) sn) := h
  have HM : Hid (nwC (b0, b1, b2, ()) (n, i, t, ()) = (m, j, u, ()) ∧ u.size ≤ 281474976710656) := ⟨hm, hu⟩
  have q3 : W.cell? ⟨go, oo + 3, none⟩ = some (.int .i64 1) := h.cO 3 rfl
  have qz := h.lt2
  clear h hm hu
  go_enter Try.func121, Try.ntmps121
  go_upto_region 1 with fail
  clear q3 qz
  have H1 : Hid (Loc W0 lo gc oc go oo S0 W.drew v1 B1 (cpC n i t) (opC x0 x1 x2 1 v1 b0 b1 b2 x8 x9) sn) := H0.out.next (below_drew _)
  refine wp_region_noPanic ?_
  refine wp_region_held_drew (S := fun _ => True) (by kernel_rfl) trivial (fun hHeld => ?_)
  obtain ⟨X0, hX0⟩ : ∃ x, x = W.drew := ⟨_, rfl⟩
  rw [← hX0] at H1 ⊢
  clear hX0
  refine take_v (v := ?_) 0 ⟨some 11, Op.move (Operand.tmp 0), _, _, _, none⟩ rfl (fun _ _ _ h => h) ?_ hHeld ?_
  rotate_left
  · (intro W _; go_simp <;> (try with_reducible rfl))
  refine take_v (v := ?_) 1 ⟨some 12, Op.move (Operand.tmp 0), _, _, _, none⟩ rfl (fun _ _ _ h => h) ?_ hHeld ?_
  rotate_left
  · (intro W _; go_simp <;> (try with_reducible rfl))
  refine take_v (v := ?_) 2 ⟨some 13, Op.nilCheck (Operand.tmp 12), _, _, _, none⟩ rfl (fun _ _ _ h => h) ?_ hHeld ?_
  rotate_left
  · (intro W _; go_simp <;> (try with_reducible rfl))
  refine take_v (v := ?_) 3 ⟨some 14, Op.fieldAddr 53 (Operand.tmp 13) 5, _, _, _, none⟩ rfl (fun _ _ _ h => h) ?_ hHeld ?_
  rotate_left
  · (intro W _; go_simp <;> (try with_reducible rfl))
  refine take_v (v := ?_) 5 ⟨some 16, Op.move (Operand.tmp 1), _, _, _, none⟩ rfl (fun _ _ _ h => h) ?_ hHeld ?_
  rotate_left
  · (intro W _; go_simp <;> (try with_reducible rfl))
  refine ready_two 4 6 ⟨some 15, Op.load 48 (Operand.tmp 14), _, _, _, none⟩ ⟨some 17, Op.call { callee := Callee.invoke (Operand.tmp 16) "loop.example/g00218/impl.kept", args := #[], argTypes := #[] }, _, _, _, none⟩ (by kernel_rfl) rfl rfl (by kernel_rfl) (by kernel_rfl) (fun KC hK => ?_) (fun KC hK => ?_)
  ·
    have q5 := H1.out.cO 5 rfl
    have q6 := H1.out.cO 6 rfl
    have q7 := H1.out.cO 7 rfl
    have qz := H1.out.lt2
    go_wp2_with fail
    clear q5 q6 q7 qz
    refine hK.out _ _ trivial (fun hHeld => ?_)
    clear hK KC
    refine ready_call 6 ⟨some 17, Op.call { callee := Callee.invoke (Operand.tmp 16) "loop.example/g00218/impl.kept", args := #[], argTypes := #[] }, _, _, _, none⟩ (by kernel_rfl) rfl (by kernel_rfl) (fun KC hK => ?_)
    have hmk : ∀ w : World, (method 303 155 (.agg #[.pointer (some ⟨gc, oc, none⟩)]) "loop.example/g00218/impl.kept").run Try.prog w = .ok (166, .agg #[.pointer (some ⟨gc, oc, none⟩)]) w := fun _ => by kernel_rfl
    go_wp2_with (go_at_call 166; refine (kept_n gc oc n i t _ (H1.out.cC 0 rfl) (H1.out.cC 1 rfl) (H1.out.cC 2 rfl) H1.out.lt1).mono ?_; rintro r X1 ⟨rfl, hb⟩)
    have H1 : Hid (Loc W0 lo gc oc go oo S0 X1 v1 B1 (cpC n i t) (opC x0 x1 x2 1 v1 b0 b1 b2 x8 x9) sn) := H1.out.next hb
    clear hb hmk
    refine hK.out _ _ trivial (fun hHeld => ?_)
    clear hK KC
    refine ready_call 7 ⟨some 18, Op.call { callee := Callee.value (Operand.func 71), args := #[Operand.tmp 15, Operand.tmp 17], argTypes := #[48, 48] }, _, _, _, none⟩ (by kernel_rfl) rfl (by kernel_rfl) (fun KC hK => ?_)
    go_wp2_with fail
    refine (newerOf_c b0 b1 b2 n i t m j u _ HM.out.1).mono ?_
    rintro r X2 ⟨rfl, hb⟩
    have H2 : Hid (Loc W0 lo gc oc go oo S0 X2 v1 B1 (cpC n i t) (opC x0 x1 x2 1 v1 b0 b1 b2 x8 x9) sn) := H1.out.next hb
    clear hb
    refine hK.out _ _ trivial (fun hHeld => ?_)
    clear hK KC
    refine ready_call 8 ⟨some 19, Op.call { callee := Callee.value (Operand.func 72), args := #[Operand.tmp 18], argTypes := #[48] }, _, _, _, none⟩ (by kernel_rfl) rfl (by kernel_rfl) (fun KC hK => ?_)
    go_wp2_with fail
    refine (cloneCopy_n m j u _ HM.out.2).mono ?_
    rintro r X3 ⟨rfl, hb⟩
    have H3 : Hid (Loc W0 lo gc oc go oo S0 X3 v1 B1 (cpC n i t) (opC x0 x1 x2 1 v1 b0 b1 b2 x8 x9) sn) := H2.out.next hb
    clear hb
    refine hK.out _ _ trivial (fun hHeld => ?_)
    clear hK KC
    refine take_v (v := ?_) 9 ⟨some 20, Op.nilCheck (Operand.tmp 11), _, _, _, none⟩ rfl (fun _ _ _ h => h) ?_ hHeld ?_
    rotate_left
    · (intro W _; go_simp <;> (try with_reducible rfl))
    refine take_v (v := ?_) 10 ⟨some 21, Op.fieldAddr 53 (Operand.tmp 20) 5, _, _, _, none⟩ rfl (fun _ _ _ h => h) ?_ hHeld ?_
    rotate_left
    · (intro W _; go_simp <;> (try with_reducible rfl))
    refine ready_call 11 ⟨none, Op.store 48 (Operand.tmp 21) (Operand.tmp 19), _, _, _, none⟩ (by kernel_rfl) rfl (by kernel_rfl) (fun KC hK => ?_)
    have q5 := H3.out.cO 5 rfl
    have q6 := H3.out.cO 6 rfl
    have q7 := H3.out.cO 7 rfl
    have f5 := H3.out.2.1.frz (oo + 5)
    have f6 := H3.out.2.1.frz (oo + 6)
    have f7 := H3.out.2.1.frz (oo + 7)
    have qz := H3.out.lt2
    go_wp2_with fail
    have HF := Hid.intro (((H3.out.setO (j := 5) (by simp) (.int .i64 m)).setO (j := 6) (by simp) (.int .i64 j)).setO (j := 7) (by simp) (.string u))
    clear q5 q6 q7 f5 f6 f7 qz
    refine hK.out _ _ trivial (fun hHeld => ?_)
    clear hK KC
    refine wpAnyH_done (by kernel_rfl) ?_ _
    refine NoPanic.normal ?_
    go_wp2
    exact bodyPost_ret (v := .tuple #[]) (by simp [results, Try.results121, go_sem]) rfl ⟨rfl, HF.out⟩
  ·
    have hmk : ∀ w : World, (method 303 155 (.agg #[.pointer (some ⟨gc, oc, none⟩)]) "loop.example/g00218/impl.kept").run Try.prog w = .ok (166, .agg #[.pointer (some ⟨gc, oc, none⟩)]) w := fun _ => by kernel_rfl
    go_wp2_with (go_at_call 166; refine (kept_n gc oc n i t _ (H1.out.cC 0 rfl) (H1.out.cC 1 rfl) (H1.out.cC 2 rfl) H1.out.lt1).mono ?_; rintro r X1 ⟨rfl, hb⟩)
    have H1 : Hid (Loc W0 lo gc oc go oo S0 X1 v1 B1 (cpC n i t) (opC x0 x1 x2 1 v1 b0 b1 b2 x8 x9) sn) := H1.out.next hb
    clear hb hmk
    refine hK.out _ _ trivial (fun hHeld => ?_)
    clear hK KC
    refine ready_call 4 ⟨some 15, Op.load 48 (Operand.tmp 14), _, _, _, none⟩ (by kernel_rfl) rfl (by kernel_rfl) (fun KC hK => ?_)
    have q5 := H1.out.cO 5 rfl
    have q6 := H1.out.cO 6 rfl
    have q7 := H1.out.cO 7 rfl
    have qz := H1.out.lt2
    go_wp2_with fail
    clear q5 q6 q7 qz
    refine hK.out _ _ trivial (fun hHeld => ?_)
    clear hK KC
    refine ready_call 7 ⟨some 18, Op.call { callee := Callee.value (Operand.func 71), args := #[Operand.tmp 15, Operand.tmp 17], argTypes := #[48, 48] }, _, _, _, none⟩ (by kernel_rfl) rfl (by kernel_rfl) (fun KC hK => ?_)
    go_wp2_with fail
    refine (newerOf_c b0 b1 b2 n i t m j u _ HM.out.1).mono ?_
    rintro r X2 ⟨rfl, hb⟩
    have H2 : Hid (Loc W0 lo gc oc go oo S0 X2 v1 B1 (cpC n i t) (opC x0 x1 x2 1 v1 b0 b1 b2 x8 x9) sn) := H1.out.next hb
    clear hb
    refine hK.out _ _ trivial (fun hHeld => ?_)
    clear hK KC
    refine ready_call 8 ⟨some 19, Op.call { callee := Callee.value (Operand.func 72), args := #[Operand.tmp 18], argTypes := #[48] }, _, _, _, none⟩ (by kernel_rfl) rfl (by kernel_rfl) (fun KC hK => ?_)
    go_wp2_with fail
    refine (cloneCopy_n m j u _ HM.out.2).mono ?_
    rintro r X3 ⟨rfl, hb⟩
    have H3 : Hid (Loc W0 lo gc oc go oo S0 X3 v1 B1 (cpC n i t) (opC x0 x1 x2 1 v1 b0 b1 b2 x8 x9) sn) := H2.out.next hb
    clear hb
    refine hK.out _ _ trivial (fun hHeld => ?_)
    clear hK KC
    refine take_v (v := ?_) 9 ⟨some 20, Op.nilCheck (Operand.tmp 11), _, _, _, none⟩ rfl (fun _ _ _ h => h) ?_ hHeld ?_
    rotate_left
    · (intro W _; go_simp <;> (try with_reducible rfl))
    refine take_v (v := ?_) 10 ⟨some 21, Op.fieldAddr 53 (Operand.tmp 20) 5, _, _, _, none⟩ rfl (fun _ _ _ h => h) ?_ hHeld ?_
    rotate_left
    · (intro W _; go_simp <;> (try with_reducible rfl))
    refine ready_call 11 ⟨none, Op.store 48 (Operand.tmp 21) (Operand.tmp 19), _, _, _, none⟩ (by kernel_rfl) rfl (by kernel_rfl) (fun KC hK => ?_)
    have q5 := H3.out.cO 5 rfl
    have q6 := H3.out.cO 6 rfl
    have q7 := H3.out.cO 7 rfl
    have f5 := H3.out.2.1.frz (oo + 5)
    have f6 := H3.out.2.1.frz (oo + 6)
    have f7 := H3.out.2.1.frz (oo + 7)
    have qz := H3.out.lt2
    go_wp2_with fail
    have HF := Hid.intro (((H3.out.setO (j := 5) (by simp) (.int .i64 m)).setO (j := 6) (by simp) (.int .i64 j)).setO (j := 7) (by simp) (.string u))
    clear q5 q6 q7 f5 f6 f7 qz
    refine hK.out _ _ trivial (fun hHeld => ?_)
    clear hK KC
    refine wpAnyH_done (by kernel_rfl) ?_ _
    refine NoPanic.normal ?_
    go_wp2
    exact bodyPost_ret (v := .tuple #[]) (by simp [results, Try.results121, go_sem]) rfl ⟨rfl, HF.out⟩

set_option maxRecDepth 100000 in
set_option maxHeartbeats 4000000 in
theorem meet2_n (W0 W : World) (lo gc oc go oo : Nat) (S0 : Nat → Prop) (v1 : Value) (B1 : Nat → Prop) (n i : Int) (t : ByteArray) (x0 : Int) (x1 : Bool) (x2 : ByteArray) (b0 b1 : Int) (b2 : ByteArray) (x8 x9 : Int) (sn : List (Sh.T .int)) (m j : Int) (u : ByteArray) (hu : u.size ≤ 281474976710656) (hm : nwC (n, i, t, ()) (b0, b1, b2, ()) = (m, j, u, ())) (h : Loc W0 lo gc oc go oo S0 W v1 B1 (cpC n i t) (opC x0 x1 x2 2 v1 b0 b1 b2 x8 x9) sn) :
    Calls Try.prog 121 #[.pointer (some ⟨go, oo, none⟩), KV gc oc] W fun r w' => r = .returned (.tuple #[]) ∧ Loc W0 lo gc oc go oo S0 w' v1 B1 (cpC m j u) (opC x0 x1 x2 2 v1 b0 b1 b2 x8 x9) sn := by
  have H0 : Hid (Loc W0 lo gc oc go oo S0 W v1 B1 (cpC n i t) (opC x0 x1 x2 2 v1 b0 b1 b2 x8 x9) sn) := h
  have HM : Hid (nwC (n, i, t, ()) (b0, b1, b2, ()) = (m, j, u, ()) ∧ u.size ≤ 281474976710656) := ⟨hm, hu⟩
  have q3 : W.cell? ⟨go, oo + 3, none⟩ = some (.int .i64 2) := h.cO 3 rfl
  have qz := h.lt2
  clear h hm hu
  have hta : ∀ w : World, (Instr.typeAssert (KV gc oc) 170 173 true).run Try.prog w = .ok (.tuple #[KV gc oc, .bool true]) w := fun _ => by kernel_rfl
  go_enter Try.func121, Try.ntmps121
  go_upto_region 4 with fail
  clear q3 qz hta
  have H1 : Hid (Loc W0 lo gc oc go oo S0 W.drew v1 B1 (cpC n i t) (opC x0 x1 x2 2 v1 b0 b1 b2 x8 x9) sn) := H0.out.next (below_drew _)
  have hna : ∀ w : World, (nilAhead 303 155 (.agg #[.pointer (some ⟨gc, oc, none⟩)]) "loop.example/g00218/impl.learn").run Try.prog w = .ok (some false) w := fun _ => by kernel_rfl
  have hmk : ∀ w : World, (method 303 155 (.agg #[.pointer (some ⟨gc, oc, none⟩)]) "loop.example/g00218/impl.learn").run Try.prog w = .ok (167, .agg #[.pointer (some ⟨gc, oc, none⟩)]) w := fun _ => by kernel_rfl
  refine wp_region_noPanic ?_
  refine wp_region_held_drew (S := fun _ => True) (by kernel_rfl) trivial (fun hHeld => ?_)
  obtain ⟨X0, hX0⟩ : ∃ x, x = W.drew := ⟨_, rfl⟩
  rw [← hX0] at H1 ⊢
  clear hX0
  refine take_v (v := ?_) 0 ⟨some 28, Op.move (Operand.tmp 4), _, _, _, none⟩ rfl (fun _ _ _ h => h) ?_ hHeld ?_
  rotate_left
  · (intro W _; go_simp <;> (try with_reducible rfl))
  refine take_v (v := ?_) 1 ⟨some 29, Op.move (Operand.tmp 0), _, _, _, none⟩ rfl (fun _ _ _ h => h) ?_ hHeld ?_
  rotate_left
  · (intro W _; go_simp <;> (try with_reducible rfl))
  refine take_v (v := ?_) 2 ⟨some 30, Op.nilCheck (Operand.tmp 29), _, _, _, none⟩ rfl (fun _ _ _ h => h) ?_ hHeld ?_
  rotate_left
  · (intro W _; go_simp <;> (try with_reducible rfl))
  refine take_v (v := ?_) 3 ⟨some 31, Op.fieldAddr 53 (Operand.tmp 30) 5, _, _, _, none⟩ rfl (fun _ _ _ h => h) ?_ hHeld ?_
  rotate_left
  · (intro W _; go_simp <;> (try with_reducible rfl))
  refine ready_two 4 5 ⟨some 32, Op.load 48 (Operand.tmp 31), _, _, _, none⟩ ⟨some 33, Op.makeFunc (Fn.method "loop.example/g00218/impl.learn") #[Operand.tmp 28] #[], _, _, _, none⟩ (by kernel_rfl) rfl rfl (by kernel_rfl) (by kernel_rfl) (fun KC hK => ?_) (fun KC hK => ?_)
  ·
    have q5 := H1.out.cO 5 rfl
    have q6 := H1.out.cO 6 rfl
    have q7 := H1.out.cO 7 rfl
    have qz := H1.out.lt2
    go_wp2_with fail
    clear q5 q6 q7 qz
    refine hK.out _ _ trivial (fun hHeld => ?_)
    clear hK KC
    refine ready_call 5 ⟨some 33, Op.makeFunc (Fn.method "loop.example/g00218/impl.learn") #[Operand.tmp 28] #[], _, _, _, none⟩ (by kernel_rfl) rfl (by kernel_rfl) (fun KC hK => ?_)
    go_wp2_with fail
    refine hK.out _ _ trivial (fun hHeld => ?_)
    clear hK KC
    refine take_v (v := ?_) 6 ⟨some 34, Op.nilCheck (Operand.tmp 33), _, _, _, none⟩ rfl (fun _ _ _ h => h) ?_ hHeld ?_
    rotate_left
    · (intro W _; go_simp <;> (try with_reducible rfl))
    refine take_v (v := ?_) 7 ⟨some 35, Op.move (Operand.tmp 28), _, _, _, none⟩ rfl (fun _ _ _ h => h) ?_ hHeld ?_
    rotate_left
    · (intro W _; go_simp <;> (try with_reducible rfl))
    refine ready_call 8 ⟨some 36, Op.call { callee := Callee.invoke (Operand.tmp 35) "loop.example/g00218/impl.learn", args := #[Operand.tmp 32], argTypes := #[48] }, _, _, _, none⟩ (by kernel_rfl) rfl (by kernel_rfl) (fun KC hK => ?_)
    go_wp2_with (go_at_call 167; refine (learn_n W0 _ lo gc oc go oo S0 v1 B1 n i t _ sn b0 b1 b2 m j u HM.out.2 HM.out.1 H1.out).mono ?_; rintro r X2 ⟨rfl, hL⟩)
    have HF := Hid.intro hL
    clear hL
    refine hK.out _ _ trivial (fun hHeld => ?_)
    clear hK KC
    refine wpAnyH_done (by kernel_rfl) ?_ _
    refine NoPanic.normal ?_
    go_wp2
    go_end0
    exact ⟨rfl, HF.out⟩
  ·
    go_wp2_with fail
    refine hK.out _ _ trivial (fun hHeld => ?_)
    clear hK KC
    refine take_v (v := ?_) 6 ⟨some 34, Op.nilCheck (Operand.tmp 33), _, _, _, none⟩ rfl (fun _ _ _ h => h) ?_ hHeld ?_
    rotate_left
    · (intro W _; go_simp <;> (try with_reducible rfl))
    refine take_v (v := ?_) 7 ⟨some 35, Op.move (Operand.tmp 28), _, _, _, none⟩ rfl (fun _ _ _ h => h) ?_ hHeld ?_
    rotate_left
    · (intro W _; go_simp <;> (try with_reducible rfl))
    refine ready_call 4 ⟨some 32, Op.load 48 (Operand.tmp 31), _, _, _, none⟩ (by kernel_rfl) rfl (by kernel_rfl) (fun KC hK => ?_)
    have q5 := H1.out.cO 5 rfl
    have q6 := H1.out.cO 6 rfl
    have q7 := H1.out.cO 7 rfl
    have qz := H1.out.lt2
    go_wp2_with fail
    clear q5 q6 q7 qz
    refine hK.out _ _ trivial (fun hHeld => ?_)
    clear hK KC
    refine ready_call 8 ⟨some 36, Op.call { callee := Callee.invoke (Operand.tmp 35) "loop.example/g00218/impl.learn", args := #[Operand.tmp 32], argTypes := #[48] }, _, _, _, none⟩ (by kernel_rfl) rfl (by kernel_rfl) (fun KC hK => ?_)
    go_wp2_with (go_at_call 167; refine (learn_n W0 _ lo gc oc go oo S0 v1 B1 n i t _ sn b0 b1 b2 m j u HM.out.2 HM.out.1 H1.out).mono ?_; rintro r X2 ⟨rfl, hL⟩)
    have HF := Hid.intro hL
    clear hL
    refine hK.out _ _ trivial (fun hHeld => ?_)
    clear hK KC
    refine wpAnyH_done (by kernel_rfl) ?_ _
    refine NoPanic.normal ?_
    go_wp2
    go_end0
    exact ⟨rfl, HF.out⟩

/-- What the op's phase ends with. -/
def enB (x1 : Bool) (b0 x0 : Int) : Int := if x1 = true then b0 + 1 else b0
set_option maxRecDepth 100000 in
set_option maxHeartbeats 4000000 in
theorem end2_n (W0 W : World) (lo gc oc go oo : Nat) (S0 : Nat → Prop) (v1 : Value) (B1 : Nat → Prop) (cc : List Value) (x0 : Int) (x1 : Bool) (x2 : ByteArray) (b0 b1 : Int) (b2 : ByteArray) (x8 x9 : Int) (sn : List (Sh.T .int)) (ck : Int) (h : Loc W0 lo gc oc go oo S0 W v1 B1 cc (opC x0 x1 x2 2 v1 b0 b1 b2 x8 x9) sn) :
    Calls Try.prog 123 #[.pointer (some ⟨go, oo, none⟩), .int .i64 ck] W fun r w' => r = .returned (.tuple #[]) ∧ Loc W0 lo gc oc go oo S0 w' (.slice none 0 0) (fun _ => False) cc (opC x0 x1 x2 3 (.slice none 0 0) b0 b1 b2 x8 ck) [] := by
  have H0 : Hid (Loc W0 lo gc oc go oo S0 W v1 B1 cc (opC x0 x1 x2 2 v1 b0 b1 b2 x8 x9) sn) := h
  have HF := Hid.intro (((h.none.setO (j := 4) (by simp) (.slice none 0 0)).setO (j := 3) (by simp) (.int .i64 3)).setO (j := 9) (by simp) (.int .i64 ck))
  have q3 : W.cell? ⟨go, oo + 3, none⟩ = some (.int .i64 2) := h.cO 3 rfl
  have q4 : W.cell? ⟨go, oo + 4, none⟩ = some v1 := h.cO 4 rfl
  have q9 : W.cell? ⟨go, oo + 9, none⟩ = some (.int .i64 x9) := h.cO 9 rfl
  have f3 := h.2.1.frz (oo + 3)
  have f4 := h.2.1.frz (oo + 4)
  have f9 := h.2.1.frz (oo + 9)
  have qz := h.lt2
  clear h
  go_enter Try.func123, Try.ntmps123
  go_wp2
  exact bodyPost_ret (v := .tuple #[]) (by simp [results, Try.results123, go_sem]) rfl ⟨rfl, HF.out⟩

set_option maxRecDepth 100000 in
set_option maxHeartbeats 4000000 in
theorem end1_n (W0 W : World) (lo gc oc go oo : Nat) (S0 : Nat → Prop) (v1 : Value) (B1 : Nat → Prop) (cc : List Value) (x0 : Int) (x1 : Bool) (x2 : ByteArray) (b0 b1 : Int) (b2 : ByteArray) (x8 x9 : Int) (sn : List (Sh.T .int)) (ck d0 d1 : Int) (d2 : ByteArray) (hb : 0 ≤ b0 ∧ b0 ≤ 1000) (h2 : x2.size ≤ 281474976710656) (hd : (if x1 = true then mkCp (b0 + 1) x0 x2 else mkCp b0 b1 b2 : Sh.T shCopy) = (d0, d1, d2, ())) (h : Loc W0 lo gc oc go oo S0 W v1 B1 cc (opC x0 x1 x2 1 v1 b0 b1 b2 x8 x9) sn) :
    Calls Try.prog 123 #[.pointer (some ⟨go, oo, none⟩), .int .i64 ck] W fun r w' => r = .returned (.tuple #[]) ∧ Loc W0 lo gc oc go oo S0 w' (.slice none 0 0) (fun _ => False) cc (opC x0 x1 x2 2 (.slice none 0 0) d0 d1 d2 x8 x9) [] := by
  have H0 : Hid (Loc W0 lo gc oc go oo S0 ((W.setCell ⟨go, oo + 4, none⟩ (.slice none 0 0)).setCell ⟨go, oo + 3, none⟩ (.int .i64 2)) (.slice none 0 0) (fun _ => False) cc (opC x0 x1 x2 2 (.slice none 0 0) b0 b1 b2 x8 x9) []) := (h.none.setO (j := 4) (by simp) (.slice none 0 0)).setO (j := 3) (by simp) (.int .i64 2)
  have q1 : W.cell? ⟨go, oo + 1, none⟩ = some (.bool x1) := h.cO 1 rfl
  have q3 : W.cell? ⟨go, oo + 3, none⟩ = some (.int .i64 1) := h.cO 3 rfl
  have q4 : W.cell? ⟨go, oo + 4, none⟩ = some v1 := h.cO 4 rfl
  have f3 := h.2.1.frz (oo + 3)
  have f4 := h.2.1.frz (oo + 4)
  have qz := h.lt2
  have HX : Hid (x2.size ≤ 281474976710656) := h2
  have hw : IntKind.i64.wrap (b0 + 1) = b0 + 1 := w64 (by omega) (by omega)
  clear h h2
  cases x1
  · have hd : (mkCp b0 b1 b2 : Sh.T shCopy) = (d0, d1, d2, ()) := hd
    cases hd
    go_enter Try.func123, Try.ntmps123
    go_wp2
    go_end0
    exact ⟨rfl, H0.out⟩
  · have hd : (mkCp (b0 + 1) x0 x2 : Sh.T shCopy) = (d0, d1, d2, ()) := hd
    cases hd
    go_enter Try.func123, Try.ntmps123
    go_upto_region 6 with fail
    obtain ⟨w1, hw1⟩ : ∃ x, x = (W.setCell ⟨go, oo + 4, none⟩ (.slice none 0 0)).setCell ⟨go, oo + 3, none⟩ (.int .i64 2) := ⟨_, rfl⟩
    rw [← hw1] at H0 ⊢
    clear hw1 q1 q3 q4 f3 f4 qz
    have H1 : Hid (Loc W0 lo gc oc go oo S0 w1.drew (.slice none 0 0) (fun _ => False) cc (opC x0 true x2 2 (.slice none 0 0) b0 b1 b2 x8 x9) []) := H0.out.next (below_drew _)
    refine wp_region_noPanic ?_
    refine wp_region_held_drew (S := fun X => X.cell? ⟨go, oo, none⟩ = some (.int .i64 x0) ∧ X.cell? ⟨go, oo + 2, none⟩ = some (.string x2) ∧ go < X.heap.size) (by kernel_rfl) ⟨H1.out.cO 0 rfl, H1.out.cO 2 rfl, H1.out.lt2⟩ (fun hHeld => ?_)
    obtain ⟨X0, hX0⟩ : ∃ x, x = w1.drew := ⟨_, rfl⟩
    rw [← hX0] at H1 hHeld ⊢
    clear hX0
    refine take_v (v := ?_) 0 ⟨some 26, Op.move (Operand.tmp 0), _, _, _, none⟩ rfl (fun _ _ _ h => h) ?_ hHeld ?_
    rotate_left
    · (intro W _; go_simp <;> (try with_reducible rfl))
    refine take_v (v := ?_) 1 ⟨some 27, Op.move (Operand.tmp 0), _, _, _, none⟩ rfl (fun _ _ _ h => h) ?_ hHeld ?_
    rotate_left
    · (intro W _; go_simp <;> (try with_reducible rfl))
    refine take_v (v := ?_) 2 ⟨some 28, Op.nilCheck (Operand.tmp 27), _, _, _, none⟩ rfl (fun _ _ _ h => h) ?_ hHeld ?_
    rotate_left
    · (intro W _; go_simp <;> (try with_reducible rfl))
    refine take_v (v := ?_) 3 ⟨some 29, Op.fieldAddr 53 (Operand.tmp 28) 5, _, _, _, none⟩ rfl (fun _ _ _ h => h) ?_ hHeld ?_
    rotate_left
    · (intro W _; go_simp <;> (try with_reducible rfl))
    refine take_v (v := ?_) 4 ⟨some 30, Op.fieldAddr 48 (Operand.tmp 29) 0, _, _, _, none⟩ rfl (fun _ _ _ h => h) ?_ hHeld ?_
    rotate_left
    · (intro W _; go_simp <;> (try with_reducible rfl))
    refine take_v (v := ?_) 7 ⟨some 33, Op.move (Operand.tmp 0), _, _, _, none⟩ rfl (fun _ _ _ h => h) ?_ hHeld ?_
    rotate_left
    · (intro W _; go_simp <;> (try with_reducible rfl))
    refine take_v (v := ?_) 8 ⟨some 34, Op.nilCheck (Operand.tmp 33), _, _, _, none⟩ rfl (fun _ _ _ h => h) ?_ hHeld ?_
    rotate_left
    · (intro W _; go_simp <;> (try with_reducible rfl))
    refine take_v (v := ?_) 9 ⟨some 35, Op.fieldAddr 53 (Operand.tmp 34) 0, _, _, _, none⟩ rfl (fun _ _ _ h => h) ?_ hHeld ?_
    rotate_left
    · (intro W _; go_simp <;> (try with_reducible rfl))
    refine take_v (v := ?_) 10 ⟨some 36, Op.load 3 (Operand.tmp 35), _, _, _, none⟩ rfl (fun _ _ _ h => h) ?_ hHeld ?_
    rotate_left
    · (intro W hSW; (have t0 := hSW.1; have t2 := hSW.2.1; have tz := hSW.2.2); go_simp <;> (try with_reducible rfl))
    refine take_v (v := ?_) 11 ⟨some 37, Op.move (Operand.tmp 0), _, _, _, none⟩ rfl (fun _ _ _ h => h) ?_ hHeld ?_
    rotate_left
    · (intro W _; go_simp <;> (try with_reducible rfl))
    refine take_v (v := ?_) 12 ⟨some 38, Op.nilCheck (Operand.tmp 37), _, _, _, none⟩ rfl (fun _ _ _ h => h) ?_ hHeld ?_
    rotate_left
    · (intro W _; go_simp <;> (try with_reducible rfl))
    refine take_v (v := ?_) 13 ⟨some 39, Op.fieldAddr 53 (Operand.tmp 38) 2, _, _, _, none⟩ rfl (fun _ _ _ h => h) ?_ hHeld ?_
    rotate_left
    · (intro W _; go_simp <;> (try with_reducible rfl))
    refine take_v (v := ?_) 14 ⟨some 40, Op.load 9 (Operand.tmp 39), _, _, _, none⟩ rfl (fun _ _ _ h => h) ?_ hHeld ?_
    rotate_left
    · (intro W hSW; (have t0 := hSW.1; have t2 := hSW.2.1; have tz := hSW.2.2); go_simp <;> (try with_reducible rfl))
    refine ready_two 5 15 ⟨some 31, Op.load 3 (Operand.tmp 30), _, _, _, none⟩ ⟨some 41, Op.call { callee := Callee.value (Operand.func 92), args := #[Operand.tmp 40], argTypes := #[9] }, _, _, _, none⟩ (by kernel_rfl) rfl rfl (by kernel_rfl) (by kernel_rfl) (fun KC hK => ?_) (fun KC hK => ?_)
    ·
      have q5 := H1.out.cO 5 rfl
      have qz := H1.out.lt2
      go_wp2_with fail
      clear q5 qz
      refine hK.out _ _ hHeld (fun hHeld => ?_)
      clear hK KC
      refine take_v (v := ?_) 6 ⟨some 32, Op.binOp BinOp.add 3 (Operand.tmp 31) (Operand.const (Value.int IntKind.i64 1)) 3, _, _, _, none⟩ rfl (fun _ _ _ h => h) ?_ hHeld ?_
      rotate_left
      · (intro W _; go_simp <;> (try with_reducible rfl))
      refine ready_call 15 ⟨some 41, Op.call { callee := Callee.value (Operand.func 92), args := #[Operand.tmp 40], argTypes := #[9] }, _, _, _, none⟩ (by kernel_rfl) rfl (by kernel_rfl) (fun KC hK => ?_)
      go_wp2_with fail
      refine (clone_any _ _ HX.out).mono ?_
      rintro r X1 ⟨rfl, hb⟩
      have H1 : Hid (Loc W0 lo gc oc go oo S0 X1 (.slice none 0 0) (fun _ => False) cc (opC x0 true x2 2 (.slice none 0 0) b0 b1 b2 x8 x9) []) := H1.out.next hb
      clear hb
      refine hK.out _ _ ⟨H1.out.cO 0 rfl, H1.out.cO 2 rfl, H1.out.lt2⟩ (fun hHeld => ?_)
      clear hK KC
      refine take_v (v := ?_) 16 ⟨some 42, Op.build 48 #[(0, Operand.tmp 32), (1, Operand.tmp 36), (2, Operand.tmp 41)], _, _, _, none⟩ rfl (fun _ _ _ h => h) ?_ hHeld ?_
      rotate_left
      · (intro W _; go_simp <;> (try with_reducible rfl))
      refine take_v (v := ?_) 17 ⟨some 43, Op.nilCheck (Operand.tmp 26), _, _, _, none⟩ rfl (fun _ _ _ h => h) ?_ hHeld ?_
      rotate_left
      · (intro W _; go_simp <;> (try with_reducible rfl))
      refine take_v (v := ?_) 18 ⟨some 44, Op.fieldAddr 53 (Operand.tmp 43) 5, _, _, _, none⟩ rfl (fun _ _ _ h => h) ?_ hHeld ?_
      rotate_left
      · (intro W _; go_simp <;> (try with_reducible rfl))
      refine ready_call 19 ⟨none, Op.store 48 (Operand.tmp 44) (Operand.tmp 42), _, _, _, none⟩ (by kernel_rfl) rfl (by kernel_rfl) (fun KC hK => ?_)
      have q5 := H1.out.cO 5 rfl
      have q6 := H1.out.cO 6 rfl
      have q7 := H1.out.cO 7 rfl
      have f5 := H1.out.2.1.frz (oo + 5)
      have f6 := H1.out.2.1.frz (oo + 6)
      have f7 := H1.out.2.1.frz (oo + 7)
      have qz := H1.out.lt2
      go_wp2_with fail
      have HF := Hid.intro (((H1.out.setO (j := 5) (by simp) (.int .i64 (b0 + 1))).setO (j := 6) (by simp) (.int .i64 x0)).setO (j := 7) (by simp) (.string x2))
      clear q5 q6 q7 f5 f6 f7 qz
      refine hK.out _ _ ⟨HF.out.cO 0 rfl, HF.out.cO 2 rfl, HF.out.lt2⟩ (fun hHeld => ?_)
      clear hK KC
      refine wpAnyH_done (by kernel_rfl) ?_ _
      refine NoPanic.normal ?_
      clear hHeld
      go_wp2
      go_end0
      exact ⟨rfl, HF.out⟩
    ·
      go_wp2_with fail
      refine (clone_any _ _ HX.out).mono ?_
      rintro r X1 ⟨rfl, hb⟩
      have H1 : Hid (Loc W0 lo gc oc go oo S0 X1 (.slice none 0 0) (fun _ => False) cc (opC x0 true x2 2 (.slice none 0 0) b0 b1 b2 x8 x9) []) := H1.out.next hb
      clear hb
      refine hK.out _ _ ⟨H1.out.cO 0 rfl, H1.out.cO 2 rfl, H1.out.lt2⟩ (fun hHeld => ?_)
      clear hK KC
      refine ready_call 5 ⟨some 31, Op.load 3 (Operand.tmp 30), _, _, _, none⟩ (by kernel_rfl) rfl (by kernel_rfl) (fun KC hK => ?_)
      have q5 := H1.out.cO 5 rfl
      have qz := H1.out.lt2
      go_wp2_with fail
      clear q5 qz
      refine hK.out _ _ hHeld (fun hHeld => ?_)
      clear hK KC
      refine take_v (v := ?_) 6 ⟨some 32, Op.binOp BinOp.add 3 (Operand.tmp 31) (Operand.const (Value.int IntKind.i64 1)) 3, _, _, _, none⟩ rfl (fun _ _ _ h => h) ?_ hHeld ?_
      rotate_left
      · (intro W _; go_simp <;> (try with_reducible rfl))
      refine take_v (v := ?_) 16 ⟨some 42, Op.build 48 #[(0, Operand.tmp 32), (1, Operand.tmp 36), (2, Operand.tmp 41)], _, _, _, none⟩ rfl (fun _ _ _ h => h) ?_ hHeld ?_
      rotate_left
      · (intro W _; go_simp <;> (try with_reducible rfl))
      refine take_v (v := ?_) 17 ⟨some 43, Op.nilCheck (Operand.tmp 26), _, _, _, none⟩ rfl (fun _ _ _ h => h) ?_ hHeld ?_
      rotate_left
      · (intro W _; go_simp <;> (try with_reducible rfl))
      refine take_v (v := ?_) 18 ⟨some 44, Op.fieldAddr 53 (Operand.tmp 43) 5, _, _, _, none⟩ rfl (fun _ _ _ h => h) ?_ hHeld ?_
      rotate_left
      · (intro W _; go_simp <;> (try with_reducible rfl))
      refine ready_call 19 ⟨none, Op.store 48 (Operand.tmp 44) (Operand.tmp 42), _, _, _, none⟩ (by kernel_rfl) rfl (by kernel_rfl) (fun KC hK => ?_)
      have q5 := H1.out.cO 5 rfl
      have q6 := H1.out.cO 6 rfl
      have q7 := H1.out.cO 7 rfl
      have f5 := H1.out.2.1.frz (oo + 5)
      have f6 := H1.out.2.1.frz (oo + 6)
      have f7 := H1.out.2.1.frz (oo + 7)
      have qz := H1.out.lt2
      go_wp2_with fail
      have HF := Hid.intro (((H1.out.setO (j := 5) (by simp) (.int .i64 (b0 + 1))).setO (j := 6) (by simp) (.int .i64 x0)).setO (j := 7) (by simp) (.string x2))
      clear q5 q6 q7 f5 f6 f7 qz
      refine hK.out _ _ ⟨HF.out.cO 0 rfl, HF.out.cO 2 rfl, HF.out.lt2⟩ (fun hHeld => ?_)
      clear hK KC
      refine wpAnyH_done (by kernel_rfl) ?_ _
      refine NoPanic.normal ?_
      clear hHeld
      go_wp2
      go_end0
      exact ⟨rfl, HF.out⟩
end Go.Proofs.Ytaofolbnommpgaa
