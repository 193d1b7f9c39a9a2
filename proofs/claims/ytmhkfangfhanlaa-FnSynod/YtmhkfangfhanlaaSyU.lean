/- Synods: a turn's lists that have grown; what may be fixed and voted for. -/
import Derived.Test.YtmhkfangfhanlaaSyT
import Derived.Test.YtmhkfangfhanlaaCtI
import Derived.Test.YtmhkfangfhanlaaSrP
import Derived.Test.YtmhkfangfhanlaaInsP
import Derived.Test.YtmhkfangfhanlaaInsI
namespace Go.Proofs.Ytmhkfangfhanlaa
open Go.RowKit
set_option linter.unusedVariables false
set_option linter.unusedSimpArgs false

section
variable {W0 W W5 : World} {lo ga oa gp op : Nat} {S0 : Nat → Prop} {v1 v2 v5 : Value} {B1 B2 : Nat → Prop} {p b : Int} {v own : ByteArray} {ps : List (Sh.T shPromise)} {fx : Bool} {val : ByteArray} {vt : List (Sh.T .int)}
theorem turn_grown {S0 : Nat → Prop} {W0 W W5 : World} {row : Option Nat} (h : TurnS S0 W0 W) (hg : W.grownBy W5 row) (hr : ∀ k, row = some k → S0 k ∨ W0.heap.size ≤ k) : TurnS S0 W0 W5 := by
  refine ⟨hg.os.trans h.1, hg.tape.trans h.2.1, hg.output.trans h.2.2.1, Nat.le_trans h.size hg.size, fun k hk hS => ?_⟩
  rw [hg.block k (Nat.lt_of_lt_of_le hk h.size) (fun q => ?_)]
  · exact h.block hk hS
  · rcases hr k q.symm with q2 | q2
    · exact hS q2
    · omega
/-- The list of promises has grown, and is stored. -/
theorem Loc.list1 {l' : List (Sh.T shPromise)} (h : Loc W0 lo ga oa gp op S0 W v1 v2 B1 B2 p b v own ps fx val vt) (ho : W5.ownsRow lo 96 3 v5 l'.length (prC l')) (hg : W.grownBy W5 v1.ownBlock) (hwh : v5.ownBlock = v1.ownBlock ∨ v5.ownBlock = some W.heap.size) :
    Loc W0 lo ga oa gp op S0 (W5.setCell ⟨gp, op + 1, none⟩ v5) v5 v2 (fun k => v5.ownBlock = some k) B2 p b v own l' fx val vt ∧ Chunk W0 W5 43 gp op [.string own, v1, .bool fx, .string val, v2] := by
  obtain ⟨h1, h2, h3, h4, h5, h6, h7, h8, h9, h10, h11⟩ := h
  have hB : ∀ k, v1.ownBlock = some k → B1 k := (h3.flat rfl).2
  have ha : W5.heap[ga]? = W.heap[ga]? := hg.block ga h1.lt (fun q => (h6 ga (Or.inl (hB ga q.symm))).1 rfl)
  have hp : W5.heap[gp]? = W.heap[gp]? := hg.block gp h2.lt (fun q => (h6 gp (Or.inl (hB gp q.symm))).2.1 rfl)
  have hs0 := h10.size
  have h5b : ∀ k, v5.ownBlock = some k → k ≠ ga ∧ k ≠ gp ∧ k < W5.heap.size ∧ (S0 k ∨ W0.heap.size ≤ k) ∧ ¬ B2 k := by
    intro k hk
    rcases hwh with q | q
    · have hb := hB k (q ▸ hk)
      exact ⟨(h6 k (Or.inl hb)).1, (h6 k (Or.inl hb)).2.1, (ho.lt k hk).2, (h6 k (Or.inl hb)).2.2.2, h5 k hb⟩
    · have hlt := (ho.lt k hk).2
      rw [q] at hk; cases hk
      exact ⟨fun e => by have := h1.lt; omega, fun e => by have := h2.lt; omega, hlt, Or.inr hs0, fun e => by have := (h6 _ (Or.inr e)).2.2.1; omega⟩
  have t1 := turn_set W5 ⟨gp, op + 1, none⟩ v5
  refine ⟨⟨(h1.keep ha).keep (Below.heap_setCell _ _ _ _ h7), (h2.keep hp).set (j := 1) (by simp) v5, ?_, ?_, fun k hk => (h5b k hk).2.2.2.2, fun k hk => ?_, h7, h8, h9, (turn_grown h10 hg (fun k hk => (h6 k (Or.inl (hB k hk))).2.2.2)).set (p := ⟨gp, op + 1, none⟩) h9 _, h11⟩, h2.keep hp⟩
  · exact OwnX.of_flat (e := tyPromise) rfl (ownsRow_turn ho t1 (fun k hk e => (h5b k hk).2.1 e)) (fun k hk => hk)
  · exact (h4.grow hg (fun k hk q => h5 k (hB k hk) q)).set (p := ⟨gp, op + 1, none⟩) (fun q => (h6 _ (Or.inr q)).2.1 rfl) _
  · rcases hk with hk | hk
    · have := h5b k hk; exact ⟨this.1, this.2.1, by simpa using this.2.2.1, this.2.2.2.1⟩
    · have := h6 k (Or.inr hk); exact ⟨this.1, this.2.1, by have h := Nat.lt_of_lt_of_le this.2.2.1 hg.size; simpa using h, this.2.2.2⟩
/-- The list of votes has grown, and is stored. -/
theorem Loc.list2 {l' : List (Sh.T .int)} (h : Loc W0 lo ga oa gp op S0 W v1 v2 B1 B2 p b v own ps fx val vt) (ho : W5.ownsRow lo 3 1 v5 l'.length (inC l')) (hg : W.grownBy W5 v2.ownBlock) (hwh : v5.ownBlock = v2.ownBlock ∨ v5.ownBlock = some W.heap.size) :
    Loc W0 lo ga oa gp op S0 (W5.setCell ⟨gp, op + 4, none⟩ v5) v1 v5 B1 (fun k => v5.ownBlock = some k) p b v own ps fx val l' ∧ Chunk W0 W5 43 gp op [.string own, v1, .bool fx, .string val, v2] := by
  obtain ⟨h1, h2, h3, h4, h5, h6, h7, h8, h9, h10, h11⟩ := h
  have hB : ∀ k, v2.ownBlock = some k → B2 k := (h4.flat rfl).2
  have ha : W5.heap[ga]? = W.heap[ga]? := hg.block ga h1.lt (fun q => (h6 ga (Or.inr (hB ga q.symm))).1 rfl)
  have hp : W5.heap[gp]? = W.heap[gp]? := hg.block gp h2.lt (fun q => (h6 gp (Or.inr (hB gp q.symm))).2.1 rfl)
  have hs0 := h10.size
  have h5b : ∀ k, v5.ownBlock = some k → k ≠ ga ∧ k ≠ gp ∧ k < W5.heap.size ∧ (S0 k ∨ W0.heap.size ≤ k) ∧ ¬ B1 k := by
    intro k hk
    rcases hwh with q | q
    · have hb := hB k (q ▸ hk)
      exact ⟨(h6 k (Or.inr hb)).1, (h6 k (Or.inr hb)).2.1, (ho.lt k hk).2, (h6 k (Or.inr hb)).2.2.2, fun e => h5 k e hb⟩
    · have hlt := (ho.lt k hk).2
      rw [q] at hk; cases hk
      exact ⟨fun e => by have := h1.lt; omega, fun e => by have := h2.lt; omega, hlt, Or.inr hs0, fun e => by have := (h6 _ (Or.inl e)).2.2.1; omega⟩
  have t1 := turn_set W5 ⟨gp, op + 4, none⟩ v5
  refine ⟨⟨(h1.keep ha).keep (Below.heap_setCell _ _ _ _ h7), (h2.keep hp).set (j := 4) (by simp) v5, ?_, ?_, fun k hk q => (h5b k q).2.2.2.2 hk, fun k hk => ?_, h7, h8, h9, (turn_grown h10 hg (fun k hk => (h6 k (Or.inr (hB k hk))).2.2.2)).set (p := ⟨gp, op + 4, none⟩) h9 _, h11⟩, h2.keep hp⟩
  · exact (h3.grow hg (fun k hk q => h5 k q (hB k hk))).set (p := ⟨gp, op + 4, none⟩) (fun q => (h6 _ (Or.inl q)).2.1 rfl) _
  · exact OwnX.of_flat (e := .int) rfl (ownsRow_turn ho t1 (fun k hk e => (h5b k hk).2.1 e)) (fun k hk => hk)
  · rcases hk with hk | hk
    · have := h6 k (Or.inl hk); exact ⟨this.1, this.2.1, by have h := Nat.lt_of_lt_of_le this.2.2.1 hg.size; simpa using h, this.2.2.2⟩
    · have := h5b k hk; exact ⟨this.1, this.2.1, by simpa using this.2.2.1, this.2.2.2.1⟩
/-- The acceptor's cells are all written. -/
theorem Loc.setA3 (h : Loc W0 lo ga oa gp op S0 W v1 v2 B1 B2 p b v own ps fx val vt) (p' b' : Int) (v' : ByteArray) : Loc W0 lo ga oa gp op S0 (((W.setCell ⟨ga, oa, none⟩ (.int .i64 p')).setCell ⟨ga, oa + 1, none⟩ (.int .i64 b')).setCell ⟨ga, oa + 2, none⟩ (.string v')) v1 v2 B1 B2 p' b' v' own ps fx val vt := by
  obtain ⟨h1, h2, h3, h4, h5, h6, h7, h8, h9, h10, h11⟩ := h
  have n1 : ¬ B1 ga := fun q => (h6 _ (Or.inl q)).1 rfl
  have n2 : ¬ B2 ga := fun q => (h6 _ (Or.inr q)).1 rfl
  exact ⟨((h1.set (j := 0) (by simp) (.int .i64 p')).set (j := 1) (by simp) (.int .i64 b')).set (j := 2) (by simp) (.string v'), ((h2.keep (Below.heap_setCell _ _ _ _ (Ne.symm h7))).keep (Below.heap_setCell _ _ _ _ (Ne.symm h7))).keep (Below.heap_setCell _ _ _ _ (Ne.symm h7)), ((h3.set (p := ⟨ga, oa, none⟩) n1 _).set (p := ⟨ga, oa + 1, none⟩) n1 _).set (p := ⟨ga, oa + 2, none⟩) n1 _, ((h4.set (p := ⟨ga, oa, none⟩) n2 _).set (p := ⟨ga, oa + 1, none⟩) n2 _).set (p := ⟨ga, oa + 2, none⟩) n2 _, h5, fun k hk => ⟨(h6 k hk).1, (h6 k hk).2.1, by have := (h6 k hk).2.2.1; simpa using this, (h6 k hk).2.2.2⟩, h7, h8, h9, ((h10.set (p := ⟨ga, oa, none⟩) h8 _).set (p := ⟨ga, oa + 1, none⟩) h8 _).set (p := ⟨ga, oa + 2, none⟩) h8 _, h11⟩
end

set_option maxRecDepth 100000 in
set_option maxHeartbeats 2000000 in
theorem mayFix_n (bal node n : Int) (W0 W : World) (lo ga oa gp op : Nat) (S0 : Nat → Prop) (v1 v2 : Value) (B1 B2 : Nat → Prop) (p b : Int) (v own : ByteArray) (ps : List (Sh.T shPromise)) (fx : Bool) (val : ByteArray) (vt : List (Sh.T .int)) (hpl : ps.length ≤ 1000) (h : Loc W0 lo ga oa gp op S0 W v1 v2 B1 B2 p b v own ps fx val vt) :
    Calls Try.prog 107 #[.agg (TV bal node n ga oa gp op)] W fun r w' => r = .returned (.bool (!fx && decide (n < 2 * (ps.length : Int)))) ∧ Below W.heap.size W w' := by
  obtain ⟨a1, k1, hv1⟩ := h.2.2.1.vform
  have d1 : W.cell? ⟨gp, op + 1, none⟩ = some v1 := h.2.1.cell (j := 1) rfl
  have d2 : W.cell? ⟨gp, op + 2, none⟩ = some (.bool fx) := h.2.1.cell (j := 2) rfl
  have zp := h.2.1.lt
  have HB : Hid (Below W.heap.size W (W.alloc (.cells (TV bal node n ga oa gp op) 111))) := Go.Joins.below_alloc1 _ _
  clear h
  subst hv1
  cases fx
  · have HD : Hid (Bx (W.alloc (.cells (TV bal node n ga oa gp op) 111)).drew W.heap.size [.int .i64 bal, .int .i64 node, .int .i64 n, .pointer (some ⟨ga, oa, none⟩), .pointer (some ⟨gp, op, none⟩)] ∧ (W.alloc (.cells (TV bal node n ga oa gp op) 111)).drew.cell? ⟨gp, op + 1, none⟩ = some (.slice a1 ps.length k1) ∧ (W.alloc (.cells (TV bal node n ga oa gp op) 111)).drew.cell? ⟨gp, op + 2, none⟩ = some (.bool false) ∧ gp < (W.alloc (.cells (TV bal node n ga oa gp op) 111)).drew.heap.size) := by
      have hb := below_next HB.out (below_drew _)
      exact ⟨(Bx.new W [_, _, _, _, _] _).next (below_drew _), (hb.cell (p := ⟨gp, op + 1, none⟩) zp).trans d1, (hb.cell (p := ⟨gp, op + 2, none⟩) zp).trans d2, Nat.lt_of_lt_of_le zp hb.size⟩
    have HM : Hid (∀ X, Calls Try.prog 50 #[.int .i64 (ps.length : Nat), .int .i64 n] X fun r w' => r = .returned (.bool (decide (n < 2 * (ps.length : Int)))) ∧ w' = X) := Hid.intro (fun X => isMost_n ps.length n X (by omega))
    obtain ⟨z, hz⟩ : ∃ z, z = decide (n < 2 * (ps.length : Int)) := ⟨_, rfl⟩
    rw [← hz] at HM
    have HZ : Hid (z = decide (n < 2 * (ps.length : Int))) := hz
    clear d1 d2 zp hz
    go_enter Try.func107, Try.ntmps107
    go_upto_region 1 with fail
    refine wp_region_noPanic ?_
    refine wp_region_held_drew (S := fun X => Bx X W.heap.size [.int .i64 bal, .int .i64 node, .int .i64 n, .pointer (some ⟨ga, oa, none⟩), .pointer (some ⟨gp, op, none⟩)] ∧ X.cell? ⟨gp, op + 1, none⟩ = some (.slice a1 ps.length k1) ∧ X.cell? ⟨gp, op + 2, none⟩ = some (.bool false) ∧ gp < X.heap.size) (by kernel_rfl) HD.out (fun hHeld => ?_)
    refine take_v (v := ?_) 0 ⟨some 3, Op.fieldAddr 111 (Operand.tmp 1) 4, _, _, _, none⟩ rfl (fun _ _ _ h => h) ?_ hHeld ?_
    rotate_left
    · (intro W _; go_simp <;> (try with_reducible rfl))
    refine take_v (v := ?_) 1 ⟨some 4, Op.load 109 (Operand.tmp 3), _, _, _, none⟩ rfl (fun _ _ _ h => h) ?_ hHeld ?_
    rotate_left
    · (intro W hSW; (have s0 := hSW.1.cell 0 rfl; have s1 := hSW.1.cell 1 rfl; have s2 := hSW.1.cell 2 rfl; have s3 := hSW.1.cell 3 rfl; have s4 := hSW.1.cell 4 rfl; have sz := hSW.1.2; have t1 := hSW.2.1; have t2 := hSW.2.2.1; have tz := hSW.2.2.2); go_simp <;> (try with_reducible rfl))
    refine take_v (v := ?_) 2 ⟨some 5, Op.nilCheck (Operand.tmp 4), _, _, _, none⟩ rfl (fun _ _ _ h => h) ?_ hHeld ?_
    rotate_left
    · (intro W _; go_simp <;> (try with_reducible rfl))
    refine take_v (v := ?_) 3 ⟨some 6, Op.fieldAddr 43 (Operand.tmp 5) 2, _, _, _, none⟩ rfl (fun _ _ _ h => h) ?_ hHeld ?_
    rotate_left
    · (intro W _; go_simp <;> (try with_reducible rfl))
    refine take_v (v := ?_) 4 ⟨some 7, Op.load 4 (Operand.tmp 6), _, _, _, none⟩ rfl (fun _ _ _ h => h) ?_ hHeld ?_
    rotate_left
    · (intro W hSW; (have s0 := hSW.1.cell 0 rfl; have s1 := hSW.1.cell 1 rfl; have s2 := hSW.1.cell 2 rfl; have s3 := hSW.1.cell 3 rfl; have s4 := hSW.1.cell 4 rfl; have sz := hSW.1.2; have t1 := hSW.2.1; have t2 := hSW.2.2.1; have tz := hSW.2.2.2); go_simp <;> (try with_reducible rfl))
    refine take_v (v := ?_) 5 ⟨some 8, Op.unOp UnOp.not 4 (Operand.tmp 7), _, _, _, none⟩ rfl (fun _ _ _ h => h) ?_ hHeld ?_
    rotate_left
    · (intro W _; go_simp <;> (try with_reducible rfl))
    refine take_v (v := ?_) 6 ⟨some 9, Op.move (Operand.tmp 8), _, _, _, none⟩ rfl (fun _ _ _ h => h) ?_ hHeld ?_
    rotate_left
    · (intro W _; go_simp <;> (try with_reducible rfl))
    refine take_v (v := ?_) 7 ⟨some 10, Op.fieldAddr 111 (Operand.tmp 1) 4, _, _, _, some (6, true)⟩ rfl (fun _ _ _ h => h) ?_ hHeld ?_
    rotate_left
    · (intro W _; go_simp <;> (try with_reducible rfl))
    refine take_v (v := ?_) 8 ⟨some 11, Op.load 109 (Operand.tmp 10), _, _, _, some (6, true)⟩ rfl (fun _ _ _ h => h) ?_ hHeld ?_
    rotate_left
    · (intro W hSW; (have s0 := hSW.1.cell 0 rfl; have s1 := hSW.1.cell 1 rfl; have s2 := hSW.1.cell 2 rfl; have s3 := hSW.1.cell 3 rfl; have s4 := hSW.1.cell 4 rfl; have sz := hSW.1.2; have t1 := hSW.2.1; have t2 := hSW.2.2.1; have tz := hSW.2.2.2); go_simp <;> (try with_reducible rfl))
    refine take_v (v := ?_) 9 ⟨some 12, Op.nilCheck (Operand.tmp 11), _, _, _, some (6, true)⟩ rfl (fun _ _ _ h => h) ?_ hHeld ?_
    rotate_left
    · (intro W _; go_simp <;> (try with_reducible rfl))
    refine take_v (v := ?_) 10 ⟨some 13, Op.fieldAddr 43 (Operand.tmp 12) 1, _, _, _, some (6, true)⟩ rfl (fun _ _ _ h => h) ?_ hHeld ?_
    rotate_left
    · (intro W _; go_simp <;> (try with_reducible rfl))
    refine take_v (v := ?_) 11 ⟨some 14, Op.load 40 (Operand.tmp 13), _, _, _, some (6, true)⟩ rfl (fun _ _ _ h => h) ?_ hHeld ?_
    rotate_left
    · (intro W hSW; (have s0 := hSW.1.cell 0 rfl; have s1 := hSW.1.cell 1 rfl; have s2 := hSW.1.cell 2 rfl; have s3 := hSW.1.cell 3 rfl; have s4 := hSW.1.cell 4 rfl; have sz := hSW.1.2; have t1 := hSW.2.1; have t2 := hSW.2.2.1; have tz := hSW.2.2.2); go_simp <;> (try with_reducible rfl))
    refine take_v (v := ?_) 12 ⟨some 15, Op.call { callee := Callee.builtin Builtin.len, args := #[Operand.tmp 14], argTypes := #[40] }, _, _, _, some (6, true)⟩ rfl (fun _ _ _ h => h) ?_ hHeld ?_
    rotate_left
    · (intro W _; go_simp <;> (try with_reducible rfl))
    refine take_v (v := ?_) 13 ⟨some 16, Op.fieldAddr 111 (Operand.tmp 1) 2, _, _, _, some (6, true)⟩ rfl (fun _ _ _ h => h) ?_ hHeld ?_
    rotate_left
    · (intro W _; go_simp <;> (try with_reducible rfl))
    refine take_v (v := ?_) 14 ⟨some 17, Op.load 3 (Operand.tmp 16), _, _, _, some (6, true)⟩ rfl (fun _ _ _ h => h) ?_ hHeld ?_
    rotate_left
    · (intro W hSW; (have s0 := hSW.1.cell 0 rfl; have s1 := hSW.1.cell 1 rfl; have s2 := hSW.1.cell 2 rfl; have s3 := hSW.1.cell 3 rfl; have s4 := hSW.1.cell 4 rfl; have sz := hSW.1.2; have t1 := hSW.2.1; have t2 := hSW.2.2.1; have tz := hSW.2.2.2); go_simp <;> (try with_reducible rfl))
    refine ready_call 15 ⟨some 18, Op.call { callee := Callee.value (Operand.func 50), args := #[Operand.tmp 15, Operand.tmp 17], argTypes := #[3, 3] }, _, _, _, some (6, true)⟩ (by kernel_rfl) rfl (by kernel_rfl) (fun KC hK => ?_)
    go_wp2_with fail
    refine (HM.out _).mono ?_
    rintro e w' ⟨rfl, hw⟩
    have hw := hw.symm
    subst hw
    refine hK.out _ _ HD.out (fun hHeld => ?_)
    clear hK KC
    refine take_v (v := ?_) 16 ⟨some 19, Op.pick (Operand.tmp 9) (Operand.tmp 18) (Operand.const (Value.bool false)), _, _, _, none⟩ rfl (fun _ _ _ h => h) ?_ hHeld ?_
    rotate_left
    · (intro W _; go_simp <;> (try with_reducible rfl))
    refine take_v (v := ?_) 17 ⟨some 2, Op.assign (Operand.tmp 19), _, _, _, none⟩ rfl (fun _ _ _ h => h) ?_ hHeld ?_
    rotate_left
    · (intro W _; go_simp <;> (try with_reducible rfl))
    refine wpAnyH_done (by kernel_rfl) ?_ _
    refine NoPanic.normal ?_
    clear hHeld
    go_wp2
    go_ret
    exact ⟨ret_bool (by rw [← HZ.out] <;> (try (cases z <;> rfl))), HB.out.drew⟩
  · go_enter Try.func107, Try.ntmps107
    go_upto_region 1 with fail
    go_quiet (fail)
    go_wp2
    go_ret
    exact ⟨ret_bool (by simp), below_dN HB.out _⟩

set_option maxRecDepth 100000 in
set_option maxHeartbeats 2000000 in
theorem mayVote_n (bal node n : Int) (W0 W : World) (lo ga oa gp op : Nat) (S0 : Nat → Prop) (v1 v2 : Value) (B1 B2 : Nat → Prop) (p b : Int) (v own : ByteArray) (ps : List (Sh.T shPromise)) (fx : Bool) (val : ByteArray) (vt : List (Sh.T .int)) (hvt : vt.length ≤ 1000) (h : Loc W0 lo ga oa gp op S0 W v1 v2 B1 B2 p b v own ps fx val vt) :
    Calls Try.prog 109 #[.agg (TV bal node n ga oa gp op)] W fun r w' => r = .returned (.bool (fx && (decide (p ≤ bal) && !(tf (node ∈ vt))))) ∧ Below W.heap.size W w' := by
  obtain ⟨a2, k2, hv2⟩ := h.2.2.2.1.vform
  have c0 : W.cell? ⟨ga, oa, none⟩ = some (.int .i64 p) := h.1.cell (j := 0) rfl
  have d2 : W.cell? ⟨gp, op + 2, none⟩ = some (.bool fx) := h.2.1.cell (j := 2) rfl
  have d4 : W.cell? ⟨gp, op + 4, none⟩ = some v2 := h.2.1.cell (j := 4) rfl
  have za := h.1.lt
  have zp := h.2.1.lt
  have HL : Hid (Lies W (.list .int) [v2] vt) := h.2.2.2.1.lies
  have HB : Hid (Below W.heap.size W (W.alloc (.cells (TV bal node n ga oa gp op) 111))) := Go.Joins.below_alloc1 _ _
  clear h
  subst hv2
  have HC : Hid (∀ X, Below W.heap.size W X → Calls Try.prog 124 #[.slice a2 vt.length k2, .int .i64 node] X fun r w' => r = .returned (.bool (tf (node ∈ vt))) ∧ w' = X) := Hid.intro (fun X hX => containsInt_n a2 k2 vt node X (by omega) (HL.out.next hX))
  cases fx
  · go_enter Try.func109, Try.ntmps109
    go_upto_region 1 with fail
    go_quiet (fail)
    go_wp2
    go_ret
    exact ⟨ret_bool (by simp), below_dN HB.out _⟩
  · by_cases hp : p ≤ bal
    · have HD : Hid (Bx (W.alloc (.cells (TV bal node n ga oa gp op) 111)).drew W.heap.size [.int .i64 bal, .int .i64 node, .int .i64 n, .pointer (some ⟨ga, oa, none⟩), .pointer (some ⟨gp, op, none⟩)] ∧ (W.alloc (.cells (TV bal node n ga oa gp op) 111)).drew.cell? ⟨ga, oa, none⟩ = some (.int .i64 p) ∧ (W.alloc (.cells (TV bal node n ga oa gp op) 111)).drew.cell? ⟨gp, op + 2, none⟩ = some (.bool true) ∧ (W.alloc (.cells (TV bal node n ga oa gp op) 111)).drew.cell? ⟨gp, op + 4, none⟩ = some (.slice a2 vt.length k2) ∧ gp < (W.alloc (.cells (TV bal node n ga oa gp op) 111)).drew.heap.size ∧ ga < (W.alloc (.cells (TV bal node n ga oa gp op) 111)).drew.heap.size) := by
        have hb := below_next HB.out (below_drew _)
        exact ⟨(Bx.new W [_, _, _, _, _] _).next (below_drew _), (hb.cell (p := ⟨ga, oa, none⟩) za).trans c0, (hb.cell (p := ⟨gp, op + 2, none⟩) zp).trans d2, (hb.cell (p := ⟨gp, op + 4, none⟩) zp).trans d4, Nat.lt_of_lt_of_le zp hb.size, Nat.lt_of_lt_of_le za hb.size⟩
      obtain ⟨z, hz⟩ : ∃ z, z = tf (node ∈ vt) := ⟨_, rfl⟩
      rw [← hz] at HC
      have HZ : Hid (z = tf (node ∈ vt)) := hz
      clear c0 d2 d4 za zp hz
      go_enter Try.func109, Try.ntmps109
      go_upto_region 1 with fail
      refine wp_region_noPanic ?_
      refine wp_region_held_drew (S := fun X => Bx X W.heap.size [.int .i64 bal, .int .i64 node, .int .i64 n, .pointer (some ⟨ga, oa, none⟩), .pointer (some ⟨gp, op, none⟩)] ∧ X.cell? ⟨ga, oa, none⟩ = some (.int .i64 p) ∧ X.cell? ⟨gp, op + 2, none⟩ = some (.bool true) ∧ X.cell? ⟨gp, op + 4, none⟩ = some (.slice a2 vt.length k2) ∧ gp < X.heap.size ∧ ga < X.heap.size) (by kernel_rfl) HD.out (fun hHeld => ?_)
      refine take_v (v := ?_) 0 ⟨some 3, Op.fieldAddr 111 (Operand.tmp 1) 4, _, _, _, none⟩ rfl (fun _ _ _ h => h) ?_ hHeld ?_
      rotate_left
      · (intro W _; go_simp <;> (try with_reducible rfl))
      refine take_v (v := ?_) 1 ⟨some 4, Op.load 109 (Operand.tmp 3), _, _, _, none⟩ rfl (fun _ _ _ h => h) ?_ hHeld ?_
      rotate_left
      · (intro W hSW; (have s0 := hSW.1.cell 0 rfl; have s1 := hSW.1.cell 1 rfl; have s2 := hSW.1.cell 2 rfl; have s3 := hSW.1.cell 3 rfl; have s4 := hSW.1.cell 4 rfl; have sz := hSW.1.2; have t1 := hSW.2.1; have t2 := hSW.2.2.1; have t3 := hSW.2.2.2.1; have tz := hSW.2.2.2.2.1; have ty := hSW.2.2.2.2.2); go_simp <;> (try with_reducible rfl))
      refine take_v (v := ?_) 2 ⟨some 5, Op.nilCheck (Operand.tmp 4), _, _, _, none⟩ rfl (fun _ _ _ h => h) ?_ hHeld ?_
      rotate_left
      · (intro W _; go_simp <;> (try with_reducible rfl))
      refine take_v (v := ?_) 3 ⟨some 6, Op.fieldAddr 43 (Operand.tmp 5) 2, _, _, _, none⟩ rfl (fun _ _ _ h => h) ?_ hHeld ?_
      rotate_left
      · (intro W _; go_simp <;> (try with_reducible rfl))
      refine take_v (v := ?_) 4 ⟨some 7, Op.load 4 (Operand.tmp 6), _, _, _, none⟩ rfl (fun _ _ _ h => h) ?_ hHeld ?_
      rotate_left
      · (intro W hSW; (have s0 := hSW.1.cell 0 rfl; have s1 := hSW.1.cell 1 rfl; have s2 := hSW.1.cell 2 rfl; have s3 := hSW.1.cell 3 rfl; have s4 := hSW.1.cell 4 rfl; have sz := hSW.1.2; have t1 := hSW.2.1; have t2 := hSW.2.2.1; have t3 := hSW.2.2.2.1; have tz := hSW.2.2.2.2.1; have ty := hSW.2.2.2.2.2); go_simp <;> (try with_reducible rfl))
      refine take_v (v := ?_) 5 ⟨some 8, Op.move (Operand.tmp 7), _, _, _, none⟩ rfl (fun _ _ _ h => h) ?_ hHeld ?_
      rotate_left
      · (intro W _; go_simp <;> (try with_reducible rfl))
      refine take_v (v := ?_) 6 ⟨some 9, Op.fieldAddr 111 (Operand.tmp 1) 3, _, _, _, some (5, true)⟩ rfl (fun _ _ _ h => h) ?_ hHeld ?_
      rotate_left
      · (intro W _; go_simp <;> (try with_reducible rfl))
      refine take_v (v := ?_) 7 ⟨some 10, Op.load 108 (Operand.tmp 9), _, _, _, some (5, true)⟩ rfl (fun _ _ _ h => h) ?_ hHeld ?_
      rotate_left
      · (intro W hSW; (have s0 := hSW.1.cell 0 rfl; have s1 := hSW.1.cell 1 rfl; have s2 := hSW.1.cell 2 rfl; have s3 := hSW.1.cell 3 rfl; have s4 := hSW.1.cell 4 rfl; have sz := hSW.1.2; have t1 := hSW.2.1; have t2 := hSW.2.2.1; have t3 := hSW.2.2.2.1; have tz := hSW.2.2.2.2.1; have ty := hSW.2.2.2.2.2); go_simp <;> (try with_reducible rfl))
      refine take_v (v := ?_) 8 ⟨some 11, Op.nilCheck (Operand.tmp 10), _, _, _, some (5, true)⟩ rfl (fun _ _ _ h => h) ?_ hHeld ?_
      rotate_left
      · (intro W _; go_simp <;> (try with_reducible rfl))
      refine take_v (v := ?_) 9 ⟨some 12, Op.fieldAddr 91 (Operand.tmp 11) 0, _, _, _, some (5, true)⟩ rfl (fun _ _ _ h => h) ?_ hHeld ?_
      rotate_left
      · (intro W _; go_simp <;> (try with_reducible rfl))
      refine take_v (v := ?_) 10 ⟨some 13, Op.load 3 (Operand.tmp 12), _, _, _, some (5, true)⟩ rfl (fun _ _ _ h => h) ?_ hHeld ?_
      rotate_left
      · (intro W hSW; (have s0 := hSW.1.cell 0 rfl; have s1 := hSW.1.cell 1 rfl; have s2 := hSW.1.cell 2 rfl; have s3 := hSW.1.cell 3 rfl; have s4 := hSW.1.cell 4 rfl; have sz := hSW.1.2; have t1 := hSW.2.1; have t2 := hSW.2.2.1; have t3 := hSW.2.2.2.1; have tz := hSW.2.2.2.2.1; have ty := hSW.2.2.2.2.2); go_simp <;> (try with_reducible rfl))
      refine take_v (v := ?_) 11 ⟨some 14, Op.fieldAddr 111 (Operand.tmp 1) 0, _, _, _, some (5, true)⟩ rfl (fun _ _ _ h => h) ?_ hHeld ?_
      rotate_left
      · (intro W _; go_simp <;> (try with_reducible rfl))
      refine take_v (v := ?_) 12 ⟨some 15, Op.load 3 (Operand.tmp 14), _, _, _, some (5, true)⟩ rfl (fun _ _ _ h => h) ?_ hHeld ?_
      rotate_left
      · (intro W hSW; (have s0 := hSW.1.cell 0 rfl; have s1 := hSW.1.cell 1 rfl; have s2 := hSW.1.cell 2 rfl; have s3 := hSW.1.cell 3 rfl; have s4 := hSW.1.cell 4 rfl; have sz := hSW.1.2; have t1 := hSW.2.1; have t2 := hSW.2.2.1; have t3 := hSW.2.2.2.1; have tz := hSW.2.2.2.2.1; have ty := hSW.2.2.2.2.2); go_simp <;> (try with_reducible rfl))
      refine take_v (v := ?_) 13 ⟨some 16, Op.binOp BinOp.leq 3 (Operand.tmp 13) (Operand.tmp 15) 3, _, _, _, some (5, true)⟩ rfl (fun _ _ _ h => h) ?_ hHeld ?_
      rotate_left
      · (intro W _; go_simp <;> (try with_reducible rfl))
      refine take_v (v := ?_) 14 ⟨some 17, Op.pick (Operand.tmp 8) (Operand.tmp 16) (Operand.const (Value.bool false)), _, _, _, none⟩ rfl (fun _ _ _ h => h) ?_ hHeld ?_
      rotate_left
      · (intro W _; go_simp <;> (try with_reducible rfl))
      refine take_v (v := ?_) 15 ⟨some 18, Op.move (Operand.tmp 17), _, _, _, none⟩ rfl (fun _ _ _ h => h) ?_ hHeld ?_
      rotate_left
      · (intro W _; go_simp <;> (try with_reducible rfl))
      refine take_v (v := ?_) 16 ⟨some 19, Op.fieldAddr 111 (Operand.tmp 1) 4, _, _, _, some (15, true)⟩ rfl (fun _ _ _ h => h) ?_ hHeld ?_
      rotate_left
      · (intro W _; go_simp <;> (try with_reducible rfl))
      refine take_v (v := ?_) 17 ⟨some 20, Op.load 109 (Operand.tmp 19), _, _, _, some (15, true)⟩ rfl (fun _ _ _ h => h) ?_ hHeld ?_
      rotate_left
      · (intro W hSW; (have s0 := hSW.1.cell 0 rfl; have s1 := hSW.1.cell 1 rfl; have s2 := hSW.1.cell 2 rfl; have s3 := hSW.1.cell 3 rfl; have s4 := hSW.1.cell 4 rfl; have sz := hSW.1.2; have t1 := hSW.2.1; have t2 := hSW.2.2.1; have t3 := hSW.2.2.2.1; have tz := hSW.2.2.2.2.1; have ty := hSW.2.2.2.2.2); go_simp <;> (try with_reducible rfl))
      refine take_v (v := ?_) 18 ⟨some 21, Op.nilCheck (Operand.tmp 20), _, _, _, some (15, true)⟩ rfl (fun _ _ _ h => h) ?_ hHeld ?_
      rotate_left
      · (intro W _; go_simp <;> (try with_reducible rfl))
      refine take_v (v := ?_) 19 ⟨some 22, Op.fieldAddr 43 (Operand.tmp 21) 4, _, _, _, some (15, true)⟩ rfl (fun _ _ _ h => h) ?_ hHeld ?_
      rotate_left
      · (intro W _; go_simp <;> (try with_reducible rfl))
      refine take_v (v := ?_) 20 ⟨some 23, Op.load 41 (Operand.tmp 22), _, _, _, some (15, true)⟩ rfl (fun _ _ _ h => h) ?_ hHeld ?_
      rotate_left
      · (intro W hSW; (have s0 := hSW.1.cell 0 rfl; have s1 := hSW.1.cell 1 rfl; have s2 := hSW.1.cell 2 rfl; have s3 := hSW.1.cell 3 rfl; have s4 := hSW.1.cell 4 rfl; have sz := hSW.1.2; have t1 := hSW.2.1; have t2 := hSW.2.2.1; have t3 := hSW.2.2.2.1; have tz := hSW.2.2.2.2.1; have ty := hSW.2.2.2.2.2); go_simp <;> (try with_reducible rfl))
      refine take_v (v := ?_) 21 ⟨some 24, Op.fieldAddr 111 (Operand.tmp 1) 1, _, _, _, some (15, true)⟩ rfl (fun _ _ _ h => h) ?_ hHeld ?_
      rotate_left
      · (intro W _; go_simp <;> (try with_reducible rfl))
      refine take_v (v := ?_) 22 ⟨some 25, Op.load 3 (Operand.tmp 24), _, _, _, some (15, true)⟩ rfl (fun _ _ _ h => h) ?_ hHeld ?_
      rotate_left
      · (intro W hSW; (have s0 := hSW.1.cell 0 rfl; have s1 := hSW.1.cell 1 rfl; have s2 := hSW.1.cell 2 rfl; have s3 := hSW.1.cell 3 rfl; have s4 := hSW.1.cell 4 rfl; have sz := hSW.1.2; have t1 := hSW.2.1; have t2 := hSW.2.2.1; have t3 := hSW.2.2.2.1; have tz := hSW.2.2.2.2.1; have ty := hSW.2.2.2.2.2); go_simp <;> (try with_reducible rfl))
      refine ready_call 23 ⟨some 26, Op.call { callee := Callee.value (Operand.func 124), args := #[Operand.tmp 23, Operand.tmp 25], argTypes := #[41, 3] }, _, _, _, some (15, true)⟩ (by kernel_rfl) rfl (by kernel_rfl) (fun KC hK => ?_)
      go_wp2_with fail
      refine (HC.out _ (HB.out.drew)).mono ?_
      rintro e w' ⟨rfl, hw⟩
      have hw := hw.symm
      subst hw
      refine hK.out _ _ HD.out (fun hHeld => ?_)
      clear hK KC
      refine take_v (v := ?_) 24 ⟨some 27, Op.unOp UnOp.not 4 (Operand.tmp 26), _, _, _, some (15, true)⟩ rfl (fun _ _ _ h => h) ?_ hHeld ?_
      rotate_left
      · (intro W _; go_simp <;> (try with_reducible rfl))
      refine take_v (v := ?_) 25 ⟨some 28, Op.pick (Operand.tmp 18) (Operand.tmp 27) (Operand.const (Value.bool false)), _, _, _, none⟩ rfl (fun _ _ _ h => h) ?_ hHeld ?_
      rotate_left
      · (intro W _; go_simp <;> (try with_reducible rfl))
      refine take_v (v := ?_) 26 ⟨some 2, Op.assign (Operand.tmp 28), _, _, _, none⟩ rfl (fun _ _ _ h => h) ?_ hHeld ?_
      rotate_left
      · (intro W _; go_simp <;> (try with_reducible rfl))
      refine wpAnyH_done (by kernel_rfl) ?_ _
      refine NoPanic.normal ?_
      clear hHeld
      go_wp2
      go_ret
      exact ⟨ret_bool (by rw [← HZ.out]), HB.out.drew⟩
    · have hp' : ¬ p ≤ bal := hp
      go_enter Try.func109, Try.ntmps109
      go_upto_region 1 with fail
      go_quiet (fail)
      go_wp2
      go_ret
      exact ⟨ret_bool (by rw [decide_eq_false (by omega)]; rfl), below_dN HB.out _⟩
end Go.Proofs.Ytmhkfangfhanlaa
