/- Synods: one proposer at one node: what a turn may do. -/
import Derived.Test.YtmhkfangfhanlaaSyQ
namespace Go.Proofs.Ytmhkfangfhanlaa
open Go.RowKit
set_option linter.unusedVariables false
set_option linter.unusedSimpArgs false

theorem Chunk.cell {W W' : World} {t : TypeId} {g o : Nat} {ec : List Value} (h : Chunk W W' t g o ec) {j : Nat} {v : Value} (hv : ec[j]? = some v) : W'.cell? ⟨g, o + j, none⟩ = some v := by
  obtain ⟨cur, cur', h0, h1, h2, h3⟩ := h
  have hj : j < ec.length := by
    rcases Nat.lt_or_ge j ec.length with q | q
    · exact q
    · rw [List.getElem?_eq_none q] at hv; cases hv
  rw [Go.Joins.cell_of_block h1, h3, if_pos (by omega), show o + j - o = j by omega]
  exact hv
theorem Chunk.frz {W W' : World} {t : TypeId} {g o : Nat} {ec : List Value} (h : Chunk W W' t g o ec) (j : Nat) : W'.frozen? ⟨g, j, none⟩ = false := by
  obtain ⟨cur, cur', h0, h1, _⟩ := h
  exact Go.Joins.unfrozen_of_block h1 j
theorem Chunk.lt {W W' : World} {t : TypeId} {g o : Nat} {ec : List Value} (h : Chunk W W' t g o ec) : g < W'.heap.size := by
  obtain ⟨cur, cur', h0, h1, _⟩ := h
  rcases Nat.lt_or_ge g W'.heap.size with q | q
  · exact q
  · rw [Array.getElem?_eq_none q] at h1; cases h1
/-- One acceptor's cells and one proposer's, with its lists, since W0. -/
def Loc (W0 : World) (lo ga oa gp op : Nat) (S0 : Nat → Prop) (W : World) (v1 v2 : Value) (B1 B2 : Nat → Prop) (p b : Int) (v own : ByteArray) (ps : List (Sh.T shPromise)) (fx : Bool) (val : ByteArray) (vt : List (Sh.T .int)) : Prop :=
  Chunk W0 W 91 ga oa [.int .i64 p, .int .i64 b, .string v] ∧ Chunk W0 W 43 gp op [.string own, v1, .bool fx, .string val, v2] ∧ OwnX W lo (.list tyPromise 96) [v1] ps B1 ∧ OwnX W lo (.list .int 3) [v2] vt B2 ∧
    (∀ k, B1 k → ¬ B2 k) ∧ (∀ k, B1 k ∨ B2 k → k ≠ ga ∧ k ≠ gp ∧ k < W.heap.size ∧ (S0 k ∨ W0.heap.size ≤ k)) ∧ ga ≠ gp ∧ S0 ga ∧ S0 gp ∧ TurnS S0 W0 W ∧ lo ≤ W0.heap.size
section
variable {W0 W W' : World} {lo ga oa gp op : Nat} {S0 : Nat → Prop} {v1 v2 : Value} {B1 B2 : Nat → Prop} {p b : Int} {v own : ByteArray} {ps : List (Sh.T shPromise)} {fx : Bool} {val : ByteArray} {vt : List (Sh.T .int)}
theorem Loc.next (h : Loc W0 lo ga oa gp op S0 W v1 v2 B1 B2 p b v own ps fx val vt) (hb : Below W.heap.size W W') : Loc W0 lo ga oa gp op S0 W' v1 v2 B1 B2 p b v own ps fx val vt := by
  obtain ⟨h1, h2, h3, h4, h5, h6, h7, h8, h9, h10, h11⟩ := h
  exact ⟨h1.keep (hb.block _ h1.lt), h2.keep (hb.block _ h2.lt), h3.next hb, h4.next hb, h5, fun k hk => ⟨(h6 k hk).1, (h6 k hk).2.1, Nat.lt_of_lt_of_le (h6 k hk).2.2.1 hb.size, (h6 k hk).2.2.2⟩, h7, h8, h9, h10.next hb, h11⟩
/-- A cell of the acceptor is written. -/
theorem Loc.setA (h : Loc W0 lo ga oa gp op S0 W v1 v2 B1 B2 p b v own ps fx val vt) (p' : Int) : Loc W0 lo ga oa gp op S0 (W.setCell ⟨ga, oa, none⟩ (.int .i64 p')) v1 v2 B1 B2 p' b v own ps fx val vt := by
  obtain ⟨h1, h2, h3, h4, h5, h6, h7, h8, h9, h10, h11⟩ := h
  exact ⟨h1.set (j := 0) (by simp) (.int .i64 p'), h2.keep (Below.heap_setCell _ _ _ _ (Ne.symm h7)), h3.set (p := ⟨ga, oa, none⟩) (fun q => (h6 _ (Or.inl q)).1 rfl) _, h4.set (p := ⟨ga, oa, none⟩) (fun q => (h6 _ (Or.inr q)).1 rfl) _, h5, fun k hk => ⟨(h6 k hk).1, (h6 k hk).2.1, by have := (h6 k hk).2.2.1; simpa using this, (h6 k hk).2.2.2⟩, h7, h8, h9, h10.set (p := ⟨ga, oa, none⟩) h8 _, h11⟩
/-- A cell of the proposer that is no list is written. -/
theorem Loc.setF (h : Loc W0 lo ga oa gp op S0 W v1 v2 B1 B2 p b v own ps fx val vt) (fx' : Bool) : Loc W0 lo ga oa gp op S0 (W.setCell ⟨gp, op + 2, none⟩ (.bool fx')) v1 v2 B1 B2 p b v own ps fx' val vt := by
  obtain ⟨h1, h2, h3, h4, h5, h6, h7, h8, h9, h10, h11⟩ := h
  exact ⟨h1.keep (Below.heap_setCell _ _ _ _ h7), h2.set (j := 2) (by simp) (.bool fx'), h3.set (p := ⟨gp, op + 2, none⟩) (fun q => (h6 _ (Or.inl q)).2.1 rfl) _, h4.set (p := ⟨gp, op + 2, none⟩) (fun q => (h6 _ (Or.inr q)).2.1 rfl) _, h5, fun k hk => ⟨(h6 k hk).1, (h6 k hk).2.1, by have := (h6 k hk).2.2.1; simpa using this, (h6 k hk).2.2.2⟩, h7, h8, h9, h10.set (p := ⟨gp, op + 2, none⟩) h9 _, h11⟩
theorem Loc.setV (h : Loc W0 lo ga oa gp op S0 W v1 v2 B1 B2 p b v own ps fx val vt) (val' : ByteArray) : Loc W0 lo ga oa gp op S0 (W.setCell ⟨gp, op + 3, none⟩ (.string val')) v1 v2 B1 B2 p b v own ps fx val' vt := by
  obtain ⟨h1, h2, h3, h4, h5, h6, h7, h8, h9, h10, h11⟩ := h
  exact ⟨h1.keep (Below.heap_setCell _ _ _ _ h7), h2.set (j := 3) (by simp) (.string val'), h3.set (p := ⟨gp, op + 3, none⟩) (fun q => (h6 _ (Or.inl q)).2.1 rfl) _, h4.set (p := ⟨gp, op + 3, none⟩) (fun q => (h6 _ (Or.inr q)).2.1 rfl) _, h5, fun k hk => ⟨(h6 k hk).1, (h6 k hk).2.1, by have := (h6 k hk).2.2.1; simpa using this, (h6 k hk).2.2.2⟩, h7, h8, h9, h10.set (p := ⟨gp, op + 3, none⟩) h9 _, h11⟩
end
/-- The turn as a value. -/
abbrev TV (bal node n : Int) (ga oa gp op : Nat) : Array Value := #[.int .i64 bal, .int .i64 node, .int .i64 n, .pointer (some ⟨ga, oa, none⟩), .pointer (some ⟨gp, op, none⟩)]

set_option maxRecDepth 100000 in
set_option maxHeartbeats 2000000 in
theorem mayPromise_n (bal node n : Int) (W0 W : World) (lo ga oa gp op : Nat) (S0 : Nat → Prop) (v1 v2 : Value) (B1 B2 : Nat → Prop) (p b : Int) (v own : ByteArray) (ps : List (Sh.T shPromise)) (fx : Bool) (val : ByteArray) (vt : List (Sh.T .int)) (h : Loc W0 lo ga oa gp op S0 W v1 v2 B1 B2 p b v own ps fx val vt) :
    Calls Try.prog 105 #[.agg (TV bal node n ga oa gp op)] W fun r w' => r = .returned (.bool (decide (p < bal) && !fx)) ∧ Below W.heap.size W w' := by
  have c0 : W.cell? ⟨ga, oa, none⟩ = some (.int .i64 p) := h.1.cell (j := 0) rfl
  have d2 : W.cell? ⟨gp, op + 2, none⟩ = some (.bool fx) := h.2.1.cell (j := 2) rfl
  have za := h.1.lt
  have zp := h.2.1.lt
  have hB : Below W.heap.size W (W.alloc (.cells (TV bal node n ga oa gp op) 111)) := Go.Joins.below_alloc1 _ _
  have HB := Hid.intro hB
  clear h hB
  by_cases hp : p < bal
  · cases fx
    · go_enter Try.func105, Try.ntmps105
      go_upto_region 1 with fail
      go_quiet (fail)
      go_wp2
      go_ret
      exact ⟨ret_bool (by simp [hp]), below_dN HB.out _⟩
    · go_enter Try.func105, Try.ntmps105
      go_upto_region 1 with fail
      go_quiet (fail)
      go_wp2
      go_ret
      exact ⟨ret_bool (by simp [hp]), below_dN HB.out _⟩
  · go_enter Try.func105, Try.ntmps105
    go_upto_region 1 with fail
    go_quiet (fail)
    go_wp2
    go_ret
    exact ⟨ret_bool (by rw [decide_eq_false (by omega)]; rfl), below_dN HB.out _⟩
end Go.Proofs.Ytmhkfangfhanlaa
