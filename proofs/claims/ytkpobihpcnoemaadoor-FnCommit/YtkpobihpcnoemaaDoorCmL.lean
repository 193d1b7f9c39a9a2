/- Commits: lists of shards that are being built, each with a row of its own. Written by tools/mkCmN.py. -/
import Derived.Test.YtkpobihpcnoemaaDoorCmS
import Derived.Test.YtkpobihpcnoemaaDoorNtX
import Derived.Test.YtkpobihpcnoemaaDoorNtT
import Derived.Test.YtkpobihpcnoemaaDoorGaF
import Derived.Test.YtkpobihpcnoemaaDoorGaO
namespace Go.Proofs.YtkpobihpcnoemaaDoor
open Go.RowKit
set_option linter.unusedVariables false
set_option linter.unusedSimpArgs false

/-- A list of shards whose rows are known, in blocks from lo on. -/
def LsX (W : World) (lo : Nat) (v : Value) (l : List Shd) : Prop := ∃ S : Nat → Prop, OwnX W lo (.list tyShard 42) [v] l S ∧ ∀ k, S k → lo ≤ k ∧ k < W.heap.size
/-- Such a list, opened to be appended to. -/
structure LsR (W : World) (lo : Nat) (v : Value) (l : List Shd) (xs : List Value) (S : Nat → Prop) (B : Nat → Nat → Prop) : Prop where
  row : W.ownsRow lo 42 1 v l.length xs
  s : ∀ k, v.ownBlock = some k → S k
  b : ∀ i, i < l.length → ∀ k, B i k → S k ∧ v.ownBlock ≠ some k
  d : ∀ i j, i < j → j < l.length → ∀ k, B i k → ¬ B j k
  e : ∀ i (h : i < l.length), OwnX W lo tyShard ((xs.drop (i * tyShard.c)).take tyShard.c) l[i] (B i)
  z : ∀ k, S k → lo ≤ k ∧ k < W.heap.size
theorem LsX.nil {W : World} {lo : Nat} : LsX W lo (.slice none 0 0) [] := ⟨fun _ => False, OwnX.nil', fun k q => q.elim⟩
theorem LsX.next {W W' : World} {lo : Nat} {v : Value} {l : List Shd} (h : LsX W lo v l) (hb : Below W.heap.size W W') : LsX W' lo v l := by
  obtain ⟨S, h1, h2⟩ := h
  exact ⟨S, h1.next hb, fun k hk => ⟨(h2 k hk).1, Nat.lt_of_lt_of_le (h2 k hk).2 hb.size⟩⟩
theorem LsX.turn {W W' : World} {lo : Nat} {v : Value} {l : List Shd} {S' : Nat → Prop} (h : LsX W lo v l) (ht : TurnS S' W W') (hS : ∀ k, S' k → k < lo) : LsX W' lo v l := by
  obtain ⟨S, h1, h2⟩ := h
  exact ⟨S, h1.turn ht (fun k hk q => by have := hS k q; have := (h2 k hk).1; omega), fun k hk => ⟨(h2 k hk).1, Nat.lt_of_lt_of_le (h2 k hk).2 ht.size⟩⟩
theorem LsX.open {W : World} {lo : Nat} {v : Value} {l : List Shd} (h : LsX W lo v l) : ∃ xs S B, LsR W lo v l xs S B := by
  obtain ⟨S, h1, h2⟩ := h
  obtain ⟨xs, r1, r2, B, r3, r4, r5⟩ := h1.row
  exact ⟨xs, S, B, r1, r2, r3, r4, r5, h2⟩
theorem LsR.next {W W' : World} {lo : Nat} {v : Value} {l : List Shd} {xs : List Value} {S : Nat → Prop} {B : Nat → Nat → Prop} (h : LsR W lo v l xs S B) (hb : Below W.heap.size W W') : LsR W' lo v l xs S B :=
  ⟨ownsRow_next h.row hb, h.s, h.b, h.d, fun i hi => (h.e i hi).keep (fun k hk hB => hb.block k (h.z k (h.b i hi k hB).1).2), fun k hk => ⟨(h.z k hk).1, Nat.lt_of_lt_of_le (h.z k hk).2 hb.size⟩⟩
theorem LsR.app {W W' : World} {lo : Nat} {v v' u : Value} {l : List Shd} {xs : List Value} {S E : Nat → Prop} {B : Nat → Nat → Prop} {x : List Rpl} (h : LsR W lo v l xs S B) (hx : OwnX W lo (.list tyReplica 44) [u] x E) (hE : ∀ k, E k → lo ≤ k ∧ k < W.heap.size ∧ ¬ S k)
    (h2 : W'.ownsRow lo 42 1 v' (l.length + 1) (xs ++ [u])) (hg : W.grownBy W' v.ownBlock) (hwh : v'.ownBlock = v.ownBlock ∨ v'.ownBlock = some W.heap.size) : LsX W' lo v' (l ++ [mkS x]) := by
  have h0 := OwnX.app (e := tyShard) h.row h.s h.b h.d h.e (fun k hk => (h.z k hk).2) (mkownx_Shard hx (fun k hk => hk)) (fun k hk => (hE k hk).2) h2 hg hwh
  refine ⟨_, h0, fun k hk => ?_⟩
  have hs := hg.size
  rcases hk with q | q | q
  · exact ⟨(h.z k q).1, Nat.lt_of_lt_of_le (h.z k q).2 hs⟩
  · exact ⟨(hE k q).1, Nat.lt_of_lt_of_le (hE k q).2.1 hs⟩
  · have := h2.lt k q; exact ⟨this.1, this.2⟩
theorem LsX.form {W : World} {lo : Nat} {v : Value} {l : List Shd} (h : LsX W lo v l) : ∃ a c, v = .slice a l.length c := by
  obtain ⟨S, h1, _⟩ := h; exact h1.vform
theorem LsX.blk {W : World} {lo : Nat} {v : Value} {l : List Shd} (h : LsX W lo v l) : ∀ k, v.ownBlock = some k → lo ≤ k ∧ k < W.heap.size := by
  obtain ⟨S, h1, h2⟩ := h
  obtain ⟨xs, r1, r2, _⟩ := h1.row
  exact fun k hk => h2 k (r2 k hk)
theorem LsX.commit {W : World} {lo : Nat} {v : Value} {l : List Shd} (h : LsX W lo v l) (dr rc : Int) : OwnX W lo tyCommit [v, .int .i64 dr, .int .i64 rc] (l, dr, rc, ()) (Btw lo W.heap.size) := by
  obtain ⟨S, h1, h2⟩ := h
  exact mkownx_Commit h1 (fun k hk => h2 k hk)
theorem zeros_rep (n : Nat) (l : List tyReplica.T) (hl : l.length = n) (hz : ∀ i (h : i < l.length), valC tyReplica l[i] = [.bool false, .int .i64 0]) : (madeCells (Value.agg #[.bool false, .int .i64 0]).cells (n * 2)).toList = List.flatMap (valC tyReplica) l := by
  refine flat_of (c := 2) (fun x => valC_len (s := tyReplica) x rfl) l _ (by rw [hl]; simp [madeCells]) (fun i hi => ?_)
  rw [hz i hi]
  exact made_take (Value.agg #[.bool false, .int .i64 0]).cells n i (by decide) (by rw [← hl]; exact hi)
theorem rep_len (n : Nat) (x : Rpl) : (List.replicate n x).length = n := List.length_replicate
theorem rep_cells (n : Nat) : (madeCells (Value.agg #[.bool false, .int .i64 0]).cells (n * 2)).toList = List.flatMap (valC tyReplica) (List.replicate n (mkR false 0) : List Rpl) :=
  zeros_rep n _ (rep_len n _) (fun i hi => by
    have e : (List.replicate n (mkR false 0))[i]'hi = mkR false 0 := List.getElem_replicate _
    exact congrArg (valC tyReplica) e)
/-- make([]Replica, n). -/
theorem wp_make_rep {P : Program} {w : World} {o : Oper} {a : Act} {K : Act → World → Prop} {Q : Exit → Act → World → Prop} (l c : Operand) (t e : TypeId) (hop : o.op = Op.makeSlice t l c) (i : TypeInfo) (h1 : P.underlying t = some (.slice e)) (h2 : P.info? e = some i) (h3 : i.zero = some (.agg #[.bool false, .int .i64 0])) (h4 : i.size = 2)
    (n : Nat) (hl : a.eval l = .int .i64 (n : Int)) (hc : a.eval c = .int .i64 (n : Int)) (b2 : i.bytes * n ≤ 281474976710656) (b3 : n ≤ maxLen)
    (hK : ∀ w', OwnX w' w.heap.size (.list tyReplica e) [.slice (some ⟨w.heap.size, 0, none⟩) n n] (List.replicate n (mkR false 0)) (fun k => k = w.heap.size) → Below w.heap.size w w' → w.heap.size < w'.heap.size → K (a.put o.dst (.slice (some ⟨w.heap.size, 0, none⟩) n n)) w') : o.wp P a w K Q := by
  obtain ⟨w', hrun, r1, r2⟩ := run_make_full (P := P) w w.heap.size t e i (.agg #[.bool false, .int .i64 0]) 2 h1 h2 h3 h4 .i64 .i64 n b2 b3 (Nat.le_refl _)
  unfold Oper.wp
  simp [execOp, hop, hl, hc, hrun, Result.andThen]
  refine hK w' (OwnX.of_flat (e := tyReplica) rfl ?_ (fun k hk => by cases hk; rfl)) ⟨r2.os, r2.tape, r2.output, r2.size, fun k hk => r2.block k hk (fun q => by cases q)⟩ ((r1.lt w.heap.size rfl).2)
  have r1' := r1
  rw [rep_cells] at r1'
  have e : List.length (α := tyReplica.T) (List.replicate n (mkR false 0)) = n := rep_len n _
  exact e.symm ▸ r1'
/-- A commit and a bool are answered, its rows known. -/
def AnC (ss : List Shd) (dr rc : Int) (ok : Bool) (w : World) (r : Ending) (w' : World) : Prop := ∃ v, r = .returned (.tuple #[.agg #[v, .int .i64 dr, .int .i64 rc], .bool ok]) ∧ OwnX w' w.heap.size tyCommit [v, .int .i64 dr, .int .i64 rc] (ss, dr, rc, ()) (Btw w.heap.size w'.heap.size) ∧ Below w.heap.size w w'
theorem set3 (W : World) (g : Nat) (u0 u1 u2 : Value) : TurnS (fun k => k = g) W (((W.setCell ⟨g, 0, none⟩ u0).setCell ⟨g, 1, none⟩ u1).setCell ⟨g, 2, none⟩ u2) :=
  (((TurnS.refl (fun k => k = g) W).set (S := fun k => k = g) (p := ⟨g, 0, none⟩) rfl _).set (S := fun k => k = g) (p := ⟨g, 1, none⟩) rfl _).set (S := fun k => k = g) (p := ⟨g, 2, none⟩) rfl _
theorem AnC.zero {w w' : World} (hb : Below w.heap.size w w') : AnC [] 0 0 false w (.returned (.tuple #[.agg #[.slice none 0 0, .int .i64 0, .int .i64 0], .bool false])) w' :=
  ⟨.slice none 0 0, rfl, (LsX.nil (W := w') (lo := w.heap.size)).commit 0 0, hb⟩
theorem AnC.out {ss : List Shd} {dr rc : Int} {ok : Bool} {w w' : World} {r : Ending} (h : AnC ss dr rc ok w r w') : AnsP shCommit (ss, dr, rc, ()) ok w r w' := by
  obtain ⟨v, e, hO, hB⟩ := h
  exact ⟨[v, .int .i64 dr, .int .i64 rc], e, hO.own, hB⟩

end Go.Proofs.YtkpobihpcnoemaaDoor
