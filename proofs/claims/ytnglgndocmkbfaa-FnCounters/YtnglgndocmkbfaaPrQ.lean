/- Two lists of flat structs that are built anew side by side, in any order, and the box that takes them. No Go text is spoken of here. -/
import Derived.Test.YtnglgndocmkbfaaShW
import Derived.Test.YtnglgndocmkbfaaShS
import Derived.Test.YtnglgndocmkbfaaShM
namespace Go.Proofs.Ytnglgndocmkbfaa
open Go.RowKit
set_option linter.unusedVariables false
set_option linter.unusedSimpArgs false

/-- A list that is not there yet, or was made empty (false), or holds l (true). -/
def RwQ (e : Ty) (t : TypeId) (W : World) (lo : Nat) (l : List e.T) : Option (Value × Bool) → Prop
  | none => True
  | some (v, f) => OwnX W lo (.list e t) [v] (if f then l else []) (fun k => v.ownBlock = some k)
def blkQ (x : Option (Value × Bool)) (k : Nat) : Prop := ∃ v f, x = some (v, f) ∧ v.ownBlock = some k
theorem blkQ_none {k : Nat} : ¬ blkQ none k := by rintro ⟨v, f, q, _⟩; cases q
theorem blkQ_some {v : Value} {f : Bool} {k : Nat} : blkQ (some (v, f)) k ↔ v.ownBlock = some k := ⟨by rintro ⟨v', f', q, h⟩; cases q; exact h, fun h => ⟨v, f, rfl, h⟩⟩
def PrQ (e : Ty) (t : TypeId) (W : World) (lo : Nat) (l1 l2 : List e.T) (x1 x2 : Option (Value × Bool)) (x3 : Option Nat) (zc : List Value) : Prop :=
  RwQ e t W lo l1 x1 ∧ RwQ e t W lo l2 x2 ∧ (∀ b, x3 = some b → Bx W b zc ∧ lo ≤ b) ∧ (∀ k, blkQ x1 k → ¬ blkQ x2 k ∧ x3 ≠ some k) ∧ (∀ k, blkQ x2 k → x3 ≠ some k) ∧ (∀ k, blkQ x1 k ∨ blkQ x2 k → k < W.heap.size) ∧ lo ≤ W.heap.size
section
variable {e : Ty} {t : TypeId} {W W' : World} {lo : Nat} {l l1 l2 : List e.T} {x x1 x2 : Option (Value × Bool)} {x3 : Option Nat} {zc : List Value}
theorem RwQ.keep (h : RwQ e t W lo l x) (hk : ∀ k, k < W.heap.size → blkQ x k → W'.heap[k]? = W.heap[k]?) : RwQ e t W' lo l x := by
  cases x with
  | none => trivial
  | some p => obtain ⟨v, f⟩ := p; exact OwnX.keep (fun k hlt hs => hk k hlt (blkQ_some.2 hs)) h
theorem PrQ.start (hl : lo ≤ W.heap.size) : PrQ e t W lo l1 l2 none none none zc := ⟨trivial, trivial, fun b q => (by cases q), fun k q => (blkQ_none q).elim, fun k q => (blkQ_none q).elim, fun k q => q.elim (fun q => (blkQ_none q).elim) (fun q => (blkQ_none q).elim), hl⟩
theorem PrQ.next (h : PrQ e t W lo l1 l2 x1 x2 x3 zc) (hb : Below W.heap.size W W') : PrQ e t W' lo l1 l2 x1 x2 x3 zc := by
  obtain ⟨h1, h2, h3, h4, h5, h6, h7⟩ := h
  exact ⟨h1.keep (fun k hk _ => hb.block k hk), h2.keep (fun k hk _ => hb.block k hk), fun b q => ⟨(h3 b q).1.next hb, (h3 b q).2⟩, h4, h5, fun k q => Nat.lt_of_lt_of_le (h6 k q) hb.size, Nat.le_trans h7 hb.size⟩
theorem PrQ.grown (h : PrQ e t W lo l1 l2 x1 x2 x3 zc) {row : Option Nat} (hg : W.grownBy W' row) (h1 : ∀ k, row = some k → ¬ blkQ x1 k) (h2 : ∀ k, row = some k → ¬ blkQ x2 k) (h3 : ∀ k, row = some k → x3 ≠ some k) : PrQ e t W' lo l1 l2 x1 x2 x3 zc := by
  obtain ⟨q1, q2, q3, q4, q5, q6, q7⟩ := h
  exact ⟨q1.keep (fun k hk b => hg.block k hk (fun q => h1 k q.symm b)), q2.keep (fun k hk b => hg.block k hk (fun q => h2 k q.symm b)), fun b q => ⟨(q3 b q).1.grow hg (fun r => h3 b r.symm q), (q3 b q).2⟩, q4, q5, fun k q => Nat.lt_of_lt_of_le (q6 k q) hg.size, Nat.le_trans q7 hg.size⟩
/-- The first list is there now. -/
theorem PrQ.row1 (h : PrQ e t W lo l1 l2 x1 x2 x3 zc) {v : Value} {S : Nat → Prop} {row : Option Nat} (he : e.flatB = true) (hO : OwnX W' lo (.list e t) [v] l1 S) (hg : W.grownBy W' row) (hr : ∀ k, row = some k → blkQ x1 k) (hv : ∀ k, v.ownBlock = some k → blkQ x1 k ∨ k = W.heap.size) : PrQ e t W' lo l1 l2 (some (v, true)) x2 x3 zc := by
  obtain ⟨q1, q2, q3, q4, q5, q6, q7⟩ := h
  obtain ⟨hrow, _⟩ := OwnX.flat he hO
  refine ⟨OwnX.of_flat (e := e) he hrow (fun k hk => hk), q2.keep (fun k hk b => hg.block k hk (fun q => (q4 k (hr k q.symm)).1 b)), fun b q => ⟨(q3 b q).1.grow hg (fun r => (q4 b (hr b r.symm)).2 q), (q3 b q).2⟩, ?_, q5, ?_, Nat.le_trans q7 hg.size⟩
  · intro k hk
    rcases hv k (blkQ_some.1 hk) with q | q
    · exact q4 k q
    · exact ⟨fun b => by have := q6 k (Or.inr b); omega, fun b => by have := (q3 k b).1.2; omega⟩
  · intro k hk
    rcases hk with hk | hk
    · exact (hrow.lt k (blkQ_some.1 hk)).2
    · exact Nat.lt_of_lt_of_le (q6 k (Or.inr hk)) hg.size
theorem PrQ.row2 (h : PrQ e t W lo l1 l2 x1 x2 x3 zc) {v : Value} {S : Nat → Prop} {row : Option Nat} (he : e.flatB = true) (hO : OwnX W' lo (.list e t) [v] l2 S) (hg : W.grownBy W' row) (hr : ∀ k, row = some k → blkQ x2 k) (hv : ∀ k, v.ownBlock = some k → blkQ x2 k ∨ k = W.heap.size) : PrQ e t W' lo l1 l2 x1 (some (v, true)) x3 zc := by
  obtain ⟨q1, q2, q3, q4, q5, q6, q7⟩ := h
  obtain ⟨hrow, _⟩ := OwnX.flat he hO
  refine ⟨q1.keep (fun k hk b => hg.block k hk (fun q => (q4 k b).1 (hr k q.symm))), OwnX.of_flat (e := e) he hrow (fun k hk => hk), fun b q => ⟨(q3 b q).1.grow hg (fun r => q5 b (hr b r.symm) q), (q3 b q).2⟩, ?_, ?_, ?_, Nat.le_trans q7 hg.size⟩
  · intro k hk
    refine ⟨fun b => ?_, (q4 k hk).2⟩
    rcases hv k (blkQ_some.1 b) with q | q
    · exact (q4 k hk).1 q
    · have := q6 k (Or.inl hk); omega
  · intro k hk b
    rcases hv k (blkQ_some.1 hk) with q | q
    · exact q5 k q b
    · have := (q3 k b).1.2; omega
  · intro k hk
    rcases hk with hk | hk
    · exact Nat.lt_of_lt_of_le (q6 k (Or.inl hk)) hg.size
    · exact (hrow.lt k (blkQ_some.1 hk)).2
theorem made_flat (he : e.flatB = true) (hl : lo ≤ W.heap.size) : OwnX (W.alloc (.cells #[] t)) lo (.list e t) [.slice (some ⟨W.heap.size, 0, none⟩) 0 0] [] (fun k => (Value.slice (some ⟨W.heap.size, 0, none⟩) 0 0).ownBlock = some k) := by
  have h := (ApS.made (e := e) (t := t) (w := W) he).1
  obtain ⟨hrow, _⟩ := OwnX.flat he h
  exact (OwnX.of_flat (e := e) he hrow (fun k hk => hk)).lower hl
theorem grown_alloc (W : World) (o : Obj) : W.grownBy (W.alloc o) none := ⟨rfl, rfl, rfl, by simp, fun k hk _ => (Go.Joins.below_alloc1 W o).block k hk⟩
/-- The first list is made, empty. -/
theorem PrQ.made1 (h : PrQ e t W lo l1 l2 none x2 x3 zc) (he : e.flatB = true) : PrQ e t (W.alloc (.cells #[] t)) lo l1 l2 (some (.slice (some ⟨W.heap.size, 0, none⟩) 0 0, false)) x2 x3 zc := by
  have hn := h.next (Go.Joins.below_alloc1 W (.cells #[] t))
  obtain ⟨q1, q2, q3, q4, q5, q6, q7⟩ := hn
  have q6' := h.2.2.2.2.2.1
  have q3' := h.2.2.1
  refine ⟨made_flat he h.2.2.2.2.2.2, q2, q3, ?_, q5, ?_, q7⟩
  · intro k hk
    have hk := blkQ_some.1 hk
    obtain rfl : W.heap.size = k := Option.some.inj hk
    exact ⟨fun b => by have := q6' _ (Or.inr b); omega, fun b => by have := (q3' _ b).1.2; omega⟩
  · intro k hk
    rcases hk with hk | hk
    · have hk := blkQ_some.1 hk
      obtain rfl : W.heap.size = k := Option.some.inj hk; simp
    · exact q6 k (Or.inr hk)
theorem PrQ.made2 (h : PrQ e t W lo l1 l2 x1 none x3 zc) (he : e.flatB = true) : PrQ e t (W.alloc (.cells #[] t)) lo l1 l2 x1 (some (.slice (some ⟨W.heap.size, 0, none⟩) 0 0, false)) x3 zc := by
  have hn := h.next (Go.Joins.below_alloc1 W (.cells #[] t))
  obtain ⟨q1, q2, q3, q4, q5, q6, q7⟩ := hn
  have q6' := h.2.2.2.2.2.1
  have q3' := h.2.2.1
  refine ⟨q1, made_flat he h.2.2.2.2.2.2, q3, ?_, ?_, ?_, q7⟩
  · intro k hk
    refine ⟨fun b => ?_, (q4 k hk).2⟩
    have b := blkQ_some.1 b
    obtain rfl : W.heap.size = k := Option.some.inj b
    have := q6' _ (Or.inl hk); omega
  · intro k hk b
    have hk := blkQ_some.1 hk
    obtain rfl : W.heap.size = k := Option.some.inj hk
    have := (q3' _ b).1.2; omega
  · intro k hk
    rcases hk with hk | hk
    · exact q6 k (Or.inl hk)
    · have hk := blkQ_some.1 hk
      obtain rfl : W.heap.size = k := Option.some.inj hk; simp
/-- The box is there. -/
theorem PrQ.box (h : PrQ e t W lo l1 l2 x1 x2 none zc) (ty : TypeId) : PrQ e t (W.alloc (.cells zc.toArray ty)) lo l1 l2 x1 x2 (some W.heap.size) zc := by
  have hn := h.next (Go.Joins.below_alloc1 W (.cells zc.toArray ty))
  obtain ⟨q1, q2, q3, q4, q5, q6, q7⟩ := hn
  have q6' := h.2.2.2.2.2.1
  refine ⟨q1, q2, fun b q => ?_, ?_, ?_, q6, q7⟩
  · cases q; exact ⟨Bx.new W zc ty, h.2.2.2.2.2.2⟩
  · intro k hk
    exact ⟨(q4 k hk).1, fun b => by cases b; have := q6' _ (Or.inl hk); omega⟩
  · intro k hk b
    cases b; have := q6' _ (Or.inr hk); omega
end
/-- A box b with two lists of its own. -/
def PrS (e : Ty) (t : TypeId) (W : World) (lo b : Nat) (v1 v2 : Value) (l1 l2 : List e.T) : Prop :=
  Bx W b [v1, v2] ∧ OwnX W lo (.list e t) [v1] l1 (fun k => v1.ownBlock = some k) ∧ OwnX W lo (.list e t) [v2] l2 (fun k => v2.ownBlock = some k) ∧ (∀ k, v1.ownBlock = some k → v2.ownBlock ≠ some k ∧ k ≠ b) ∧ (∀ k, v2.ownBlock = some k → k ≠ b) ∧ lo ≤ b
section
variable {e : Ty} {t : TypeId} {W W' : World} {lo b : Nat} {l1 l2 : List e.T} {v1 v2 : Value} {z1 z2 : Value}
theorem PrS.of (h : PrQ e t W lo l1 l2 (some (v1, true)) (some (v2, true)) (some b) [z1, z2]) : PrS e t ((W.setCell ⟨b, 0, none⟩ v1).setCell ⟨b, 1, none⟩ v2) lo b v1 v2 l1 l2 := by
  obtain ⟨q1, q2, q3, q4, q5, q6, q7⟩ := h
  have hb := q3 b rfl
  have d1 : ∀ k, v1.ownBlock = some k → k ≠ b := fun k hk e => (q4 k (blkQ_some.2 hk)).2 (by rw [e])
  have d2 : ∀ k, v2.ownBlock = some k → k ≠ b := fun k hk e => q5 k (blkQ_some.2 hk) (by rw [e])
  refine ⟨?_, (OwnX.set (p := ⟨b, 0, none⟩) q1 (fun q => d1 b q rfl) v1).set (p := ⟨b, 1, none⟩) (fun q => d1 b q rfl) v2, (OwnX.set (p := ⟨b, 0, none⟩) q2 (fun q => d2 b q rfl) v1).set (p := ⟨b, 1, none⟩) (fun q => d2 b q rfl) v2, fun k hk => ⟨fun q => (q4 k (blkQ_some.2 hk)).1 (blkQ_some.2 q), d1 k hk⟩, d2, hb.2⟩
  exact (hb.1.set (k := 0) (by simp) v1).set (k := 1) (by simp) v2
theorem PrS.next (h : PrS e t W lo b v1 v2 l1 l2) (hb : Below W.heap.size W W') : PrS e t W' lo b v1 v2 l1 l2 := ⟨h.1.next hb, h.2.1.next hb, h.2.2.1.next hb, h.2.2.2⟩
theorem PrS.turn {S : Nat → Prop} (h : PrS e t W lo b v1 v2 l1 l2) (ht : TurnS S W W') (hS : ∀ k, S k → k < lo) : PrS e t W' lo b v1 v2 l1 l2 := by
  obtain ⟨h1, h2, h3, h4⟩ := h
  have hb := h4.2.2
  have hlt : ∀ {v : Value} {l : List e.T} {k : Nat}, OwnX W lo (.list e t) [v] l (fun k => v.ownBlock = some k) → v.ownBlock = some k → lo ≤ k := fun ho hk => by obtain ⟨xs, hr, _⟩ := ho.row; exact (hr.lt _ hk).1
  exact ⟨h1.turnS ht (fun q => by have := hS _ q; omega), h2.turn ht (fun k hk q => by have := hS _ q; have := hlt h2 hk; omega), h3.turn ht (fun k hk q => by have := hS _ q; have := hlt h3 hk; omega), h4⟩
end
end Go.Proofs.Ytnglgndocmkbfaa
