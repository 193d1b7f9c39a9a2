/- What holds between the steps of a play, for data of any shape: the answer's cell, the data in a box, a list of what came of each step. No Go text is spoken of here. -/
import Derived.Test.YtkpobihpcnoemaaDoorGaF
import Derived.Test.YtkpobihpcnoemaaDoorGaO
namespace Go.Proofs.YtkpobihpcnoemaaDoor
open Go.RowKit
set_option linter.unusedVariables false
set_option linter.unusedSimpArgs false

def PyS (s : Sh) (e : Ty) (t : TypeId) (zc : List Value) (w : World) (b : Nat) (wr : World) (cs : List Value) (y : s.T) (v : Value) (D : List e.T) : Prop :=
  Bx wr w.heap.size zc ∧ Bx wr b cs ∧ (∃ So Sd : Nat → Prop, Own wr s cs y So ∧ OwnX wr (w.heap.size + 1) (.list e t) [v] D Sd ∧ (∀ k, So k → w.heap.size + 1 ≤ k ∧ k < wr.heap.size ∧ k ≠ b ∧ ¬ Sd k) ∧ (∀ k, Sd k → w.heap.size + 1 ≤ k ∧ k < wr.heap.size ∧ k ≠ b)) ∧ Below w.heap.size w wr ∧ w.heap.size < b
section
variable {s : Sh} {e : Ty} {t : TypeId} {zc : List Value} {w wr W W' : World} {b : Nat} {cs cs' : List Value} {y y' : s.T} {v : Value} {D : List e.T}
theorem PyS.lies (h : PyS s e t zc w b wr cs y v D) : Lies wr s cs y := by
  obtain ⟨_, _, ⟨_, _, q, _⟩, _⟩ := h; exact q.lies
theorem PyS.next (h : PyS s e t zc w b wr cs y v D) (hb : Below wr.heap.size wr W) : PyS s e t zc w b W cs y v D := by
  obtain ⟨h1, h2, ⟨So, Sd, h3, h4, h5, h6⟩, h7, h8⟩ := h
  have hz := hb.size
  exact ⟨h1.next hb, h2.next hb, ⟨So, Sd, h3.next hb, h4.next hb, fun k hk => ⟨(h5 k hk).1, Nat.lt_of_lt_of_le (h5 k hk).2.1 hz, (h5 k hk).2.2⟩, fun k hk => ⟨(h6 k hk).1, Nat.lt_of_lt_of_le (h6 k hk).2.1 hz, (h6 k hk).2.2⟩⟩, below_next h7 hb, h8⟩
/-- The data are replaced by newer ones. -/
theorem PyS.put {S1 : Nat → Prop} (h : PyS s e t zc w b wr cs y v D) (hb : Below wr.heap.size wr W) (hO : Own W s cs' y' S1) (hS : ∀ k, S1 k → wr.heap.size ≤ k ∧ k < W.heap.size) (ht : TurnS (fun k => k = b) W W') (hx : Bx W' b cs') : PyS s e t zc w b W' cs' y' v D := by
  obtain ⟨h1, h2, ⟨So, Sd, h3, h4, h5, h6⟩, h7, h8⟩ := h
  have hz := hb.size
  have hbz := h2.2
  have hw := h7.size
  have hz2 := ht.size
  refine ⟨(h1.next hb).turnS ht (by omega), hx, ⟨S1, Sd, hO.turn ht (fun k hk q => by have := (hS k hk).1; have q : k = b := q; omega), (h4.next hb).turn ht (fun k hk q => (h6 k hk).2.2 q), fun k hk => ?_, fun k hk => ?_⟩, (below_next h7 hb).trans (ht.below (fun k q => by have q : k = b := q; omega) (by omega)), h8⟩
  · have := hS k hk
    exact ⟨by omega, by omega, by omega, fun q => by have := (h6 k q).2.1; omega⟩
  · have := h6 k hk
    exact ⟨this.1, by omega, this.2.2⟩
/-- What came of a step is appended. -/
theorem PyS.app {W9 : World} {v9 : Value} {l2 : List e.T} {S9 : Nat → Prop} (he : e.flatB = true) (h : PyS s e t zc w b W cs y v D) (hO : OwnX W9 (w.heap.size + 1) (.list e t) [v9] (D ++ l2) S9) (hg : W.grownBy W9 v.ownBlock) (hwh : v9.ownBlock = v.ownBlock ∨ v9.ownBlock = some W.heap.size) : PyS s e t zc w b W9 cs y v9 (D ++ l2) := by
  obtain ⟨h1, h2, ⟨So, Sd, h3, h4, h5, h6⟩, h7, h8⟩ := h
  have hz := hg.size
  obtain ⟨row, hrS⟩ := h4.flat he
  obtain ⟨row9, _⟩ := hO.flat he
  have hl : ∀ k, v.ownBlock = some k → w.heap.size + 1 ≤ k ∧ k < W.heap.size ∧ k ≠ b := fun k hk => h6 k (hrS k hk)
  have h9 : ∀ k, v9.ownBlock = some k → k = W.heap.size ∨ v.ownBlock = some k := fun k hk => by
    rcases hwh with q | q
    · exact Or.inr (q ▸ hk)
    · rw [q] at hk; cases hk; exact Or.inl rfl
  have hbz := h2.2
  refine ⟨h1.grow hg (fun q => by have := (hl _ q.symm).1; omega), h2.grow hg (fun q => (hl _ q.symm).2.2 rfl), ⟨So, fun k => v9.ownBlock = some k, h3.keep hg.size (fun k hk hs => hg.block k hk (fun q => (h5 k hs).2.2.2 (hrS k q.symm))), OwnX.of_flat he row9 (fun k hk => hk), fun k hk => ?_, fun k hk => ?_⟩, h7.grown hg h7.size (fun k hk => by have := (hl k hk).1; omega), h8⟩
  · have := h5 k hk
    refine ⟨this.1, by omega, this.2.2.1, fun q => ?_⟩
    rcases h9 k q with r | r
    · omega
    · exact this.2.2.2 (hrS k r)
  · have := row9.lt k hk
    refine ⟨this.1, this.2, fun e => ?_⟩
    rcases h9 k hk with r | r
    · omega
    · exact (hl k r).2.2 e
/-- The list's row, to append to. -/
theorem PyS.row (h : PyS s e t zc w b wr cs y v D) : ∃ Sd, OwnX wr (w.heap.size + 1) (.list e t) [v] D Sd := by
  obtain ⟨_, _, ⟨_, Sd, _, q, _⟩, _⟩ := h; exact ⟨Sd, q⟩
end
/-- A number of the list is set. -/
theorem PyS.did {s : Sh} {t : TypeId} {zc : List Value} {w W : World} {b : Nat} {cs : List Value} {y : s.T} {D : List (Sh.T .int)} {g cap n k : Nat} (h : PyS s .int t zc w b W cs y (.slice (some ⟨g, 0, none⟩) n cap) D) (hn : n = D.length) (hk : k < n) (u : Int) : (∃ x, W.cell? ⟨g, k, none⟩ = some (.int .i64 x)) ∧ W.frozen? ⟨g, k, none⟩ = false ∧ g < W.heap.size ∧ g ≠ b ∧ PyS s .int t zc w b (W.setCell ⟨g, k, none⟩ (.int .i64 u)) cs y (.slice (some ⟨g, 0, none⟩) n cap) (D.set k u) := by
  subst hn
  obtain ⟨h1, h2, ⟨So, Sd, h3, h4, h5, h6⟩, h7, h8⟩ := h
  obtain ⟨row, hrS⟩ := h4.flat rfl
  have hg : Sd g := hrS g rfl
  have hg6 := h6 g hg
  have hi := OwnX.inti h4 hk
  refine ⟨⟨_, hi.1⟩, hi.2.1, hi.2.2, hg6.2.2, h1.other (by omega), h2.other (Ne.symm hg6.2.2), ⟨So, Sd, h3.set (p := ⟨g, k, none⟩) (fun q => (h5 g q).2.2.2 hg) _, OwnX.seti h4 hk u, fun j hj => ?_, fun j hj => ?_⟩, h7.setCell (p := ⟨g, k, none⟩) (by show w.heap.size ≤ g; omega) _, h8⟩
  · have := h5 j hj; simp only [World.size_setCell]; exact this
  · have := h6 j hj; simp only [World.size_setCell]; exact this
/-- Data, a list and a Bool are answered. -/
def PyP (s e : Sh) (y : s.T) (D : List e.T) (ok : Bool) (w : World) (r : Ending) (w' : World) : Prop :=
  ∃ (cs : List Value) (v : Value) (S1 S2 : Nat → Prop), r = .returned (.tuple #[.agg cs.toArray, v, .bool ok]) ∧ Own w' s cs y S1 ∧ Own w' (.list e) [v] D S2 ∧ (∀ k, S1 k → Btw w.heap.size w'.heap.size k ∧ ¬ S2 k) ∧ (∀ k, S2 k → Btw w.heap.size w'.heap.size k) ∧ Below w.heap.size w w'
theorem PyS.done {s : Sh} {e : Ty} {t : TypeId} {zc : List Value} {w wr W' : World} {b : Nat} {cs : List Value} {y : s.T} {v : Value} {D : List e.T} (h : PyS s e t zc w b wr cs y v D) (ht : TurnS (fun k => k = w.heap.size) wr W') : PyP s e.sh y D true w (.returned (.tuple #[.agg cs.toArray, v, .bool true])) W' := by
  obtain ⟨h1, h2, ⟨So, Sd, h3, h4, h5, h6⟩, h7, h8⟩ := h
  have hz := ht.size
  refine ⟨cs, v, So, Sd, rfl, h3.turn ht (fun k hk q => by have := (h5 k hk).1; have q : k = w.heap.size := q; omega), (h4.turn ht (fun k hk q => by have := (h6 k hk).1; have q : k = w.heap.size := q; omega)).own, fun k hk => ?_, fun k hk => ?_, h7.trans (ht.below (fun k q => by have q : k = w.heap.size := q; omega) h7.size)⟩
  · have := h5 k hk; simp only [Btw]; exact ⟨by omega, this.2.2.2⟩
  · have := h6 k hk; simp only [Btw]; omega
/-- A copy of the data is answered. -/
theorem PyS.done2 {s : Sh} {e : Ty} {t : TypeId} {zc : List Value} {w wr W W' : World} {b : Nat} {cs cs' : List Value} {y : s.T} {v : Value} {D : List e.T} {S1 : Nat → Prop} (h : PyS s e t zc w b wr cs y v D) (hb : Below wr.heap.size wr W) (hO : Own W s cs' y S1) (hS : ∀ k, S1 k → wr.heap.size ≤ k ∧ k < W.heap.size) (ht : TurnS (fun k => k = w.heap.size) W W') : PyP s e.sh y D true w (.returned (.tuple #[.agg cs'.toArray, v, .bool true])) W' := by
  obtain ⟨h1, h2, ⟨So, Sd, h3, h4, h5, h6⟩, h7, h8⟩ := h
  have hz := hb.size
  have hz2 := ht.size
  have hw := h7.size
  have hw2 := h1.2
  refine ⟨cs', v, S1, Sd, rfl, hO.turn ht (fun k hk q => by have := (hS k hk).1; have q : k = w.heap.size := q; omega), ((h4.next hb).turn ht (fun k hk q => by have := (h6 k hk).1; have q : k = w.heap.size := q; omega)).own, fun k hk => ?_, fun k hk => ?_, (below_next h7 hb).trans (ht.below (fun k q => by have q : k = w.heap.size := q; omega) (by omega))⟩
  · have := hS k hk; simp only [Btw]; exact ⟨by omega, fun q => by have := (h6 k q).2.1; omega⟩
  · have := h6 k hk; simp only [Btw]; omega
/-- Ahead of the first step, where no list is yet. -/
theorem PyS.start0 {s : Sh} {e : Ty} {t t2 : TypeId} {zc : List Value} {w w1 : World} {cs : List Value} {y : s.T} {S1 : Nat → Prop} (hr : Bx w1 w.heap.size zc) (hO : Own w1 s cs y S1) (hS : ∀ k, S1 k → w.heap.size + 1 ≤ k ∧ k < w1.heap.size) (hB : Below w.heap.size w w1) : PyS s e t zc w w1.heap.size (w1.alloc (.cells cs.toArray t2)) cs y (.slice none 0 0) [] := by
  have hb : Below w1.heap.size w1 (w1.alloc (.cells cs.toArray t2)) := Go.Joins.below_alloc1 _ _
  have hz : (w1.alloc (.cells cs.toArray t2)).heap.size = w1.heap.size + 1 := by simp
  refine ⟨hr.next hb, Bx.new w1 cs t2, ⟨S1, fun _ => False, hO.next hb, OwnX.nil', fun k hk => ?_, fun k q => q.elim⟩, below_next hB hb, hr.2⟩
  have := hS k hk
  exact ⟨by omega, by omega, by omega, id⟩
/-- A list is made behind that. -/
theorem PyS.list {s : Sh} {e : Ty} {t : TypeId} {zc : List Value} {w wr W : World} {b : Nat} {cs : List Value} {y : s.T} {v : Value} {D : List e.T} (h : PyS s e t zc w b wr cs y (.slice none 0 0) []) (hA : ApS e t wr W v D) : PyS s e t zc w b W cs y v D := by
  obtain ⟨h1, h2, ⟨So, Sd, h3, h4, h5, h6⟩, h7, h8⟩ := h
  have hz := hA.2.size
  have hw := h7.size
  have hwz := h1.2
  have hbz := h2.2
  refine ⟨h1.next hA.2, h2.next hA.2, ⟨So, Btw wr.heap.size W.heap.size, h3.next hA.2, hA.1.lower (by omega), fun k hk => ?_, fun k hk => ?_⟩, below_next h7 hA.2, h8⟩
  · have := h5 k hk; simp only [Btw]; exact ⟨by omega, by omega, by omega, by omega⟩
  · simp only [Btw] at hk; exact ⟨by omega, by omega, by omega⟩
end Go.Proofs.YtkpobihpcnoemaaDoor
