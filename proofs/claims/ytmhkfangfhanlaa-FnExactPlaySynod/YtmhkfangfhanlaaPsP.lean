/- Synods: what holds between the steps of a play. -/
import Derived.Test.YtmhkfangfhanlaaPsG
namespace Go.Proofs.Ytmhkfangfhanlaa
open Go.RowKit
set_option linter.unusedVariables false
set_option linter.unusedSimpArgs false

theorem inf_bool : (Try.prog.info? 4).map (fun i => (i.zero, i.size, i.bytes)) = some (some (.bool false), 1, 1) := by kernel_rfl
abbrev blC (l : List Bool) : List Value := List.flatMap (valC .bool) l
/-- Between the steps: the answer's cell, the synod in box b, what was done. -/
def PlS (w : World) (b : Nat) (wr : World) (S : SyD) (c0 c1 v : Value) (D : List Bool) : Prop :=
  Bx wr w.heap.size [.slice none 0 0, .slice none 0 0] ∧ Bx wr b [c0, c1] ∧ (∃ So Sd : Nat → Prop, Own wr shSynod [c0, c1] (S.1, S.2, ()) So ∧ OwnX wr (w.heap.size + 1) (.list .bool 4) [v] D Sd ∧ (∀ k, So k → w.heap.size + 1 ≤ k ∧ k < wr.heap.size ∧ k ≠ b ∧ ¬ Sd k) ∧ (∀ k, Sd k → w.heap.size + 1 ≤ k ∧ k < wr.heap.size ∧ k ≠ b)) ∧ Below w.heap.size w wr ∧ w.heap.size < b
section
variable {w wr W : World} {b : Nat} {S S' : SyD} {c0 c1 v : Value} {D : List Bool}
theorem PlS.next (h : PlS w b wr S c0 c1 v D) (hb : Below wr.heap.size wr W) : PlS w b W S c0 c1 v D := by
  obtain ⟨h1, h2, ⟨So, Sd, h3, h4, h5, h6⟩, h7, h8⟩ := h
  have hz := hb.size
  exact ⟨h1.next hb, h2.next hb, ⟨So, Sd, h3.next hb, h4.next hb, fun k hk => ⟨(h5 k hk).1, Nat.lt_of_lt_of_le (h5 k hk).2.1 hz, (h5 k hk).2.2⟩, fun k hk => ⟨(h6 k hk).1, Nat.lt_of_lt_of_le (h6 k hk).2.1 hz, (h6 k hk).2.2⟩⟩, below_next h7 hb, h8⟩
/-- The synod is replaced by a newer one. -/
theorem PlS.put {u0 u1 : Value} {lo hi : Nat} (h : PlS w b wr S c0 c1 v D) (hb : Below wr.heap.size wr W) (hO : Own W shSynod [u0, u1] (S'.1, S'.2, ()) (Btw lo hi)) (hlo : wr.heap.size ≤ lo) (hhi : hi ≤ W.heap.size) : PlS w b ((W.setCell ⟨b, 0, none⟩ u0).setCell ⟨b, 1, none⟩ u1) S' u0 u1 v D := by
  obtain ⟨h1, h2, ⟨So, Sd, h3, h4, h5, h6⟩, h7, h8⟩ := h
  have hz := hb.size
  have hbz := h2.2
  have nd : ¬ Sd b := fun q => (h6 b q).2.2 rfl
  refine ⟨((h1.next hb).other (by omega)).other (by omega), ((h2.next hb).set (k := 0) (by simp) u0).set (k := 1) (by simp) u1, ⟨Btw lo hi, Sd, (hO.set (p := ⟨b, 0, none⟩) (by simp only [Btw]; omega) u0).set (p := ⟨b, 1, none⟩) (by simp only [Btw]; omega) u1, ((h4.next hb).set (p := ⟨b, 0, none⟩) nd u0).set (p := ⟨b, 1, none⟩) nd u1, fun k hk => ?_, fun k hk => ?_⟩, ((below_next h7 hb).setCell (p := ⟨b, 0, none⟩) (by simp; omega) u0).setCell (p := ⟨b, 1, none⟩) (by simp; omega) u1, h8⟩
  · have hw := h7.size
    simp only [Btw] at hk
    simp only [World.size_setCell]
    exact ⟨by omega, by omega, by omega, fun q => by have := (h6 k q).2.1; omega⟩
  · have := h6 k hk
    simp only [World.size_setCell]
    exact ⟨this.1, by omega, this.2.2⟩
theorem blC_set : ∀ (D : List Bool) (k : Nat) (u : Bool), (blC D).set k (.bool u) = blC (D.set k u)
  | [], _, _ => rfl
  | x :: t, 0, u => rfl
  | x :: t, k + 1, u => by
    have := blC_set t k u
    show (Value.bool x :: blC t).set (k + 1) (.bool u) = Value.bool x :: blC (t.set k u)
    rw [List.set_cons_succ, this]
theorem blC_at : ∀ (D : List Bool) (k : Nat) (h : k < D.length), (blC D)[k]? = some (.bool D[k])
  | [], _, h => absurd h (Nat.not_lt_zero _)
  | x :: t, 0, _ => rfl
  | x :: t, k + 1, h => by
    have := blC_at t k (by simpa using h)
    show (Value.bool x :: blC t)[k + 1]? = _
    rw [List.getElem?_cons_succ, this]; rfl
/-- That a step was done is written. -/
theorem PlS.did {g cap n k : Nat} (h : PlS w b W S c0 c1 (.slice (some ⟨g, 0, none⟩) n cap) D) (hn : n = D.length) (hk : k < n) : (∃ u, W.cell? ⟨g, k, none⟩ = some (.bool u)) ∧ W.frozen? ⟨g, k, none⟩ = false ∧ g < W.heap.size ∧ PlS w b (W.setCell ⟨g, k, none⟩ (.bool true)) S c0 c1 (.slice (some ⟨g, 0, none⟩) n cap) (D.set k true) := by
  subst hn
  obtain ⟨h1, h2, ⟨So, Sd, h3, h4, h5, h6⟩, h7, h8⟩ := h
  obtain ⟨row, hrS⟩ := h4.flat rfl
  have hg : Sd g := hrS g rfl
  have hg6 := h6 g hg
  have row : W.ownsRow (w.heap.size + 1) 4 1 (.slice (some ⟨g, 0, none⟩) D.length cap) D.length (blC D) := row
  have hst := (row.stored k (.bool true)).1
  rw [blC_set] at hst
  have hst : (W.setCell ⟨g, k, none⟩ (.bool true)).ownsRow (w.heap.size + 1) 4 1 (.slice (some ⟨g, 0, none⟩) D.length cap) (D.set k true).length (blC (D.set k true)) := by rw [List.length_set]; exact hst
  refine ⟨⟨D[k], by rw [row.cellAt k (by omega), blC_at D k hk]⟩, row.frozenAt k, hg6.2.1, h1.other (by omega), h2.other (Ne.symm hg6.2.2), ⟨So, Sd, h3.set (p := ⟨g, k, none⟩) (fun q => (h5 g q).2.2.2 hg) _, OwnX.of_flat (e := .bool) rfl hst (fun j hj => by cases hj; exact hg), fun j hj => ?_, fun j hj => ?_⟩, h7.setCell (p := ⟨g, k, none⟩) (by show w.heap.size ≤ g; omega) _, h8⟩
  · have := h5 j hj; simp only [World.size_setCell]; exact this
  · have := h6 j hj; simp only [World.size_setCell]; exact this
/-- What was done is appended. -/
theorem PlS.app {W9 : World} {v9 : Value} {u : Bool} {S9 : Nat → Prop} (h : PlS w b W S c0 c1 v D) (hO : OwnX W9 (w.heap.size + 1) (.list .bool 4) [v9] (D ++ [u]) S9) (hg : W.grownBy W9 v.ownBlock) (hwh : v9.ownBlock = v.ownBlock ∨ v9.ownBlock = some W.heap.size) : PlS w b W9 S c0 c1 v9 (D ++ [u]) := by
  obtain ⟨h1, h2, ⟨So, Sd, h3, h4, h5, h6⟩, h7, h8⟩ := h
  have hz := hg.size
  obtain ⟨row, hrS⟩ := h4.flat rfl
  obtain ⟨row9, _⟩ := hO.flat rfl
  have hl : ∀ k, v.ownBlock = some k → w.heap.size + 1 ≤ k ∧ k < W.heap.size ∧ k ≠ b := fun k hk => h6 k (hrS k hk)
  have h9 : ∀ k, v9.ownBlock = some k → k = W.heap.size ∨ v.ownBlock = some k := fun k hk => by
    rcases hwh with q | q
    · exact Or.inr (q ▸ hk)
    · rw [q] at hk; cases hk; exact Or.inl rfl
  have hbz := h2.2
  refine ⟨h1.grow hg (fun q => by have := (hl _ q.symm).1; omega), h2.grow hg (fun q => (hl _ q.symm).2.2 rfl), ⟨So, fun k => v9.ownBlock = some k, h3.keep hg.size (fun k hk hs => hg.block k hk (fun q => (h5 k hs).2.2.2 (hrS k q.symm))), OwnX.of_flat (e := .bool) rfl row9 (fun k hk => hk), fun k hk => ?_, fun k hk => ?_⟩, h7.grown hg h7.size (fun k hk => by have := (hl k hk).1; omega), h8⟩
  · have := h5 k hk
    refine ⟨this.1, by omega, this.2.2.1, fun q => ?_⟩
    rcases h9 k q with r | r
    · omega
    · exact this.2.2.2 (hrS k r)
  · have := row9.lt k hk
    refine ⟨this.1, this.2, fun e => ?_⟩
    rcases h9 k hk with r | r
    · omega
    · exact (hl k r).2.2 e
end
/-- A synod, what was done, and a Bool are answered. -/
def PlP (A : List (Sh.T shAcceptor)) (P : List (Sh.T shProposer)) (D : List Bool) (ok : Bool) (w : World) (r : Ending) (w' : World) : Prop :=
  ∃ (c0 c1 v : Value) (S1 S2 : Nat → Prop), r = .returned (.tuple #[.agg #[c0, c1], v, .bool ok]) ∧ Own w' shSynod [c0, c1] (A, P, ()) S1 ∧ Own w' (.list .bool) [v] D S2 ∧ (∀ k, S1 k → Btw w.heap.size w'.heap.size k ∧ ¬ S2 k) ∧ (∀ k, S2 k → Btw w.heap.size w'.heap.size k) ∧ Below w.heap.size w w'
theorem PlP.zero {w w' : World} (hb : Below w.heap.size w w') : PlP [] [] [] false w (.returned (.tuple #[.agg #[.slice none 0 0, .slice none 0 0], .slice none 0 0, .bool false])) w' :=
  ⟨_, _, _, fun _ => False, fun _ => False, rfl, mkown_Synod (Own.none (S := fun _ => False) (Nat.zero_le _)) (Own.none (S := fun _ => False) (Nat.zero_le _)) (fun k e => e.elim) (fun k e => e.elim) (fun k e => e.elim), Own.none (S := fun _ => False) (Nat.zero_le _), fun k q => q.elim, fun k q => q.elim, hb⟩
theorem PlS.done {w W : World} {b : Nat} {S : SyD} {c0 c1 v : Value} {D : List Bool} (h : PlS w b W S c0 c1 v D) : PlP S.1 S.2 D true w (.returned (.tuple #[.agg #[c0, c1], v, .bool true])) ((W.setCell ⟨w.heap.size, 0, none⟩ c0).setCell ⟨w.heap.size, 1, none⟩ c1) := by
  obtain ⟨h1, h2, ⟨So, Sd, h3, h4, h5, h6⟩, h7, h8⟩ := h
  have n1 : ¬ So w.heap.size := fun q => by have := (h5 _ q).1; omega
  have n2 : ¬ Sd w.heap.size := fun q => by have := (h6 _ q).1; omega
  refine ⟨c0, c1, v, So, Sd, rfl, (h3.set (p := ⟨w.heap.size, 0, none⟩) n1 _).set (p := ⟨w.heap.size, 1, none⟩) n1 _, ((h4.set (p := ⟨w.heap.size, 0, none⟩) n2 _).set (p := ⟨w.heap.size, 1, none⟩) n2 _).own, fun k hk => ?_, fun k hk => ?_, (h7.setCell (p := ⟨w.heap.size, 0, none⟩) (Nat.le_refl _) _).setCell (p := ⟨w.heap.size, 1, none⟩) (Nat.le_refl _) _⟩
  · have := h5 k hk; simp only [Btw, World.size_setCell]; exact ⟨by omega, this.2.2.2⟩
  · have := h6 k hk; simp only [Btw, World.size_setCell]; omega
/-- What PlaySynod answers. -/
def plOk (m : Int) (vs : List (Sh.T .str)) (l : List (Sh.T shSynodStep)) : Prop := nwP m vs ∧ l.length ≤ 120
noncomputable def pl0 (m : Int) (vs : List (Sh.T .str)) : SyD := (List.replicate m.toNat z0A, List.map mkPr vs)
noncomputable def plA (m : Int) (vs : List (Sh.T .str)) (l : List (Sh.T shSynodStep)) : SyD × List Bool := if tf (plOk m vs l) then plF (pl0 m vs) l else (([], []), [])
theorem pl_no {m : Int} {vs : List (Sh.T .str)} {l : List (Sh.T shSynodStep)} (h : ¬ plOk m vs l) : plA m vs l = (([], []), []) ∧ tf (plOk m vs l) = false := by unfold plA; rw [tf_no h]; exact ⟨rfl, rfl⟩
theorem pl_yes {m : Int} {vs : List (Sh.T .str)} {l : List (Sh.T shSynodStep)} (h : plOk m vs l) : plA m vs l = plF (pl0 m vs) l ∧ tf (plOk m vs l) = true := by unfold plA; rw [tf_yes h]; exact ⟨rfl, rfl⟩
def PlR (m : Int) (vs : List (Sh.T .str)) (l : List (Sh.T shSynodStep)) (w : World) (r : Ending) (w' : World) : Prop := PlP (plA m vs l).1.1 (plA m vs l).1.2 (plA m vs l).2 (tf (plOk m vs l)) w r w'
theorem PlR.no {m : Int} {vs : List (Sh.T .str)} {l : List (Sh.T shSynodStep)} {w w' : World} (h : ¬ plOk m vs l) (hb : Below w.heap.size w w') : PlR m vs l w (.returned (.tuple #[.agg #[.slice none 0 0, .slice none 0 0], .slice none 0 0, .bool false])) w' := by
  obtain ⟨e1, e2⟩ := pl_no h
  unfold PlR; rw [e1, e2]; exact PlP.zero hb
/-- One step of a play. -/
theorem pl_done {s : SyD} {l : List (Sh.T shSynodStep)} {k : Nat} (h : k < l.length) {acc : Bool} {bal node : Int} (hX : l[k] = (acc, bal, node, ())) (E : Option SyD) (hE : stB (plF s (l.take k)).1.1 (plF s (l.take k)).1.2 acc bal node = E) : plF s (l.take (k + 1)) = (E.getD (plF s (l.take k)).1, (plF s (l.take k)).2 ++ [E.isSome]) := by
  rw [pl_take h, hX, ← hE]; rfl
theorem pl_rest {D : List Bool} {k n : Nat} (hD : D.length = k) (h : k < n) : D ++ List.replicate (n - k) false = (D ++ [false]) ++ List.replicate (n - (k + 1)) false := by
  have e : n - k = (n - (k + 1)) + 1 := by omega
  rw [e, List.replicate_succ, List.append_assoc]; rfl
theorem pl_set {D : List Bool} {k n : Nat} (hD : D.length = k) (h : k < n) : (D ++ List.replicate (n - k) false).set k true = (D ++ [true]) ++ List.replicate (n - (k + 1)) false := by
  have e : n - k = (n - (k + 1)) + 1 := by omega
  rw [e, List.replicate_succ, List.set_append_right _ _ (by omega), hD, Nat.sub_self, List.append_assoc]; rfl
end Go.Proofs.Ytmhkfangfhanlaa
