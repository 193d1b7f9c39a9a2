/- Synods: the program's cloneSynod. -/
import Derived.Test.YtmhkfangfhanlaaSyK
namespace Go.Proofs.Ytmhkfangfhanlaa
open Go.RowKit
set_option linter.unusedVariables false
set_option linter.unusedSimpArgs false

abbrev acC (l : List (Sh.T shAcceptor)) : List Value := List.flatMap (valC tyAcceptor) l
def mkAc (p b : Int) (t : ByteArray) : Sh.T shAcceptor := (p, b, t, ())
/-- While a synod is cloned: the clone in block b, the answer's cell in block c. -/
def CsS (w : World) (b c : Nat) (wr : World) (va : Value) (la : List (Sh.T shAcceptor)) (vp : Value) (lp : List (Sh.T shProposer)) : Prop :=
  Bx wr b [va, vp] ∧ Bx wr c [.slice none 0 0, .slice none 0 0] ∧ wr.ownsRow (b + 1) 91 3 va la.length (acC la) ∧
    (∃ S : Nat → Prop, OwnX wr (b + 1) (.list tyProposer 43) [vp] lp S ∧ ∀ k, S k → b + 1 ≤ k ∧ k < wr.heap.size ∧ va.ownBlock ≠ some k) ∧ Below w.heap.size w wr ∧ w.heap.size ≤ c ∧ c < b
section
variable {w wr wr' : World} {b c : Nat} {va : Value} {la : List (Sh.T shAcceptor)} {vp : Value} {lp : List (Sh.T shProposer)}
theorem CsS.next (h : CsS w b c wr va la vp lp) (hb : Below wr.heap.size wr wr') : CsS w b c wr' va la vp lp := by
  obtain ⟨h1, h2, h3, ⟨S, h4, h5⟩, h6, h7⟩ := h
  exact ⟨h1.next hb, h2.next hb, ownsRow_next h3 hb, ⟨S, h4.next hb, fun k hk => ⟨(h5 k hk).1, Nat.lt_of_lt_of_le (h5 k hk).2.1 hb.size, (h5 k hk).2.2⟩⟩, below_next h6 hb, h7⟩
theorem ownsRow_grown {W W' : World} {row : Option Nat} {base : Nat} {e : TypeId} {size : Nat} {v : Value} {n : Nat} {xs : List Value} (h : W.ownsRow base e size v n xs) (hg : W.grownBy W' row) (hne : ∀ k, v.ownBlock = some k → row ≠ some k) : W'.ownsRow base e size v n xs := by
  obtain ⟨q0, q1⟩ := h
  refine ⟨q0, ?_⟩
  rcases q1 with q1 | ⟨g, cap, cur, hv, hgb, hh, r⟩
  · exact Or.inl q1
  · refine Or.inr ⟨g, cap, cur, hv, hgb, ?_, r⟩
    rw [hg.block g (by rcases Nat.lt_or_ge g W.heap.size with q | q; (· exact q); rw [Array.getElem?_eq_none q] at hh; cases hh) (fun q => hne g (by rw [hv]; rfl) q.symm)]
    exact hh
/-- One acceptor more. -/
theorem CsS.appA {W W9 : World} {v9 : Value} {p b1 : Int} {t : ByteArray} (h : CsS w b c W va la vp lp) (h2 : W9.ownsRow (b + 1) 91 3 v9 (la.length + 1) (acC la ++ [.int .i64 p, .int .i64 b1, .string t])) (hg : W.grownBy W9 va.ownBlock) (hwh : v9.ownBlock = va.ownBlock ∨ v9.ownBlock = some W.heap.size) :
    CsS w b c (W9.setCell ⟨b, 0, none⟩ v9) v9 (la ++ [mkAc p b1 t]) vp lp ∧ Bx W9 b [va, vp] := by
  obtain ⟨q1, q2, q3, ⟨S, q4, q5⟩, q6, q7⟩ := h
  have hl : ∀ k, va.ownBlock = some k → b + 1 ≤ k := fun k hk => (q3.lt k hk).1
  have g1 := q1.grow hg (fun q => by have := hl _ q.symm; omega)
  have g2 := q2.grow hg (fun q => by have := hl _ q.symm; omega)
  have ht := turn_set W9 ⟨b, 0, none⟩ v9
  have g4 := (q4.grow hg (fun k hk q => (q5 k q).2.2 hk)).turn ht (fun k hk e => by have := (q5 k hk).1; have e : k = b := e; omega)
  refine ⟨⟨g1.set (k := 0) (by simp) v9, g2.other (by omega), ?_, ⟨S, g4, fun k hk => ⟨(q5 k hk).1, ?_, fun e => ?_⟩⟩, (q6.grown hg q6.size (fun k hk => by have := hl k hk; omega)).setCell (p := ⟨b, 0, none⟩) (by simp; omega) _, q7⟩, g1⟩
  · have e1 : (la ++ [mkAc p b1 t]).length = la.length + 1 := by rw [List.length_append]; rfl
    have e2 : acC (la ++ [mkAc p b1 t]) = acC la ++ [.int .i64 p, .int .i64 b1, .string t] := flatMap_snoc (α := tyAcceptor.T) (valC tyAcceptor) la (mkAc p b1 t)
    rw [e1, e2]
    exact ownsRow_turn h2 ht (fun k hk e => by have := (h2.lt k hk).1; have e : k = b := e; omega)
  · have := (q5 k hk).2.1; have := hg.size; simp; omega
  · rcases hwh with q | q
    · exact (q5 k hk).2.2 (q ▸ e)
    · rw [q] at e; cases e; have := (q5 _ hk).2.1; omega
/-- One proposer more, whose lists lie in blocks of E. -/
theorem CsS.appP {W W9 : World} {v9 : Value} {xs ec : List Value} {S E : Nat → Prop} {B : Nat → Nat → Prop} {x : Sh.T shProposer} (h : CsS w b c W va la vp lp) (ho : W.ownsRow (b + 1) 43 5 vp lp.length xs) (hS : ∀ k, vp.ownBlock = some k → S k) (h3 : ∀ i, i < lp.length → ∀ k, B i k → S k ∧ vp.ownBlock ≠ some k) (h4 : ∀ i j, i < j → j < lp.length → ∀ k, B i k → ¬ B j k)
    (h5 : ∀ i (h : i < lp.length), OwnX W (b + 1) tyProposer ((xs.drop (i * 5)).take 5) lp[i] (B i)) (hSz : ∀ k, S k → b + 1 ≤ k ∧ k < W.heap.size ∧ va.ownBlock ≠ some k) (hx : OwnX W (b + 1) tyProposer ec x E) (hE : ∀ k, E k → b + 1 ≤ k ∧ k < W.heap.size ∧ ¬ S k ∧ va.ownBlock ≠ some k)
    (h2 : W9.ownsRow (b + 1) 43 5 v9 (lp.length + 1) (xs ++ ec)) (hg : W.grownBy W9 vp.ownBlock) (hwh : v9.ownBlock = vp.ownBlock ∨ v9.ownBlock = some W.heap.size) :
    CsS w b c (W9.setCell ⟨b, 1, none⟩ v9) va la v9 (lp ++ [x]) ∧ Bx W9 b [va, vp] := by
  obtain ⟨q1, q2, q3, _, q6, q7⟩ := h
  have hl : ∀ k, vp.ownBlock = some k → b + 1 ≤ k := fun k hk => (ho.lt k hk).1
  have g1 := q1.grow hg (fun q => by have := hl _ q.symm; omega)
  have g2 := q2.grow hg (fun q => by have := hl _ q.symm; omega)
  have ht := turn_set W9 ⟨b, 1, none⟩ v9
  have g3 := ownsRow_grown q3 hg (fun k hk q => (hSz k (hS k q)).2.2 hk)
  have g3' := ownsRow_turn g3 ht (fun k hk e => by have := (g3.lt k hk).1; have e : k = b := e; omega)
  have g5 : OwnX W9 (b + 1) (.list tyProposer 43) [v9] (lp ++ [x]) (fun k => S k ∨ E k ∨ v9.ownBlock = some k) := OwnX.app (e := tyProposer) ho hS h3 h4 h5 (fun k hk => (hSz k hk).2.1) hx (fun k hk => ⟨(hE k hk).2.1, (hE k hk).2.2.1⟩) h2 hg hwh
  obtain ⟨S', hS'⟩ : ∃ S' : Nat → Prop, S' = fun k => S k ∨ E k ∨ v9.ownBlock = some k := ⟨_, rfl⟩
  have g6 : ∀ k, S' k → b + 1 ≤ k ∧ k < W9.heap.size ∧ va.ownBlock ≠ some k := by
    intro k hk
    have hs := hg.size
    rw [hS'] at hk
    rcases hk with hk | hk | hk
    · have := hSz k hk; exact ⟨this.1, by omega, this.2.2⟩
    · have := hE k hk; exact ⟨this.1, by omega, this.2.2.2⟩
    · refine ⟨(h2.lt k hk).1, (h2.lt k hk).2, fun e => ?_⟩
      rcases hwh with q | q
      · exact (hSz k (hS k (q ▸ hk))).2.2 e
      · rw [q] at hk; cases hk; have := (q3.lt _ e).2; omega
  rw [← hS'] at g5
  exact ⟨⟨g1.set (k := 1) (by simp) v9, g2.other (by omega), g3', ⟨S', g5.turn ht (fun k hk e => by have := (g6 k hk).1; have e : k = b := e; omega), fun k hk => ⟨(g6 k hk).1, by have := (g6 k hk).2.1; simpa using this, (g6 k hk).2.2⟩⟩, (q6.grown hg q6.size (fun k hk => by have := hl k hk; omega)).setCell (p := ⟨b, 1, none⟩) (by simp; omega) _, q7⟩, g1⟩
end
end Go.Proofs.Ytmhkfangfhanlaa
