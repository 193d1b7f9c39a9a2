/- A value of the specification's l7S in its block: the calls, which are used, their order, the cells; blocks beside it that stay. -/
import Derived.Test.YtkniokbioggkeaaOnL
import Derived.Test.YtkniokbioggkeaaL3D
namespace Go.Proofs.Ytkniokbioggkeaa
open Go.RowKit
set_option linter.unusedVariables false

def usedC (n : Nat) (ord : List Nat) : List Value := (List.range n).map fun k => Value.bool (ord.contains k)
theorem usedC_len (n : Nat) (ord : List Nat) : (usedC n ord).length = n := by simp [usedC]
theorem usedC_at {n : Nat} (ord : List Nat) {k : Nat} (hk : k < n) : (usedC n ord)[k]? = some (.bool (ord.contains k)) := by simp [usedC, hk]
theorem usedC_set (n : Nat) (ord : List Nat) (i : Nat) : (usedC n ord).set i (.bool true) = usedC n (ord ++ [i]) := by
  apply List.ext_getElem?
  intro k
  rw [List.getElem?_set]
  by_cases hk : k < n
  · rw [usedC_at _ hk, usedC_at _ hk]
    by_cases e : i = k
    · subst e; simp [usedC_len, hk]
    · rw [if_neg e]
      have : k ≠ i := fun h => e h.symm
      simp [this]
  · have h1 : (usedC n ord)[k]? = none := List.getElem?_eq_none (by rw [usedC_len]; omega)
    have h2 : (usedC n (ord ++ [i]))[k]? = none := List.getElem?_eq_none (by rw [usedC_len]; omega)
    rw [h1, h2]
    split
    · rw [usedC_len, if_neg (by omega)]
    · rfl
theorem usedC_unset (n : Nat) (ord : List Nat) {i : Nat} (hi : i ∉ ord) : (usedC n (ord ++ [i])).set i (.bool false) = usedC n ord := by
  apply List.ext_getElem?
  intro k
  rw [List.getElem?_set]
  by_cases hk : k < n
  · rw [usedC_at _ hk, usedC_at _ hk]
    by_cases e : i = k
    · subst e; simp [usedC_len, hk, hi]
    · rw [if_neg e]
      have : k ≠ i := fun h => e h.symm
      simp [this]
  · have h1 : (usedC n ord)[k]? = none := List.getElem?_eq_none (by rw [usedC_len]; omega)
    have h2 : (usedC n (ord ++ [i]))[k]? = none := List.getElem?_eq_none (by rw [usedC_len]; omega)
    rw [h1, h2]
    split
    · rw [usedC_len, if_neg (by omega)]
    · rfl
def Two (lo : Nat) (W : World) (g ub : Nat) (a : Option Addr) (n cap : Nat) (own : Bool) (usd ord : List Nat) (L : List CellV) (ov lv : Value) (KB : List (Nat × Obj)) : Prop :=
  Bx W g [.slice a n cap, .bool own, .slice (some ⟨ub, 0, none⟩) n n, ov, lv] ∧ Bx W ub (usedC n usd) ∧ W.ownsRow lo 3 1 ov ord.length (ordC ord) ∧ W.ownsRow lo 71 2 lv L.length (cellsC L) ∧
  (g ≠ ub ∧ ov.ownBlock ≠ some g ∧ ov.ownBlock ≠ some ub ∧ lv.ownBlock ≠ some g ∧ lv.ownBlock ≠ some ub ∧ ∀ b, ov.ownBlock = some b → lv.ownBlock ≠ some b) ∧
  ∀ p ∈ KB, W.heap[p.1]? = some p.2 ∧ p.1 ≠ g ∧ p.1 ≠ ub ∧ ov.ownBlock ≠ some p.1
theorem obj_lt {W : World} {b : Nat} {o : Obj} (h : W.heap[b]? = some o) : b < W.heap.size := by
  rcases Nat.lt_or_ge b W.heap.size with q | q
  · exact q
  · rw [Array.getElem?_eq_none q] at h; cases h
section
variable {lo : Nat} {W W' : World} {g ub : Nat} {a : Option Addr} {n cap : Nat} {own : Bool} {usd usd' ord ord' : List Nat} {L L' : List CellV} {ov lv ov' lv' : Value} {KB KB' : List (Nat × Obj)}
theorem Two.next (h : Two lo W g ub a n cap own usd ord L ov lv KB) (hb : Below W.heap.size W W') : Two lo W' g ub a n cap own usd ord L ov lv KB :=
  ⟨h.1.next hb, h.2.1.next hb, own_keep h.2.2.1 hb, own_keep h.2.2.2.1 hb, h.2.2.2.2.1, fun p hp => ⟨(hb.block p.1 (obj_lt (h.2.2.2.2.2 p hp).1)).trans (h.2.2.2.2.2 p hp).1, (h.2.2.2.2.2 p hp).2⟩⟩
theorem Two.sub (h : Two lo W g ub a n cap own usd ord L ov lv KB) (hs : ∀ p ∈ KB', p ∈ KB) : Two lo W g ub a n cap own usd ord L ov lv KB' := ⟨h.1, h.2.1, h.2.2.1, h.2.2.2.1, h.2.2.2.2.1, fun p hp => h.2.2.2.2.2 p (hs p hp)⟩
theorem Two.setC (h : Two lo W g ub a n cap own usd ord L ov lv KB) (ho : W.ownsRow lo 71 2 lv' L'.length (cellsC L')) (h1 : lv'.ownBlock ≠ some g) (h2 : lv'.ownBlock ≠ some ub) (h3 : ∀ b, ov.ownBlock = some b → lv'.ownBlock ≠ some b) : Two lo (W.setCell ⟨g, 4, none⟩ lv') g ub a n cap own usd ord L' ov lv' KB := by
  obtain ⟨a1, a2, a3, a4, ⟨b1, b2, b3, b4, b5, b6⟩, c⟩ := h
  refine ⟨a1.set (k := 4) (by simp) lv', a2.other (fun e => b1 e.symm), own_blk a3 fun k hk => Below.heap_setCell _ _ _ _ (fun e => b2 (by rw [hk]; exact congrArg some e)), own_blk ho fun k hk => Below.heap_setCell _ _ _ _ (fun e => h1 (by rw [hk]; exact congrArg some e)), ⟨b1, b2, b3, h1, h2, h3⟩, fun p hp => ?_⟩
  obtain ⟨d1, d2, d3, d4⟩ := c p hp
  exact ⟨(Below.heap_setCell _ _ _ _ d2).trans d1, d2, d3, d4⟩
theorem Two.setU {i : Nat} {b : Bool} (h : Two lo W g ub a n cap own usd ord L ov lv KB) (hi : i < n) (hu : (usedC n usd).set i (.bool b) = usedC n usd') : Two lo (W.setCell ⟨ub, i, none⟩ (.bool b)) g ub a n cap own usd' ord L ov lv KB := by
  obtain ⟨a1, a2, a3, a4, ⟨b1, b2, b3, b4, b5, b6⟩, c⟩ := h
  refine ⟨a1.other b1, by rw [← hu]; exact a2.set (by rw [usedC_len]; exact hi) _, own_blk a3 fun k hk => Below.heap_setCell _ _ _ _ (fun e => b3 (by rw [hk]; exact congrArg some e)), own_blk a4 fun k hk => Below.heap_setCell _ _ _ _ (fun e => b5 (by rw [hk]; exact congrArg some e)), ⟨b1, b2, b3, b4, b5, b6⟩, fun p hp => ?_⟩
  obtain ⟨d1, d2, d3, d4⟩ := c p hp
  exact ⟨(Below.heap_setCell _ _ _ _ d3).trans d1, d2, d3, d4⟩
theorem Two.putO (h : Two lo W g ub a n cap own usd ord L ov lv KB) (hg : W.grownBy W' ov.ownBlock) (ho : W'.ownsRow lo 3 1 ov' ord'.length (ordC ord')) (hw : ov'.ownBlock = ov.ownBlock ∨ ov'.ownBlock = some W.heap.size) : Two lo (W'.setCell ⟨g, 3, none⟩ ov') g ub a n cap own usd ord' L ov' lv KB := by
  obtain ⟨a1, a2, a3, a4, ⟨b1, b2, b3, b4, b5, b6⟩, c⟩ := h
  have hne : ∀ b, b < W.heap.size → ov.ownBlock ≠ some b → ov'.ownBlock ≠ some b := fun b hb h1 e => by
    rcases hw with hw | hw
    · exact h1 (hw ▸ e)
    · rw [hw] at e; cases e; omega
  have hg1 : Bx W' g [.slice a n cap, .bool own, .slice (some ⟨ub, 0, none⟩) n n, ov, lv] := a1.blk (hg.block g a1.2 (fun e => b2 e.symm)) hg.size
  refine ⟨hg1.set (k := 3) (by simp) ov', (a2.blk (hg.block ub a2.2 (fun e => b3 e.symm)) hg.size).other (fun e => b1 e.symm), own_blk ho fun k hk => Below.heap_setCell _ _ _ _ (fun e => hne g a1.2 b2 (by rw [hk]; exact congrArg some e)), own_blk (own_blk (w' := W') a4 fun k hk => hg.block k (a4.lt k hk).2 (fun e => b6 k e.symm hk)) fun k hk => Below.heap_setCell _ _ _ _ (fun e => b4 (by rw [hk]; exact congrArg some e)), ⟨b1, hne g a1.2 b2, hne ub a2.2 b3, b4, b5, fun b hb e => hne b (a4.lt b e).2 (fun q => b6 b q e) hb⟩, fun p hp => ?_⟩
  obtain ⟨d1, d2, d3, d4⟩ := c p hp
  exact ⟨(Below.heap_setCell _ _ _ _ d2).trans ((hg.block p.1 (obj_lt d1) (fun e => d4 e.symm)).trans d1), d2, d3, hne p.1 (obj_lt d1) d4⟩
theorem Two.belowO {w0 : World} (h : Two lo W g ub a n cap own usd ord L ov lv KB) (hB : Below lo w0 W) (hl : lo ≤ g) (hg : W.grownBy W' ov.ownBlock) (u : Value) (q : Nat) : Below lo w0 (W'.setCell ⟨g, q, none⟩ u) :=
  ⟨hg.os.trans hB.os, hg.tape.trans hB.tape, hg.output.trans hB.output, by have := hB.size; have := hg.size; simp [World.setCell]; omega, fun k hk => by
    rw [Below.heap_setCell _ _ _ _ (show k ≠ g by omega), hg.block k (by have := h.1.2; omega) (fun e => by have := (h.2.2.1.lt k e.symm).1; omega)]
    exact hB.block k hk⟩
end
def TwoS (lo : Nat) (w0 W : World) (g ub : Nat) (a : Option Addr) (n cap : Nat) (own : Bool) (V : Nat → CallV) (ord : List Nat) (KB : List (Nat × Obj)) : Prop :=
  ∃ L ov lv, Two lo W g ub a n cap own ord ord L ov lv KB ∧ Sees V n ord L ∧ Below lo w0 W
structure TwoC (lo : Nat) (w0 : World) (g ub : Nat) (a : Option Addr) (n cap : Nat) (V : Nat → CallV) : Prop where
  sl : Sl w0 a n 6 (callF V)
  lo0 : w0.heap.size ≤ lo
  log : lo ≤ g
  lou : lo ≤ ub
  n7 : n ≤ 7
theorem TwoC.at {lo : Nat} {w0 W : World} {g ub : Nat} {a : Option Addr} {n cap : Nat} {V : Nat → CallV} (h : TwoC lo w0 g ub a n cap V) (hB : Below lo w0 W) : Sl W a n 6 (callF V) := h.sl.below hB h.lo0
theorem TwoS.sub {lo : Nat} {w0 W : World} {g ub : Nat} {a : Option Addr} {n cap : Nat} {own : Bool} {V : Nat → CallV} {ord : List Nat} {KB KB' : List (Nat × Obj)} (h : TwoS lo w0 W g ub a n cap own V ord KB) (hs : ∀ p ∈ KB', p ∈ KB) : TwoS lo w0 W g ub a n cap own V ord KB' := by
  obtain ⟨L, ov, lv, h1, h2, h3⟩ := h
  exact ⟨L, ov, lv, h1.sub hs, h2, h3⟩
/-- The block of a row, where there is one. -/
theorem own_obj {w : World} {base : Nat} {e : TypeId} {size : Nat} {v : Value} {n : Nat} {xs : List Value} (h : w.ownsRow base e size v n xs) : ∃ KL : List (Nat × Obj), (∀ p ∈ KL, w.heap[p.1]? = some p.2 ∧ v.ownBlock = some p.1) ∧ ∀ W : World, (∀ p ∈ KL, W.heap[p.1]? = some p.2) → W.ownsRow base e size v n xs := by
  obtain ⟨h1, h2⟩ := h
  rcases h2 with h2 | ⟨b, cap, cur, hv, hb, hh, r⟩
  · exact ⟨[], fun p hp => by simp at hp, fun W _ => ⟨h1, Or.inl h2⟩⟩
  · refine ⟨[(b, .cells cur e (0, 0))], fun p hp => ?_, fun W hW => ⟨h1, Or.inr ⟨b, cap, cur, hv, hb, hW (b, .cells cur e (0, 0)) (by simp), r⟩⟩⟩
    simp at hp; subst hp; exact ⟨hh, by rw [hv]; rfl⟩
end Go.Proofs.Ytkniokbioggkeaa
