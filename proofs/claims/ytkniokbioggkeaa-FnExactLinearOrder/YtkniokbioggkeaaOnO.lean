/- A value of oneCopy in its block: the calls, those that are done in their order, the cells; boxes beside it that stay. -/
import Derived.Test.YtkniokbioggkeaaOnV
import Derived.Test.YtkniokbioggkeaaPw
import Derived.Test.YtkniokbioggkeaaL3C
import Derived.Test.YtkniokbioggkeaaCaI
namespace Go.Proofs.Ytkniokbioggkeaa
open Go.RowKit
set_option linter.unusedVariables false

def ordC (ord : List Nat) : List Value := ord.map fun k : Nat => Value.int .i64 (k : Int)
theorem ordC_len (ord : List Nat) : (ordC ord).length = ord.length := by simp [ordC]
theorem ordC_snoc (ord : List Nat) (i : Nat) : ordC (ord ++ [i]) = ordC ord ++ [.int .i64 (i : Int)] := by simp [ordC]
theorem Bx.blk {w w' : World} {g : Nat} {vs : List Value} (h : Bx w g vs) (e : w'.heap[g]? = w.heap[g]?) (hs : w.heap.size ≤ w'.heap.size) : Bx w' g vs :=
  ⟨fun j hj => ⟨(World.cell?_of_block (a := ⟨g, j, none⟩) e).trans (h.1 j hj).1, (World.frozen?_of_block (a := ⟨g, j, none⟩) e).trans (h.1 j hj).2⟩, Nat.lt_of_lt_of_le h.2 hs⟩
theorem own_blk {w w' : World} {base : Nat} {e : TypeId} {size : Nat} {v : Value} {n : Nat} {xs : List Value} (h : w.ownsRow base e size v n xs) (hk : ∀ k, v.ownBlock = some k → w'.heap[k]? = w.heap[k]?) : w'.ownsRow base e size v n xs := by
  obtain ⟨h1, h2⟩ := h
  refine ⟨h1, ?_⟩
  rcases h2 with h2 | ⟨b, cap, cur, hv, hb, hh, r⟩
  · exact Or.inl h2
  · exact Or.inr ⟨b, cap, cur, hv, hb, by rw [hk b (by rw [hv]; rfl)]; exact hh, r⟩
def One (W : World) (g : Nat) (a : Option Addr) (n cap : Nat) (ord : List Nat) (L : List CellV) (ov lv : Value) (KB : List (Nat × List Value)) : Prop :=
  Bx W g [.slice a n cap, ov, lv] ∧ W.ownsRow (g + 1) 3 1 ov ord.length (ordC ord) ∧ W.ownsRow (g + 1) 71 2 lv L.length (cellsC L) ∧
  (∀ b, ov.ownBlock = some b → lv.ownBlock ≠ some b) ∧ ∀ p ∈ KB, Bx W p.1 p.2 ∧ p.1 ≠ g ∧ ov.ownBlock ≠ some p.1 ∧ lv.ownBlock ≠ some p.1
section
variable {W W' : World} {g : Nat} {a : Option Addr} {n cap : Nat} {ord ord' : List Nat} {L L' : List CellV} {ov lv ov' lv' : Value} {KB KB' : List (Nat × List Value)}
theorem One.next (h : One W g a n cap ord L ov lv KB) (hb : Below W.heap.size W W') : One W' g a n cap ord L ov lv KB :=
  ⟨h.1.next hb, own_keep h.2.1 hb, own_keep h.2.2.1 hb, h.2.2.2.1, fun p hp => ⟨(h.2.2.2.2 p hp).1.next hb, (h.2.2.2.2 p hp).2⟩⟩
theorem One.sub (h : One W g a n cap ord L ov lv KB) (hs : ∀ p ∈ KB', p ∈ KB) : One W g a n cap ord L ov lv KB' := ⟨h.1, h.2.1, h.2.2.1, h.2.2.2.1, fun p hp => h.2.2.2.2 p (hs p hp)⟩
theorem One.add {b : Nat} {vs : List Value} (h : One W g a n cap ord L ov lv KB) (hb : Bx W b vs) (h1 : b ≠ g) (h2 : ov.ownBlock ≠ some b) (h3 : lv.ownBlock ≠ some b) : One W g a n cap ord L ov lv ((b, vs) :: KB) :=
  ⟨h.1, h.2.1, h.2.2.1, h.2.2.2.1, fun p hp => by
    rcases List.mem_cons.1 hp with rfl | hp
    · exact ⟨hb, h1, h2, h3⟩
    · exact h.2.2.2.2 p hp⟩
theorem One.new {b : Nat} {vs : List Value} (h : One W g a n cap ord L ov lv KB) (hb : Below W.heap.size W W') (hx : Bx W' b vs) (hbs : W.heap.size ≤ b) : One W' g a n cap ord L ov lv ((b, vs) :: KB) :=
  (h.next hb).add hx (by have := h.1.2; omega) (fun e => by have := (h.2.1.lt _ e).2; omega) (fun e => by have := (h.2.2.1.lt _ e).2; omega)
theorem One.boxAt (h : One W g a n cap ord L ov lv KB) {b : Nat} {vs : List Value} (hp : (b, vs) ∈ KB) : Bx W b vs := (h.2.2.2.2 _ hp).1
theorem One.putC (h : One W g a n cap ord L ov lv KB) (hg : W.grownBy W' lv.ownBlock) (ho : W'.ownsRow (g + 1) 71 2 lv' L'.length (cellsC L')) (hw : lv'.ownBlock = lv.ownBlock ∨ ∃ k, lv'.ownBlock = some k ∧ W.heap.size ≤ k) : One (W'.setCell ⟨g, 2, none⟩ lv') g a n cap ord L' ov lv' KB := by
  have hgl : lv.ownBlock ≠ some g := fun e => by have := (h.2.2.1.lt _ e).1; omega
  have hgo : ∀ k, ov.ownBlock = some k → k ≠ g := fun k e => by have := (h.2.1.lt _ e).1; omega
  have hg2 : Bx W' g [.slice a n cap, ov, lv] := h.1.blk (hg.block g h.1.2 (fun e => hgl e.symm)) hg.size
  have hne : ∀ b, b < W.heap.size → lv.ownBlock ≠ some b → lv'.ownBlock ≠ some b := fun b hb h1 e => by
    rcases hw with hw | ⟨k, hk, hks⟩
    · exact h1 (hw ▸ e)
    · rw [hk] at e; cases e; omega
  refine ⟨hg2.set (k := 2) (by simp) lv', ?_, ?_, fun b hb => hne b (h.2.1.lt b hb).2 (h.2.2.2.1 b hb), fun p hp => ?_⟩
  · refine own_blk (own_blk (w' := W') h.2.1 fun k hk => hg.block k (h.2.1.lt k hk).2 (fun e => h.2.2.2.1 k hk e.symm)) fun k hk => Below.heap_setCell _ _ _ _ (hgo k hk)
  · exact own_blk ho fun k hk => Below.heap_setCell _ _ _ _ (by have := (ho.lt k hk).1; show k ≠ g; omega)
  · obtain ⟨h1, h2, h3, h4⟩ := h.2.2.2.2 p hp
    exact ⟨(h1.blk (hg.block p.1 h1.2 (fun e => h4 e.symm)) hg.size).other h2, h2, h3, hne _ h1.2 h4⟩
theorem One.putO (h : One W g a n cap ord L ov lv KB) (hg : W.grownBy W' ov.ownBlock) (ho : W'.ownsRow (g + 1) 3 1 ov' ord'.length (ordC ord')) (hw : ov'.ownBlock = ov.ownBlock ∨ ∃ k, ov'.ownBlock = some k ∧ W.heap.size ≤ k) : One (W'.setCell ⟨g, 1, none⟩ ov') g a n cap ord' L ov' lv KB := by
  have hgl : ov.ownBlock ≠ some g := fun e => by have := (h.2.1.lt _ e).1; omega
  have hgo : ∀ k, lv.ownBlock = some k → k ≠ g := fun k e => by have := (h.2.2.1.lt _ e).1; omega
  have hg2 : Bx W' g [.slice a n cap, ov, lv] := h.1.blk (hg.block g h.1.2 (fun e => hgl e.symm)) hg.size
  have hne : ∀ b, b < W.heap.size → ov.ownBlock ≠ some b → ov'.ownBlock ≠ some b := fun b hb h1 e => by
    rcases hw with hw | ⟨k, hk, hks⟩
    · exact h1 (hw ▸ e)
    · rw [hk] at e; cases e; omega
  refine ⟨hg2.set (k := 1) (by simp) ov', ?_, ?_, fun b hb e => hne b (h.2.2.1.lt b e).2 (fun q => h.2.2.2.1 b q e) hb, fun p hp => ?_⟩
  · exact own_blk ho fun k hk => Below.heap_setCell _ _ _ _ (by have := (ho.lt k hk).1; show k ≠ g; omega)
  · refine own_blk (own_blk (w' := W') h.2.2.1 fun k hk => hg.block k (h.2.2.1.lt k hk).2 (fun e => h.2.2.2.1 k e.symm hk)) fun k hk => Below.heap_setCell _ _ _ _ (hgo k hk)
  · obtain ⟨h1, h2, h3, h4⟩ := h.2.2.2.2 p hp
    exact ⟨(h1.blk (hg.block p.1 h1.2 (fun e => h3 e.symm)) hg.size).other h2, h2, hne _ h1.2 h3, h4⟩
theorem One.belowC {w0 : World} (h : One W g a n cap ord L ov lv KB) (hB : Below g w0 W) (hg : W.grownBy W' lv.ownBlock) (u : Value) (q : Nat) : Below g w0 (W'.setCell ⟨g, q, none⟩ u) :=
  ⟨hg.os.trans hB.os, hg.tape.trans hB.tape, hg.output.trans hB.output, by have := hB.size; have := hg.size; simp [World.setCell]; omega, fun k hk => by
    rw [Below.heap_setCell _ _ _ _ (show k ≠ g by omega), hg.block k (by have := h.1.2; omega) (fun e => by have := (h.2.2.1.lt k e.symm).1; omega)]
    exact hB.block k hk⟩
theorem One.belowO {w0 : World} (h : One W g a n cap ord L ov lv KB) (hB : Below g w0 W) (hg : W.grownBy W' ov.ownBlock) (u : Value) (q : Nat) : Below g w0 (W'.setCell ⟨g, q, none⟩ u) :=
  ⟨hg.os.trans hB.os, hg.tape.trans hB.tape, hg.output.trans hB.output, by have := hB.size; have := hg.size; simp [World.setCell]; omega, fun k hk => by
    rw [Below.heap_setCell _ _ _ _ (show k ≠ g by omega), hg.block k (by have := h.1.2; omega) (fun e => by have := (h.2.1.lt k e.symm).1; omega)]
    exact hB.block k hk⟩
end
/-- What holds of a search at any time. -/
def OneS (w0 W : World) (g : Nat) (a : Option Addr) (n cap : Nat) (V : Nat → CallV) (ord : List Nat) (KB : List (Nat × List Value)) : Prop :=
  ∃ L ov lv, One W g a n cap ord L ov lv KB ∧ Sees V n ord L ∧ Below g w0 W
/-- What the calls are. -/
structure OneC (w0 : World) (g : Nat) (a : Option Addr) (n cap : Nat) (V : Nat → CallV) : Prop where
  sl : Sl w0 a n 6 (callF V)
  lo : w0.heap.size ≤ g
  n7 : n ≤ 7
  key : ∀ i, i < n → (V i).f2.size ≤ 281474976710656
theorem OneC.at {w0 W : World} {g : Nat} {a : Option Addr} {n cap : Nat} {V : Nat → CallV} (h : OneC w0 g a n cap V) (hB : Below g w0 W) : Sl W a n 6 (callF V) := h.sl.below hB h.lo
theorem below_nxg {w0 W W' : World} {g : Nat} (h : Below g w0 W) (hg : g ≤ W.heap.size) (hb : Below W.heap.size W W') : Below g w0 W' := h.trans (hb.mono hg)
theorem OneS.next {w0 W W' : World} {g : Nat} {a : Option Addr} {n cap : Nat} {V : Nat → CallV} {ord : List Nat} {KB : List (Nat × List Value)} (h : OneS w0 W g a n cap V ord KB) (hb : Below W.heap.size W W') : OneS w0 W' g a n cap V ord KB := by
  obtain ⟨L, ov, lv, h1, h2, h3⟩ := h
  exact ⟨L, ov, lv, h1.next hb, h2, below_nxg h3 (Nat.le_of_lt h1.1.2) hb⟩
theorem OneS.sub {w0 W : World} {g : Nat} {a : Option Addr} {n cap : Nat} {V : Nat → CallV} {ord : List Nat} {KB KB' : List (Nat × List Value)} (h : OneS w0 W g a n cap V ord KB) (hs : ∀ p ∈ KB', p ∈ KB) : OneS w0 W g a n cap V ord KB' := by
  obtain ⟨L, ov, lv, h1, h2, h3⟩ := h
  exact ⟨L, ov, lv, h1.sub hs, h2, h3⟩
end Go.Proofs.Ytkniokbioggkeaa
