/- Draws: how a cursor stands through other stores; no Go text is spoken of here. -/
import Derived.Test.YtnglgndocmkbfaaDr
namespace Go.Proofs.Ytnglgndocmkbfaa
open Go.RowKit
set_option linter.unusedVariables false

theorem Trn.alloc {B C : Nat} {a w : World} (h : Trn B C a w) (o : Obj) : Trn B C a (w.alloc o) := h.next (Go.Joins.below_alloc1 _ _)
theorem Cur.out {w : World} {g k q : Nat} {a : Option Addr} {n cap : Nat} {X : Nat → Int} {t : Nat} (h : Cur w g a n cap X t) (hk : g < k) (v : Value) : Cur (w.setCell ⟨k, q, none⟩ v) g a n cap X t := by
  obtain ⟨h0, ⟨p, hp, h1⟩, ⟨s, hs, h2⟩, f1, f2, hg, hE, hn, hX⟩ := h
  refine ⟨?_, ⟨p, hp, ?_⟩, ⟨s, hs, ?_⟩, by simpa using f1, by simpa using f2, by simpa using hg, ?_, hn, hX⟩
  · rw [World.cell?_setCell_other _ _ _ _ (addr_ne' (by omega))]; exact h0
  · rw [World.cell?_setCell_other _ _ _ _ (addr_ne' (by omega))]; exact h1
  · rw [World.cell?_setCell_other _ _ _ _ (addr_ne' (by omega))]; exact h2
  · rcases hE with h | ⟨b, off, e, hl, hE⟩
    · exact Or.inl h
    · exact Or.inr ⟨b, off, e, hl, fun i hi j hj => by rw [World.cell?_setCell_other _ _ _ _ (addr_ne' (by omega))]; exact hE i hi j hj⟩
theorem Trn.out {B C : Nat} {a w : World} (h : Trn B C a w) {p : Addr} (hp : a.heap.size ≤ p.block) (v : Value) : Trn B C a (w.setCell p v) :=
  ⟨h.1, h.2.1, h.2.2.1, by simpa using h.2.2.2.1, fun k hk hx => (Below.heap_setCell _ _ _ _ (by omega)).trans (h.2.2.2.2 k hk hx)⟩
theorem Drew.out {w w' : World} {g k q : Nat} {a : Option Addr} {n cap : Nat} {X : Nat → Int} {t : Nat} (h : Drew g a n cap X t w w') (hg : g < w.heap.size) (hk : w.heap.size ≤ k) (v : Value) : Drew g a n cap X t w (w'.setCell ⟨k, q, none⟩ v) :=
  ⟨h.1.out (by omega) v, h.2.out (p := ⟨k, q, none⟩) hk v⟩
theorem Cur.new {w : World} {a : Option Addr} {n cap : Nat} {X : Nat → Int} (y : TypeId) (hs : Sl w a n 1 (byF X)) (hn : n ≤ 9223372036854775807) (hX : ∀ i, i < n → 0 ≤ X i ∧ X i ≤ 255) : Cur (w.alloc (.cells #[.slice a n cap, .int .i64 0, .int .u64 0] y)) w.heap.size a n cap X 0 := by
  refine ⟨by simp, ⟨0, by omega, by simp⟩, ⟨0, by omega, by simp⟩, by simp, by simp, by simp, ?_, hn, hX⟩
  rcases hs with h | ⟨b, off, rfl, hb, hE⟩
  · exact Or.inl h
  · exact Or.inr ⟨b, off, rfl, hb, hE.below (Go.Joins.below_alloc1 _ _) hb⟩
theorem own_trn {w w' : World} {base B C : Nat} {e : TypeId} {size : Nat} {v : Value} {n : Nat} {xs : List Value} (h : w.ownsRow base e size v n xs) (ht : Trn B C w w') (hC : C ≤ base) : w'.ownsRow base e size v n xs := by
  obtain ⟨h1, h2⟩ := h
  refine ⟨h1, ?_⟩
  rcases h2 with h2 | ⟨g, cap, cur, hv, hgb, hh, r⟩
  · exact Or.inl h2
  · have hlt : g < w.heap.size := by
      rcases Nat.lt_or_ge g w.heap.size with q | q
      · exact q
      · rw [Array.getElem?_eq_none q] at hh; cases hh
    exact Or.inr ⟨g, cap, cur, hv, hgb, by rw [ht.2.2.2.2 g hlt (Or.inr (by omega))]; exact hh, r⟩
theorem Cur.grown {w w' : World} {g : Nat} {a : Option Addr} {n cap : Nat} {X : Nat → Int} {t : Nat} {row : Option Nat} (h : Cur w g a n cap X t) (hg : w.grownBy w' row) (hne : ∀ j, row = some j → g < j) : Cur w' g a n cap X t := by
  obtain ⟨h0, ⟨p, hp, h1⟩, ⟨s, hs, h2⟩, f1, f2, hgl, hE, hn, hX⟩ := h
  have hk : ∀ j, j ≤ g → some j ≠ row := fun j hj e => by have := hne j e.symm; omega
  have e := hg.block g hgl (hk g (Nat.le_refl _))
  refine ⟨(World.cell?_of_block (a := ⟨g, 0, none⟩) e).trans h0, ⟨p, hp, (World.cell?_of_block (a := ⟨g, 1, none⟩) e).trans h1⟩, ⟨s, hs, (World.cell?_of_block (a := ⟨g, 2, none⟩) e).trans h2⟩, (World.frozen?_of_block (a := ⟨g, 1, none⟩) e).trans f1, (World.frozen?_of_block (a := ⟨g, 2, none⟩) e).trans f2, Nat.lt_of_lt_of_le hgl hg.size, ?_, hn, hX⟩
  rcases hE with h | ⟨b, off, rfl, hl, hE⟩
  · exact Or.inl h
  · exact Or.inr ⟨b, off, rfl, hl, hE.same (hg.block b (by omega) (hk b (by omega)))⟩
end Go.Proofs.Ytnglgndocmkbfaa
