/- Rows of numbers that a call builds by append. -/
import Derived.Test.YtjophhiccbkpjaaLst
namespace Go.Proofs.Ytjophhiccbkpjaa
open Go.RowKit
set_option linter.unusedVariables false

def ints (X : Nat → Int) (n : Nat) : List Value := (List.range n).map fun i => Value.int .i64 (X i)
theorem ints_succ (X : Nat → Int) (n : Nat) : ints X (n + 1) = ints X n ++ [.int .i64 (X n)] := by simp [ints, List.range_succ]
theorem ints_len (X : Nat → Int) (n : Nat) : (ints X n).length = n := by simp [ints]
theorem ints_congr {X Y : Nat → Int} {n : Nat} (h : ∀ i, i < n → X i = Y i) : ints X n = ints Y n := by
  simp only [ints]
  apply List.map_congr_left
  intro i hi
  rw [h i (List.mem_range.1 hi)]
theorem ints_row {w : World} {base n : Nat} {v : Value} {X : Nat → Int} (h : w.ownsRow base 3 1 v n (ints X n)) : ∃ a cap, v = .slice a n cap ∧ IntS w base w.heap.size a n X := by
  rcases Nat.eq_zero_or_pos n with hz | hp
  · subst hz
    obtain ⟨_, h | ⟨g, cap, cur, rfl, _⟩⟩ := h
    · exact ⟨none, 0, h.1, Or.inl rfl⟩
    · exact ⟨_, cap, rfl, Or.inl rfl⟩
  obtain ⟨g, cap, rfl⟩ := Go.Joins.ownsRow_form h hp
  refine ⟨_, cap, rfl, Or.inr ⟨g, rfl, (h.lt g rfl).1, (h.lt g rfl).2, (h.lt g rfl).2, fun i hi => ⟨?_, ?_⟩⟩⟩
  · have := World.ownsRow.cellAt h i (by simpa using hi)
    rw [this]
    simp [ints, hi]
  · obtain ⟨hl, h | ⟨g', cap', cur, hv, hb, hh, hn, hm, hs, ht⟩⟩ := h
    · exact absurd h.1 (by simp)
    · simp only [Value.slice.injEq, Option.some.injEq, Addr.mk.injEq, and_true, true_and] at hv
      obtain ⟨rfl, rfl⟩ := hv
      exact Go.Joins.unfrozen_of_block hh i
theorem own_base {w : World} {base : Nat} {e : TypeId} {size : Nat} {v : Value} {n : Nat} {xs : List Value} (h : w.ownsRow base e size v n xs) : ∀ k, v.ownBlock = some k → base ≤ k := fun k hk => (h.lt k hk).1
theorem own_keep {w w' : World} {base : Nat} {e : TypeId} {size : Nat} {v : Value} {n : Nat} {xs : List Value} (h : w.ownsRow base e size v n xs) (hb : Below w.heap.size w w') : w'.ownsRow base e size v n xs := by
  obtain ⟨h1, h2⟩ := h
  refine ⟨h1, ?_⟩
  rcases h2 with h2 | ⟨g, cap, cur, hv, hg, hh, r⟩
  · exact Or.inl h2
  · have : g < w.heap.size := by
      rcases Nat.lt_or_ge g w.heap.size with q | q
      · exact q
      · rw [Array.getElem?_eq_none q] at hh; cases hh
    exact Or.inr ⟨g, cap, cur, hv, hg, by rw [hb.block g this]; exact hh, r⟩
theorem one_new (w : World) (v : Value) (e : TypeId) : ∀ j u, [v][j]? = some u → (w.alloc (.cells #[v] e)).cell? ((⟨w.heap.size, 0, none⟩ : Addr).add j) = some u := by
  intro j u h
  match j, h with
  | 0, h =>
    simp at h; subst h
    have : ((⟨w.heap.size, 0, none⟩ : Addr).add 0) = ⟨w.heap.size, 0, none⟩ := by unfold Addr.add; split <;> simp_all
    rw [this]; simp
  | j + 1, h => simp at h
end Go.Proofs.Ytjophhiccbkpjaa
