/- Rows of numbers that a call builds by append. -/
import Derived.Test.YtnapgnkhajkbkaaGlC
namespace Go.Proofs.Ytnapgnkhajkbkaa
open Go.RowKit
set_option linter.unusedVariables false

theorem info_int : (Try.prog.info? 3).map (fun i => (i.zero, i.size, i.bytes)) = some (some (.int .i64 0), 1, 8) := by kernel_rfl
def ints (X : Nat → Int) (n : Nat) : List Value := (List.range n).map fun i => Value.int .i64 (X i)
theorem ints_succ (X : Nat → Int) (n : Nat) : ints X (n + 1) = ints X n ++ [.int .i64 (X n)] := by simp [ints, List.range_succ]
theorem ints_congr {X Y : Nat → Int} {n : Nat} (h : ∀ i, i < n → X i = Y i) : ints X n = ints Y n := by
  simp only [ints]
  apply List.map_congr_left
  intro i hi
  rw [h i (List.mem_range.1 hi)]
/-- One number more behind the row. -/
def snoc (X : Nat → Int) (n : Nat) (t : Int) (i : Nat) : Int := if i = n then t else X i
theorem ints_snoc (X : Nat → Int) (n : Nat) (t : Int) : ints (snoc X n t) (n + 1) = ints X n ++ [.int .i64 t] := by
  rw [ints_succ, ints_congr (Y := X) (fun i hi => by simp [snoc, show i ≠ n by omega])]
  simp [snoc]
theorem hasN_snoc (X : Nat → Int) (n : Nat) (t u : Int) : hasN (snoc X n t) u (n + 1) = (hasN X u n || t == u) := by
  have e : ∀ m, m ≤ n → hasN (snoc X n t) u m = hasN X u m := by
    intro m
    induction m with
    | zero => intro _; rfl
    | succ m ih => intro h; simp only [hasN, ih (by omega)]; simp [snoc, show m ≠ n by omega]
  simp only [hasN, e n (Nat.le_refl _)]
  simp [snoc]
theorem ints_sl {w : World} {base n : Nat} {v : Value} {X : Nat → Int} (h : w.ownsRow base 3 1 v n (ints X n)) : ∃ a cap, v = .slice a n cap ∧ Sl w a n 1 (intF X) := by
  rcases Nat.eq_zero_or_pos n with hz | hp
  · subst hz
    obtain ⟨_, h | ⟨g, cap, cur, rfl, _⟩⟩ := h
    · exact ⟨none, 0, h.1, Or.inl rfl⟩
    · exact ⟨_, cap, rfl, Or.inl rfl⟩
  obtain ⟨g, cap, rfl⟩ := Go.Joins.ownsRow_form h hp
  refine ⟨_, cap, rfl, Or.inr ⟨g, 0, rfl, (h.lt g rfl).2, fun i hi j hj => ?_⟩⟩
  have : j = 0 := by omega
  subst this
  have := World.ownsRow.cellAt h i (by simpa using hi)
  rw [show 0 + i * 1 + 0 = i by omega, this]
  simp [ints, hi, intF]
theorem own_keep {w w' : World} {base : Nat} {e : TypeId} {size : Nat} {v : Value} {n : Nat} {xs : List Value} (h : w.ownsRow base e size v n xs) (hb : Below w.heap.size w w') : w'.ownsRow base e size v n xs := by
  obtain ⟨h1, h2⟩ := h
  refine ⟨h1, ?_⟩
  rcases h2 with h2 | ⟨g, cap, cur, hv, hg, hh, r⟩
  · exact Or.inl h2
  · have : g < w.heap.size := by
      rcases Nat.lt_or_ge g w.heap.size with q | q
      · exact q
      · rw [Array.getElem?_eq_none q] at hh; cases hh
    exact Or.inr ⟨g, cap, cur, hv, hg, by rw [hb.block g this]; exact hh, r⟩
theorem one_new (w : World) (v : Value) (e : TypeId) : ∀ j u, [v][j]? = some u → (w.alloc (.cells #[v] e)).cell? ((⟨w.heap.size, 0, none⟩ : Addr).add j) = some u := by
  intro j u h
  match j, h with
  | 0, h =>
    simp at h; subst h
    have : ((⟨w.heap.size, 0, none⟩ : Addr).add 0) = ⟨w.heap.size, 0, none⟩ := by unfold Addr.add; split <;> simp_all
    rw [this]; simp
  | j + 1, h => simp at h
theorem one_at {w : World} {s : Nat} (hs : w.heap.size = s) (v : Value) (e : TypeId) : ∀ j u, [v][j]? = some u → (w.alloc (.cells #[v] e)).cell? ((⟨s, 0, none⟩ : Addr).add j) = some u := hs ▸ one_new w v e
end Go.Proofs.Ytnapgnkhajkbkaa
