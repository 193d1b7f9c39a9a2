/- Rising lists of numbers and one put into them. Mathematics alone. -/
import Derived.Test.YtaofolbnommpgaaMgB
import Derived.Test.YtaofolbnommpgaaGrG
namespace Go.Proofs.Ytaofolbnommpgaa
open Go.RowKit
set_option linter.unusedVariables false
set_option linter.unusedSimpArgs false

abbrev inC (l : List (Sh.T .int)) : List Value := List.flatMap (valC .int) l
def cntI (l : List (Sh.T .int)) (x : Int) : Nat := List.countP (fun a : Int => decide (a < x)) l
def insI (l : List (Sh.T .int)) (x : Int) : List (Sh.T .int) := l.take (cntI l x) ++ x :: l.drop (cntI l x)
theorem cntI_le (l : List (Sh.T .int)) (x : Int) : cntI l x ≤ l.length := List.countP_le_length ..
theorem insI_len (l : List (Sh.T .int)) (x : Int) : (insI l x).length = l.length + 1 := by
  have := cntI_le l x
  unfold insI; rw [List.length_append, List.length_cons, List.length_take, List.length_drop]; omega
theorem insI_cells (l : List (Sh.T .int)) (x : Int) : putAt (inC l) [.int .i64 x] (cntI l x * 1) = inC (insI l x) := flat_put (α := Int) (f := valC .int) (c := 1) (fun y => rfl) (cntI_le l x)
theorem cnt_split {α : Type} (f : α → Int) (x : Int) : ∀ {l : List α}, l.Pairwise (fun a b => f a < f b) → (∀ y ∈ l.take (l.countP (fun a => decide (f a < x))), f y < x) ∧ (∀ y ∈ l.drop (l.countP (fun a => decide (f a < x))), x ≤ f y)
  | [], _ => by simp
  | a :: t, h => by
    rw [List.pairwise_cons] at h
    have ih := cnt_split f x h.2
    by_cases q : f a < x
    · have e : (a :: t).countP (fun a => decide (f a < x)) = t.countP (fun a => decide (f a < x)) + 1 := by rw [List.countP_cons_of_pos (by simpa using q)]
      rw [e, List.take_succ_cons, List.drop_succ_cons]
      refine ⟨fun y hy => ?_, ih.2⟩
      rcases List.mem_cons.1 hy with r | r
      · rw [r]; exact q
      · exact ih.1 y r
    · have e : (a :: t).countP (fun a => decide (f a < x)) = 0 := by
        rw [List.countP_eq_zero]
        intro y hy
        rcases List.mem_cons.1 hy with r | r
        · rw [r]; simpa using q
        · have := h.1 y r; simp only [decide_eq_true_eq]; omega
      rw [e, List.take_zero, List.drop_zero]
      refine ⟨fun y hy => by simp at hy, fun y hy => ?_⟩
      rcases List.mem_cons.1 hy with r | r
      · rw [r]; omega
      · have := h.1 y r; omega
theorem pair_ins {α : Type} (f : α → Int) {l : List α} (h : l.Pairwise (fun a b => f a < f b)) (y : α) (hn : ∀ a ∈ l, f a ≠ f y) : (l.take (l.countP (fun a => decide (f a < f y))) ++ y :: l.drop (l.countP (fun a => decide (f a < f y)))).Pairwise (fun a b => f a < f b) := by
  obtain ⟨h1, h2⟩ := cnt_split f (f y) h
  rw [List.pairwise_append, List.pairwise_cons]
  have h3 : ∀ b ∈ l.drop (l.countP (fun a => decide (f a < f y))), f y < f b := fun b hb => by
    have := h2 b hb; have := hn b (List.mem_of_mem_drop hb); omega
  refine ⟨h.sublist (List.take_sublist ..), ⟨h3, h.sublist (List.drop_sublist ..)⟩, fun a ha b hb => ?_⟩
  have ha := h1 a ha
  rcases List.mem_cons.1 hb with r | r
  · rw [r]; exact ha
  · have := h3 b r; omega
theorem ins_mem {l : List (Sh.T .int)} {x y : Int} : y ∈ insI l x ↔ y = x ∨ y ∈ l := by
  have e : ∀ k, y ∈ l ↔ y ∈ l.take k ∨ y ∈ l.drop k := fun k => by rw [← List.mem_append, List.take_append_drop]
  unfold insI
  rw [List.mem_append, List.mem_cons, e (cntI l x)]
  constructor
  · rintro (q | q | q)
    · exact Or.inr (Or.inl q)
    · exact Or.inl q
    · exact Or.inr (Or.inr q)
  · rintro (q | q | q)
    · exact Or.inr (Or.inl q)
    · exact Or.inl q
    · exact Or.inr (Or.inr q)
end Go.Proofs.Ytaofolbnommpgaa
