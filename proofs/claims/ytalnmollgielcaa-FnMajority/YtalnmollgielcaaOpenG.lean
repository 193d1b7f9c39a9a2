/- A group that came in: its list. -/
import Derived.Test.YtalnmollgielcaaOpenE
namespace Go.Proofs.Ytalnmollgielcaa
open Go.RowKit Go.Deep Go.ChangeShapes Go.WideShapes Go.ChangeAt
set_option linter.unusedVariables false

theorem cells_group : Try.prog.cellsOf 49 = 1 := by kernel_rfl
theorem cells_slice : Try.prog.cellsOf 23 = 1 := by kernel_rfl
set_option maxRecDepth 100000 in
theorem open_group {H : Type} {enc : TypeId × Value → H} {w : World} {r : Reach} {b0 : Nat} {v : Value} {d : DataW H} {p : List MemPlace} (hv : Value.okWide Try.prog w r b0 49 v)
    (h : DataW.Trod enc Try.prog w 0 (fun _ => true) true 49 v d p) : ∃ a n cap, v = .agg #[.slice a n cap] ∧ n ≤ maxLen ∧ ∃ X, Sl w a n 1 (intF X) := by
  obtain ⟨cs, rfl, hsz⟩ := okWide_struct Try.underlying49 hv
  rw [cells_group] at hsz
  have h1 : cs.toList.length = 1 := hsz
  obtain ⟨c0, hc0⟩ := list1 h1
  obtain rfl : cs = #[c0] := by cases cs; simp_all
  obtain ⟨fuel, hf⟩ := h
  obtain ⟨y0, m, _, _, h0⟩ := trod_struct1 Try.underlying49 hf
  have h0' : DataW.trod enc Try.prog w 0 (fun _ => true) true m 23 [c0] = some y0 := by simpa [cells_slice, Value.cells] using h0
  have hform : ∃ a n cap, c0 = .slice a n cap := by
    rcases open_slice Try.underlying23 h0' with ⟨hcs, _⟩ | ⟨x, l, k, m, n, D, Pl, hcs, _⟩
    · simp at hcs; exact ⟨_, _, _, hcs⟩
    · simp at hcs; exact ⟨_, _, _, hcs⟩
  obtain ⟨a, n, cap, rfl⟩ := hform
  obtain ⟨hl, X, hs, _⟩ := open_ints (w := w) (a := a) (len := n) (cap := cap) (d := y0.1) (p := y0.2) ⟨m, by simpa [Value.cells] using h0'⟩
  exact ⟨a, n, cap, rfl, hl, X, hs⟩
end Go.Proofs.Ytalnmollgielcaa
