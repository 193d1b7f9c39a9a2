/- How nested lists that came in are read. -/
import Derived.Test.YtkpobihpcnoemaaShP
import Derived.Test.YtkpobihpcnoemaaOpenE
namespace Go.Proofs.Ytkpobihpcnoemaa
open Go.RowKit Go.Deep
set_option linter.unusedVariables false

theorem choose_list {α : Type} {n : Nat} {P : Nat → α → Prop} (h : ∀ i, i < n → ∃ x, P i x) : ∃ l : List α, l.length = n ∧ ∀ i (hi : i < l.length), P i l[i] := by
  induction n with
  | zero => exact ⟨[], rfl, fun i hi => absurd hi (by simp)⟩
  | succ n ih =>
    obtain ⟨l, hl, hP⟩ := ih (fun i hi => h i (by omega))
    obtain ⟨x, hx⟩ := h n (by omega)
    refine ⟨l ++ [x], by simp [hl], fun i hi => ?_⟩
    by_cases e : i < l.length
    · rw [List.getElem_append_left e]; exact hP i e
    · have : i = n := by simp at hi; omega
      subst this
      rw [List.getElem_append_right (by omega)]
      simpa [hl] using hx
theorem read_list {H : Type} {enc : TypeId × Value → H} {P : Program} {w : World} {t e : TypeId} (sh : Sh) (ht : P.underlying t = some (.slice e)) (hc : P.cellsOf e = sh.c) (h0 : 0 < sh.c)
    (hr : ∀ n cs y, DataW.trod enc P w 0 (fun _ => true) true n e cs = some y → ∃ x : sh.T, Lies w sh cs x ∧ Fits sh x) {n : Nat} {v : Value} {y : DataW H × List MemPlace}
    (h : DataW.trod enc P w 0 (fun _ => true) true n t [v] = some y) : ∃ l : List sh.T, Lies w (.list sh) [v] l ∧ Fits (.list sh) l := by
  have hform : ∃ a n cap, v = .slice a n cap ∧ n ≤ cap ∧ cap ≤ maxLen := by
    rcases Go.Deep.open_slice ht h with ⟨hcs, _⟩ | ⟨x, l, k, m, n, D, Pl, hcs, _, h1, h2, _⟩
    · simp at hcs; exact ⟨_, _, _, hcs, Nat.le_refl _, Nat.zero_le _⟩
    · simp at hcs; exact ⟨_, _, _, hcs, h1, h2⟩
  obtain ⟨a, len, cap, rfl, hc1, hc2⟩ := hform
  obtain ⟨hl, h | ⟨b, off, rfl, hb, hel⟩⟩ := open_elems ht hc h0 (d := y.1) (p := y.2) ⟨n, by simpa [Value.cells] using h⟩
  · subst h
    exact ⟨[], ⟨a, cap, rfl, Nat.zero_le _, hc2, Or.inl rfl⟩, by unfold maxLen; simp, fun x hx => by cases hx⟩
  · have each : ∀ i, i < len → ∃ x : sh.T, (∃ ec, ec.length = sh.c ∧ Cells w b (off + i * sh.c) ec ∧ Lies w sh ec x) ∧ Fits sh x := by
      intro i hi
      obtain ⟨cs, m, z, h1, h2, h3⟩ := hel i hi
      obtain ⟨x, hx, hf⟩ := hr m cs z h3
      exact ⟨x, ⟨cs, h1, fun j hj => h2 j (by omega), hx⟩, hf⟩
    obtain ⟨l, hll, hP⟩ := choose_list each
    refine ⟨l, ⟨_, cap, by rw [hll], by rw [hll]; exact hc1, hc2, Or.inr ⟨b, off, rfl, hb, fun i hi => (hP i hi).1⟩⟩, by omega, fun x hx => ?_⟩
    obtain ⟨i, hi, rfl⟩ := List.getElem_of_mem hx
    exact (hP i hi).2
theorem read_int {H : Type} {enc : TypeId × Value → H} {w : World} {n : Nat} {cs : List Value} {y : DataW H × List MemPlace} (h : DataW.trod enc Try.prog w 0 (fun _ => true) true n 3 cs = some y) : ∃ x : Sh.T .int, Lies w .int cs x ∧ Fits .int x := by
  obtain ⟨q, q0, _, wf⟩ := DataW.trod_int Try.underlying3 h
  exact ⟨q, q0, wf_bounds wf⟩
theorem read_string {H : Type} {enc : TypeId × Value → H} {w : World} {n : Nat} {cs : List Value} {y : DataW H × List MemPlace} (h : DataW.trod enc Try.prog w 0 (fun _ => true) true n 9 cs = some y) : ∃ x : Sh.T .str, Lies w .str cs x ∧ Fits .str x := by
  obtain ⟨q, q0, _, z⟩ := DataW.trod_string Try.underlying9 h
  exact ⟨q, q0, z⟩
theorem read_bool {H : Type} {enc : TypeId × Value → H} {w : World} {n : Nat} {cs : List Value} {y : DataW H × List MemPlace} (h : DataW.trod enc Try.prog w 0 (fun _ => true) true n 4 cs = some y) : ∃ x : Sh.T .bool, Lies w .bool cs x ∧ Fits .bool x := by
  obtain ⟨q, q0, _⟩ := DataW.trod_bool Try.underlying4 h
  exact ⟨q, q0, trivial⟩
end Go.Proofs.Ytkpobihpcnoemaa
