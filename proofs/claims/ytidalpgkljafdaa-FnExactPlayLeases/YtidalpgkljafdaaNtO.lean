/- How this chapter's data that came in are read. Written by tools/nest.py. -/
import Derived.Test.YtidalpgkljafdaaNtS
import Derived.Test.YtidalpgkljafdaaShO
import Derived.ProofKit
import Derived.OpenShut
import Derived.ChangeOld
namespace Go.Proofs.Ytidalpgkljafdaa
open Go.RowKit
set_option linter.unusedVariables false
set_option linter.unusedSimpArgs false

open Go.Deep Go.ChangeShapes Go.WideShapes Go.ChangeAt
theorem co_int : Try.prog.cellsOf 3 = 1 := by kernel_rfl
theorem co_Lint : Try.prog.cellsOf 26 = 1 := by kernel_rfl
theorem co_Leases : Try.prog.cellsOf 49 = 6 := by kernel_rfl
theorem co_LeaseStep : Try.prog.cellsOf 53 = 3 := by kernel_rfl
theorem co_LLeaseStep : Try.prog.cellsOf 56 = 1 := by kernel_rfl
theorem read_Leases {H : Type} {enc : TypeId × Value → H} {w : World} {n : Nat} {cs : List Value} {y : DataW H × List MemPlace} (h : DataW.trod enc Try.prog w 0 (fun _ => true) true n 49 cs = some y) : ∃ x : Sh.T shLeases, Lies w shLeases cs x ∧ Fits shLeases x := by
  obtain ⟨xs, m, _, _, hl, hlen, hf⟩ := DataW.trod_struct Try.underlying49 h
  rw [co_Leases] at hl
  have hx : xs.length = 6 := hlen
  obtain ⟨v0, v1, v2, v3, v4, v5, rfl⟩ := list_of6 hl
  have g0 := hf 0 _ rfl
  rw [List.getElem?_eq_getElem (by omega)] at g0
  replace g0 : DataW.trod enc Try.prog w 0 (fun _ => true) true m 3 [v0] = some (xs[0]'(by omega)) := by simpa [co_int, co_Lint] using g0
  obtain ⟨X0, h0, f0⟩ := read_int g0
  have g1 := hf 1 _ rfl
  rw [List.getElem?_eq_getElem (by omega)] at g1
  replace g1 : DataW.trod enc Try.prog w 0 (fun _ => true) true m 3 [v1] = some (xs[1]'(by omega)) := by simpa [co_int, co_Lint] using g1
  obtain ⟨X1, h1, f1⟩ := read_int g1
  have g2 := hf 2 _ rfl
  rw [List.getElem?_eq_getElem (by omega)] at g2
  replace g2 : DataW.trod enc Try.prog w 0 (fun _ => true) true m 26 [v2] = some (xs[2]'(by omega)) := by simpa [co_int, co_Lint] using g2
  obtain ⟨X2, h2, f2⟩ := read_list .int Try.underlying26 (by rw [co_int]; rfl) (by decide) (fun _ _ _ h => read_int h) g2
  have g3 := hf 3 _ rfl
  rw [List.getElem?_eq_getElem (by omega)] at g3
  replace g3 : DataW.trod enc Try.prog w 0 (fun _ => true) true m 3 [v3] = some (xs[3]'(by omega)) := by simpa [co_int, co_Lint] using g3
  obtain ⟨X3, h3, f3⟩ := read_int g3
  have g4 := hf 4 _ rfl
  rw [List.getElem?_eq_getElem (by omega)] at g4
  replace g4 : DataW.trod enc Try.prog w 0 (fun _ => true) true m 3 [v4] = some (xs[4]'(by omega)) := by simpa [co_int, co_Lint] using g4
  obtain ⟨X4, h4, f4⟩ := read_int g4
  have g5 := hf 5 _ rfl
  rw [List.getElem?_eq_getElem (by omega)] at g5
  replace g5 : DataW.trod enc Try.prog w 0 (fun _ => true) true m 26 [v5] = some (xs[5]'(by omega)) := by simpa [co_int, co_Lint] using g5
  obtain ⟨X5, h5, f5⟩ := read_list .int Try.underlying26 (by rw [co_int]; rfl) (by decide) (fun _ _ _ h => read_int h) g5
  exact ⟨(X0, X1, X2, X3, X4, X5, ()), ⟨[v0], _, rfl, h0, ⟨[v1], _, rfl, h1, ⟨[v2], _, rfl, h2, ⟨[v3], _, rfl, h3, ⟨[v4], _, rfl, h4, ⟨[v5], _, rfl, h5, rfl⟩⟩⟩⟩⟩⟩, f0, f1, f2, f3, f4, f5, trivial⟩
set_option maxRecDepth 100000 in
theorem open_Leases_n {H : Type} {enc : TypeId × Value → H} {w : World} {r : Reach} {b0 : Nat} {v : Value} {d : DataW H} {p : List MemPlace} (hv : Value.okWide Try.prog w r b0 49 v)
    (h : DataW.Trod enc Try.prog w 0 (fun _ => true) true 49 v d p) : ∃ (cs : List Value) (x : Sh.T shLeases), v = .agg cs.toArray ∧ Lies w shLeases cs x ∧ Fits shLeases x := by
  obtain ⟨cs, rfl, hsz⟩ := okWide_struct Try.underlying49 hv
  obtain ⟨fuel, hf⟩ := h
  obtain ⟨x, h1, h2⟩ := read_Leases hf
  exact ⟨cs.toList, x, by simp, by simpa [Value.cells] using h1, h2⟩
theorem read_LeaseStep {H : Type} {enc : TypeId × Value → H} {w : World} {n : Nat} {cs : List Value} {y : DataW H × List MemPlace} (h : DataW.trod enc Try.prog w 0 (fun _ => true) true n 53 cs = some y) : ∃ x : Sh.T shLeaseStep, Lies w shLeaseStep cs x ∧ Fits shLeaseStep x := by
  obtain ⟨xs, m, _, _, hl, hlen, hf⟩ := DataW.trod_struct Try.underlying53 h
  rw [co_LeaseStep] at hl
  have hx : xs.length = 3 := hlen
  obtain ⟨v0, v1, v2, rfl⟩ := list_of3 hl
  have g0 := hf 0 _ rfl
  rw [List.getElem?_eq_getElem (by omega)] at g0
  replace g0 : DataW.trod enc Try.prog w 0 (fun _ => true) true m 3 [v0] = some (xs[0]'(by omega)) := by simpa [co_int] using g0
  obtain ⟨X0, h0, f0⟩ := read_int g0
  have g1 := hf 1 _ rfl
  rw [List.getElem?_eq_getElem (by omega)] at g1
  replace g1 : DataW.trod enc Try.prog w 0 (fun _ => true) true m 3 [v1] = some (xs[1]'(by omega)) := by simpa [co_int] using g1
  obtain ⟨X1, h1, f1⟩ := read_int g1
  have g2 := hf 2 _ rfl
  rw [List.getElem?_eq_getElem (by omega)] at g2
  replace g2 : DataW.trod enc Try.prog w 0 (fun _ => true) true m 3 [v2] = some (xs[2]'(by omega)) := by simpa [co_int] using g2
  obtain ⟨X2, h2, f2⟩ := read_int g2
  exact ⟨(X0, X1, X2, ()), ⟨[v0], _, rfl, h0, ⟨[v1], _, rfl, h1, ⟨[v2], _, rfl, h2, rfl⟩⟩⟩, f0, f1, f2, trivial⟩
set_option maxRecDepth 100000 in
theorem open_LeaseStep_n {H : Type} {enc : TypeId × Value → H} {w : World} {r : Reach} {b0 : Nat} {v : Value} {d : DataW H} {p : List MemPlace} (hv : Value.okWide Try.prog w r b0 53 v)
    (h : DataW.Trod enc Try.prog w 0 (fun _ => true) true 53 v d p) : ∃ (cs : List Value) (x : Sh.T shLeaseStep), v = .agg cs.toArray ∧ Lies w shLeaseStep cs x ∧ Fits shLeaseStep x := by
  obtain ⟨cs, rfl, hsz⟩ := okWide_struct Try.underlying53 hv
  obtain ⟨fuel, hf⟩ := h
  obtain ⟨x, h1, h2⟩ := read_LeaseStep hf
  exact ⟨cs.toList, x, by simp, by simpa [Value.cells] using h1, h2⟩
theorem open_LeaseStepS_n {H : Type} {enc : TypeId × Value → H} {w : World} {a : Option Addr} {len cap : Nat} {d : DataW H} {p : List MemPlace}
    (h : DataW.Trod enc Try.prog w 0 (fun _ => true) true 56 (.slice a len cap) d p) : ∃ x : List (Sh.T shLeaseStep), x.length = len ∧ Lies w (.list shLeaseStep) [.slice a x.length cap] x ∧ Fits (.list shLeaseStep) x := by
  obtain ⟨fuel, hf⟩ := h
  obtain ⟨x, h1, h2⟩ := read_list shLeaseStep Try.underlying56 (by rw [co_LeaseStep]; rfl) (by decide) (fun _ _ _ h => read_LeaseStep h) (by simpa [Value.cells] using hf)
  have e := h1.count
  subst e
  exact ⟨x, rfl, h1, h2⟩
end Go.Proofs.Ytidalpgkljafdaa
