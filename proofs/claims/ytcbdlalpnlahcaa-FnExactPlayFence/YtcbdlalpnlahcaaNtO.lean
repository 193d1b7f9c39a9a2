/- How this chapter's data that came in are read. Written by tools/nest.py. -/
import Derived.Test.YtcbdlalpnlahcaaNtS
import Derived.Test.YtcbdlalpnlahcaaShO
import Derived.ProofKit
import Derived.OpenShut
import Derived.ChangeOld
namespace Go.Proofs.Ytcbdlalpnlahcaa
open Go.RowKit
set_option linter.unusedVariables false
set_option linter.unusedSimpArgs false

open Go.Deep Go.ChangeShapes Go.WideShapes Go.ChangeAt
theorem co_int : Try.prog.cellsOf 3 = 1 := by kernel_rfl
theorem co_Lint : Try.prog.cellsOf 27 = 1 := by kernel_rfl
theorem co_Member : Try.prog.cellsOf 100 = 4 := by kernel_rfl
theorem co_LMember : Try.prog.cellsOf 49 = 1 := by kernel_rfl
theorem co_Fence : Try.prog.cellsOf 51 = 4 := by kernel_rfl
theorem co_FenceStep : Try.prog.cellsOf 55 = 3 := by kernel_rfl
theorem co_LFenceStep : Try.prog.cellsOf 58 = 1 := by kernel_rfl
theorem read_Member {H : Type} {enc : TypeId × Value → H} {w : World} {n : Nat} {cs : List Value} {y : DataW H × List MemPlace} (h : DataW.trod enc Try.prog w 0 (fun _ => true) true n 100 cs = some y) : ∃ x : Sh.T shMember, Lies w shMember cs x ∧ Fits shMember x := by
  obtain ⟨xs, m, _, _, hl, hlen, hf⟩ := DataW.trod_struct Try.underlying100 h
  rw [co_Member] at hl
  have hx : xs.length = 4 := hlen
  obtain ⟨v0, v1, v2, v3, rfl⟩ := list_of4 hl
  have g0 := hf 0 _ rfl
  rw [List.getElem?_eq_getElem (by omega)] at g0
  replace g0 : DataW.trod enc Try.prog w 0 (fun _ => true) true m 3 [v0] = some (xs[0]'(by omega)) := by simpa [co_int, co_Lint] using g0
  obtain ⟨X0, h0, f0⟩ := read_int g0
  have g1 := hf 1 _ rfl
  rw [List.getElem?_eq_getElem (by omega)] at g1
  replace g1 : DataW.trod enc Try.prog w 0 (fun _ => true) true m 3 [v1] = some (xs[1]'(by omega)) := by simpa [co_int, co_Lint] using g1
  obtain ⟨X1, h1, f1⟩ := read_int g1
  have g2 := hf 2 _ rfl
  rw [List.getElem?_eq_getElem (by omega)] at g2
  replace g2 : DataW.trod enc Try.prog w 0 (fun _ => true) true m 27 [v2] = some (xs[2]'(by omega)) := by simpa [co_int, co_Lint] using g2
  obtain ⟨X2, h2, f2⟩ := read_list .int Try.underlying27 (by rw [co_int]; rfl) (by decide) (fun _ _ _ h => read_int h) g2
  have g3 := hf 3 _ rfl
  rw [List.getElem?_eq_getElem (by omega)] at g3
  replace g3 : DataW.trod enc Try.prog w 0 (fun _ => true) true m 3 [v3] = some (xs[3]'(by omega)) := by simpa [co_int, co_Lint] using g3
  obtain ⟨X3, h3, f3⟩ := read_int g3
  exact ⟨(X0, X1, X2, X3, ()), ⟨[v0], _, rfl, h0, ⟨[v1], _, rfl, h1, ⟨[v2], _, rfl, h2, ⟨[v3], _, rfl, h3, rfl⟩⟩⟩⟩, f0, f1, f2, f3, trivial⟩
set_option maxRecDepth 100000 in
theorem open_Member_n {H : Type} {enc : TypeId × Value → H} {w : World} {r : Reach} {b0 : Nat} {v : Value} {d : DataW H} {p : List MemPlace} (hv : Value.okWide Try.prog w r b0 100 v)
    (h : DataW.Trod enc Try.prog w 0 (fun _ => true) true 100 v d p) : ∃ (cs : List Value) (x : Sh.T shMember), v = .agg cs.toArray ∧ Lies w shMember cs x ∧ Fits shMember x := by
  obtain ⟨cs, rfl, hsz⟩ := okWide_struct Try.underlying100 hv
  obtain ⟨fuel, hf⟩ := h
  obtain ⟨x, h1, h2⟩ := read_Member hf
  exact ⟨cs.toList, x, by simp, by simpa [Value.cells] using h1, h2⟩
theorem read_Fence {H : Type} {enc : TypeId × Value → H} {w : World} {n : Nat} {cs : List Value} {y : DataW H × List MemPlace} (h : DataW.trod enc Try.prog w 0 (fun _ => true) true n 51 cs = some y) : ∃ x : Sh.T shFence, Lies w shFence cs x ∧ Fits shFence x := by
  obtain ⟨xs, m, _, _, hl, hlen, hf⟩ := DataW.trod_struct Try.underlying51 h
  rw [co_Fence] at hl
  have hx : xs.length = 4 := hlen
  obtain ⟨v0, v1, v2, v3, rfl⟩ := list_of4 hl
  have g0 := hf 0 _ rfl
  rw [List.getElem?_eq_getElem (by omega)] at g0
  replace g0 : DataW.trod enc Try.prog w 0 (fun _ => true) true m 3 [v0] = some (xs[0]'(by omega)) := by simpa [co_int, co_LMember, co_Lint] using g0
  obtain ⟨X0, h0, f0⟩ := read_int g0
  have g1 := hf 1 _ rfl
  rw [List.getElem?_eq_getElem (by omega)] at g1
  replace g1 : DataW.trod enc Try.prog w 0 (fun _ => true) true m 3 [v1] = some (xs[1]'(by omega)) := by simpa [co_int, co_LMember, co_Lint] using g1
  obtain ⟨X1, h1, f1⟩ := read_int g1
  have g2 := hf 2 _ rfl
  rw [List.getElem?_eq_getElem (by omega)] at g2
  replace g2 : DataW.trod enc Try.prog w 0 (fun _ => true) true m 49 [v2] = some (xs[2]'(by omega)) := by simpa [co_int, co_LMember, co_Lint] using g2
  obtain ⟨X2, h2, f2⟩ := read_list shMember Try.underlying49 (by rw [co_Member]; rfl) (by decide) (fun _ _ _ h => read_Member h) g2
  have g3 := hf 3 _ rfl
  rw [List.getElem?_eq_getElem (by omega)] at g3
  replace g3 : DataW.trod enc Try.prog w 0 (fun _ => true) true m 27 [v3] = some (xs[3]'(by omega)) := by simpa [co_int, co_LMember, co_Lint] using g3
  obtain ⟨X3, h3, f3⟩ := read_list .int Try.underlying27 (by rw [co_int]; rfl) (by decide) (fun _ _ _ h => read_int h) g3
  exact ⟨(X0, X1, X2, X3, ()), ⟨[v0], _, rfl, h0, ⟨[v1], _, rfl, h1, ⟨[v2], _, rfl, h2, ⟨[v3], _, rfl, h3, rfl⟩⟩⟩⟩, f0, f1, f2, f3, trivial⟩
set_option maxRecDepth 100000 in
theorem open_Fence_n {H : Type} {enc : TypeId × Value → H} {w : World} {r : Reach} {b0 : Nat} {v : Value} {d : DataW H} {p : List MemPlace} (hv : Value.okWide Try.prog w r b0 51 v)
    (h : DataW.Trod enc Try.prog w 0 (fun _ => true) true 51 v d p) : ∃ (cs : List Value) (x : Sh.T shFence), v = .agg cs.toArray ∧ Lies w shFence cs x ∧ Fits shFence x := by
  obtain ⟨cs, rfl, hsz⟩ := okWide_struct Try.underlying51 hv
  obtain ⟨fuel, hf⟩ := h
  obtain ⟨x, h1, h2⟩ := read_Fence hf
  exact ⟨cs.toList, x, by simp, by simpa [Value.cells] using h1, h2⟩
theorem read_FenceStep {H : Type} {enc : TypeId × Value → H} {w : World} {n : Nat} {cs : List Value} {y : DataW H × List MemPlace} (h : DataW.trod enc Try.prog w 0 (fun _ => true) true n 55 cs = some y) : ∃ x : Sh.T shFenceStep, Lies w shFenceStep cs x ∧ Fits shFenceStep x := by
  obtain ⟨xs, m, _, _, hl, hlen, hf⟩ := DataW.trod_struct Try.underlying55 h
  rw [co_FenceStep] at hl
  have hx : xs.length = 3 := hlen
  obtain ⟨v0, v1, v2, rfl⟩ := list_of3 hl
  have g0 := hf 0 _ rfl
  rw [List.getElem?_eq_getElem (by omega)] at g0
  replace g0 : DataW.trod enc Try.prog w 0 (fun _ => true) true m 3 [v0] = some (xs[0]'(by omega)) := by simpa [co_int] using g0
  obtain ⟨X0, h0, f0⟩ := read_int g0
  have g1 := hf 1 _ rfl
  rw [List.getElem?_eq_getElem (by omega)] at g1
  replace g1 : DataW.trod enc Try.prog w 0 (fun _ => true) true m 3 [v1] = some (xs[1]'(by omega)) := by simpa [co_int] using g1
  obtain ⟨X1, h1, f1⟩ := read_int g1
  have g2 := hf 2 _ rfl
  rw [List.getElem?_eq_getElem (by omega)] at g2
  replace g2 : DataW.trod enc Try.prog w 0 (fun _ => true) true m 3 [v2] = some (xs[2]'(by omega)) := by simpa [co_int] using g2
  obtain ⟨X2, h2, f2⟩ := read_int g2
  exact ⟨(X0, X1, X2, ()), ⟨[v0], _, rfl, h0, ⟨[v1], _, rfl, h1, ⟨[v2], _, rfl, h2, rfl⟩⟩⟩, f0, f1, f2, trivial⟩
set_option maxRecDepth 100000 in
theorem open_FenceStep_n {H : Type} {enc : TypeId × Value → H} {w : World} {r : Reach} {b0 : Nat} {v : Value} {d : DataW H} {p : List MemPlace} (hv : Value.okWide Try.prog w r b0 55 v)
    (h : DataW.Trod enc Try.prog w 0 (fun _ => true) true 55 v d p) : ∃ (cs : List Value) (x : Sh.T shFenceStep), v = .agg cs.toArray ∧ Lies w shFenceStep cs x ∧ Fits shFenceStep x := by
  obtain ⟨cs, rfl, hsz⟩ := okWide_struct Try.underlying55 hv
  obtain ⟨fuel, hf⟩ := h
  obtain ⟨x, h1, h2⟩ := read_FenceStep hf
  exact ⟨cs.toList, x, by simp, by simpa [Value.cells] using h1, h2⟩
theorem open_FenceStepS_n {H : Type} {enc : TypeId × Value → H} {w : World} {a : Option Addr} {len cap : Nat} {d : DataW H} {p : List MemPlace}
    (h : DataW.Trod enc Try.prog w 0 (fun _ => true) true 58 (.slice a len cap) d p) : ∃ x : List (Sh.T shFenceStep), x.length = len ∧ Lies w (.list shFenceStep) [.slice a x.length cap] x ∧ Fits (.list shFenceStep) x := by
  obtain ⟨fuel, hf⟩ := h
  obtain ⟨x, h1, h2⟩ := read_list shFenceStep Try.underlying58 (by rw [co_FenceStep]; rfl) (by decide) (fun _ _ _ h => read_FenceStep h) (by simpa [Value.cells] using hf)
  have e := h1.count
  subst e
  exact ⟨x, rfl, h1, h2⟩
end Go.Proofs.Ytcbdlalpnlahcaa
