/- How this chapter's data that came in are read. Written by tools/nest.py. -/
import Derived.Test.YtaofolbnommpgaaMgA
import Derived.Test.YtaofolbnommpgaaShO
import Derived.ProofKit
import Derived.OpenShut
import Derived.ChangeOld
namespace Go.Proofs.Ytaofolbnommpgaa
open Go.RowKit
set_option linter.unusedVariables false
set_option linter.unusedSimpArgs false

open Go.Deep Go.ChangeShapes Go.WideShapes Go.ChangeAt
theorem co_int : Try.prog.cellsOf 3 = 1 := by kernel_rfl
theorem co_string : Try.prog.cellsOf 9 = 1 := by kernel_rfl
theorem co_Copy : Try.prog.cellsOf 137 = 3 := by kernel_rfl
theorem co_bool : Try.prog.cellsOf 4 = 1 := by kernel_rfl
theorem co_Lint : Try.prog.cellsOf 51 = 1 := by kernel_rfl
theorem co_RegOp : Try.prog.cellsOf 140 = 10 := by kernel_rfl
theorem co_LCopy : Try.prog.cellsOf 59 = 1 := by kernel_rfl
theorem co_LRegOp : Try.prog.cellsOf 60 = 1 := by kernel_rfl
theorem co_Register : Try.prog.cellsOf 62 = 3 := by kernel_rfl
theorem co_RegStep : Try.prog.cellsOf 66 = 6 := by kernel_rfl
theorem read_Copy {H : Type} {enc : TypeId × Value → H} {w : World} {n : Nat} {cs : List Value} {y : DataW H × List MemPlace} (h : DataW.trod enc Try.prog w 0 (fun _ => true) true n 137 cs = some y) : ∃ x : Sh.T shCopy, Lies w shCopy cs x ∧ Fits shCopy x := by
  obtain ⟨xs, m, _, _, hl, hlen, hf⟩ := DataW.trod_struct Try.underlying137 h
  rw [co_Copy] at hl
  have hx : xs.length = 3 := hlen
  obtain ⟨v0, v1, v2, rfl⟩ := list_of3 hl
  have g0 := hf 0 _ rfl
  rw [List.getElem?_eq_getElem (by omega)] at g0
  replace g0 : DataW.trod enc Try.prog w 0 (fun _ => true) true m 3 [v0] = some (xs[0]'(by omega)) := by simpa [co_int, co_string] using g0
  obtain ⟨X0, h0, f0⟩ := read_int g0
  have g1 := hf 1 _ rfl
  rw [List.getElem?_eq_getElem (by omega)] at g1
  replace g1 : DataW.trod enc Try.prog w 0 (fun _ => true) true m 3 [v1] = some (xs[1]'(by omega)) := by simpa [co_int, co_string] using g1
  obtain ⟨X1, h1, f1⟩ := read_int g1
  have g2 := hf 2 _ rfl
  rw [List.getElem?_eq_getElem (by omega)] at g2
  replace g2 : DataW.trod enc Try.prog w 0 (fun _ => true) true m 9 [v2] = some (xs[2]'(by omega)) := by simpa [co_int, co_string] using g2
  obtain ⟨X2, h2, f2⟩ := read_string g2
  exact ⟨(X0, X1, X2, ()), ⟨[v0], _, rfl, h0, ⟨[v1], _, rfl, h1, ⟨[v2], _, rfl, h2, rfl⟩⟩⟩, f0, f1, f2, trivial⟩
set_option maxRecDepth 100000 in
theorem open_Copy_n {H : Type} {enc : TypeId × Value → H} {w : World} {r : Reach} {b0 : Nat} {v : Value} {d : DataW H} {p : List MemPlace} (hv : Value.okWide Try.prog w r b0 137 v)
    (h : DataW.Trod enc Try.prog w 0 (fun _ => true) true 137 v d p) : ∃ (cs : List Value) (x : Sh.T shCopy), v = .agg cs.toArray ∧ Lies w shCopy cs x ∧ Fits shCopy x := by
  obtain ⟨cs, rfl, hsz⟩ := okWide_struct Try.underlying137 hv
  obtain ⟨fuel, hf⟩ := h
  obtain ⟨x, h1, h2⟩ := read_Copy hf
  exact ⟨cs.toList, x, by simp, by simpa [Value.cells] using h1, h2⟩
theorem read_RegOp {H : Type} {enc : TypeId × Value → H} {w : World} {n : Nat} {cs : List Value} {y : DataW H × List MemPlace} (h : DataW.trod enc Try.prog w 0 (fun _ => true) true n 140 cs = some y) : ∃ x : Sh.T shRegOp, Lies w shRegOp cs x ∧ Fits shRegOp x := by
  obtain ⟨xs, m, _, _, hl, hlen, hf⟩ := DataW.trod_struct Try.underlying140 h
  rw [co_RegOp] at hl
  have hx : xs.length = 8 := hlen
  obtain ⟨v0, v1, v2, v3, v4, v5, v6, v7, v8, v9, rfl⟩ := list_of10 hl
  have g0 := hf 0 _ rfl
  rw [List.getElem?_eq_getElem (by omega)] at g0
  replace g0 : DataW.trod enc Try.prog w 0 (fun _ => true) true m 3 [v0] = some (xs[0]'(by omega)) := by simpa [co_int, co_bool, co_string, co_Lint, co_Copy] using g0
  obtain ⟨X0, h0, f0⟩ := read_int g0
  have g1 := hf 1 _ rfl
  rw [List.getElem?_eq_getElem (by omega)] at g1
  replace g1 : DataW.trod enc Try.prog w 0 (fun _ => true) true m 4 [v1] = some (xs[1]'(by omega)) := by simpa [co_int, co_bool, co_string, co_Lint, co_Copy] using g1
  obtain ⟨X1, h1, f1⟩ := read_bool g1
  have g2 := hf 2 _ rfl
  rw [List.getElem?_eq_getElem (by omega)] at g2
  replace g2 : DataW.trod enc Try.prog w 0 (fun _ => true) true m 9 [v2] = some (xs[2]'(by omega)) := by simpa [co_int, co_bool, co_string, co_Lint, co_Copy] using g2
  obtain ⟨X2, h2, f2⟩ := read_string g2
  have g3 := hf 3 _ rfl
  rw [List.getElem?_eq_getElem (by omega)] at g3
  replace g3 : DataW.trod enc Try.prog w 0 (fun _ => true) true m 3 [v3] = some (xs[3]'(by omega)) := by simpa [co_int, co_bool, co_string, co_Lint, co_Copy] using g3
  obtain ⟨X3, h3, f3⟩ := read_int g3
  have g4 := hf 4 _ rfl
  rw [List.getElem?_eq_getElem (by omega)] at g4
  replace g4 : DataW.trod enc Try.prog w 0 (fun _ => true) true m 51 [v4] = some (xs[4]'(by omega)) := by simpa [co_int, co_bool, co_string, co_Lint, co_Copy] using g4
  obtain ⟨X4, h4, f4⟩ := read_list .int Try.underlying51 (by rw [co_int]; rfl) (by decide) (fun _ _ _ h => read_int h) g4
  have g5 := hf 5 _ rfl
  rw [List.getElem?_eq_getElem (by omega)] at g5
  replace g5 : DataW.trod enc Try.prog w 0 (fun _ => true) true m 137 [v5, v6, v7] = some (xs[5]'(by omega)) := by simpa [co_int, co_bool, co_string, co_Lint, co_Copy] using g5
  obtain ⟨X5, h5, f5⟩ := read_Copy g5
  have g6 := hf 6 _ rfl
  rw [List.getElem?_eq_getElem (by omega)] at g6
  replace g6 : DataW.trod enc Try.prog w 0 (fun _ => true) true m 3 [v8] = some (xs[6]'(by omega)) := by simpa [co_int, co_bool, co_string, co_Lint, co_Copy] using g6
  obtain ⟨X6, h6, f6⟩ := read_int g6
  have g7 := hf 7 _ rfl
  rw [List.getElem?_eq_getElem (by omega)] at g7
  replace g7 : DataW.trod enc Try.prog w 0 (fun _ => true) true m 3 [v9] = some (xs[7]'(by omega)) := by simpa [co_int, co_bool, co_string, co_Lint, co_Copy] using g7
  obtain ⟨X7, h7, f7⟩ := read_int g7
  exact ⟨(X0, X1, X2, X3, X4, X5, X6, X7, ()), ⟨[v0], _, rfl, h0, ⟨[v1], _, rfl, h1, ⟨[v2], _, rfl, h2, ⟨[v3], _, rfl, h3, ⟨[v4], _, rfl, h4, ⟨[v5, v6, v7], _, rfl, h5, ⟨[v8], _, rfl, h6, ⟨[v9], _, rfl, h7, rfl⟩⟩⟩⟩⟩⟩⟩⟩, f0, f1, f2, f3, f4, f5, f6, f7, trivial⟩
set_option maxRecDepth 100000 in
theorem open_RegOp_n {H : Type} {enc : TypeId × Value → H} {w : World} {r : Reach} {b0 : Nat} {v : Value} {d : DataW H} {p : List MemPlace} (hv : Value.okWide Try.prog w r b0 140 v)
    (h : DataW.Trod enc Try.prog w 0 (fun _ => true) true 140 v d p) : ∃ (cs : List Value) (x : Sh.T shRegOp), v = .agg cs.toArray ∧ Lies w shRegOp cs x ∧ Fits shRegOp x := by
  obtain ⟨cs, rfl, hsz⟩ := okWide_struct Try.underlying140 hv
  obtain ⟨fuel, hf⟩ := h
  obtain ⟨x, h1, h2⟩ := read_RegOp hf
  exact ⟨cs.toList, x, by simp, by simpa [Value.cells] using h1, h2⟩
theorem read_Register {H : Type} {enc : TypeId × Value → H} {w : World} {n : Nat} {cs : List Value} {y : DataW H × List MemPlace} (h : DataW.trod enc Try.prog w 0 (fun _ => true) true n 62 cs = some y) : ∃ x : Sh.T shRegister, Lies w shRegister cs x ∧ Fits shRegister x := by
  obtain ⟨xs, m, _, _, hl, hlen, hf⟩ := DataW.trod_struct Try.underlying62 h
  rw [co_Register] at hl
  have hx : xs.length = 3 := hlen
  obtain ⟨v0, v1, v2, rfl⟩ := list_of3 hl
  have g0 := hf 0 _ rfl
  rw [List.getElem?_eq_getElem (by omega)] at g0
  replace g0 : DataW.trod enc Try.prog w 0 (fun _ => true) true m 3 [v0] = some (xs[0]'(by omega)) := by simpa [co_int, co_LCopy, co_LRegOp] using g0
  obtain ⟨X0, h0, f0⟩ := read_int g0
  have g1 := hf 1 _ rfl
  rw [List.getElem?_eq_getElem (by omega)] at g1
  replace g1 : DataW.trod enc Try.prog w 0 (fun _ => true) true m 59 [v1] = some (xs[1]'(by omega)) := by simpa [co_int, co_LCopy, co_LRegOp] using g1
  obtain ⟨X1, h1, f1⟩ := read_list shCopy Try.underlying59 (by rw [co_Copy]; rfl) (by decide) (fun _ _ _ h => read_Copy h) g1
  have g2 := hf 2 _ rfl
  rw [List.getElem?_eq_getElem (by omega)] at g2
  replace g2 : DataW.trod enc Try.prog w 0 (fun _ => true) true m 60 [v2] = some (xs[2]'(by omega)) := by simpa [co_int, co_LCopy, co_LRegOp] using g2
  obtain ⟨X2, h2, f2⟩ := read_list shRegOp Try.underlying60 (by rw [co_RegOp]; rfl) (by decide) (fun _ _ _ h => read_RegOp h) g2
  exact ⟨(X0, X1, X2, ()), ⟨[v0], _, rfl, h0, ⟨[v1], _, rfl, h1, ⟨[v2], _, rfl, h2, rfl⟩⟩⟩, f0, f1, f2, trivial⟩
set_option maxRecDepth 100000 in
theorem open_Register_n {H : Type} {enc : TypeId × Value → H} {w : World} {r : Reach} {b0 : Nat} {v : Value} {d : DataW H} {p : List MemPlace} (hv : Value.okWide Try.prog w r b0 62 v)
    (h : DataW.Trod enc Try.prog w 0 (fun _ => true) true 62 v d p) : ∃ (cs : List Value) (x : Sh.T shRegister), v = .agg cs.toArray ∧ Lies w shRegister cs x ∧ Fits shRegister x := by
  obtain ⟨cs, rfl, hsz⟩ := okWide_struct Try.underlying62 hv
  obtain ⟨fuel, hf⟩ := h
  obtain ⟨x, h1, h2⟩ := read_Register hf
  exact ⟨cs.toList, x, by simp, by simpa [Value.cells] using h1, h2⟩
theorem read_RegStep {H : Type} {enc : TypeId × Value → H} {w : World} {n : Nat} {cs : List Value} {y : DataW H × List MemPlace} (h : DataW.trod enc Try.prog w 0 (fun _ => true) true n 66 cs = some y) : ∃ x : Sh.T shRegStep, Lies w shRegStep cs x ∧ Fits shRegStep x := by
  obtain ⟨xs, m, _, _, hl, hlen, hf⟩ := DataW.trod_struct Try.underlying66 h
  rw [co_RegStep] at hl
  have hx : xs.length = 6 := hlen
  obtain ⟨v0, v1, v2, v3, v4, v5, rfl⟩ := list_of6 hl
  have g0 := hf 0 _ rfl
  rw [List.getElem?_eq_getElem (by omega)] at g0
  replace g0 : DataW.trod enc Try.prog w 0 (fun _ => true) true m 4 [v0] = some (xs[0]'(by omega)) := by simpa [co_bool, co_int, co_string] using g0
  obtain ⟨X0, h0, f0⟩ := read_bool g0
  have g1 := hf 1 _ rfl
  rw [List.getElem?_eq_getElem (by omega)] at g1
  replace g1 : DataW.trod enc Try.prog w 0 (fun _ => true) true m 3 [v1] = some (xs[1]'(by omega)) := by simpa [co_bool, co_int, co_string] using g1
  obtain ⟨X1, h1, f1⟩ := read_int g1
  have g2 := hf 2 _ rfl
  rw [List.getElem?_eq_getElem (by omega)] at g2
  replace g2 : DataW.trod enc Try.prog w 0 (fun _ => true) true m 4 [v2] = some (xs[2]'(by omega)) := by simpa [co_bool, co_int, co_string] using g2
  obtain ⟨X2, h2, f2⟩ := read_bool g2
  have g3 := hf 3 _ rfl
  rw [List.getElem?_eq_getElem (by omega)] at g3
  replace g3 : DataW.trod enc Try.prog w 0 (fun _ => true) true m 9 [v3] = some (xs[3]'(by omega)) := by simpa [co_bool, co_int, co_string] using g3
  obtain ⟨X3, h3, f3⟩ := read_string g3
  have g4 := hf 4 _ rfl
  rw [List.getElem?_eq_getElem (by omega)] at g4
  replace g4 : DataW.trod enc Try.prog w 0 (fun _ => true) true m 3 [v4] = some (xs[4]'(by omega)) := by simpa [co_bool, co_int, co_string] using g4
  obtain ⟨X4, h4, f4⟩ := read_int g4
  have g5 := hf 5 _ rfl
  rw [List.getElem?_eq_getElem (by omega)] at g5
  replace g5 : DataW.trod enc Try.prog w 0 (fun _ => true) true m 3 [v5] = some (xs[5]'(by omega)) := by simpa [co_bool, co_int, co_string] using g5
  obtain ⟨X5, h5, f5⟩ := read_int g5
  exact ⟨(X0, X1, X2, X3, X4, X5, ()), ⟨[v0], _, rfl, h0, ⟨[v1], _, rfl, h1, ⟨[v2], _, rfl, h2, ⟨[v3], _, rfl, h3, ⟨[v4], _, rfl, h4, ⟨[v5], _, rfl, h5, rfl⟩⟩⟩⟩⟩⟩, f0, f1, f2, f3, f4, f5, trivial⟩
set_option maxRecDepth 100000 in
theorem open_RegStep_n {H : Type} {enc : TypeId × Value → H} {w : World} {r : Reach} {b0 : Nat} {v : Value} {d : DataW H} {p : List MemPlace} (hv : Value.okWide Try.prog w r b0 66 v)
    (h : DataW.Trod enc Try.prog w 0 (fun _ => true) true 66 v d p) : ∃ (cs : List Value) (x : Sh.T shRegStep), v = .agg cs.toArray ∧ Lies w shRegStep cs x ∧ Fits shRegStep x := by
  obtain ⟨cs, rfl, hsz⟩ := okWide_struct Try.underlying66 hv
  obtain ⟨fuel, hf⟩ := h
  obtain ⟨x, h1, h2⟩ := read_RegStep hf
  exact ⟨cs.toList, x, by simp, by simpa [Value.cells] using h1, h2⟩
end Go.Proofs.Ytaofolbnommpgaa
