/- How this chapter's data that came in are read. Written by tools/nest.py. -/
import Derived.Test.YtnglgndocmkbfaaNtS
import Derived.Test.YtnglgndocmkbfaaShO
import Derived.ProofKit
import Derived.OpenShut
import Derived.ChangeOld
namespace Go.Proofs.Ytnglgndocmkbfaa
open Go.RowKit
set_option linter.unusedVariables false
set_option linter.unusedSimpArgs false

open Go.Deep Go.ChangeShapes Go.WideShapes Go.ChangeAt
theorem co_Lint : Try.prog.cellsOf 23 = 1 := by kernel_rfl
theorem co_Counter : Try.prog.cellsOf 63 = 2 := by kernel_rfl
theorem co_string : Try.prog.cellsOf 9 = 1 := by kernel_rfl
theorem co_int : Try.prog.cellsOf 3 = 1 := by kernel_rfl
theorem co_Latest : Try.prog.cellsOf 70 = 3 := by kernel_rfl
theorem co_Add : Try.prog.cellsOf 158 = 3 := by kernel_rfl
theorem co_LAdd : Try.prog.cellsOf 75 = 1 := by kernel_rfl
theorem co_Bag : Try.prog.cellsOf 77 = 2 := by kernel_rfl
theorem read_Counter {H : Type} {enc : TypeId × Value → H} {w : World} {n : Nat} {cs : List Value} {y : DataW H × List MemPlace} (h : DataW.trod enc Try.prog w 0 (fun _ => true) true n 63 cs = some y) : ∃ x : Sh.T shCounter, Lies w shCounter cs x ∧ Fits shCounter x := by
  obtain ⟨xs, m, _, _, hl, hlen, hf⟩ := DataW.trod_struct Try.underlying63 h
  rw [co_Counter] at hl
  have hx : xs.length = 2 := hlen
  obtain ⟨v0, v1, rfl⟩ := list_of2 hl
  have g0 := hf 0 _ rfl
  rw [List.getElem?_eq_getElem (by omega)] at g0
  replace g0 : DataW.trod enc Try.prog w 0 (fun _ => true) true m 23 [v0] = some (xs[0]'(by omega)) := by simpa [co_Lint] using g0
  obtain ⟨X0, h0, f0⟩ := read_list .int Try.underlying23 (by rw [co_int]; rfl) (by decide) (fun _ _ _ h => read_int h) g0
  have g1 := hf 1 _ rfl
  rw [List.getElem?_eq_getElem (by omega)] at g1
  replace g1 : DataW.trod enc Try.prog w 0 (fun _ => true) true m 23 [v1] = some (xs[1]'(by omega)) := by simpa [co_Lint] using g1
  obtain ⟨X1, h1, f1⟩ := read_list .int Try.underlying23 (by rw [co_int]; rfl) (by decide) (fun _ _ _ h => read_int h) g1
  exact ⟨(X0, X1, ()), ⟨[v0], _, rfl, h0, ⟨[v1], _, rfl, h1, rfl⟩⟩, f0, f1, trivial⟩
set_option maxRecDepth 100000 in
theorem open_Counter_n {H : Type} {enc : TypeId × Value → H} {w : World} {r : Reach} {b0 : Nat} {v : Value} {d : DataW H} {p : List MemPlace} (hv : Value.okWide Try.prog w r b0 63 v)
    (h : DataW.Trod enc Try.prog w 0 (fun _ => true) true 63 v d p) : ∃ (cs : List Value) (x : Sh.T shCounter), v = .agg cs.toArray ∧ Lies w shCounter cs x ∧ Fits shCounter x := by
  obtain ⟨cs, rfl, hsz⟩ := okWide_struct Try.underlying63 hv
  obtain ⟨fuel, hf⟩ := h
  obtain ⟨x, h1, h2⟩ := read_Counter hf
  exact ⟨cs.toList, x, by simp, by simpa [Value.cells] using h1, h2⟩
theorem read_Latest {H : Type} {enc : TypeId × Value → H} {w : World} {n : Nat} {cs : List Value} {y : DataW H × List MemPlace} (h : DataW.trod enc Try.prog w 0 (fun _ => true) true n 70 cs = some y) : ∃ x : Sh.T shLatest, Lies w shLatest cs x ∧ Fits shLatest x := by
  obtain ⟨xs, m, _, _, hl, hlen, hf⟩ := DataW.trod_struct Try.underlying70 h
  rw [co_Latest] at hl
  have hx : xs.length = 3 := hlen
  obtain ⟨v0, v1, v2, rfl⟩ := list_of3 hl
  have g0 := hf 0 _ rfl
  rw [List.getElem?_eq_getElem (by omega)] at g0
  replace g0 : DataW.trod enc Try.prog w 0 (fun _ => true) true m 9 [v0] = some (xs[0]'(by omega)) := by simpa [co_string, co_int] using g0
  obtain ⟨X0, h0, f0⟩ := read_string g0
  have g1 := hf 1 _ rfl
  rw [List.getElem?_eq_getElem (by omega)] at g1
  replace g1 : DataW.trod enc Try.prog w 0 (fun _ => true) true m 3 [v1] = some (xs[1]'(by omega)) := by simpa [co_string, co_int] using g1
  obtain ⟨X1, h1, f1⟩ := read_int g1
  have g2 := hf 2 _ rfl
  rw [List.getElem?_eq_getElem (by omega)] at g2
  replace g2 : DataW.trod enc Try.prog w 0 (fun _ => true) true m 3 [v2] = some (xs[2]'(by omega)) := by simpa [co_string, co_int] using g2
  obtain ⟨X2, h2, f2⟩ := read_int g2
  exact ⟨(X0, X1, X2, ()), ⟨[v0], _, rfl, h0, ⟨[v1], _, rfl, h1, ⟨[v2], _, rfl, h2, rfl⟩⟩⟩, f0, f1, f2, trivial⟩
set_option maxRecDepth 100000 in
theorem open_Latest_n {H : Type} {enc : TypeId × Value → H} {w : World} {r : Reach} {b0 : Nat} {v : Value} {d : DataW H} {p : List MemPlace} (hv : Value.okWide Try.prog w r b0 70 v)
    (h : DataW.Trod enc Try.prog w 0 (fun _ => true) true 70 v d p) : ∃ (cs : List Value) (x : Sh.T shLatest), v = .agg cs.toArray ∧ Lies w shLatest cs x ∧ Fits shLatest x := by
  obtain ⟨cs, rfl, hsz⟩ := okWide_struct Try.underlying70 hv
  obtain ⟨fuel, hf⟩ := h
  obtain ⟨x, h1, h2⟩ := read_Latest hf
  exact ⟨cs.toList, x, by simp, by simpa [Value.cells] using h1, h2⟩
theorem read_Add {H : Type} {enc : TypeId × Value → H} {w : World} {n : Nat} {cs : List Value} {y : DataW H × List MemPlace} (h : DataW.trod enc Try.prog w 0 (fun _ => true) true n 158 cs = some y) : ∃ x : Sh.T shAdd, Lies w shAdd cs x ∧ Fits shAdd x := by
  obtain ⟨xs, m, _, _, hl, hlen, hf⟩ := DataW.trod_struct Try.underlying158 h
  rw [co_Add] at hl
  have hx : xs.length = 3 := hlen
  obtain ⟨v0, v1, v2, rfl⟩ := list_of3 hl
  have g0 := hf 0 _ rfl
  rw [List.getElem?_eq_getElem (by omega)] at g0
  replace g0 : DataW.trod enc Try.prog w 0 (fun _ => true) true m 9 [v0] = some (xs[0]'(by omega)) := by simpa [co_string, co_int] using g0
  obtain ⟨X0, h0, f0⟩ := read_string g0
  have g1 := hf 1 _ rfl
  rw [List.getElem?_eq_getElem (by omega)] at g1
  replace g1 : DataW.trod enc Try.prog w 0 (fun _ => true) true m 3 [v1] = some (xs[1]'(by omega)) := by simpa [co_string, co_int] using g1
  obtain ⟨X1, h1, f1⟩ := read_int g1
  have g2 := hf 2 _ rfl
  rw [List.getElem?_eq_getElem (by omega)] at g2
  replace g2 : DataW.trod enc Try.prog w 0 (fun _ => true) true m 3 [v2] = some (xs[2]'(by omega)) := by simpa [co_string, co_int] using g2
  obtain ⟨X2, h2, f2⟩ := read_int g2
  exact ⟨(X0, X1, X2, ()), ⟨[v0], _, rfl, h0, ⟨[v1], _, rfl, h1, ⟨[v2], _, rfl, h2, rfl⟩⟩⟩, f0, f1, f2, trivial⟩
set_option maxRecDepth 100000 in
theorem open_Add_n {H : Type} {enc : TypeId × Value → H} {w : World} {r : Reach} {b0 : Nat} {v : Value} {d : DataW H} {p : List MemPlace} (hv : Value.okWide Try.prog w r b0 158 v)
    (h : DataW.Trod enc Try.prog w 0 (fun _ => true) true 158 v d p) : ∃ (cs : List Value) (x : Sh.T shAdd), v = .agg cs.toArray ∧ Lies w shAdd cs x ∧ Fits shAdd x := by
  obtain ⟨cs, rfl, hsz⟩ := okWide_struct Try.underlying158 hv
  obtain ⟨fuel, hf⟩ := h
  obtain ⟨x, h1, h2⟩ := read_Add hf
  exact ⟨cs.toList, x, by simp, by simpa [Value.cells] using h1, h2⟩
theorem read_Bag {H : Type} {enc : TypeId × Value → H} {w : World} {n : Nat} {cs : List Value} {y : DataW H × List MemPlace} (h : DataW.trod enc Try.prog w 0 (fun _ => true) true n 77 cs = some y) : ∃ x : Sh.T shBag, Lies w shBag cs x ∧ Fits shBag x := by
  obtain ⟨xs, m, _, _, hl, hlen, hf⟩ := DataW.trod_struct Try.underlying77 h
  rw [co_Bag] at hl
  have hx : xs.length = 2 := hlen
  obtain ⟨v0, v1, rfl⟩ := list_of2 hl
  have g0 := hf 0 _ rfl
  rw [List.getElem?_eq_getElem (by omega)] at g0
  replace g0 : DataW.trod enc Try.prog w 0 (fun _ => true) true m 75 [v0] = some (xs[0]'(by omega)) := by simpa [co_LAdd] using g0
  obtain ⟨X0, h0, f0⟩ := read_list shAdd Try.underlying75 (by rw [co_Add]; rfl) (by decide) (fun _ _ _ h => read_Add h) g0
  have g1 := hf 1 _ rfl
  rw [List.getElem?_eq_getElem (by omega)] at g1
  replace g1 : DataW.trod enc Try.prog w 0 (fun _ => true) true m 75 [v1] = some (xs[1]'(by omega)) := by simpa [co_LAdd] using g1
  obtain ⟨X1, h1, f1⟩ := read_list shAdd Try.underlying75 (by rw [co_Add]; rfl) (by decide) (fun _ _ _ h => read_Add h) g1
  exact ⟨(X0, X1, ()), ⟨[v0], _, rfl, h0, ⟨[v1], _, rfl, h1, rfl⟩⟩, f0, f1, trivial⟩
set_option maxRecDepth 100000 in
theorem open_Bag_n {H : Type} {enc : TypeId × Value → H} {w : World} {r : Reach} {b0 : Nat} {v : Value} {d : DataW H} {p : List MemPlace} (hv : Value.okWide Try.prog w r b0 77 v)
    (h : DataW.Trod enc Try.prog w 0 (fun _ => true) true 77 v d p) : ∃ (cs : List Value) (x : Sh.T shBag), v = .agg cs.toArray ∧ Lies w shBag cs x ∧ Fits shBag x := by
  obtain ⟨cs, rfl, hsz⟩ := okWide_struct Try.underlying77 hv
  obtain ⟨fuel, hf⟩ := h
  obtain ⟨x, h1, h2⟩ := read_Bag hf
  exact ⟨cs.toList, x, by simp, by simpa [Value.cells] using h1, h2⟩
end Go.Proofs.Ytnglgndocmkbfaa
