/- How this chapter's data that came in are read. Written by tools/nest.py. -/
import Derived.Test.YtcklpcdgckkahaaNtS
import Derived.Test.YtcklpcdgckkahaaShO
import Derived.ProofKit
import Derived.OpenShut
import Derived.ChangeOld
namespace Go.Proofs.Ytcklpcdgckkahaa
open Go.RowKit
set_option linter.unusedVariables false
set_option linter.unusedSimpArgs false

open Go.Deep Go.ChangeShapes Go.WideShapes Go.ChangeAt
theorem co_bool : Try.prog.cellsOf 4 = 1 := by kernel_rfl
theorem co_int : Try.prog.cellsOf 3 = 1 := by kernel_rfl
theorem co_Parcel : Try.prog.cellsOf 144 = 2 := by kernel_rfl
theorem co_Bank : Try.prog.cellsOf 126 = 3 := by kernel_rfl
theorem co_LParcel : Try.prog.cellsOf 122 = 1 := by kernel_rfl
theorem co_Lint : Try.prog.cellsOf 23 = 1 := by kernel_rfl
theorem co_Way : Try.prog.cellsOf 124 = 5 := by kernel_rfl
theorem co_LBank : Try.prog.cellsOf 55 = 1 := by kernel_rfl
theorem co_LWay : Try.prog.cellsOf 56 = 1 := by kernel_rfl
theorem co_Net : Try.prog.cellsOf 58 = 2 := by kernel_rfl
theorem co_BankStep : Try.prog.cellsOf 62 = 4 := by kernel_rfl
theorem co_LBankStep : Try.prog.cellsOf 65 = 1 := by kernel_rfl
theorem read_Parcel {H : Type} {enc : TypeId × Value → H} {w : World} {n : Nat} {cs : List Value} {y : DataW H × List MemPlace} (h : DataW.trod enc Try.prog w 0 (fun _ => true) true n 144 cs = some y) : ∃ x : Sh.T shParcel, Lies w shParcel cs x ∧ Fits shParcel x := by
  obtain ⟨xs, m, _, _, hl, hlen, hf⟩ := DataW.trod_struct Try.underlying144 h
  rw [co_Parcel] at hl
  have hx : xs.length = 2 := hlen
  obtain ⟨v0, v1, rfl⟩ := list_of2 hl
  have g0 := hf 0 _ rfl
  rw [List.getElem?_eq_getElem (by omega)] at g0
  replace g0 : DataW.trod enc Try.prog w 0 (fun _ => true) true m 4 [v0] = some (xs[0]'(by omega)) := by simpa [co_bool, co_int] using g0
  obtain ⟨X0, h0, f0⟩ := read_bool g0
  have g1 := hf 1 _ rfl
  rw [List.getElem?_eq_getElem (by omega)] at g1
  replace g1 : DataW.trod enc Try.prog w 0 (fun _ => true) true m 3 [v1] = some (xs[1]'(by omega)) := by simpa [co_bool, co_int] using g1
  obtain ⟨X1, h1, f1⟩ := read_int g1
  exact ⟨(X0, X1, ()), ⟨[v0], _, rfl, h0, ⟨[v1], _, rfl, h1, rfl⟩⟩, f0, f1, trivial⟩
set_option maxRecDepth 100000 in
theorem open_Parcel_n {H : Type} {enc : TypeId × Value → H} {w : World} {r : Reach} {b0 : Nat} {v : Value} {d : DataW H} {p : List MemPlace} (hv : Value.okWide Try.prog w r b0 144 v)
    (h : DataW.Trod enc Try.prog w 0 (fun _ => true) true 144 v d p) : ∃ (cs : List Value) (x : Sh.T shParcel), v = .agg cs.toArray ∧ Lies w shParcel cs x ∧ Fits shParcel x := by
  obtain ⟨cs, rfl, hsz⟩ := okWide_struct Try.underlying144 hv
  obtain ⟨fuel, hf⟩ := h
  obtain ⟨x, h1, h2⟩ := read_Parcel hf
  exact ⟨cs.toList, x, by simp, by simpa [Value.cells] using h1, h2⟩
theorem read_Bank {H : Type} {enc : TypeId × Value → H} {w : World} {n : Nat} {cs : List Value} {y : DataW H × List MemPlace} (h : DataW.trod enc Try.prog w 0 (fun _ => true) true n 126 cs = some y) : ∃ x : Sh.T shBank, Lies w shBank cs x ∧ Fits shBank x := by
  obtain ⟨xs, m, _, _, hl, hlen, hf⟩ := DataW.trod_struct Try.underlying126 h
  rw [co_Bank] at hl
  have hx : xs.length = 3 := hlen
  obtain ⟨v0, v1, v2, rfl⟩ := list_of3 hl
  have g0 := hf 0 _ rfl
  rw [List.getElem?_eq_getElem (by omega)] at g0
  replace g0 : DataW.trod enc Try.prog w 0 (fun _ => true) true m 3 [v0] = some (xs[0]'(by omega)) := by simpa [co_int, co_bool] using g0
  obtain ⟨X0, h0, f0⟩ := read_int g0
  have g1 := hf 1 _ rfl
  rw [List.getElem?_eq_getElem (by omega)] at g1
  replace g1 : DataW.trod enc Try.prog w 0 (fun _ => true) true m 4 [v1] = some (xs[1]'(by omega)) := by simpa [co_int, co_bool] using g1
  obtain ⟨X1, h1, f1⟩ := read_bool g1
  have g2 := hf 2 _ rfl
  rw [List.getElem?_eq_getElem (by omega)] at g2
  replace g2 : DataW.trod enc Try.prog w 0 (fun _ => true) true m 3 [v2] = some (xs[2]'(by omega)) := by simpa [co_int, co_bool] using g2
  obtain ⟨X2, h2, f2⟩ := read_int g2
  exact ⟨(X0, X1, X2, ()), ⟨[v0], _, rfl, h0, ⟨[v1], _, rfl, h1, ⟨[v2], _, rfl, h2, rfl⟩⟩⟩, f0, f1, f2, trivial⟩
set_option maxRecDepth 100000 in
theorem open_Bank_n {H : Type} {enc : TypeId × Value → H} {w : World} {r : Reach} {b0 : Nat} {v : Value} {d : DataW H} {p : List MemPlace} (hv : Value.okWide Try.prog w r b0 126 v)
    (h : DataW.Trod enc Try.prog w 0 (fun _ => true) true 126 v d p) : ∃ (cs : List Value) (x : Sh.T shBank), v = .agg cs.toArray ∧ Lies w shBank cs x ∧ Fits shBank x := by
  obtain ⟨cs, rfl, hsz⟩ := okWide_struct Try.underlying126 hv
  obtain ⟨fuel, hf⟩ := h
  obtain ⟨x, h1, h2⟩ := read_Bank hf
  exact ⟨cs.toList, x, by simp, by simpa [Value.cells] using h1, h2⟩
theorem read_Way {H : Type} {enc : TypeId × Value → H} {w : World} {n : Nat} {cs : List Value} {y : DataW H × List MemPlace} (h : DataW.trod enc Try.prog w 0 (fun _ => true) true n 124 cs = some y) : ∃ x : Sh.T shWay, Lies w shWay cs x ∧ Fits shWay x := by
  obtain ⟨xs, m, _, _, hl, hlen, hf⟩ := DataW.trod_struct Try.underlying124 h
  rw [co_Way] at hl
  have hx : xs.length = 5 := hlen
  obtain ⟨v0, v1, v2, v3, v4, rfl⟩ := list_of5 hl
  have g0 := hf 0 _ rfl
  rw [List.getElem?_eq_getElem (by omega)] at g0
  replace g0 : DataW.trod enc Try.prog w 0 (fun _ => true) true m 3 [v0] = some (xs[0]'(by omega)) := by simpa [co_int, co_LParcel, co_bool, co_Lint] using g0
  obtain ⟨X0, h0, f0⟩ := read_int g0
  have g1 := hf 1 _ rfl
  rw [List.getElem?_eq_getElem (by omega)] at g1
  replace g1 : DataW.trod enc Try.prog w 0 (fun _ => true) true m 3 [v1] = some (xs[1]'(by omega)) := by simpa [co_int, co_LParcel, co_bool, co_Lint] using g1
  obtain ⟨X1, h1, f1⟩ := read_int g1
  have g2 := hf 2 _ rfl
  rw [List.getElem?_eq_getElem (by omega)] at g2
  replace g2 : DataW.trod enc Try.prog w 0 (fun _ => true) true m 122 [v2] = some (xs[2]'(by omega)) := by simpa [co_int, co_LParcel, co_bool, co_Lint] using g2
  obtain ⟨X2, h2, f2⟩ := read_list shParcel Try.underlying122 (by rw [co_Parcel]; rfl) (by decide) (fun _ _ _ h => read_Parcel h) g2
  have g3 := hf 3 _ rfl
  rw [List.getElem?_eq_getElem (by omega)] at g3
  replace g3 : DataW.trod enc Try.prog w 0 (fun _ => true) true m 4 [v3] = some (xs[3]'(by omega)) := by simpa [co_int, co_LParcel, co_bool, co_Lint] using g3
  obtain ⟨X3, h3, f3⟩ := read_bool g3
  have g4 := hf 4 _ rfl
  rw [List.getElem?_eq_getElem (by omega)] at g4
  replace g4 : DataW.trod enc Try.prog w 0 (fun _ => true) true m 23 [v4] = some (xs[4]'(by omega)) := by simpa [co_int, co_LParcel, co_bool, co_Lint] using g4
  obtain ⟨X4, h4, f4⟩ := read_list .int Try.underlying23 (by rw [co_int]; rfl) (by decide) (fun _ _ _ h => read_int h) g4
  exact ⟨(X0, X1, X2, X3, X4, ()), ⟨[v0], _, rfl, h0, ⟨[v1], _, rfl, h1, ⟨[v2], _, rfl, h2, ⟨[v3], _, rfl, h3, ⟨[v4], _, rfl, h4, rfl⟩⟩⟩⟩⟩, f0, f1, f2, f3, f4, trivial⟩
set_option maxRecDepth 100000 in
theorem open_Way_n {H : Type} {enc : TypeId × Value → H} {w : World} {r : Reach} {b0 : Nat} {v : Value} {d : DataW H} {p : List MemPlace} (hv : Value.okWide Try.prog w r b0 124 v)
    (h : DataW.Trod enc Try.prog w 0 (fun _ => true) true 124 v d p) : ∃ (cs : List Value) (x : Sh.T shWay), v = .agg cs.toArray ∧ Lies w shWay cs x ∧ Fits shWay x := by
  obtain ⟨cs, rfl, hsz⟩ := okWide_struct Try.underlying124 hv
  obtain ⟨fuel, hf⟩ := h
  obtain ⟨x, h1, h2⟩ := read_Way hf
  exact ⟨cs.toList, x, by simp, by simpa [Value.cells] using h1, h2⟩
theorem read_Net {H : Type} {enc : TypeId × Value → H} {w : World} {n : Nat} {cs : List Value} {y : DataW H × List MemPlace} (h : DataW.trod enc Try.prog w 0 (fun _ => true) true n 58 cs = some y) : ∃ x : Sh.T shNet, Lies w shNet cs x ∧ Fits shNet x := by
  obtain ⟨xs, m, _, _, hl, hlen, hf⟩ := DataW.trod_struct Try.underlying58 h
  rw [co_Net] at hl
  have hx : xs.length = 2 := hlen
  obtain ⟨v0, v1, rfl⟩ := list_of2 hl
  have g0 := hf 0 _ rfl
  rw [List.getElem?_eq_getElem (by omega)] at g0
  replace g0 : DataW.trod enc Try.prog w 0 (fun _ => true) true m 55 [v0] = some (xs[0]'(by omega)) := by simpa [co_LBank, co_LWay] using g0
  obtain ⟨X0, h0, f0⟩ := read_list shBank Try.underlying55 (by rw [co_Bank]; rfl) (by decide) (fun _ _ _ h => read_Bank h) g0
  have g1 := hf 1 _ rfl
  rw [List.getElem?_eq_getElem (by omega)] at g1
  replace g1 : DataW.trod enc Try.prog w 0 (fun _ => true) true m 56 [v1] = some (xs[1]'(by omega)) := by simpa [co_LBank, co_LWay] using g1
  obtain ⟨X1, h1, f1⟩ := read_list shWay Try.underlying56 (by rw [co_Way]; rfl) (by decide) (fun _ _ _ h => read_Way h) g1
  exact ⟨(X0, X1, ()), ⟨[v0], _, rfl, h0, ⟨[v1], _, rfl, h1, rfl⟩⟩, f0, f1, trivial⟩
set_option maxRecDepth 100000 in
theorem open_Net_n {H : Type} {enc : TypeId × Value → H} {w : World} {r : Reach} {b0 : Nat} {v : Value} {d : DataW H} {p : List MemPlace} (hv : Value.okWide Try.prog w r b0 58 v)
    (h : DataW.Trod enc Try.prog w 0 (fun _ => true) true 58 v d p) : ∃ (cs : List Value) (x : Sh.T shNet), v = .agg cs.toArray ∧ Lies w shNet cs x ∧ Fits shNet x := by
  obtain ⟨cs, rfl, hsz⟩ := okWide_struct Try.underlying58 hv
  obtain ⟨fuel, hf⟩ := h
  obtain ⟨x, h1, h2⟩ := read_Net hf
  exact ⟨cs.toList, x, by simp, by simpa [Value.cells] using h1, h2⟩
theorem read_BankStep {H : Type} {enc : TypeId × Value → H} {w : World} {n : Nat} {cs : List Value} {y : DataW H × List MemPlace} (h : DataW.trod enc Try.prog w 0 (fun _ => true) true n 62 cs = some y) : ∃ x : Sh.T shBankStep, Lies w shBankStep cs x ∧ Fits shBankStep x := by
  obtain ⟨xs, m, _, _, hl, hlen, hf⟩ := DataW.trod_struct Try.underlying62 h
  rw [co_BankStep] at hl
  have hx : xs.length = 4 := hlen
  obtain ⟨v0, v1, v2, v3, rfl⟩ := list_of4 hl
  have g0 := hf 0 _ rfl
  rw [List.getElem?_eq_getElem (by omega)] at g0
  replace g0 : DataW.trod enc Try.prog w 0 (fun _ => true) true m 3 [v0] = some (xs[0]'(by omega)) := by simpa [co_int] using g0
  obtain ⟨X0, h0, f0⟩ := read_int g0
  have g1 := hf 1 _ rfl
  rw [List.getElem?_eq_getElem (by omega)] at g1
  replace g1 : DataW.trod enc Try.prog w 0 (fun _ => true) true m 3 [v1] = some (xs[1]'(by omega)) := by simpa [co_int] using g1
  obtain ⟨X1, h1, f1⟩ := read_int g1
  have g2 := hf 2 _ rfl
  rw [List.getElem?_eq_getElem (by omega)] at g2
  replace g2 : DataW.trod enc Try.prog w 0 (fun _ => true) true m 3 [v2] = some (xs[2]'(by omega)) := by simpa [co_int] using g2
  obtain ⟨X2, h2, f2⟩ := read_int g2
  have g3 := hf 3 _ rfl
  rw [List.getElem?_eq_getElem (by omega)] at g3
  replace g3 : DataW.trod enc Try.prog w 0 (fun _ => true) true m 3 [v3] = some (xs[3]'(by omega)) := by simpa [co_int] using g3
  obtain ⟨X3, h3, f3⟩ := read_int g3
  exact ⟨(X0, X1, X2, X3, ()), ⟨[v0], _, rfl, h0, ⟨[v1], _, rfl, h1, ⟨[v2], _, rfl, h2, ⟨[v3], _, rfl, h3, rfl⟩⟩⟩⟩, f0, f1, f2, f3, trivial⟩
set_option maxRecDepth 100000 in
theorem open_BankStep_n {H : Type} {enc : TypeId × Value → H} {w : World} {r : Reach} {b0 : Nat} {v : Value} {d : DataW H} {p : List MemPlace} (hv : Value.okWide Try.prog w r b0 62 v)
    (h : DataW.Trod enc Try.prog w 0 (fun _ => true) true 62 v d p) : ∃ (cs : List Value) (x : Sh.T shBankStep), v = .agg cs.toArray ∧ Lies w shBankStep cs x ∧ Fits shBankStep x := by
  obtain ⟨cs, rfl, hsz⟩ := okWide_struct Try.underlying62 hv
  obtain ⟨fuel, hf⟩ := h
  obtain ⟨x, h1, h2⟩ := read_BankStep hf
  exact ⟨cs.toList, x, by simp, by simpa [Value.cells] using h1, h2⟩
theorem open_IntS_n {H : Type} {enc : TypeId × Value → H} {w : World} {a : Option Addr} {len cap : Nat} {d : DataW H} {p : List MemPlace}
    (h : DataW.Trod enc Try.prog w 0 (fun _ => true) true 23 (.slice a len cap) d p) : ∃ x : List (Sh.T .int), x.length = len ∧ Lies w (.list .int) [.slice a x.length cap] x ∧ Fits (.list .int) x := by
  obtain ⟨fuel, hf⟩ := h
  obtain ⟨x, h1, h2⟩ := read_list .int Try.underlying23 (by rw [co_int]; rfl) (by decide) (fun _ _ _ h => read_int h) (by simpa [Value.cells] using hf)
  have e := h1.count
  subst e
  exact ⟨x, rfl, h1, h2⟩
theorem open_BankStepS_n {H : Type} {enc : TypeId × Value → H} {w : World} {a : Option Addr} {len cap : Nat} {d : DataW H} {p : List MemPlace}
    (h : DataW.Trod enc Try.prog w 0 (fun _ => true) true 65 (.slice a len cap) d p) : ∃ x : List (Sh.T shBankStep), x.length = len ∧ Lies w (.list shBankStep) [.slice a x.length cap] x ∧ Fits (.list shBankStep) x := by
  obtain ⟨fuel, hf⟩ := h
  obtain ⟨x, h1, h2⟩ := read_list shBankStep Try.underlying65 (by rw [co_BankStep]; rfl) (by decide) (fun _ _ _ h => read_BankStep h) (by simpa [Value.cells] using hf)
  have e := h1.count
  subst e
  exact ⟨x, rfl, h1, h2⟩
end Go.Proofs.Ytcklpcdgckkahaa
