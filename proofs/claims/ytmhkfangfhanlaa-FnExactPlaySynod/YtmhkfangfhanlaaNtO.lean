/- How this chapter's data that came in are read. Written by tools/nest.py. -/
import Derived.Test.YtmhkfangfhanlaaMgA
import Derived.Test.YtmhkfangfhanlaaShO
import Derived.ProofKit
import Derived.OpenShut
import Derived.ChangeOld
namespace Go.Proofs.Ytmhkfangfhanlaa
open Go.RowKit
set_option linter.unusedVariables false
set_option linter.unusedSimpArgs false

open Go.Deep Go.ChangeShapes Go.WideShapes Go.ChangeAt
theorem co_int : Try.prog.cellsOf 3 = 1 := by kernel_rfl
theorem co_string : Try.prog.cellsOf 9 = 1 := by kernel_rfl
theorem co_Promise : Try.prog.cellsOf 172 = 3 := by kernel_rfl
theorem co_LPromise : Try.prog.cellsOf 140 = 1 := by kernel_rfl
theorem co_bool : Try.prog.cellsOf 4 = 1 := by kernel_rfl
theorem co_Lint : Try.prog.cellsOf 41 = 1 := by kernel_rfl
theorem co_Proposer : Try.prog.cellsOf 142 = 5 := by kernel_rfl
theorem co_Acceptor : Try.prog.cellsOf 138 = 3 := by kernel_rfl
theorem co_LAcceptor : Try.prog.cellsOf 55 = 1 := by kernel_rfl
theorem co_LProposer : Try.prog.cellsOf 56 = 1 := by kernel_rfl
theorem co_Synod : Try.prog.cellsOf 58 = 2 := by kernel_rfl
theorem co_SynodStep : Try.prog.cellsOf 63 = 3 := by kernel_rfl
theorem co_Lstring : Try.prog.cellsOf 23 = 1 := by kernel_rfl
theorem co_LSynodStep : Try.prog.cellsOf 68 = 1 := by kernel_rfl
theorem read_Promise {H : Type} {enc : TypeId × Value → H} {w : World} {n : Nat} {cs : List Value} {y : DataW H × List MemPlace} (h : DataW.trod enc Try.prog w 0 (fun _ => true) true n 172 cs = some y) : ∃ x : Sh.T shPromise, Lies w shPromise cs x ∧ Fits shPromise x := by
  obtain ⟨xs, m, _, _, hl, hlen, hf⟩ := DataW.trod_struct Try.underlying172 h
  rw [co_Promise] at hl
  have hx : xs.length = 3 := hlen
  obtain ⟨v0, v1, v2, rfl⟩ := list_of3 hl
  have g0 := hf 0 _ rfl
  rw [List.getElem?_eq_getElem (by omega)] at g0
  replace g0 : DataW.trod enc Try.prog w 0 (fun _ => true) true m 3 [v0] = some (xs[0]'(by omega)) := by simpa [co_int, co_string] using g0
  obtain ⟨X0, h0, f0⟩ := read_int g0
  have g1 := hf 1 _ rfl
  rw [List.getElem?_eq_getElem (by omega)] at g1
  replace g1 : DataW.trod enc Try.prog w 0 (fun _ => true) true m 3 [v1] = some (xs[1]'(by omega)) := by simpa [co_int, co_string] using g1
  obtain ⟨X1, h1, f1⟩ := read_int g1
  have g2 := hf 2 _ rfl
  rw [List.getElem?_eq_getElem (by omega)] at g2
  replace g2 : DataW.trod enc Try.prog w 0 (fun _ => true) true m 9 [v2] = some (xs[2]'(by omega)) := by simpa [co_int, co_string] using g2
  obtain ⟨X2, h2, f2⟩ := read_string g2
  exact ⟨(X0, X1, X2, ()), ⟨[v0], _, rfl, h0, ⟨[v1], _, rfl, h1, ⟨[v2], _, rfl, h2, rfl⟩⟩⟩, f0, f1, f2, trivial⟩
set_option maxRecDepth 100000 in
theorem open_Promise_n {H : Type} {enc : TypeId × Value → H} {w : World} {r : Reach} {b0 : Nat} {v : Value} {d : DataW H} {p : List MemPlace} (hv : Value.okWide Try.prog w r b0 172 v)
    (h : DataW.Trod enc Try.prog w 0 (fun _ => true) true 172 v d p) : ∃ (cs : List Value) (x : Sh.T shPromise), v = .agg cs.toArray ∧ Lies w shPromise cs x ∧ Fits shPromise x := by
  obtain ⟨cs, rfl, hsz⟩ := okWide_struct Try.underlying172 hv
  obtain ⟨fuel, hf⟩ := h
  obtain ⟨x, h1, h2⟩ := read_Promise hf
  exact ⟨cs.toList, x, by simp, by simpa [Value.cells] using h1, h2⟩
theorem read_Proposer {H : Type} {enc : TypeId × Value → H} {w : World} {n : Nat} {cs : List Value} {y : DataW H × List MemPlace} (h : DataW.trod enc Try.prog w 0 (fun _ => true) true n 142 cs = some y) : ∃ x : Sh.T shProposer, Lies w shProposer cs x ∧ Fits shProposer x := by
  obtain ⟨xs, m, _, _, hl, hlen, hf⟩ := DataW.trod_struct Try.underlying142 h
  rw [co_Proposer] at hl
  have hx : xs.length = 5 := hlen
  obtain ⟨v0, v1, v2, v3, v4, rfl⟩ := list_of5 hl
  have g0 := hf 0 _ rfl
  rw [List.getElem?_eq_getElem (by omega)] at g0
  replace g0 : DataW.trod enc Try.prog w 0 (fun _ => true) true m 9 [v0] = some (xs[0]'(by omega)) := by simpa [co_string, co_LPromise, co_bool, co_Lint] using g0
  obtain ⟨X0, h0, f0⟩ := read_string g0
  have g1 := hf 1 _ rfl
  rw [List.getElem?_eq_getElem (by omega)] at g1
  replace g1 : DataW.trod enc Try.prog w 0 (fun _ => true) true m 140 [v1] = some (xs[1]'(by omega)) := by simpa [co_string, co_LPromise, co_bool, co_Lint] using g1
  obtain ⟨X1, h1, f1⟩ := read_list shPromise Try.underlying140 (by rw [co_Promise]; rfl) (by decide) (fun _ _ _ h => read_Promise h) g1
  have g2 := hf 2 _ rfl
  rw [List.getElem?_eq_getElem (by omega)] at g2
  replace g2 : DataW.trod enc Try.prog w 0 (fun _ => true) true m 4 [v2] = some (xs[2]'(by omega)) := by simpa [co_string, co_LPromise, co_bool, co_Lint] using g2
  obtain ⟨X2, h2, f2⟩ := read_bool g2
  have g3 := hf 3 _ rfl
  rw [List.getElem?_eq_getElem (by omega)] at g3
  replace g3 : DataW.trod enc Try.prog w 0 (fun _ => true) true m 9 [v3] = some (xs[3]'(by omega)) := by simpa [co_string, co_LPromise, co_bool, co_Lint] using g3
  obtain ⟨X3, h3, f3⟩ := read_string g3
  have g4 := hf 4 _ rfl
  rw [List.getElem?_eq_getElem (by omega)] at g4
  replace g4 : DataW.trod enc Try.prog w 0 (fun _ => true) true m 41 [v4] = some (xs[4]'(by omega)) := by simpa [co_string, co_LPromise, co_bool, co_Lint] using g4
  obtain ⟨X4, h4, f4⟩ := read_list .int Try.underlying41 (by rw [co_int]; rfl) (by decide) (fun _ _ _ h => read_int h) g4
  exact ⟨(X0, X1, X2, X3, X4, ()), ⟨[v0], _, rfl, h0, ⟨[v1], _, rfl, h1, ⟨[v2], _, rfl, h2, ⟨[v3], _, rfl, h3, ⟨[v4], _, rfl, h4, rfl⟩⟩⟩⟩⟩, f0, f1, f2, f3, f4, trivial⟩
set_option maxRecDepth 100000 in
theorem open_Proposer_n {H : Type} {enc : TypeId × Value → H} {w : World} {r : Reach} {b0 : Nat} {v : Value} {d : DataW H} {p : List MemPlace} (hv : Value.okWide Try.prog w r b0 142 v)
    (h : DataW.Trod enc Try.prog w 0 (fun _ => true) true 142 v d p) : ∃ (cs : List Value) (x : Sh.T shProposer), v = .agg cs.toArray ∧ Lies w shProposer cs x ∧ Fits shProposer x := by
  obtain ⟨cs, rfl, hsz⟩ := okWide_struct Try.underlying142 hv
  obtain ⟨fuel, hf⟩ := h
  obtain ⟨x, h1, h2⟩ := read_Proposer hf
  exact ⟨cs.toList, x, by simp, by simpa [Value.cells] using h1, h2⟩
theorem read_Acceptor {H : Type} {enc : TypeId × Value → H} {w : World} {n : Nat} {cs : List Value} {y : DataW H × List MemPlace} (h : DataW.trod enc Try.prog w 0 (fun _ => true) true n 138 cs = some y) : ∃ x : Sh.T shAcceptor, Lies w shAcceptor cs x ∧ Fits shAcceptor x := by
  obtain ⟨xs, m, _, _, hl, hlen, hf⟩ := DataW.trod_struct Try.underlying138 h
  rw [co_Acceptor] at hl
  have hx : xs.length = 3 := hlen
  obtain ⟨v0, v1, v2, rfl⟩ := list_of3 hl
  have g0 := hf 0 _ rfl
  rw [List.getElem?_eq_getElem (by omega)] at g0
  replace g0 : DataW.trod enc Try.prog w 0 (fun _ => true) true m 3 [v0] = some (xs[0]'(by omega)) := by simpa [co_int, co_string] using g0
  obtain ⟨X0, h0, f0⟩ := read_int g0
  have g1 := hf 1 _ rfl
  rw [List.getElem?_eq_getElem (by omega)] at g1
  replace g1 : DataW.trod enc Try.prog w 0 (fun _ => true) true m 3 [v1] = some (xs[1]'(by omega)) := by simpa [co_int, co_string] using g1
  obtain ⟨X1, h1, f1⟩ := read_int g1
  have g2 := hf 2 _ rfl
  rw [List.getElem?_eq_getElem (by omega)] at g2
  replace g2 : DataW.trod enc Try.prog w 0 (fun _ => true) true m 9 [v2] = some (xs[2]'(by omega)) := by simpa [co_int, co_string] using g2
  obtain ⟨X2, h2, f2⟩ := read_string g2
  exact ⟨(X0, X1, X2, ()), ⟨[v0], _, rfl, h0, ⟨[v1], _, rfl, h1, ⟨[v2], _, rfl, h2, rfl⟩⟩⟩, f0, f1, f2, trivial⟩
set_option maxRecDepth 100000 in
theorem open_Acceptor_n {H : Type} {enc : TypeId × Value → H} {w : World} {r : Reach} {b0 : Nat} {v : Value} {d : DataW H} {p : List MemPlace} (hv : Value.okWide Try.prog w r b0 138 v)
    (h : DataW.Trod enc Try.prog w 0 (fun _ => true) true 138 v d p) : ∃ (cs : List Value) (x : Sh.T shAcceptor), v = .agg cs.toArray ∧ Lies w shAcceptor cs x ∧ Fits shAcceptor x := by
  obtain ⟨cs, rfl, hsz⟩ := okWide_struct Try.underlying138 hv
  obtain ⟨fuel, hf⟩ := h
  obtain ⟨x, h1, h2⟩ := read_Acceptor hf
  exact ⟨cs.toList, x, by simp, by simpa [Value.cells] using h1, h2⟩
theorem read_Synod {H : Type} {enc : TypeId × Value → H} {w : World} {n : Nat} {cs : List Value} {y : DataW H × List MemPlace} (h : DataW.trod enc Try.prog w 0 (fun _ => true) true n 58 cs = some y) : ∃ x : Sh.T shSynod, Lies w shSynod cs x ∧ Fits shSynod x := by
  obtain ⟨xs, m, _, _, hl, hlen, hf⟩ := DataW.trod_struct Try.underlying58 h
  rw [co_Synod] at hl
  have hx : xs.length = 2 := hlen
  obtain ⟨v0, v1, rfl⟩ := list_of2 hl
  have g0 := hf 0 _ rfl
  rw [List.getElem?_eq_getElem (by omega)] at g0
  replace g0 : DataW.trod enc Try.prog w 0 (fun _ => true) true m 55 [v0] = some (xs[0]'(by omega)) := by simpa [co_LAcceptor, co_LProposer] using g0
  obtain ⟨X0, h0, f0⟩ := read_list shAcceptor Try.underlying55 (by rw [co_Acceptor]; rfl) (by decide) (fun _ _ _ h => read_Acceptor h) g0
  have g1 := hf 1 _ rfl
  rw [List.getElem?_eq_getElem (by omega)] at g1
  replace g1 : DataW.trod enc Try.prog w 0 (fun _ => true) true m 56 [v1] = some (xs[1]'(by omega)) := by simpa [co_LAcceptor, co_LProposer] using g1
  obtain ⟨X1, h1, f1⟩ := read_list shProposer Try.underlying56 (by rw [co_Proposer]; rfl) (by decide) (fun _ _ _ h => read_Proposer h) g1
  exact ⟨(X0, X1, ()), ⟨[v0], _, rfl, h0, ⟨[v1], _, rfl, h1, rfl⟩⟩, f0, f1, trivial⟩
set_option maxRecDepth 100000 in
theorem open_Synod_n {H : Type} {enc : TypeId × Value → H} {w : World} {r : Reach} {b0 : Nat} {v : Value} {d : DataW H} {p : List MemPlace} (hv : Value.okWide Try.prog w r b0 58 v)
    (h : DataW.Trod enc Try.prog w 0 (fun _ => true) true 58 v d p) : ∃ (cs : List Value) (x : Sh.T shSynod), v = .agg cs.toArray ∧ Lies w shSynod cs x ∧ Fits shSynod x := by
  obtain ⟨cs, rfl, hsz⟩ := okWide_struct Try.underlying58 hv
  obtain ⟨fuel, hf⟩ := h
  obtain ⟨x, h1, h2⟩ := read_Synod hf
  exact ⟨cs.toList, x, by simp, by simpa [Value.cells] using h1, h2⟩
theorem read_SynodStep {H : Type} {enc : TypeId × Value → H} {w : World} {n : Nat} {cs : List Value} {y : DataW H × List MemPlace} (h : DataW.trod enc Try.prog w 0 (fun _ => true) true n 63 cs = some y) : ∃ x : Sh.T shSynodStep, Lies w shSynodStep cs x ∧ Fits shSynodStep x := by
  obtain ⟨xs, m, _, _, hl, hlen, hf⟩ := DataW.trod_struct Try.underlying63 h
  rw [co_SynodStep] at hl
  have hx : xs.length = 3 := hlen
  obtain ⟨v0, v1, v2, rfl⟩ := list_of3 hl
  have g0 := hf 0 _ rfl
  rw [List.getElem?_eq_getElem (by omega)] at g0
  replace g0 : DataW.trod enc Try.prog w 0 (fun _ => true) true m 4 [v0] = some (xs[0]'(by omega)) := by simpa [co_bool, co_int] using g0
  obtain ⟨X0, h0, f0⟩ := read_bool g0
  have g1 := hf 1 _ rfl
  rw [List.getElem?_eq_getElem (by omega)] at g1
  replace g1 : DataW.trod enc Try.prog w 0 (fun _ => true) true m 3 [v1] = some (xs[1]'(by omega)) := by simpa [co_bool, co_int] using g1
  obtain ⟨X1, h1, f1⟩ := read_int g1
  have g2 := hf 2 _ rfl
  rw [List.getElem?_eq_getElem (by omega)] at g2
  replace g2 : DataW.trod enc Try.prog w 0 (fun _ => true) true m 3 [v2] = some (xs[2]'(by omega)) := by simpa [co_bool, co_int] using g2
  obtain ⟨X2, h2, f2⟩ := read_int g2
  exact ⟨(X0, X1, X2, ()), ⟨[v0], _, rfl, h0, ⟨[v1], _, rfl, h1, ⟨[v2], _, rfl, h2, rfl⟩⟩⟩, f0, f1, f2, trivial⟩
set_option maxRecDepth 100000 in
theorem open_SynodStep_n {H : Type} {enc : TypeId × Value → H} {w : World} {r : Reach} {b0 : Nat} {v : Value} {d : DataW H} {p : List MemPlace} (hv : Value.okWide Try.prog w r b0 63 v)
    (h : DataW.Trod enc Try.prog w 0 (fun _ => true) true 63 v d p) : ∃ (cs : List Value) (x : Sh.T shSynodStep), v = .agg cs.toArray ∧ Lies w shSynodStep cs x ∧ Fits shSynodStep x := by
  obtain ⟨cs, rfl, hsz⟩ := okWide_struct Try.underlying63 hv
  obtain ⟨fuel, hf⟩ := h
  obtain ⟨x, h1, h2⟩ := read_SynodStep hf
  exact ⟨cs.toList, x, by simp, by simpa [Value.cells] using h1, h2⟩
theorem open_StringS_n {H : Type} {enc : TypeId × Value → H} {w : World} {a : Option Addr} {len cap : Nat} {d : DataW H} {p : List MemPlace}
    (h : DataW.Trod enc Try.prog w 0 (fun _ => true) true 23 (.slice a len cap) d p) : ∃ x : List (Sh.T .str), x.length = len ∧ Lies w (.list .str) [.slice a x.length cap] x ∧ Fits (.list .str) x := by
  obtain ⟨fuel, hf⟩ := h
  obtain ⟨x, h1, h2⟩ := read_list .str Try.underlying23 (by rw [co_string]; rfl) (by decide) (fun _ _ _ h => read_string h) (by simpa [Value.cells] using hf)
  have e := h1.count
  subst e
  exact ⟨x, rfl, h1, h2⟩
theorem open_SynodStepS_n {H : Type} {enc : TypeId × Value → H} {w : World} {a : Option Addr} {len cap : Nat} {d : DataW H} {p : List MemPlace}
    (h : DataW.Trod enc Try.prog w 0 (fun _ => true) true 68 (.slice a len cap) d p) : ∃ x : List (Sh.T shSynodStep), x.length = len ∧ Lies w (.list shSynodStep) [.slice a x.length cap] x ∧ Fits (.list shSynodStep) x := by
  obtain ⟨fuel, hf⟩ := h
  obtain ⟨x, h1, h2⟩ := read_list shSynodStep Try.underlying68 (by rw [co_SynodStep]; rfl) (by decide) (fun _ _ _ h => read_SynodStep h) (by simpa [Value.cells] using hf)
  have e := h1.count
  subst e
  exact ⟨x, rfl, h1, h2⟩
end Go.Proofs.Ytmhkfangfhanlaa
