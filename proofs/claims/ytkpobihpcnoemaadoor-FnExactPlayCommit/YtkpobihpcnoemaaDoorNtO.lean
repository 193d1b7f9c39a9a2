/- How this chapter's data that came in are read. Written by tools/nest.py. -/
import Derived.Test.YtkpobihpcnoemaaDoorGaE
import Derived.Test.YtkpobihpcnoemaaDoorGaJ
import Derived.ProofKit
import Derived.OpenShut
import Derived.ChangeOld
namespace Go.Proofs.YtkpobihpcnoemaaDoor
open Go.RowKit
set_option linter.unusedVariables false
set_option linter.unusedSimpArgs false

open Go.Deep Go.ChangeShapes Go.WideShapes Go.ChangeAt
theorem co_bool : Tryd.prog.cellsOf 4 = 1 := by kernel_rfl
theorem co_int : Tryd.prog.cellsOf 3 = 1 := by kernel_rfl
theorem co_Replica : Tryd.prog.cellsOf 121 = 2 := by kernel_rfl
theorem co_LReplica : Tryd.prog.cellsOf 103 = 1 := by kernel_rfl
theorem co_Shard : Tryd.prog.cellsOf 105 = 1 := by kernel_rfl
theorem co_LShard : Tryd.prog.cellsOf 52 = 1 := by kernel_rfl
theorem co_Commit : Tryd.prog.cellsOf 54 = 3 := by kernel_rfl
theorem co_CommitStep : Tryd.prog.cellsOf 55 = 3 := by kernel_rfl
theorem co_Lint : Tryd.prog.cellsOf 23 = 1 := by kernel_rfl
theorem co_LCommitStep : Tryd.prog.cellsOf 62 = 1 := by kernel_rfl
theorem read_Replica {H : Type} {enc : TypeId × Value → H} {w : World} {n : Nat} {cs : List Value} {y : DataW H × List MemPlace} (h : DataW.trod enc Tryd.prog w 0 (fun _ => true) true n 121 cs = some y) : ∃ x : Sh.T shReplica, Lies w shReplica cs x ∧ Fits shReplica x := by
  obtain ⟨xs, m, _, _, hl, hlen, hf⟩ := DataW.trod_struct Tryd.underlying121 h
  rw [co_Replica] at hl
  have hx : xs.length = 2 := hlen
  obtain ⟨v0, v1, rfl⟩ := list_of2 hl
  have g0 := hf 0 _ rfl
  rw [List.getElem?_eq_getElem (by omega)] at g0
  replace g0 : DataW.trod enc Tryd.prog w 0 (fun _ => true) true m 4 [v0] = some (xs[0]'(by omega)) := by simpa [co_bool, co_int] using g0
  obtain ⟨X0, h0, f0⟩ := read_bool g0
  have g1 := hf 1 _ rfl
  rw [List.getElem?_eq_getElem (by omega)] at g1
  replace g1 : DataW.trod enc Tryd.prog w 0 (fun _ => true) true m 3 [v1] = some (xs[1]'(by omega)) := by simpa [co_bool, co_int] using g1
  obtain ⟨X1, h1, f1⟩ := read_int g1
  exact ⟨(X0, X1, ()), ⟨[v0], _, rfl, h0, ⟨[v1], _, rfl, h1, rfl⟩⟩, f0, f1, trivial⟩
set_option maxRecDepth 100000 in
theorem open_Replica_n {H : Type} {enc : TypeId × Value → H} {w : World} {r : Reach} {b0 : Nat} {v : Value} {d : DataW H} {p : List MemPlace} (hv : Value.okWide Tryd.prog w r b0 121 v)
    (h : DataW.Trod enc Tryd.prog w 0 (fun _ => true) true 121 v d p) : ∃ (cs : List Value) (x : Sh.T shReplica), v = .agg cs.toArray ∧ Lies w shReplica cs x ∧ Fits shReplica x := by
  obtain ⟨cs, rfl, hsz⟩ := okWide_struct Tryd.underlying121 hv
  obtain ⟨fuel, hf⟩ := h
  obtain ⟨x, h1, h2⟩ := read_Replica hf
  exact ⟨cs.toList, x, by simp, by simpa [Value.cells] using h1, h2⟩
theorem read_Shard {H : Type} {enc : TypeId × Value → H} {w : World} {n : Nat} {cs : List Value} {y : DataW H × List MemPlace} (h : DataW.trod enc Tryd.prog w 0 (fun _ => true) true n 105 cs = some y) : ∃ x : Sh.T shShard, Lies w shShard cs x ∧ Fits shShard x := by
  obtain ⟨xs, m, _, _, hl, hlen, hf⟩ := DataW.trod_struct Tryd.underlying105 h
  rw [co_Shard] at hl
  have hx : xs.length = 1 := hlen
  obtain ⟨v0, rfl⟩ := list_of1 hl
  have g0 := hf 0 _ rfl
  rw [List.getElem?_eq_getElem (by omega)] at g0
  replace g0 : DataW.trod enc Tryd.prog w 0 (fun _ => true) true m 103 [v0] = some (xs[0]'(by omega)) := by simpa [co_LReplica] using g0
  obtain ⟨X0, h0, f0⟩ := read_list shReplica Tryd.underlying103 (by rw [co_Replica]; rfl) (by decide) (fun _ _ _ h => read_Replica h) g0
  exact ⟨(X0, ()), ⟨[v0], _, rfl, h0, rfl⟩, f0, trivial⟩
set_option maxRecDepth 100000 in
theorem open_Shard_n {H : Type} {enc : TypeId × Value → H} {w : World} {r : Reach} {b0 : Nat} {v : Value} {d : DataW H} {p : List MemPlace} (hv : Value.okWide Tryd.prog w r b0 105 v)
    (h : DataW.Trod enc Tryd.prog w 0 (fun _ => true) true 105 v d p) : ∃ (cs : List Value) (x : Sh.T shShard), v = .agg cs.toArray ∧ Lies w shShard cs x ∧ Fits shShard x := by
  obtain ⟨cs, rfl, hsz⟩ := okWide_struct Tryd.underlying105 hv
  obtain ⟨fuel, hf⟩ := h
  obtain ⟨x, h1, h2⟩ := read_Shard hf
  exact ⟨cs.toList, x, by simp, by simpa [Value.cells] using h1, h2⟩
theorem read_Commit {H : Type} {enc : TypeId × Value → H} {w : World} {n : Nat} {cs : List Value} {y : DataW H × List MemPlace} (h : DataW.trod enc Tryd.prog w 0 (fun _ => true) true n 54 cs = some y) : ∃ x : Sh.T shCommit, Lies w shCommit cs x ∧ Fits shCommit x := by
  obtain ⟨xs, m, _, _, hl, hlen, hf⟩ := DataW.trod_struct Tryd.underlying54 h
  rw [co_Commit] at hl
  have hx : xs.length = 3 := hlen
  obtain ⟨v0, v1, v2, rfl⟩ := list_of3 hl
  have g0 := hf 0 _ rfl
  rw [List.getElem?_eq_getElem (by omega)] at g0
  replace g0 : DataW.trod enc Tryd.prog w 0 (fun _ => true) true m 52 [v0] = some (xs[0]'(by omega)) := by simpa [co_LShard, co_int] using g0
  obtain ⟨X0, h0, f0⟩ := read_list shShard Tryd.underlying52 (by rw [co_Shard]; rfl) (by decide) (fun _ _ _ h => read_Shard h) g0
  have g1 := hf 1 _ rfl
  rw [List.getElem?_eq_getElem (by omega)] at g1
  replace g1 : DataW.trod enc Tryd.prog w 0 (fun _ => true) true m 3 [v1] = some (xs[1]'(by omega)) := by simpa [co_LShard, co_int] using g1
  obtain ⟨X1, h1, f1⟩ := read_int g1
  have g2 := hf 2 _ rfl
  rw [List.getElem?_eq_getElem (by omega)] at g2
  replace g2 : DataW.trod enc Tryd.prog w 0 (fun _ => true) true m 3 [v2] = some (xs[2]'(by omega)) := by simpa [co_LShard, co_int] using g2
  obtain ⟨X2, h2, f2⟩ := read_int g2
  exact ⟨(X0, X1, X2, ()), ⟨[v0], _, rfl, h0, ⟨[v1], _, rfl, h1, ⟨[v2], _, rfl, h2, rfl⟩⟩⟩, f0, f1, f2, trivial⟩
set_option maxRecDepth 100000 in
theorem open_Commit_n {H : Type} {enc : TypeId × Value → H} {w : World} {r : Reach} {b0 : Nat} {v : Value} {d : DataW H} {p : List MemPlace} (hv : Value.okWide Tryd.prog w r b0 54 v)
    (h : DataW.Trod enc Tryd.prog w 0 (fun _ => true) true 54 v d p) : ∃ (cs : List Value) (x : Sh.T shCommit), v = .agg cs.toArray ∧ Lies w shCommit cs x ∧ Fits shCommit x := by
  obtain ⟨cs, rfl, hsz⟩ := okWide_struct Tryd.underlying54 hv
  obtain ⟨fuel, hf⟩ := h
  obtain ⟨x, h1, h2⟩ := read_Commit hf
  exact ⟨cs.toList, x, by simp, by simpa [Value.cells] using h1, h2⟩
theorem read_CommitStep {H : Type} {enc : TypeId × Value → H} {w : World} {n : Nat} {cs : List Value} {y : DataW H × List MemPlace} (h : DataW.trod enc Tryd.prog w 0 (fun _ => true) true n 55 cs = some y) : ∃ x : Sh.T shCommitStep, Lies w shCommitStep cs x ∧ Fits shCommitStep x := by
  obtain ⟨xs, m, _, _, hl, hlen, hf⟩ := DataW.trod_struct Tryd.underlying55 h
  rw [co_CommitStep] at hl
  have hx : xs.length = 3 := hlen
  obtain ⟨v0, v1, v2, rfl⟩ := list_of3 hl
  have g0 := hf 0 _ rfl
  rw [List.getElem?_eq_getElem (by omega)] at g0
  replace g0 : DataW.trod enc Tryd.prog w 0 (fun _ => true) true m 3 [v0] = some (xs[0]'(by omega)) := by simpa [co_int] using g0
  obtain ⟨X0, h0, f0⟩ := read_int g0
  have g1 := hf 1 _ rfl
  rw [List.getElem?_eq_getElem (by omega)] at g1
  replace g1 : DataW.trod enc Tryd.prog w 0 (fun _ => true) true m 3 [v1] = some (xs[1]'(by omega)) := by simpa [co_int] using g1
  obtain ⟨X1, h1, f1⟩ := read_int g1
  have g2 := hf 2 _ rfl
  rw [List.getElem?_eq_getElem (by omega)] at g2
  replace g2 : DataW.trod enc Tryd.prog w 0 (fun _ => true) true m 3 [v2] = some (xs[2]'(by omega)) := by simpa [co_int] using g2
  obtain ⟨X2, h2, f2⟩ := read_int g2
  exact ⟨(X0, X1, X2, ()), ⟨[v0], _, rfl, h0, ⟨[v1], _, rfl, h1, ⟨[v2], _, rfl, h2, rfl⟩⟩⟩, f0, f1, f2, trivial⟩
set_option maxRecDepth 100000 in
theorem open_CommitStep_n {H : Type} {enc : TypeId × Value → H} {w : World} {r : Reach} {b0 : Nat} {v : Value} {d : DataW H} {p : List MemPlace} (hv : Value.okWide Tryd.prog w r b0 55 v)
    (h : DataW.Trod enc Tryd.prog w 0 (fun _ => true) true 55 v d p) : ∃ (cs : List Value) (x : Sh.T shCommitStep), v = .agg cs.toArray ∧ Lies w shCommitStep cs x ∧ Fits shCommitStep x := by
  obtain ⟨cs, rfl, hsz⟩ := okWide_struct Tryd.underlying55 hv
  obtain ⟨fuel, hf⟩ := h
  obtain ⟨x, h1, h2⟩ := read_CommitStep hf
  exact ⟨cs.toList, x, by simp, by simpa [Value.cells] using h1, h2⟩
theorem open_IntS_n {H : Type} {enc : TypeId × Value → H} {w : World} {a : Option Addr} {len cap : Nat} {d : DataW H} {p : List MemPlace}
    (h : DataW.Trod enc Tryd.prog w 0 (fun _ => true) true 23 (.slice a len cap) d p) : ∃ x : List (Sh.T .int), x.length = len ∧ Lies w (.list .int) [.slice a x.length cap] x ∧ Fits (.list .int) x := by
  obtain ⟨fuel, hf⟩ := h
  obtain ⟨x, h1, h2⟩ := read_list .int Tryd.underlying23 (by rw [co_int]; rfl) (by decide) (fun _ _ _ h => read_int h) (by simpa [Value.cells] using hf)
  have e := h1.count
  subst e
  exact ⟨x, rfl, h1, h2⟩
theorem open_CommitStepS_n {H : Type} {enc : TypeId × Value → H} {w : World} {a : Option Addr} {len cap : Nat} {d : DataW H} {p : List MemPlace}
    (h : DataW.Trod enc Tryd.prog w 0 (fun _ => true) true 62 (.slice a len cap) d p) : ∃ x : List (Sh.T shCommitStep), x.length = len ∧ Lies w (.list shCommitStep) [.slice a x.length cap] x ∧ Fits (.list shCommitStep) x := by
  obtain ⟨fuel, hf⟩ := h
  obtain ⟨x, h1, h2⟩ := read_list shCommitStep Tryd.underlying62 (by rw [co_CommitStep]; rfl) (by decide) (fun _ _ _ h => read_CommitStep h) (by simpa [Value.cells] using hf)
  have e := h1.count
  subst e
  exact ⟨x, rfl, h1, h2⟩
end Go.Proofs.YtkpobihpcnoemaaDoor
