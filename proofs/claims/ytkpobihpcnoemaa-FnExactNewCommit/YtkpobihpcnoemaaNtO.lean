/- How this chapter's data that came in are read. Written by tools/nest.py. -/
import Derived.Test.YtkpobihpcnoemaaNtS
import Derived.Test.YtkpobihpcnoemaaShO
import Derived.ProofKit
import Derived.OpenShut
import Derived.ChangeOld
namespace Go.Proofs.Ytkpobihpcnoemaa
open Go.RowKit
set_option linter.unusedVariables false
set_option linter.unusedSimpArgs false

open Go.Deep Go.ChangeShapes Go.WideShapes Go.ChangeAt
theorem co_bool : Try.prog.cellsOf 4 = 1 := by kernel_rfl
theorem co_int : Try.prog.cellsOf 3 = 1 := by kernel_rfl
theorem co_Replica : Try.prog.cellsOf 76 = 2 := by kernel_rfl
theorem co_LReplica : Try.prog.cellsOf 64 = 1 := by kernel_rfl
theorem co_Shard : Try.prog.cellsOf 66 = 1 := by kernel_rfl
theorem co_LShard : Try.prog.cellsOf 34 = 1 := by kernel_rfl
theorem co_Commit : Try.prog.cellsOf 36 = 3 := by kernel_rfl
theorem co_Lint : Try.prog.cellsOf 22 = 1 := by kernel_rfl
theorem read_Replica {H : Type} {enc : TypeId × Value → H} {w : World} {n : Nat} {cs : List Value} {y : DataW H × List MemPlace} (h : DataW.trod enc Try.prog w 0 (fun _ => true) true n 76 cs = some y) : ∃ x : Sh.T shReplica, Lies w shReplica cs x ∧ Fits shReplica x := by
  obtain ⟨xs, m, _, _, hl, hlen, hf⟩ := DataW.trod_struct Try.underlying76 h
  rw [co_Replica] at hl
  have hx : xs.length = 2 := hlen
  obtain ⟨v0, v1, rfl⟩ := list_of2 hl
  have g0 := hf 0 _ rfl
  rw [List.getElem?_eq_getElem (by omega)] at g0
  replace g0 : DataW.trod enc Try.prog w 0 (fun _ => true) true m 4 [v0] = some (xs[0]'(by omega)) := by simpa [co_bool, co_int] using g0
  obtain ⟨X0, h0, f0⟩ := read_bool g0
  have g1 := hf 1 _ rfl
  rw [List.getElem?_eq_getElem (by omega)] at g1
  replace g1 : DataW.trod enc Try.prog w 0 (fun _ => true) true m 3 [v1] = some (xs[1]'(by omega)) := by simpa [co_bool, co_int] using g1
  obtain ⟨X1, h1, f1⟩ := read_int g1
  exact ⟨(X0, X1, ()), ⟨[v0], _, rfl, h0, ⟨[v1], _, rfl, h1, rfl⟩⟩, f0, f1, trivial⟩
set_option maxRecDepth 100000 in
theorem open_Replica_n {H : Type} {enc : TypeId × Value → H} {w : World} {r : Reach} {b0 : Nat} {v : Value} {d : DataW H} {p : List MemPlace} (hv : Value.okWide Try.prog w r b0 76 v)
    (h : DataW.Trod enc Try.prog w 0 (fun _ => true) true 76 v d p) : ∃ (cs : List Value) (x : Sh.T shReplica), v = .agg cs.toArray ∧ Lies w shReplica cs x ∧ Fits shReplica x := by
  obtain ⟨cs, rfl, hsz⟩ := okWide_struct Try.underlying76 hv
  obtain ⟨fuel, hf⟩ := h
  obtain ⟨x, h1, h2⟩ := read_Replica hf
  exact ⟨cs.toList, x, by simp, by simpa [Value.cells] using h1, h2⟩
theorem read_Shard {H : Type} {enc : TypeId × Value → H} {w : World} {n : Nat} {cs : List Value} {y : DataW H × List MemPlace} (h : DataW.trod enc Try.prog w 0 (fun _ => true) true n 66 cs = some y) : ∃ x : Sh.T shShard, Lies w shShard cs x ∧ Fits shShard x := by
  obtain ⟨xs, m, _, _, hl, hlen, hf⟩ := DataW.trod_struct Try.underlying66 h
  rw [co_Shard] at hl
  have hx : xs.length = 1 := hlen
  obtain ⟨v0, rfl⟩ := list_of1 hl
  have g0 := hf 0 _ rfl
  rw [List.getElem?_eq_getElem (by omega)] at g0
  replace g0 : DataW.trod enc Try.prog w 0 (fun _ => true) true m 64 [v0] = some (xs[0]'(by omega)) := by simpa [co_LReplica] using g0
  obtain ⟨X0, h0, f0⟩ := read_list shReplica Try.underlying64 (by rw [co_Replica]; rfl) (by decide) (fun _ _ _ h => read_Replica h) g0
  exact ⟨(X0, ()), ⟨[v0], _, rfl, h0, rfl⟩, f0, trivial⟩
set_option maxRecDepth 100000 in
theorem open_Shard_n {H : Type} {enc : TypeId × Value → H} {w : World} {r : Reach} {b0 : Nat} {v : Value} {d : DataW H} {p : List MemPlace} (hv : Value.okWide Try.prog w r b0 66 v)
    (h : DataW.Trod enc Try.prog w 0 (fun _ => true) true 66 v d p) : ∃ (cs : List Value) (x : Sh.T shShard), v = .agg cs.toArray ∧ Lies w shShard cs x ∧ Fits shShard x := by
  obtain ⟨cs, rfl, hsz⟩ := okWide_struct Try.underlying66 hv
  obtain ⟨fuel, hf⟩ := h
  obtain ⟨x, h1, h2⟩ := read_Shard hf
  exact ⟨cs.toList, x, by simp, by simpa [Value.cells] using h1, h2⟩
theorem read_Commit {H : Type} {enc : TypeId × Value → H} {w : World} {n : Nat} {cs : List Value} {y : DataW H × List MemPlace} (h : DataW.trod enc Try.prog w 0 (fun _ => true) true n 36 cs = some y) : ∃ x : Sh.T shCommit, Lies w shCommit cs x ∧ Fits shCommit x := by
  obtain ⟨xs, m, _, _, hl, hlen, hf⟩ := DataW.trod_struct Try.underlying36 h
  rw [co_Commit] at hl
  have hx : xs.length = 3 := hlen
  obtain ⟨v0, v1, v2, rfl⟩ := list_of3 hl
  have g0 := hf 0 _ rfl
  rw [List.getElem?_eq_getElem (by omega)] at g0
  replace g0 : DataW.trod enc Try.prog w 0 (fun _ => true) true m 34 [v0] = some (xs[0]'(by omega)) := by simpa [co_LShard, co_int] using g0
  obtain ⟨X0, h0, f0⟩ := read_list shShard Try.underlying34 (by rw [co_Shard]; rfl) (by decide) (fun _ _ _ h => read_Shard h) g0
  have g1 := hf 1 _ rfl
  rw [List.getElem?_eq_getElem (by omega)] at g1
  replace g1 : DataW.trod enc Try.prog w 0 (fun _ => true) true m 3 [v1] = some (xs[1]'(by omega)) := by simpa [co_LShard, co_int] using g1
  obtain ⟨X1, h1, f1⟩ := read_int g1
  have g2 := hf 2 _ rfl
  rw [List.getElem?_eq_getElem (by omega)] at g2
  replace g2 : DataW.trod enc Try.prog w 0 (fun _ => true) true m 3 [v2] = some (xs[2]'(by omega)) := by simpa [co_LShard, co_int] using g2
  obtain ⟨X2, h2, f2⟩ := read_int g2
  exact ⟨(X0, X1, X2, ()), ⟨[v0], _, rfl, h0, ⟨[v1], _, rfl, h1, ⟨[v2], _, rfl, h2, rfl⟩⟩⟩, f0, f1, f2, trivial⟩
set_option maxRecDepth 100000 in
theorem open_Commit_n {H : Type} {enc : TypeId × Value → H} {w : World} {r : Reach} {b0 : Nat} {v : Value} {d : DataW H} {p : List MemPlace} (hv : Value.okWide Try.prog w r b0 36 v)
    (h : DataW.Trod enc Try.prog w 0 (fun _ => true) true 36 v d p) : ∃ (cs : List Value) (x : Sh.T shCommit), v = .agg cs.toArray ∧ Lies w shCommit cs x ∧ Fits shCommit x := by
  obtain ⟨cs, rfl, hsz⟩ := okWide_struct Try.underlying36 hv
  obtain ⟨fuel, hf⟩ := h
  obtain ⟨x, h1, h2⟩ := read_Commit hf
  exact ⟨cs.toList, x, by simp, by simpa [Value.cells] using h1, h2⟩
theorem open_IntS_n {H : Type} {enc : TypeId × Value → H} {w : World} {a : Option Addr} {len cap : Nat} {d : DataW H} {p : List MemPlace}
    (h : DataW.Trod enc Try.prog w 0 (fun _ => true) true 22 (.slice a len cap) d p) : ∃ x : List (Sh.T .int), x.length = len ∧ Lies w (.list .int) [.slice a x.length cap] x ∧ Fits (.list .int) x := by
  obtain ⟨fuel, hf⟩ := h
  obtain ⟨x, h1, h2⟩ := read_list .int Try.underlying22 (by rw [co_int]; rfl) (by decide) (fun _ _ _ h => read_int h) (by simpa [Value.cells] using hf)
  have e := h1.count
  subst e
  exact ⟨x, rfl, h1, h2⟩
end Go.Proofs.Ytkpobihpcnoemaa
