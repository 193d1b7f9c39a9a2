/- How a store that came in is read: its records, its txns with their two lists, its order. -/
import Derived.Test.YtenfaofhoheleaaGreatStT
namespace Go.Proofs.YtenfaofhoheleaaGreat
open Go.RowKit Go.Deep Go.WideShapes
set_option linter.unusedVariables false
set_option linter.unusedSimpArgs false

theorem slice_form {H : Type} {enc : TypeId × Value → H} {P : Program} {w : World} {t e : TypeId} {m : Nat} {c0 : Value} {y0 : DataW H × List MemPlace} (ht : P.underlying t = some (.slice e)) (h : DataW.trod enc P w 0 (fun _ => true) true m t [c0] = some y0) :
    ∃ a n cap, c0 = .slice a n cap ∧ n ≤ cap ∧ DataW.Trod enc P w 0 (fun _ => true) true t (.slice a n cap) y0.1 y0.2 := by
  rcases open_slice ht h with ⟨hcs, _⟩ | ⟨x, l, k, m', n, D, Pl, hcs, _, hl, hm, hmm, _, hel⟩
  · simp at hcs
    subst hcs
    exact ⟨_, _, _, rfl, Nat.le_refl _, m, by simpa [Value.cells] using h⟩
  · simp at hcs
    subst hcs
    have hmk : m' = k := by simpa using hmm
    exact ⟨_, _, _, rfl, by omega, m, by simpa [Value.cells] using h⟩
theorem cells_looks : Tryz.prog.cellsOf 80 = 1 := by kernel_rfl
theorem cells_cells : Tryz.prog.cellsOf 81 = 1 := by kernel_rfl
theorem cells_records : Tryz.prog.cellsOf 22 = 1 := by kernel_rfl
theorem cells_runnings : Tryz.prog.cellsOf 23 = 1 := by kernel_rfl
theorem cells_intsl : Tryz.prog.cellsOf 24 = 1 := by kernel_rfl
theorem cells_lawsRunning : Tryz.prog.cellsOf 83 = 7 := by kernel_rfl
theorem cells_lawsStore : Tryz.prog.cellsOf 26 = 4 := by kernel_rfl
theorem list_run {α : Type} {l : List α} (h : l.length = 7) : ∃ v0 v1 v2 v3 v4 v5 v6, l = [v0, v1, v2, v3, v4, v5, v6] := by
  match l, h with
  | [v0, v1, v2, v3, v4, v5, v6], _ => exact ⟨v0, v1, v2, v3, v4, v5, v6, rfl⟩
theorem list_sto {α : Type} {l : List α} (h : l.length = 4) : ∃ v0 v1 v2 v3, l = [v0, v1, v2, v3] := by
  match l, h with
  | [v0, v1, v2, v3], _ => exact ⟨v0, v1, v2, v3, rfl⟩
instance : Inhabited RuV := ⟨⟨0, 0, 0, fun _ => default, 0, fun _ => default, 0, 0, false⟩⟩
instance : Inhabited RuA := ⟨⟨none, 0, none, 0⟩⟩
theorem read_running {H : Type} {enc : TypeId × Value → H} {w : World} {n : Nat} {cs : List Value} {y : DataW H × List MemPlace} (h : DataW.trod enc Tryz.prog w 0 (fun _ => true) true n 83 cs = some y) :
    ∃ q : RuV × RuA, cs = [.int .i64 q.1.id, .int .i64 q.1.st, .slice q.2.la q.1.ln q.2.lc, .slice q.2.ca q.1.cn q.2.cc, .int .i64 q.1.e, .int .i64 q.1.s, .bool q.1.b] ∧ RuLen q.1 ∧ RuAt w q.2 q.1 := by
  obtain ⟨xs, m, _, _, hl, hlen, hf⟩ := DataW.trod_struct Tryz.underlying83 h
  rw [cells_lawsRunning] at hl
  have hx : xs.length = 5 := hlen
  obtain ⟨v0, v1, v2, v3, v4, v5, v6, rfl⟩ := list_run hl
  have g0 := hf 0 _ rfl
  have g1 := hf 1 _ rfl
  have g2 := hf 2 _ rfl
  have g3 := hf 3 _ rfl
  have g4 := hf 4 _ rfl
  rw [List.getElem?_eq_getElem (by omega)] at g0 g1 g2 g3 g4
  obtain ⟨n0, q0, _⟩ := DataW.trod_int Tryz.underlying3 g0
  obtain ⟨n1, q1, _⟩ := DataW.trod_int Tryz.underlying3 g1
  obtain ⟨n4, q4⟩ := read_tid g4
  simp [cells_int, cells_lawsTid, cells_looks, cells_cells] at q0 q1 q4 g2 g3
  obtain ⟨a1, l1, c1, rfl, k1, t1⟩ := slice_form Tryz.underlying80 g2
  obtain ⟨a2, l2, c2, rfl, k2, t2⟩ := slice_form Tryz.underlying81 g3
  obtain ⟨m1, L, s1, z1⟩ := open_looks t1
  obtain ⟨m2, C, s2, z2⟩ := open_cells t2
  exact ⟨(⟨n0, n1, l1, L, l2, C, n4.1, n4.2.1, n4.2.2⟩, ⟨a1, c1, a2, c2⟩), by simp [q0, q1, q4], ⟨m1, m2, z1, z2⟩, s1, s2, k1, k2⟩
theorem open_runnings {H : Type} {enc : TypeId × Value → H} {w : World} {a : Option Addr} {len cap : Nat} {d : DataW H} {p : List MemPlace}
    (h : DataW.Trod enc Tryz.prog w 0 (fun _ => true) true 23 (.slice a len cap) d p) : len ≤ maxLen ∧ ∃ V A, RuS w a len V A ∧ ∀ i, i < len → RuLen (V i) := by
  obtain ⟨hl, h | ⟨b, off, rfl, hb, hel⟩⟩ := open_elems Tryz.underlying23 cells_lawsRunning (by omega) h
  · exact ⟨hl, fun _ => default, fun _ => default, ⟨Or.inl h, fun i hi => by omega⟩, fun i hi => by omega⟩
  · have each : ∀ i, i < len → ∃ q : RuV × RuA, (∀ j, j < 7 → w.cell? ⟨b, off + i * 7 + j, none⟩ = [Value.int .i64 q.1.id, .int .i64 q.1.st, .slice q.2.la q.1.ln q.2.lc, .slice q.2.ca q.1.cn q.2.cc, .int .i64 q.1.e, .int .i64 q.1.s, .bool q.1.b][j]?) ∧ RuLen q.1 ∧ RuAt w q.2 q.1 := by
      intro i hi
      obtain ⟨cs, n, y, _, hc, ht⟩ := hel i hi
      obtain ⟨q, rfl, hq⟩ := read_running ht
      exact ⟨q, hc, hq⟩
    obtain ⟨q, hq⟩ := choose_lt each
    refine ⟨hl, fun i => (q i).1, fun i => (q i).2, ⟨Or.inr ⟨b, off, rfl, hb, fun i hi j hj => ?_⟩, fun i hi => (hq i hi).2.2⟩, fun i hi => (hq i hi).2.1⟩
    rw [(hq i hi).1 j hj]
    match j, hj with
    | 0, _ => rfl
    | 1, _ => rfl
    | 2, _ => rfl
    | 3, _ => rfl
    | 4, _ => rfl
    | 5, _ => rfl
    | 6, _ => rfl
set_option maxRecDepth 100000 in
theorem open_store {H : Type} {enc : TypeId × Value → H} {w : World} {r : Reach} {b0 : Nat} {v : Value} {d : DataW H} {p : List MemPlace} (hv : Value.okWide Tryz.prog w r b0 26 v)
    (h : DataW.Trod enc Tryz.prog w 0 (fun _ => true) true 26 v d p) : ∃ (A : StA) (V : StV), v = .agg #[.int .i64 V.ep, .slice A.ra V.rn A.rc, .slice A.ta V.tn A.tc, .slice A.oa V.on A.oc] ∧ StLen V ∧ StAt w A V := by
  obtain ⟨cs, rfl, hsz⟩ := okWide_struct Tryz.underlying26 hv
  obtain ⟨fuel, hf0⟩ := h
  obtain ⟨xs, m, _, _, hl, hlen, hf⟩ := DataW.trod_struct Tryz.underlying26 hf0
  rw [cells_lawsStore] at hl
  have hx : xs.length = 4 := hlen
  have hl' : cs.toList.length = 4 := by simpa [Value.cells] using hl
  obtain ⟨v0, v1, v2, v3, hc0⟩ := list_sto hl'
  obtain rfl : cs = #[v0, v1, v2, v3] := by cases cs; simp_all
  have g0 := hf 0 _ rfl
  have g1 := hf 1 _ rfl
  have g2 := hf 2 _ rfl
  have g3 := hf 3 _ rfl
  rw [List.getElem?_eq_getElem (by omega)] at g0 g1 g2 g3
  obtain ⟨n0, q0, _⟩ := DataW.trod_int Tryz.underlying3 g0
  simp [Value.cells, cells_int, cells_records, cells_runnings, cells_intsl] at q0 g1 g2 g3
  obtain ⟨a1, l1, c1, rfl, k1, t1⟩ := slice_form Tryz.underlying22 g1
  obtain ⟨a2, l2, c2, rfl, k2, t2⟩ := slice_form Tryz.underlying23 g2
  obtain ⟨a3, l3, c3, rfl, k3, t3⟩ := slice_form Tryz.underlying24 g3
  obtain ⟨m1, R, s1, z1⟩ := open_records t1
  obtain ⟨m2, T, U, s2, z2⟩ := open_runnings t2
  obtain ⟨m3, O, s3, _⟩ := open_ints t3
  exact ⟨⟨a1, c1, a2, c2, a3, c3, U⟩, ⟨n0, l1, R, l2, T, l3, O⟩, by simp [q0], ⟨m1, m2, m3, z1, z2⟩, s1, s2, s3, k1, k2, k3⟩
end Go.Proofs.YtenfaofhoheleaaGreat
