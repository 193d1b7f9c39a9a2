/- A message that came in: its cells. -/
import Derived.Test.YtbklhmeaoigneaaOpen
namespace Go.Proofs.Ytbklhmeaoigneaa
open Go.RowKit Go.Deep Go.WideShapes
set_option linter.unusedVariables false
theorem list9 {α : Type} {l : List α} (h : l.length = 9) : ∃ a b c d e f g i j, l = [a, b, c, d, e, f, g, i, j] := by
  match l, h with
  | [a, b, c, d, e, f, g, i, j], _ => exact ⟨a, b, c, d, e, f, g, i, j, rfl⟩
theorem cells_lawsMsg : Try.prog.cellsOf 67 = 9 := by kernel_rfl
theorem read_msg {H : Type} {enc : TypeId × Value → H} {w : World} {sp : Nat → Bool} {hd : Bool} {n : Nat} {cs : List Value} {y : DataW H × List MemPlace} (h : DataW.trod enc Try.prog w 0 sp hd n 67 cs = some y) :
    ∃ (kd fr to tx : Int) (key val : ByteArray) (e s : Int) (b : Bool), cs = [.int .i64 kd, .int .i64 fr, .int .i64 to, .int .i64 tx, .string key, .string val, .int .i64 e, .int .i64 s, .bool b] ∧ key.size ≤ maxLen ∧ val.size ≤ maxLen := by
  obtain ⟨xs, m, _, _, hl, hlen, hf⟩ := DataW.trod_struct Try.underlying67 h
  rw [cells_lawsMsg] at hl
  have hx : xs.length = 7 := hlen
  obtain ⟨v0, v1, v2, v3, v4, v5, v6, v7, v8, rfl⟩ := list9 hl
  have g0 := hf 0 _ rfl
  have g1 := hf 1 _ rfl
  have g2 := hf 2 _ rfl
  have g3 := hf 3 _ rfl
  have g4 := hf 4 _ rfl
  have g5 := hf 5 _ rfl
  have g6 := hf 6 _ rfl
  rw [List.getElem?_eq_getElem (by omega)] at g0 g1 g2 g3 g4 g5 g6
  obtain ⟨n0, q0, _⟩ := DataW.trod_int Try.underlying3 g0
  obtain ⟨n1, q1, _⟩ := DataW.trod_int Try.underlying3 g1
  obtain ⟨n2, q2, _⟩ := DataW.trod_int Try.underlying3 g2
  obtain ⟨n3, q3, _⟩ := DataW.trod_int Try.underlying3 g3
  obtain ⟨s4, q4, _, z4⟩ := DataW.trod_string Try.underlying9 g4
  obtain ⟨s5, q5, _, z5⟩ := DataW.trod_string Try.underlying9 g5
  obtain ⟨t6, q6⟩ := read_tid g6
  simp [cells_int, cells_string, cells_lawsTid] at q0 q1 q2 q3 q4 q5 q6
  exact ⟨n0, n1, n2, n3, s4, s5, t6.1, t6.2.1, t6.2.2, by simp [q0, q1, q2, q3, q4, q5, q6], z4, z5⟩
set_option maxRecDepth 100000 in
theorem open_msg {H : Type} {enc : TypeId × Value → H} {w : World} {r : Reach} {b0 : Nat} {v : Value} {d : DataW H} {p : List MemPlace} (hv : Value.okWide Try.prog w r b0 67 v)
    (h : DataW.Trod enc Try.prog w 0 (fun _ => true) true 67 v d p) :
    ∃ (kd fr to tx : Int) (key val : ByteArray) (e s : Int) (b : Bool), v = .agg #[.int .i64 kd, .int .i64 fr, .int .i64 to, .int .i64 tx, .string key, .string val, .int .i64 e, .int .i64 s, .bool b] ∧ key.size ≤ maxLen ∧ val.size ≤ maxLen := by
  obtain ⟨cs, rfl, hsz⟩ := okWide_struct Try.underlying67 hv
  obtain ⟨fuel, hf⟩ := h
  obtain ⟨kd, fr, to, tx, key, val, e, s, b, hc, hk, hl⟩ := read_msg hf
  refine ⟨kd, fr, to, tx, key, val, e, s, b, ?_, hk, hl⟩
  have : cs.toList = [.int .i64 kd, .int .i64 fr, .int .i64 to, .int .i64 tx, .string key, .string val, .int .i64 e, .int .i64 s, .bool b] := by simpa [Value.cells] using hc
  rw [← Array.toArray_toList (xs := cs), this]
end Go.Proofs.Ytbklhmeaoigneaa
