/- A list of tids that came in: its elements. -/
import Derived.Test.YtbklhmeaoigneaaOpen
import Derived.Test.YtbklhmeaoigneaaTidS
namespace Go.Proofs.Ytbklhmeaoigneaa
open Go.RowKit Go.Deep
set_option linter.unusedVariables false
theorem open_tids {H : Type} {enc : TypeId × Value → H} {w : World} {a : Option Addr} {len cap : Nat} {d : DataW H} {p : List MemPlace}
    (h : DataW.Trod enc Try.prog w 0 (fun _ => true) true 61 (.slice a len cap) d p) : len ≤ maxLen ∧ ∃ E S B, Sl w a len 3 (tidF E S B) := by
  obtain ⟨hl, h | ⟨b, off, rfl, hb, hel⟩⟩ := open_elems Try.underlying61 cells_lawsTid (by omega) h
  · exact ⟨hl, fun _ => 0, fun _ => 0, fun _ => false, Or.inl h⟩
  · have each : ∀ i, i < len → ∃ q : Int × Int × Bool, ∀ j, j < 3 → w.cell? ⟨b, off + i * 3 + j, none⟩ = [Value.int .i64 q.1, .int .i64 q.2.1, .bool q.2.2][j]? := by
      intro i hi
      obtain ⟨cs, n, y, _, hc, ht⟩ := hel i hi
      obtain ⟨q, rfl⟩ := read_tid ht
      exact ⟨q, hc⟩
    obtain ⟨q, hq⟩ := choose_lt each
    refine ⟨hl, fun i => (q i).1, fun i => (q i).2.1, fun i => (q i).2.2, Or.inr ⟨b, off, rfl, hb, fun i hi j hj => ?_⟩⟩
    rw [hq i hi j hj]
    match j, hj with
    | 0, _ => rfl
    | 1, _ => rfl
    | 2, _ => rfl
end Go.Proofs.Ytbklhmeaoigneaa
