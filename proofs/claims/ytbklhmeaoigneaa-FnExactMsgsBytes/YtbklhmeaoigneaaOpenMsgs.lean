/- A list of messages that came in: its elements. -/
import Derived.Test.YtbklhmeaoigneaaOpenMsg
import Derived.Test.YtbklhmeaoigneaaMsgS
namespace Go.Proofs.Ytbklhmeaoigneaa
open Go.RowKit Go.Deep
set_option linter.unusedVariables false
theorem open_msgs {H : Type} {enc : TypeId × Value → H} {w : World} {a : Option Addr} {len cap : Nat} {d : DataW H} {p : List MemPlace}
    (h : DataW.Trod enc Try.prog w 0 (fun _ => true) true 74 (.slice a len cap) d p) : len ≤ maxLen ∧ ∃ M, Sl w a len 9 (msgF M) ∧ ∀ i, i < len → (M i).key.size ≤ maxLen ∧ (M i).val.size ≤ maxLen := by
  obtain ⟨hl, h | ⟨b, off, rfl, hb, hel⟩⟩ := open_elems Try.underlying74 cells_lawsMsg (by omega) h
  · exact ⟨hl, fun _ => ⟨0, 0, 0, 0, ⟨#[]⟩, ⟨#[]⟩, 0, 0, false⟩, Or.inl h, fun i hi => absurd hi (by omega)⟩
  · have each : ∀ i, i < len → ∃ q : Int × Int × Int × Int × ByteArray × ByteArray × Int × Int × Bool, (∀ j, j < 9 → w.cell? ⟨b, off + i * 9 + j, none⟩ = [Value.int .i64 q.1, .int .i64 q.2.1, .int .i64 q.2.2.1, .int .i64 q.2.2.2.1, .string q.2.2.2.2.1, .string q.2.2.2.2.2.1, .int .i64 q.2.2.2.2.2.2.1, .int .i64 q.2.2.2.2.2.2.2.1, .bool q.2.2.2.2.2.2.2.2][j]?) ∧ q.2.2.2.2.1.size ≤ maxLen ∧ q.2.2.2.2.2.1.size ≤ maxLen := by
      intro i hi
      obtain ⟨cs, n, y, _, hc, ht⟩ := hel i hi
      obtain ⟨kd, fr, dt, tx, key, val, e, s, bb, rfl, hk, hv⟩ := read_msg ht
      exact ⟨(kd, fr, dt, tx, key, val, e, s, bb), hc, hk, hv⟩
    obtain ⟨q, hq⟩ := choose_lt each
    refine ⟨hl, fun i => ⟨(q i).1, (q i).2.1, (q i).2.2.1, (q i).2.2.2.1, (q i).2.2.2.2.1, (q i).2.2.2.2.2.1, (q i).2.2.2.2.2.2.1, (q i).2.2.2.2.2.2.2.1, (q i).2.2.2.2.2.2.2.2⟩, Or.inr ⟨b, off, rfl, hb, fun i hi j hj => ?_⟩, fun i hi => (hq i hi).2⟩
    rw [(hq i hi).1 j hj]
    match j, hj with
    | 0, _ => rfl
    | 1, _ => rfl
    | 2, _ => rfl
    | 3, _ => rfl
    | 4, _ => rfl
    | 5, _ => rfl
    | 6, _ => rfl
    | 7, _ => rfl
    | 8, _ => rfl
end Go.Proofs.Ytbklhmeaoigneaa
