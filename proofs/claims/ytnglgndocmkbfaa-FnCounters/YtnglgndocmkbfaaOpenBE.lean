/- A list of bytes that came in: its elements. -/
import Derived.Test.YtnglgndocmkbfaaOpenE
import Derived.Test.YtnglgndocmkbfaaDr
namespace Go.Proofs.Ytnglgndocmkbfaa
open Go.RowKit Go.Deep
set_option linter.unusedVariables false
theorem cells_u8 : Try.prog.cellsOf 5 = 1 := by kernel_rfl
theorem wf_byte {q : Int} (h : (Lit.int .u8 q).wf = true) : 0 ≤ q ∧ q ≤ 255 := by
  simpa [Lit.wf, IntKind.min, IntKind.max, IntKind.signed, IntKind.bits] using h
theorem one_of {α : Type} {l : List α} (h : l.length = 1) : ∃ a, l = [a] := by
  match l, h with
  | [a], _ => exact ⟨a, rfl⟩
theorem open_bytes {H : Type} {enc : TypeId × Value → H} {w : World} {a : Option Addr} {len cap : Nat} {d : DataW H} {p : List MemPlace}
    (h : DataW.Trod enc Try.prog w 0 (fun _ => true) true 22 (.slice a len cap) d p) : len ≤ maxLen ∧ ∃ X, Sl w a len 1 (byF X) ∧ ∀ i, i < len → 0 ≤ X i ∧ X i ≤ 255 := by
  obtain ⟨hl, h | ⟨b, off, rfl, hb, hel⟩⟩ := open_elems Try.underlying22 cells_u8 (by omega) h
  · exact ⟨hl, fun _ => 0, Or.inl h, fun i hi => by omega⟩
  · have each : ∀ i, i < len → ∃ q : Int, w.cell? ⟨b, off + i * 1 + 0, none⟩ = some (.int .u8 q) ∧ 0 ≤ q ∧ q ≤ 255 := by
      intro i hi
      obtain ⟨cs, n, y, hlen, hc, ht⟩ := hel i hi
      obtain ⟨v, rfl⟩ := one_of hlen
      obtain ⟨q, q0, _, wf⟩ := DataW.trod_int Try.underlying5 ht
      simp only [List.cons.injEq, and_true] at q0
      subst q0
      exact ⟨q, by rw [hc 0 (by omega)]; rfl, wf_byte wf⟩
    obtain ⟨q, hq⟩ := choose_lt each
    refine ⟨hl, q, Or.inr ⟨b, off, rfl, hb, fun i hi j hj => ?_⟩, fun i hi => (hq i hi).2⟩
    have : j = 0 := by omega
    subst this
    exact (hq i hi).1
end Go.Proofs.Ytnglgndocmkbfaa
