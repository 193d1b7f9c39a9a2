/- Put together of: OpenE, OpenBE. -/
import Derived.Test.YtkpobihpcnoemaaDoorGaB
import Derived.Test.YtkpobihpcnoemaaDoorRows
import Derived.ProofKit
import Derived.OpenShut
import Derived.Deep.Slices
import Derived.ChangeOld
import Derived.Deep.Strs
import Derived.Test.YtkpobihpcnoemaaDoorGaP
/- How lists that came in are read: each element's cells; lists of numbers. -/
namespace Go.Proofs.YtkpobihpcnoemaaDoor
open Go.RowKit Go.Deep
set_option linter.unusedVariables false

theorem addr_add (b off n : Nat) : (⟨b, off, none⟩ : Addr).add n = ⟨b, off + n, none⟩ := by
  unfold Addr.add; split <;> simp_all
theorem list3 {α : Type} {l : List α} (h : l.length = 3) : ∃ a b c, l = [a, b, c] := by
  match l, h with
  | [a, b, c], _ => exact ⟨a, b, c, rfl⟩
theorem list1 {α : Type} {l : List α} (h : l.length = 1) : ∃ a, l = [a] := by
  match l, h with
  | [a], _ => exact ⟨a, rfl⟩
theorem open_elems {H : Type} {enc : TypeId × Value → H} {P : Program} {w : World} {t e : TypeId} {a : Option Addr} {len cap c : Nat} {d : DataW H} {p : List MemPlace} (ht : P.underlying t = some (.slice e)) (hc : P.cellsOf e = c) (h0 : 0 < c)
    (h : DataW.Trod enc P w 0 (fun _ => true) true t (.slice a len cap) d p) :
    len ≤ maxLen ∧ (len = 0 ∨ ∃ b off, a = some ⟨b, off, none⟩ ∧ b < w.heap.size ∧ ∀ i, i < len → ∃ (cs : List Value) (n : Nat) (y : DataW H × List MemPlace), cs.length = c ∧ (∀ j, j < c → w.cell? ⟨b, off + i * c + j, none⟩ = cs[j]?) ∧ DataW.trod enc P w 0 (fun _ => true) true n e cs = some y) := by
  obtain ⟨fuel, hf⟩ := h
  rcases open_slice ht hf with ⟨hcs, _⟩ | ⟨x, l, k, m, n, D, Pl, hcs, _, hl, hm, hmm, _, hel⟩
  · simp [Value.cells] at hcs
    obtain ⟨rfl, rfl, rfl⟩ := hcs
    exact ⟨Nat.zero_le _, Or.inl rfl⟩
  · simp [Value.cells] at hcs
    obtain ⟨rfl, rfl, rfl⟩ := hcs
    have hmk : m = cap := by simpa using hmm
    subst hmk
    refine ⟨by omega, ?_⟩
    rcases Nat.eq_zero_or_pos len with hz | hp
    · exact Or.inl hz
    right
    obtain ⟨cs0, h1, _⟩ := hel 0 (by omega)
    rw [hc] at h1
    obtain ⟨_, hl0, hc0⟩ := World.cells?_some h1
    have hb := World.cells?_block h1 h0
    have hs0 := hc0 0 (by omega)
    have hsp : x.spot = none := by
      have := hs0
      rw [List.getElem?_eq_getElem (by omega)] at this
      simpa [Addr.add] using World.cell?_spot this
    obtain ⟨b, off, spot⟩ := x
    simp only at hsp
    subst hsp
    refine ⟨b, off, rfl, by simpa [Addr.add] using hb, fun i hi => ?_⟩
    obtain ⟨cs, g1, g2⟩ := hel i (by omega)
    rw [hc] at g1
    obtain ⟨_, gl, gc⟩ := World.cells?_some g1
    exact ⟨cs, n, _, gl, fun j hj => by have := gc j hj; rw [addr_add, addr_add] at this; exact this, g2⟩

theorem cells_int : Tryd.prog.cellsOf 3 = 1 := by kernel_rfl
theorem wf_bounds {q : Int} (h : (Lit.int .i64 q).wf = true) : -9223372036854775808 ≤ q ∧ q ≤ 9223372036854775807 := by
  simpa [Lit.wf, IntKind.min, IntKind.max, IntKind.signed, IntKind.bits] using h
theorem open_ints {H : Type} {enc : TypeId × Value → H} {w : World} {a : Option Addr} {len cap : Nat} {d : DataW H} {p : List MemPlace}
    (h : DataW.Trod enc Tryd.prog w 0 (fun _ => true) true 23 (.slice a len cap) d p) : len ≤ maxLen ∧ ∃ X, Sl w a len 1 (intF X) ∧ ∀ i, i < len → -9223372036854775808 ≤ X i ∧ X i ≤ 9223372036854775807 := by
  obtain ⟨hl, h | ⟨b, off, rfl, hb, hel⟩⟩ := open_elems Tryd.underlying23 cells_int (by omega) h
  · exact ⟨hl, fun _ => 0, Or.inl h, fun i hi => by omega⟩
  · have each : ∀ i, i < len → ∃ q : Int, w.cell? ⟨b, off + i * 1 + 0, none⟩ = some (.int .i64 q) ∧ -9223372036854775808 ≤ q ∧ q ≤ 9223372036854775807 := by
      intro i hi
      obtain ⟨cs, n, y, hlen, hc, ht⟩ := hel i hi
      obtain ⟨v, rfl⟩ := list1 hlen
      obtain ⟨q, q0, _, wf⟩ := DataW.trod_int Tryd.underlying3 ht
      simp only [List.cons.injEq, and_true] at q0
      subst q0
      exact ⟨q, by rw [hc 0 (by omega)]; rfl, wf_bounds wf⟩
    obtain ⟨q, hq⟩ := choose_lt each
    refine ⟨hl, q, Or.inr ⟨b, off, rfl, hb, fun i hi j hj => ?_⟩, fun i hi => (hq i hi).2⟩
    have : j = 0 := by omega
    subst this
    exact (hq i hi).1
end Go.Proofs.YtkpobihpcnoemaaDoor
/- A list of bytes that came in: its elements. -/
namespace Go.Proofs.YtkpobihpcnoemaaDoor
open Go.RowKit Go.Deep
set_option linter.unusedVariables false
theorem cells_u8 : Tryd.prog.cellsOf 5 = 1 := by kernel_rfl
theorem wf_byte {q : Int} (h : (Lit.int .u8 q).wf = true) : 0 ≤ q ∧ q ≤ 255 := by
  simpa [Lit.wf, IntKind.min, IntKind.max, IntKind.signed, IntKind.bits] using h
theorem one_of {α : Type} {l : List α} (h : l.length = 1) : ∃ a, l = [a] := by
  match l, h with
  | [a], _ => exact ⟨a, rfl⟩
theorem open_bytes {H : Type} {enc : TypeId × Value → H} {w : World} {a : Option Addr} {len cap : Nat} {d : DataW H} {p : List MemPlace}
    (h : DataW.Trod enc Tryd.prog w 0 (fun _ => true) true 22 (.slice a len cap) d p) : len ≤ maxLen ∧ ∃ X, Sl w a len 1 (byF X) ∧ ∀ i, i < len → 0 ≤ X i ∧ X i ≤ 255 := by
  obtain ⟨hl, h | ⟨b, off, rfl, hb, hel⟩⟩ := open_elems Tryd.underlying22 cells_u8 (by omega) h
  · exact ⟨hl, fun _ => 0, Or.inl h, fun i hi => by omega⟩
  · have each : ∀ i, i < len → ∃ q : Int, w.cell? ⟨b, off + i * 1 + 0, none⟩ = some (.int .u8 q) ∧ 0 ≤ q ∧ q ≤ 255 := by
      intro i hi
      obtain ⟨cs, n, y, hlen, hc, ht⟩ := hel i hi
      obtain ⟨v, rfl⟩ := one_of hlen
      obtain ⟨q, q0, _, wf⟩ := DataW.trod_int Tryd.underlying5 ht
      simp only [List.cons.injEq, and_true] at q0
      subst q0
      exact ⟨q, by rw [hc 0 (by omega)]; rfl, wf_byte wf⟩
    obtain ⟨q, hq⟩ := choose_lt each
    refine ⟨hl, q, Or.inr ⟨b, off, rfl, hb, fun i hi j hj => ?_⟩, fun i hi => (hq i hi).2⟩
    have : j = 0 := by omega
    subst this
    exact (hq i hi).1
end Go.Proofs.YtkpobihpcnoemaaDoor
