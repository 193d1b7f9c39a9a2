/- How lists of structs that came in are read: each element's cells. -/
import Derived.Test.YtbklhmeaoigneaaMem
import Derived.Test.YtbklhmeaoigneaaRows
import Derived.ProofKit
import Derived.Deep.Slices
import Derived.ChangeOld
import Derived.Deep.Strs
namespace Go.Proofs.Ytbklhmeaoigneaa
open Go.RowKit Go.Deep
set_option linter.unusedVariables false

theorem addr_add (b off n : Nat) : (⟨b, off, none⟩ : Addr).add n = ⟨b, off + n, none⟩ := by
  unfold Addr.add; split <;> simp_all
theorem list3 {α : Type} {l : List α} (h : l.length = 3) : ∃ a b c, l = [a, b, c] := by
  match l, h with
  | [a, b, c], _ => exact ⟨a, b, c, rfl⟩
theorem open_elems {H : Type} {enc : TypeId × Value → H} {P : Program} {w : World} {t e : TypeId} {a : Option Addr} {len cap c : Nat} {d : DataW H} {p : List MemPlace} (ht : P.underlying t = some (.slice e)) (hc : P.cellsOf e = c) (h0 : 0 < c)
    (h : DataW.Trod enc P w 0 (fun _ => true) true t (.slice a len cap) d p) :
    len ≤ maxLen ∧ (len = 0 ∨ ∃ b off, a = some ⟨b, off, none⟩ ∧ b < w.heap.size ∧ ∀ i, i < len → ∃ (cs : List Value) (n : Nat) (y : DataW H × List MemPlace), cs.length = c ∧ (∀ j, j < c → w.cell? ⟨b, off + i * c + j, none⟩ = cs[j]?) ∧ DataW.trod enc P w 0 (fun _ => true) true n e cs = some y) := by
  obtain ⟨fuel, hf⟩ := h
  rcases open_slice ht hf with ⟨hcs, _⟩ | ⟨x, l, k, m, n, D, Pl, hcs, _, hl, hm, hmm, _, hel⟩
  · simp [Value.cells] at hcs
    obtain ⟨rfl, rfl, rfl⟩ := hcs
    exact ⟨Nat.zero_le _, Or.inl rfl⟩
  · simp [Value.cells] at hcs
    obtain ⟨rfl, rfl, rfl⟩ := hcs
    have hmk : m = cap := by simpa using hmm
    subst hmk
    refine ⟨by omega, ?_⟩
    rcases Nat.eq_zero_or_pos len with hz | hp
    · exact Or.inl hz
    right
    obtain ⟨cs0, h1, _⟩ := hel 0 (by omega)
    rw [hc] at h1
    obtain ⟨_, hl0, hc0⟩ := World.cells?_some h1
    have hb := World.cells?_block h1 h0
    have hs0 := hc0 0 (by omega)
    have hsp : x.spot = none := by
      have := hs0
      rw [List.getElem?_eq_getElem (by omega)] at this
      simpa [Addr.add] using World.cell?_spot this
    obtain ⟨b, off, spot⟩ := x
    simp only at hsp
    subst hsp
    refine ⟨b, off, rfl, by simpa [Addr.add] using hb, fun i hi => ?_⟩
    obtain ⟨cs, g1, g2⟩ := hel i (by omega)
    rw [hc] at g1
    obtain ⟨_, gl, gc⟩ := World.cells?_some g1
    exact ⟨cs, n, _, gl, fun j hj => by have := gc j hj; rw [addr_add, addr_add] at this; exact this, g2⟩

theorem cells_int : Try.prog.cellsOf 3 = 1 := by kernel_rfl
theorem cells_bool : Try.prog.cellsOf 4 = 1 := by kernel_rfl
theorem cells_string : Try.prog.cellsOf 9 = 1 := by kernel_rfl
theorem cells_lawsTid : Try.prog.cellsOf 54 = 3 := by kernel_rfl
theorem read_tid {H : Type} {enc : TypeId × Value → H} {w : World} {sp : Nat → Bool} {hd : Bool} {n : Nat} {cs : List Value} {y : DataW H × List MemPlace} (h : DataW.trod enc Try.prog w 0 sp hd n 54 cs = some y) :
    ∃ q : Int × Int × Bool, cs = [.int .i64 q.1, .int .i64 q.2.1, .bool q.2.2] := by
  obtain ⟨y0, y1, y2, m, _, hl, h0, h1, h2⟩ := trod_struct3 Try.underlying54 h
  rw [cells_lawsTid] at hl
  obtain ⟨v0, v1, v2, rfl⟩ := list3 hl
  obtain ⟨e, q0, _⟩ := DataW.trod_int Try.underlying3 h0
  obtain ⟨s, q1, _⟩ := DataW.trod_int Try.underlying3 h1
  obtain ⟨b, q2, _⟩ := DataW.trod_bool Try.underlying4 h2
  simp [cells_int, cells_bool] at q0 q1 q2
  exact ⟨(e, s, b), by simp [q0, q1, q2]⟩
end Go.Proofs.Ytbklhmeaoigneaa
