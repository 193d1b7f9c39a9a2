/- How a list of locks that came in is read: each lock's key and its two lists. -/
import Derived.Test.YtnapgnkhajkbkaaLkL
import Derived.Test.YtnapgnkhajkbkaaRows
import Derived.ProofKit
import Derived.OpenShut
import Derived.Deep.Slices
import Derived.ChangeOld
import Derived.Deep.Strs
namespace Go.Proofs.Ytnapgnkhajkbkaa
open Go.RowKit Go.Deep
set_option linter.unusedVariables false

theorem addr_add (b off n : Nat) : (⟨b, off, none⟩ : Addr).add n = ⟨b, off + n, none⟩ := by
  unfold Addr.add; split <;> simp_all
theorem list3 {α : Type} {l : List α} (h : l.length = 3) : ∃ a b c, l = [a, b, c] := by
  match l, h with
  | [a, b, c], _ => exact ⟨a, b, c, rfl⟩
theorem list2 {α : Type} {l : List α} (h : l.length = 2) : ∃ a b, l = [a, b] := by
  match l, h with
  | [a, b], _ => exact ⟨a, b, rfl⟩
theorem list1 {α : Type} {l : List α} (h : l.length = 1) : ∃ a, l = [a] := by
  match l, h with
  | [a], _ => exact ⟨a, rfl⟩
theorem open_elems {H : Type} {enc : TypeId × Value → H} {P : Program} {w : World} {t e : TypeId} {a : Option Addr} {len cap c : Nat} {d : DataW H} {p : List MemPlace} (ht : P.underlying t = some (.slice e)) (hc : P.cellsOf e = c) (h0 : 0 < c)
    (h : DataW.Trod enc P w 0 (fun _ => true) true t (.slice a len cap) d p) :
    (len ≤ maxLen ∧ len ≤ cap) ∧ (len = 0 ∨ ∃ b off, a = some ⟨b, off, none⟩ ∧ b < w.heap.size ∧ ∀ i, i < len → ∃ (cs : List Value) (n : Nat) (y : DataW H × List MemPlace), cs.length = c ∧ (∀ j, j < c → w.cell? ⟨b, off + i * c + j, none⟩ = cs[j]?) ∧ DataW.trod enc P w 0 (fun _ => true) true n e cs = some y) := by
  obtain ⟨fuel, hf⟩ := h
  rcases open_slice ht hf with ⟨hcs, _⟩ | ⟨x, l, k, m, n, D, Pl, hcs, _, hl, hm, hmm, _, hel⟩
  · simp [Value.cells] at hcs
    obtain ⟨rfl, rfl, rfl⟩ := hcs
    exact ⟨⟨Nat.zero_le _, Nat.le_refl _⟩, Or.inl rfl⟩
  · simp [Value.cells] at hcs
    obtain ⟨rfl, rfl, rfl⟩ := hcs
    have hmk : m = cap := by simpa using hmm
    subst hmk
    refine ⟨⟨by omega, by omega⟩, ?_⟩
    rcases Nat.eq_zero_or_pos len with hz | hp
    · exact Or.inl hz
    right
    obtain ⟨cs0, h1, _⟩ := hel 0 (by omega)
    rw [hc] at h1
    obtain ⟨_, hl0, hc0⟩ := World.cells?_some h1
    have hb := World.cells?_block h1 h0
    have hs0 := hc0 0 (by omega)
    have hsp : x.spot = none := by
      have := hs0
      rw [List.getElem?_eq_getElem (by omega)] at this
      simpa [Addr.add] using World.cell?_spot this
    obtain ⟨b, off, spot⟩ := x
    simp only at hsp
    subst hsp
    refine ⟨b, off, rfl, by simpa [Addr.add] using hb, fun i hi => ?_⟩
    obtain ⟨cs, g1, g2⟩ := hel i (by omega)
    rw [hc] at g1
    obtain ⟨_, gl, gc⟩ := World.cells?_some g1
    exact ⟨cs, n, _, gl, fun j hj => by have := gc j hj; rw [addr_add, addr_add] at this; exact this, g2⟩
theorem cells_int : Try.prog.cellsOf 3 = 1 := by kernel_rfl
theorem cells_str : Try.prog.cellsOf 9 = 1 := by kernel_rfl
theorem cells_lawsHold : Try.prog.cellsOf 155 = 2 := by kernel_rfl
theorem cells_lawsHolds : Try.prog.cellsOf 108 = 1 := by kernel_rfl
theorem cells_lawsLock : Try.prog.cellsOf 110 = 3 := by kernel_rfl
theorem wf_bounds {q : Int} (h : (Lit.int .i64 q).wf = true) : -9223372036854775808 ≤ q ∧ q ≤ 9223372036854775807 := by
  simpa [Lit.wf, IntKind.min, IntKind.max, IntKind.signed, IntKind.bits] using h
theorem read_hold {H : Type} {enc : TypeId × Value → H} {w : World} {sp : Nat → Bool} {hd : Bool} {n : Nat} {cs : List Value} {y : DataW H × List MemPlace} (h : DataW.trod enc Try.prog w 0 sp hd n 155 cs = some y) :
    ∃ q : Int × Int, cs = [.int .i64 q.1, .int .i64 q.2] := by
  obtain ⟨y0, y1, m, _, hl, h0, h1⟩ := Go.ChangeShapes.trod_struct2 Try.underlying155 h
  rw [cells_lawsHold] at hl
  obtain ⟨v0, v1, rfl⟩ := list2 hl
  obtain ⟨e, q0, _⟩ := DataW.trod_int Try.underlying3 h0
  obtain ⟨s, q1, _⟩ := DataW.trod_int Try.underlying3 h1
  simp [cells_int] at q0 q1
  exact ⟨(e, s), by simp [q0, q1]⟩
theorem open_holds {H : Type} {enc : TypeId × Value → H} {w : World} {a : Option Addr} {len cap : Nat} {d : DataW H} {p : List MemPlace}
    (h : DataW.Trod enc Try.prog w 0 (fun _ => true) true 108 (.slice a len cap) d p) : (len ≤ maxLen ∧ len ≤ cap) ∧ ∃ T M, Sl w a len 2 (hdF T M) := by
  obtain ⟨hl, h | ⟨b, off, rfl, hb, hel⟩⟩ := open_elems Try.underlying108 cells_lawsHold (by omega) h
  · exact ⟨hl, fun _ => 0, fun _ => 0, Or.inl h⟩
  · have each : ∀ i, i < len → ∃ q : Int × Int, (∀ j, j < 2 → w.cell? ⟨b, off + i * 2 + j, none⟩ = [Value.int .i64 q.1, .int .i64 q.2][j]?) := by
      intro i hi
      obtain ⟨cs, n, y, _, hc, ht⟩ := hel i hi
      obtain ⟨q, rfl⟩ := read_hold ht
      exact ⟨q, hc⟩
    obtain ⟨q, hq⟩ := choose_lt each
    refine ⟨hl, fun i => (q i).1, fun i => (q i).2, Or.inr ⟨b, off, rfl, hb, fun i hi j hj => ?_⟩⟩
    rw [hq i hi j hj]
    match j, hj with
    | 0, _ => rfl
    | 1, _ => rfl
theorem holds_form {H : Type} {enc : TypeId × Value → H} {w : World} {m : Nat} {c0 : Value} {y0 : DataW H × List MemPlace} (h : DataW.trod enc Try.prog w 0 (fun _ => true) true m 108 [c0] = some y0) :
    ∃ a n cap, c0 = .slice a n cap ∧ (n ≤ maxLen ∧ n ≤ cap) ∧ ∃ T M, Sl w a n 2 (hdF T M) := by
  have hform : ∃ a n cap, c0 = .slice a n cap := by
    rcases open_slice Try.underlying108 h with ⟨hcs, _⟩ | ⟨x, l, k, m, n, D, Pl, hcs, _⟩
    · simp at hcs; exact ⟨_, _, _, hcs⟩
    · simp at hcs; exact ⟨_, _, _, hcs⟩
  obtain ⟨a, n, cap, rfl⟩ := hform
  obtain ⟨hl, T, M, hs⟩ := open_holds (w := w) (a := a) (len := n) (cap := cap) (d := y0.1) (p := y0.2) ⟨m, by simpa [Value.cells] using h⟩
  exact ⟨a, n, cap, rfl, hl, T, M, hs⟩
instance : Inhabited HL := ⟨⟨0, fun _ => 0, fun _ => 0⟩⟩
instance : Inhabited LkV := ⟨⟨⟨#[]⟩, default, default⟩⟩
instance : Inhabited LkA := ⟨⟨none, 0, none, 0⟩⟩
theorem read_lock {H : Type} {enc : TypeId × Value → H} {w : World} {n : Nat} {cs : List Value} {y : DataW H × List MemPlace} (h : DataW.trod enc Try.prog w 0 (fun _ => true) true n 110 cs = some y) :
    ∃ q : LkV × LkA, cs = [.string q.1.key, .slice q.2.ha q.1.h.n q.2.hc, .slice q.2.wa q.1.w.n q.2.wc] ∧ LkLen q.1 ∧ HdAt w q.2 q.1 := by
  obtain ⟨y0, y1, y2, m, _, hl, h0, h1, h2⟩ := trod_struct3 Try.underlying110 h
  rw [cells_lawsLock] at hl
  obtain ⟨v0, v1, v2, rfl⟩ := list3 hl
  obtain ⟨b, q0, _, z⟩ := DataW.trod_string Try.underlying9 h0
  simp [cells_str, cells_lawsHolds] at q0 h1 h2
  obtain ⟨a1, n1, c1, rfl, ⟨l1, k1⟩, T1, M1, s1⟩ := holds_form h1
  obtain ⟨a2, n2, c2, rfl, ⟨l2, k2⟩, T2, M2, s2⟩ := holds_form h2
  exact ⟨(⟨b, ⟨n1, T1, M1⟩, ⟨n2, T2, M2⟩⟩, ⟨a1, c1, a2, c2⟩), by simp [q0], ⟨z, l1, l2⟩, s1, s2, k1, k2⟩
theorem open_locks {H : Type} {enc : TypeId × Value → H} {w : World} {a : Option Addr} {len cap : Nat} {d : DataW H} {p : List MemPlace}
    (h : DataW.Trod enc Try.prog w 0 (fun _ => true) true 52 (.slice a len cap) d p) : len ≤ maxLen ∧ ∃ V A, LkS w a len V A ∧ ∀ i, i < len → LkLen (V i) := by
  obtain ⟨⟨hl, _⟩, h | ⟨b, off, rfl, hb, hel⟩⟩ := open_elems Try.underlying52 cells_lawsLock (by omega) h
  · exact ⟨hl, fun _ => default, fun _ => default, ⟨Or.inl h, fun i hi => by omega⟩, fun i hi => by omega⟩
  · have each : ∀ i, i < len → ∃ q : LkV × LkA, (∀ j, j < 3 → w.cell? ⟨b, off + i * 3 + j, none⟩ = [Value.string q.1.key, .slice q.2.ha q.1.h.n q.2.hc, .slice q.2.wa q.1.w.n q.2.wc][j]?) ∧ LkLen q.1 ∧ HdAt w q.2 q.1 := by
      intro i hi
      obtain ⟨cs, n, y, _, hc, ht⟩ := hel i hi
      obtain ⟨q, rfl, hq⟩ := read_lock ht
      exact ⟨q, hc, hq⟩
    obtain ⟨q, hq⟩ := choose_lt each
    refine ⟨hl, fun i => (q i).1, fun i => (q i).2, ⟨Or.inr ⟨b, off, rfl, hb, fun i hi j hj => ?_⟩, fun i hi => (hq i hi).2.2⟩, fun i hi => (hq i hi).2.1⟩
    rw [(hq i hi).1 j hj]
    match j, hj with
    | 0, _ => rfl
    | 1, _ => rfl
    | 2, _ => rfl
end Go.Proofs.Ytnapgnkhajkbkaa
