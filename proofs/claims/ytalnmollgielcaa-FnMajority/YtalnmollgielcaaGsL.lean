/- Lists of groups: what they are in memory, and the contracts of the law's own functions on them. -/
import Derived.Test.YtalnmollgielcaaGrL
import Derived.Test.YtalnmollgielcaaRg2
import Derived.Test.YtalnmollgielcaaOpenG
namespace Go.Proofs.Ytalnmollgielcaa
open Go.RowKit
set_option linter.unusedVariables false

structure GV where
  n : Nat
  x : Nat → Int
structure GA where
  a : Option Addr
  c : Nat
instance : Inhabited GV := ⟨⟨0, fun _ => 0⟩⟩
instance : Inhabited GA := ⟨⟨none, 0⟩⟩
def gsF (V : Nat → GV) (A : Nat → GA) (i _ : Nat) : Value := .slice (A i).a (V i).n (A i).c
def GsS (w : World) (a : Option Addr) (n : Nat) (V : Nat → GV) (A : Nat → GA) : Prop := Sl w a n 1 (gsF V A) ∧ ∀ i, i < n → Sl w (A i).a (V i).n 1 (intF (V i).x)
theorem GsS.next {w w' : World} {a : Option Addr} {n : Nat} {V : Nat → GV} {A : Nat → GA} (h : GsS w a n V A) (hb : Below w.heap.size w w') : GsS w' a n V A := ⟨h.1.kept hb, fun i hi => (h.2 i hi).kept hb⟩
theorem gs_cell {w : World} {b off n k : Nat} {V : Nat → GV} {A : Nat → GA} (h : Elems w b off n 1 (gsF V A)) (hk : k < n) : w.cell? ⟨b, off + k, none⟩ = some (.slice (A k).a (V k).n (A k).c) := by
  have := h k hk 0 (by omega); simpa [gsF] using this
theorem info_group : (Try.prog.info? 25).map (fun i => (i.zero, i.size, i.bytes)) = some (some (.agg #[.slice none 0 0]), 1, 24) := by kernel_rfl
theorem upto_more {P : Nat → Prop} {k : Nat} (h : ∀ i, i < k → P i) (hk : P k) : ∀ i, i < k + 1 → P i := fun i hi => by
  by_cases e : i = k
  · subst e; exact hk
  · exact h i (by omega)

set_option maxHeartbeats 1000000 in
theorem szGroupS_any (a : Option Addr) (n cap : Nat) (V : Nat → GV) (A : Nat → GA) (w : World) (hn : n ≤ maxLen) (hs : GsS w a n V A) (hz : ∀ i, i < n → (V i).n ≤ maxLen) :
    Calls Try.prog 46 #[.slice a n cap, .int .i64 1048576] w fun r w' => ∃ l : Int, r = .returned (.int .i64 l) ∧ (0 ≤ l → n ≤ 1048576 ∧ ∀ i, i < n → (V i).n ≤ 1048576) ∧ Below w.heap.size w w' := by
  have hm := hn
  unfold maxLen at hm
  by_cases h : (1048576 : Int) - (n : Int) < 0
  · clear hs hz
    go_enter Try.func46, Try.ntmps46
    go_wp2
    go_ret
    exact ⟨-1, rfl, fun h => absurd h (by omega), Below.refl _ _⟩
  · have hn' : n ≤ 1048576 := by omega
    have HZ : Hid ((∀ i, i < n → (V i).n ≤ maxLen) ∧ GsS w a n V A) := ⟨hz, hs⟩
    clear hz hs
    go_enter Try.func46, Try.ntmps46
    go_wp2
    go_loopw [1, 5] (fun l i wr => ∃ (k : Nat) (x : Int), k ≤ n ∧ i = .int .i64 k ∧ l = .int .i64 x ∧ 0 ≤ x ∧ x ≤ 1048576 ∧ (∀ i, i < k → (V i).n ≤ 1048576) ∧ Below w.heap.size w wr) (fun _ i _ => n - (intOf i).toNat)
    case atStart => exact ⟨0, _, Nat.zero_le _, rfl, rfl, by omega, by omega, fun i hi => absurd hi (by omega), Below.refl _ _⟩
    case round =>
      obtain ⟨k, x, hk, rfl, rfl, hx0, hx1, hall, hBr⟩ := hrel
      by_cases hlt : k < n
      · rcases (HZ.out.2.next hBr).1 with h | ⟨b, off, rfl, hbs, hE⟩
        · omega
        have c0 := gs_cell hE hlt
        have hlt' : (k : Int) < (n : Int) := by omega
        have HB : Hid (Below w.heap.size w wr ∧ (∀ i, i < k → (V i).n ≤ 1048576)) := ⟨hBr, hall⟩
        have hL := HZ.out.1 k hlt
        clear hE hBr hall
        go_wp2_with fail
        refine (szGroup_any _ _ _ _ _ hL hx0 hx1).mono ?_
        rintro r w2 ⟨rfl, hb2⟩
        have HB2 : Hid (Below w.heap.size w w2) := HB.out.1.trans (hb2.mono HB.out.1.size)
        clear hb2 c0
        by_cases hy : x < ((V k).n : Int)
        · rw [if_pos hy]
          go_wp2
          go_ret
          exact ⟨-1, rfl, fun h => absurd h (by omega), HB2.out⟩
        · have hy0 : ¬ x - ((V k).n : Int) < 0 := by omega
          have HY : Hid ((V k).n ≤ 1048576) := Hid.intro (by omega)
          rw [if_neg hy]
          have hxx : 0 ≤ x - ((V k).n : Int) ∧ x - ((V k).n : Int) ≤ 1048576 := by omega
          generalize x - ((V k).n : Int) = z at *
          go_wp2
          go_roundw
          case rel => exact ⟨k + 1, z, by omega, by go_num, rfl, by omega, by omega, upto_more HB.out.2 HY.out, HB2.out⟩
          case measure => simp [intOf]; omega
      · have hkn : k = n := by omega
        subst hkn
        have HB : Hid (Below w.heap.size w wr ∧ (∀ i, i < k → (V i).n ≤ 1048576)) := ⟨hBr, hall⟩
        clear hBr hall
        go_wp2
        go_ret
        exact ⟨x, rfl, fun _ => ⟨hn', HB.out.2⟩, HB.out.1⟩

/-- Block g holds n groups whose lists lie in blocks of their own (b i), no two in one; all in blocks of lo..hi-1. -/
structure GsD (w : World) (a : Option Addr) (g lo hi n : Nat) (V : Nat → GV) (A : Nat → GA) (b : Nat → Nat) : Prop where
  at0 : n = 0 ∨ (a = some ⟨g, 0, none⟩ ∧ lo ≤ g ∧ g < hi)
  row : ∀ i, i < n → w.cell? ⟨g, i, none⟩ = some (.slice (A i).a (V i).n (A i).c)
  lst : ∀ i, i < n → IntS w (b i) (b i + 1) (A i).a (V i).n (V i).x
  lay : ∀ i, i < n → (V i).n ≠ 0 → lo ≤ b i ∧ b i < hi ∧ b i ≠ g
  one : ∀ i j, i < j → j < n → (V i).n ≠ 0 → (V j).n ≠ 0 → b i ≠ b j
  top : hi ≤ w.heap.size
theorem GsD.gs {w : World} {a : Option Addr} {g lo hi n : Nat} {V : Nat → GV} {A : Nat → GA} {b : Nat → Nat} (h : GsD w a g lo hi n V A b) : GsS w a n V A := by
  refine ⟨?_, fun i hi => (h.lst i hi).sl⟩
  rcases h.at0 with e | ⟨e, _, e2⟩
  · exact Or.inl e
  · refine Or.inr ⟨g, 0, e, Nat.lt_of_lt_of_le e2 h.top, fun i hi j hj => ?_⟩
    have : j = 0 := by omega
    subst this
    have := h.row i hi
    simpa [gsF] using this
theorem ints_same {w w' : World} {b : Nat} {a : Option Addr} {n : Nat} {X : Nat → Int} (h : IntS w b (b + 1) a n X) (hb : n ≠ 0 → w'.heap[b]? = w.heap[b]?) (hs : w.heap.size ≤ w'.heap.size) : IntS w' b (b + 1) a n X := by
  rcases h with h | ⟨g, ha, hB, hc, hg, hx⟩
  · exact Or.inl h
  · by_cases e : n = 0
    · exact Or.inl e
    · have eg : g = b := by omega
      subst eg
      exact Or.inr ⟨g, ha, hB, hc, Nat.lt_of_lt_of_le hg hs, fun i hi => ⟨(World.cell?_of_block (a := ⟨g, i, none⟩) (hb e)).trans (hx i hi).1, (World.frozen?_of_block (a := ⟨g, i, none⟩) (hb e)).trans (hx i hi).2⟩⟩
theorem GsD.next {w w' : World} {a : Option Addr} {g lo hi n : Nat} {V : Nat → GV} {A : Nat → GA} {b : Nat → Nat} (h : GsD w a g lo hi n V A b) (hb : Below w.heap.size w w') : GsD w' a g lo hi n V A b :=
  ⟨h.at0, fun i hi => by
    have hg : g < w.heap.size := by rcases h.at0 with e | e; · omega
                                    · have := h.top; omega
    exact (hb.cell (p := ⟨g, i, none⟩) hg).trans (h.row i hi), fun i hi => ints_same (h.lst i hi) (fun e => hb.block _ (by have := (h.lay i hi e).2.1; have := h.top; omega)) hb.size, h.lay, h.one, Nat.le_trans h.top hb.size⟩
theorem GsD.turn {w w' : World} {B C : Nat} {a : Option Addr} {g lo hi n : Nat} {V : Nat → GV} {A : Nat → GA} {b : Nat → Nat} (h : GsD w a g lo hi n V A b) (ht : Turned B C w w') (ha : hi ≤ B ∨ C ≤ lo) : GsD w' a g lo hi n V A b :=
  ⟨h.at0, fun i hi => by
    have hg : g < w.heap.size ∧ (g < B ∨ C ≤ g) := by rcases h.at0 with e | e; · omega
                                                      · have := h.top; omega
    exact (World.cell?_of_block (a := ⟨g, i, none⟩) (ht.2.2.2.2 g hg.1 hg.2)).trans (h.row i hi), fun i hi => ints_same (h.lst i hi) (fun e => ht.2.2.2.2 _ (by have := (h.lay i hi e).2.1; have := h.top; omega) (by have := h.lay i hi e; omega)) ht.2.2.2.1, h.lay, h.one, Nat.le_trans h.top ht.2.2.2.1⟩
/-- One list turned, the others not. -/
theorem GsD.one_turn {w w' : World} {a : Option Addr} {g lo hi n k : Nat} {V : Nat → GV} {A : Nat → GA} {b : Nat → Nat} {Y : Nat → Int} (h : GsD w a g lo hi n V A b) (hk : k < n) (hne : (V k).n ≠ 0) (ht : Turned (b k) (b k + 1) w w') (hi' : IntS w' (b k) (b k + 1) (A k).a (V k).n Y) :
    GsD w' a g lo hi n (fun i => if i = k then ⟨(V k).n, Y⟩ else V i) A b := by
  have hL := h.lay k hk hne
  have en : ∀ i, ((fun i => if i = k then (⟨(V k).n, Y⟩ : GV) else V i) i).n = (V i).n := fun i => by
    by_cases e : i = k
    · subst e; simp
    · simp [e]
  refine ⟨h.at0, fun i hi => ?_, fun i hi => ?_, fun i hi e => h.lay i hi (by rw [← en i]; exact e), fun i j hij hj e f => h.one i j hij hj (by rw [← en i]; exact e) (by rw [← en j]; exact f), Nat.le_trans h.top ht.2.2.2.1⟩
  · have hg : g < w.heap.size := by rcases h.at0 with e | e; · omega
                                    · have := h.top; omega
    rw [en i]
    exact (World.cell?_of_block (a := ⟨g, i, none⟩) (ht.2.2.2.2 g hg (by omega))).trans (h.row i hi)
  · by_cases e : i = k
    · subst e; simpa using hi'
    · simp only [if_neg e]
      refine ints_same (h.lst i hi) (fun ne => ht.2.2.2.2 _ (by have := (h.lay i hi ne).2.1; have := h.top; omega) ?_) ht.2.2.2.1
      have : b i ≠ b k := by
        rcases Nat.lt_or_ge i k with q | q
        · exact h.one i k q hk ne hne
        · exact fun e2 => h.one k i (by omega) hi hne ne e2.symm
      omega
theorem GsD.congr {w : World} {a : Option Addr} {g lo hi n : Nat} {V V' : Nat → GV} {A : Nat → GA} {b : Nat → Nat} (h : GsD w a g lo hi n V A b) (e : ∀ i, i < n → (V' i).n = (V i).n ∧ ∀ j, j < (V i).n → (V' i).x j = (V i).x j) : GsD w a g lo hi n V' A b :=
  ⟨h.at0, fun i hi => by rw [(e i hi).1]; exact h.row i hi, fun i hi => by rw [(e i hi).1]; exact (h.lst i hi).congr (fun j hj => ((e i hi).2 j hj).symm), fun i hi q => h.lay i hi (by rw [← (e i hi).1]; exact q), fun i j hij hj q r => h.one i j hij hj (by rw [← (e i (by omega)).1]; exact q) (by rw [← (e j hj).1]; exact r), h.top⟩
theorem open_groups {H : Type} {enc : TypeId × Value → H} {w : World} {a : Option Addr} {len cap : Nat} {d : DataW H} {p : List MemPlace}
    (h : DataW.Trod enc Try.prog w 0 (fun _ => true) true 60 (.slice a len cap) d p) : len ≤ maxLen ∧ ∃ V A, GsS w a len V A ∧ ∀ i, i < len → (V i).n ≤ maxLen := by
  obtain ⟨hl, h | ⟨b, off, rfl, hb, hel⟩⟩ := open_elems Try.underlying60 cells_group (by omega) h
  · exact ⟨hl, fun _ => default, fun _ => default, ⟨Or.inl h, fun i hi => by omega⟩, fun i hi => by omega⟩
  · have each : ∀ i, i < len → ∃ q : GV × GA, w.cell? ⟨b, off + i * 1 + 0, none⟩ = some (.slice q.2.a q.1.n q.2.c) ∧ q.1.n ≤ maxLen ∧ Sl w q.2.a q.1.n 1 (intF q.1.x) := by
      intro i hi
      obtain ⟨cs, m, y, hlen, hc, ht⟩ := hel i hi
      obtain ⟨v, rfl⟩ := list1 hlen
      obtain ⟨y0, m', _, _, h0⟩ := Go.ChangeShapes.trod_struct1 Try.underlying49 ht
      have h0' : DataW.trod enc Try.prog w 0 (fun _ => true) true m' 23 [v] = some y0 := by simpa [cells_slice, Value.cells] using h0
      have hform : ∃ a n cap, v = .slice a n cap := by
        rcases Go.Deep.open_slice Try.underlying23 h0' with ⟨hcs, _⟩ | ⟨x, l, k, m, n, D, Pl, hcs, _⟩
        · simp at hcs; exact ⟨_, _, _, hcs⟩
        · simp at hcs; exact ⟨_, _, _, hcs⟩
      obtain ⟨a', n', cap', rfl⟩ := hform
      obtain ⟨hl, X, hs, _⟩ := open_ints (w := w) (a := a') (len := n') (cap := cap') (d := y0.1) (p := y0.2) ⟨m', by simpa [Value.cells] using h0'⟩
      exact ⟨(⟨n', X⟩, ⟨a', cap'⟩), by rw [hc 0 (by omega)]; rfl, hl, hs⟩
    obtain ⟨q, hq⟩ := Go.Deep.choose_lt each
    refine ⟨hl, fun i => (q i).1, fun i => (q i).2, ⟨Or.inr ⟨b, off, rfl, hb, fun i hi j hj => ?_⟩, fun i hi => (hq i hi).2.2⟩, fun i hi => (hq i hi).2.1⟩
    have : j = 0 := by omega
    subst this
    exact (hq i hi).1
end Go.Proofs.Ytalnmollgielcaa
