/- Put together of: Mem, Turn, Sh, NtS, Bx, In, IntF, Ints, RowS, ShP, ShA, Ng. -/
import Derived.WalkKit
import Derived.WalkSpells
import Derived.WalkLawsBesides
import Derived.Lib.SmallJoins
import Derived.Deep.AppendLies
import Derived.Test.YtaofolbnommpgaaProg
import Derived.Deep.RegionWith
import Derived.Deep.DeepCutAuto
import Derived.Lib.OwnBridge
import Derived.Maps.AppendAt
/- Rows of structs in memory: the plain laws on cells that the walks use. No Go text is spoken of here. -/
namespace Go.Proofs.Ytaofolbnommpgaa
open Go.RowKit
set_option linter.unusedVariables false

/-- n elements of c cells each, from offset 'off' of block g on: cell j of element i holds 'F i j'. -/
def Elems (w : World) (g off n c : Nat) (F : Nat → Nat → Value) : Prop := ∀ i, i < n → ∀ j, j < c → w.cell? ⟨g, off + i * c + j, none⟩ = some (F i j)
/-- A row of m cells that may be written. -/
def Room (w : World) (g m : Nat) : Prop := ∀ q, q < m → (∃ v, w.cell? ⟨g, q, none⟩ = some v) ∧ w.frozen? ⟨g, q, none⟩ = false
/-- The values, one behind the other, from a place on. -/
def put (w : World) (g o : Nat) : List Value → World
  | [] => w
  | v :: vs => put (w.setCell ⟨g, o, none⟩ v) g (o + 1) vs
/-- A slice's n elements of c cells each. -/
def Sl (w : World) (a : Option Addr) (n c : Nat) (F : Nat → Nat → Value) : Prop :=
  n = 0 ∨ ∃ b off, a = some ⟨b, off, none⟩ ∧ b < w.heap.size ∧ Elems w b off n c F

theorem upto_succ {P : Nat → Prop} {k : Nat} (h : ∀ i, i < k → P i) (hk : P k) : ∀ i, i < k + 1 → P i := by
  intro i hi
  rcases Nat.lt_or_ge i k with g | g
  · exact h i g
  · have : i = k := by omega
    subst this; exact hk
theorem addr_ne {g q q' : Nat} (h : q ≠ q') : (⟨g, q, none⟩ : Addr) ≠ ⟨g, q', none⟩ := fun e => h (by injection e)
theorem addr_ne' {g g' q q' : Nat} (h : g ≠ g') : (⟨g, q, none⟩ : Addr) ≠ ⟨g', q', none⟩ := fun e => h (by injection e)

theorem Elems.below {B : Nat} {w w' : World} {g off n c : Nat} {F : Nat → Nat → Value} (h : Elems w g off n c F) (hb : Below B w w') (hg : g < B) : Elems w' g off n c F :=
  fun i hi j hj => (hb.cell (p := ⟨g, off + i * c + j, none⟩) hg).trans (h i hi j hj)
theorem Elems.le {w : World} {g off n n' c : Nat} {F : Nat → Nat → Value} (h : Elems w g off n c F) (hn : n' ≤ n) : Elems w g off n' c F :=
  fun i hi j hj => h i (by omega) j hj
theorem Room.below {B : Nat} {w w' : World} {g m : Nat} (h : Room w g m) (hb : Below B w w') (hg : g < B) : Room w' g m :=
  fun q hq => ⟨by obtain ⟨v, hv⟩ := (h q hq).1; exact ⟨v, (hb.cell (p := ⟨g, q, none⟩) hg).trans hv⟩, (hb.frozen (p := ⟨g, q, none⟩) hg).trans (h q hq).2⟩
theorem Sl.below {B : Nat} {w w' : World} {a : Option Addr} {n c : Nat} {F : Nat → Nat → Value} (h : Sl w a n c F) (hb : Below B w w') (hB : w.heap.size ≤ B) : Sl w' a n c F := by
  rcases h with h | ⟨b, off, rfl, hlt, hE⟩
  · exact Or.inl h
  · exact Or.inr ⟨b, off, rfl, Nat.lt_of_lt_of_le hlt hb.size, hE.below hb (by omega)⟩

theorem Room.set {w : World} {g m o : Nat} {v : Value} (h : Room w g m) (ho : o < m) : Room (w.setCell ⟨g, o, none⟩ v) g m := by
  intro q hq
  obtain ⟨⟨u, hu⟩, hf⟩ := h q hq
  obtain ⟨u', hu'⟩ := cell?_setCell_some (p := ⟨g, o, none⟩) (x := v) hu
  exact ⟨⟨u', hu'⟩, by simpa using hf⟩
theorem put_room {g m : Nat} : ∀ (vs : List Value) (w : World) (o : Nat), Room w g m → o + vs.length ≤ m → Room (put w g o vs) g m
  | [], _, _, h, _ => h
  | v :: vs, w, o, h, ho => put_room vs _ (o + 1) (h.set (by simp at ho; omega)) (by simp at ho; omega)
theorem put_out {g : Nat} : ∀ (vs : List Value) (w : World) (o q : Nat), (q < o ∨ o + vs.length ≤ q) → (put w g o vs).cell? ⟨g, q, none⟩ = w.cell? ⟨g, q, none⟩
  | [], _, _, _, _ => rfl
  | v :: vs, w, o, q, h => by
    rw [put, put_out vs _ (o + 1) q (by simp at h; omega), World.cell?_setCell_other _ _ _ _ (addr_ne (by simp at h; omega))]
theorem put_in {g m : Nat} : ∀ (vs : List Value) (w : World) (o : Nat), Room w g m → o + vs.length ≤ m → ∀ j v, vs[j]? = some v → (put w g o vs).cell? ⟨g, o + j, none⟩ = some v
  | [], _, _, _, _, j, v, hj => by simp at hj
  | u :: vs, w, o, h, ho, j, v, hj => by
    have ho' : o + 1 + vs.length ≤ m := by simp at ho; omega
    cases j with
    | zero =>
      simp at hj; subst hj
      obtain ⟨⟨x, hx⟩, _⟩ := h o (by omega)
      rw [put, put_out vs _ (o + 1) (o + 0) (by omega)]
      exact World.cell?_setCell_same _ _ _ hx
    | succ j =>
      have := put_in vs (w.setCell ⟨g, o, none⟩ u) (o + 1) (h.set (by omega)) ho' j v (by simpa using hj)
      rw [put, show o + (j + 1) = o + 1 + j by omega]; exact this
theorem put_below {g B : Nat} (hB : B ≤ g) : ∀ (vs : List Value) (a w : World) (o : Nat), Below B a w → Below B a (put w g o vs)
  | [], _, _, _, h => h
  | v :: vs, a, w, o, h => put_below hB vs a _ (o + 1) (h.setCell (p := ⟨g, o, none⟩) hB v)
theorem put_size {g : Nat} : ∀ (vs : List Value) (w : World) (o : Nat), (put w g o vs).heap.size = w.heap.size
  | [], _, _ => rfl
  | v :: vs, w, o => by rw [put, put_size vs]; simp

/-- Element k is laid behind the first k. -/
theorem Elems.step {w : World} {g n k c : Nat} {F : Nat → Nat → Value} {vs : List Value} (h : Elems w g 0 k c F) (hr : Room w g (n * c)) (hk : k < n) (hc : vs.length = c) (hv : ∀ j, j < c → vs[j]? = some (F k j)) :
    Elems (put w g (k * c) vs) g 0 (k + 1) c F := by
  have hle : k * c + c ≤ n * c := by
    have := Nat.mul_le_mul_right c (show k + 1 ≤ n by omega)
    rw [Nat.add_mul, Nat.one_mul] at this; exact this
  intro i hi j hj
  rw [Nat.zero_add]
  rcases Nat.lt_or_ge i k with hlt | hge
  · have : i * c + c ≤ k * c := by
      have := Nat.mul_le_mul_right c (show i + 1 ≤ k by omega)
      rw [Nat.add_mul, Nat.one_mul] at this; exact this
    rw [put_out vs w (k * c) (i * c + j) (by omega)]
    have := h i hlt j hj
    rwa [Nat.zero_add] at this
  · have hik : i = k := by omega
    subst hik
    exact put_in vs w (i * c) hr (by omega) j (F i j) (hv j hj)

/-- The row that 'make' has laid may be written. -/
theorem room_made {w : World} {base g n size cap : Nat} {e : TypeId} {xs : List Value} (h : w.ownsRow base e size (.slice (some ⟨g, 0, none⟩) n cap) n xs) : Room w g (n * size) := by
  obtain ⟨hl, h | ⟨g', cap', cur, hv, hb, hh, hn, hm, hs, ht⟩⟩ := h
  · exact absurd h.1 (by simp)
  · simp only [Value.slice.injEq, Option.some.injEq, Addr.mk.injEq, and_true, true_and] at hv
    obtain ⟨rfl, rfl⟩ := hv
    intro q hq
    have hq' : q < cur.size := by rw [hs]; exact Nat.lt_of_lt_of_le hq (Nat.mul_le_mul_right _ hn)
    refine ⟨⟨cur[q], ?_⟩, ?_⟩
    · rw [Go.Joins.cell_of_block hh]; simp [hq']
    · exact Go.Joins.unfrozen_of_block hh q
end Go.Proofs.Ytaofolbnommpgaa
/- Only some blocks have turned. Rows of structs that a call owns: n elements of c cells each. No Go text is spoken of here. -/
namespace Go.Proofs.Ytaofolbnommpgaa
open Go.RowKit
set_option linter.unusedVariables false

/-- Blocks B..C-1 may have turned, no others. -/
def Trn (B C : Nat) (w w' : World) : Prop := w'.os = w.os ∧ w'.tape = w.tape ∧ w'.output = w.output ∧ w.heap.size ≤ w'.heap.size ∧ ∀ k, k < w.heap.size → (k < B ∨ C ≤ k) → w'.heap[k]? = w.heap[k]?
theorem Trn.refl (B C : Nat) (w : World) : Trn B C w w := ⟨rfl, rfl, rfl, Nat.le_refl _, fun _ _ _ => rfl⟩
theorem Trn.trans {B C : Nat} {a b c : World} (h : Trn B C a b) (k : Trn B C b c) : Trn B C a c :=
  ⟨k.1.trans h.1, k.2.1.trans h.2.1, k.2.2.1.trans h.2.2.1, Nat.le_trans h.2.2.2.1 k.2.2.2.1, fun i hi hx => (k.2.2.2.2 i (Nat.lt_of_lt_of_le hi h.2.2.2.1) hx).trans (h.2.2.2.2 i hi hx)⟩
theorem Trn.wide {B C B' C' : Nat} {w w' : World} (h : Trn B C w w') (hB : B' ≤ B) (hC : C ≤ C') : Trn B' C' w w' :=
  ⟨h.1, h.2.1, h.2.2.1, h.2.2.2.1, fun k hk hx => h.2.2.2.2 k hk (by omega)⟩
theorem Trn.set {B C : Nat} {a w : World} (h : Trn B C a w) {p : Addr} (h1 : B ≤ p.block) (h2 : p.block < C) (v : Value) : Trn B C a (w.setCell p v) :=
  h.trans ⟨rfl, rfl, rfl, by simp [World.setCell], fun k _ hx => Below.heap_setCell _ _ _ _ (by omega)⟩
theorem Trn.next {B C : Nat} {a w w' : World} (h : Trn B C a w) (hb : Below w.heap.size w w') : Trn B C a w' :=
  h.trans ⟨hb.os, hb.tape, hb.output, hb.size, fun k hk _ => hb.block k hk⟩
theorem Trn.below {B C D : Nat} {w w' : World} (h : Trn B C w w') (hD : D ≤ B) (hs : D ≤ w.heap.size) : Below D w w' :=
  ⟨h.1, h.2.1, h.2.2.1, h.2.2.2.1, fun k hk => h.2.2.2.2 k (by omega) (Or.inl (by omega))⟩
theorem below_trn {b w w' : World} {B C : Nat} (h : Below b.heap.size b w) (ht : Trn B C w w') (hB : b.heap.size ≤ B) : Below b.heap.size b w' := h.trans (ht.below hB h.size)

/-- n elements of c cells each, in a block of B..C-1 that may be written (or none). -/
def SRow (w : World) (B C : Nat) (a : Option Addr) (n c : Nat) (F : Nat → Nat → Value) : Prop :=
  (n = 0 ∨ ∃ g, a = some ⟨g, 0, none⟩ ∧ B ≤ g ∧ g < C ∧ g < w.heap.size ∧ Elems w g 0 n c F ∧ Room w g (n * c)) ∧ C ≤ w.heap.size
theorem SRow.sl {w : World} {B C : Nat} {a : Option Addr} {n c : Nat} {F : Nat → Nat → Value} (h : SRow w B C a n c F) : Sl w a n c F := by
  rcases h.1 with h | ⟨g, ha, _, _, hg, hE, _⟩
  · exact Or.inl h
  · exact Or.inr ⟨g, 0, ha, hg, hE⟩
theorem SRow.next {w w' : World} {B C : Nat} {a : Option Addr} {n c : Nat} {F : Nat → Nat → Value} (h : SRow w B C a n c F) (hb : Below w.heap.size w w') : SRow w' B C a n c F := by
  refine ⟨?_, Nat.le_trans h.2 hb.size⟩
  rcases h.1 with h | ⟨g, ha, hB, hC, hg, hE, hR⟩
  · exact Or.inl h
  · exact Or.inr ⟨g, ha, hB, hC, Nat.lt_of_lt_of_le hg hb.size, hE.below hb hg, hR.below hb hg⟩
theorem Elems.same {w w' : World} {g off n c : Nat} {F : Nat → Nat → Value} (h : Elems w g off n c F) (e : w'.heap[g]? = w.heap[g]?) : Elems w' g off n c F :=
  fun i hi j hj => (World.cell?_of_block (a := ⟨g, off + i * c + j, none⟩) e).trans (h i hi j hj)
theorem Room.same {w w' : World} {g m : Nat} (h : Room w g m) (e : w'.heap[g]? = w.heap[g]?) : Room w' g m :=
  fun q hq => ⟨by obtain ⟨v, hv⟩ := (h q hq).1; exact ⟨v, (World.cell?_of_block (a := ⟨g, q, none⟩) e).trans hv⟩, (World.frozen?_of_block (a := ⟨g, q, none⟩) e).trans (h q hq).2⟩
theorem SRow.trn {w w' : World} {B C B' C' : Nat} {a : Option Addr} {n c : Nat} {F : Nat → Nat → Value} (h : SRow w B C a n c F) (ht : Trn B' C' w w') (ha : C ≤ B' ∨ C' ≤ B) : SRow w' B C a n c F := by
  refine ⟨?_, Nat.le_trans h.2 ht.2.2.2.1⟩
  rcases h.1 with h | ⟨g, e, hB, hC, hg, hE, hR⟩
  · exact Or.inl h
  · have hk := ht.2.2.2.2 g hg (by omega)
    exact Or.inr ⟨g, e, hB, hC, Nat.lt_of_lt_of_le hg ht.2.2.2.1, hE.same hk, hR.same hk⟩

theorem SRow.wide {w : World} {B B' C : Nat} {a : Option Addr} {n c : Nat} {F : Nat → Nat → Value} (h : SRow w B C a n c F) (hB : B' ≤ B) : SRow w B' C a n c F := by
  refine ⟨?_, h.2⟩
  rcases h.1 with h | ⟨g, e, hb, r⟩
  · exact Or.inl h
  · exact Or.inr ⟨g, e, by omega, r⟩
/-- The cells of n elements, one behind the other. -/
def cellsL (F : Nat → Nat → Value) (c : Nat) : Nat → List Value
  | 0 => []
  | n + 1 => cellsL F c n ++ (List.range c).map (F n)
theorem cellsL_len (F : Nat → Nat → Value) (c : Nat) : ∀ n, (cellsL F c n).length = n * c
  | 0 => by simp [cellsL]
  | n + 1 => by simp [cellsL, cellsL_len F c n, Nat.add_mul]
theorem cellsL_at (F : Nat → Nat → Value) (c : Nat) : ∀ n i j, i < n → j < c → (cellsL F c n)[i * c + j]? = some (F i j)
  | n + 1, i, j, hi, hj => by
    rcases Nat.lt_or_ge i n with h | h
    · have hlt : i * c + j < n * c := by
        have := Nat.mul_le_mul_right c (show i + 1 ≤ n by omega)
        rw [Nat.add_mul, Nat.one_mul] at this; omega
      rw [cellsL, List.getElem?_append_left (by rw [cellsL_len]; exact hlt)]
      exact cellsL_at F c n i j h hj
    · have : i = n := by omega
      subst this
      rw [cellsL, List.getElem?_append_right (by rw [cellsL_len]; omega), cellsL_len, show i * c + j - i * c = j by omega]
      simp [hj]
theorem cellsL_congr {F G : Nat → Nat → Value} {c : Nat} : ∀ {n : Nat}, (∀ i, i < n → ∀ j, j < c → F i j = G i j) → cellsL F c n = cellsL G c n
  | 0, _ => rfl
  | n + 1, h => by
    rw [cellsL, cellsL, cellsL_congr (fun i hi j hj => h i (by omega) j hj)]
    congr 1
    apply List.map_congr_left
    intro j hj
    exact h n (by omega) j (List.mem_range.1 hj)
theorem SRow.of {w : World} {base n c : Nat} {e : TypeId} {v : Value} {F : Nat → Nat → Value} (h : w.ownsRow base e c v n (cellsL F c n)) : ∃ a cap, v = .slice a n cap ∧ n ≤ cap ∧ SRow w base w.heap.size a n c F := by
  rcases Nat.eq_zero_or_pos n with hz | hp
  · subst hz
    obtain ⟨_, h | ⟨g, cap, cur, rfl, _⟩⟩ := h
    · exact ⟨none, 0, h.1, Nat.le_refl _, Or.inl rfl, Nat.le_refl _⟩
    · exact ⟨_, cap, rfl, Nat.zero_le _, Or.inl rfl, Nat.le_refl _⟩
  obtain ⟨g, cap, rfl⟩ := Go.Joins.ownsRow_form h hp
  have hcap : n ≤ cap := by
    obtain ⟨_, h | ⟨g', cap', cur, hv, _, _, hn, _⟩⟩ := h
    · exact absurd h.1 (by simp)
    · simp only [Value.slice.injEq, true_and] at hv
      rw [hv.2]; exact hn
  have hcell : ∀ i, i < n → ∀ j, j < c → w.cell? ⟨g, 0 + i * c + j, none⟩ = some (F i j) := fun i hi j hj => by
    have hlt : i * c + j < n * c := by
      have := Nat.mul_le_mul_right c (show i + 1 ≤ n by omega)
      rw [Nat.add_mul, Nat.one_mul] at this; omega
    rw [Nat.zero_add, World.ownsRow.cellAt h _ hlt]
    exact cellsL_at F c n i j hi hj
  refine ⟨_, cap, rfl, hcap, Or.inr ⟨g, rfl, (h.lt g rfl).1, (h.lt g rfl).2, (h.lt g rfl).2, hcell, fun q hq => ?_⟩, Nat.le_refl _⟩
  obtain ⟨hl, h | ⟨g', cap', cur, hv, hb, hh, hn, hm, hs, ht⟩⟩ := h
  · exact absurd h.1 (by simp)
  · simp only [Value.slice.injEq, Option.some.injEq, Addr.mk.injEq, and_true, true_and] at hv
    obtain ⟨rfl, rfl⟩ := hv
    have hq' : q < cur.size := by rw [hs]; exact Nat.lt_of_lt_of_le hq (Nat.mul_le_mul_right _ hn)
    exact ⟨⟨cur[q], by rw [Go.Joins.cell_of_block hh]; simp [hq']⟩, Go.Joins.unfrozen_of_block hh q⟩
theorem cells_new (w : World) (C : List Value) (e : TypeId) : ∀ j u, C[j]? = some u → (w.alloc (.cells C.toArray e)).cell? ((⟨w.heap.size, 0, none⟩ : Addr).add j) = some u := by
  intro j u h
  have e1 : ((⟨w.heap.size, 0, none⟩ : Addr).add j) = ⟨w.heap.size, j, none⟩ := by unfold Addr.add; split <;> simp_all
  rw [e1]
  simp [h]

/-- k elements are done, and the first j cells of the next one. -/
def Part (w : World) (g n c k j : Nat) (vs : List Value) (F : Nat → Nat → Value) : Prop :=
  Elems w g 0 k c F ∧ (∀ t, t < j → w.cell? ⟨g, k * c + t, none⟩ = vs[t]?) ∧ Room w g (n * c) ∧ g < w.heap.size
theorem Part.start {w : World} {g n c k : Nat} {vs : List Value} {F : Nat → Nat → Value} (h : Elems w g 0 k c F) (hR : Room w g (n * c)) (hg : g < w.heap.size) : Part w g n c k 0 vs F := ⟨h, fun t ht => absurd ht (by omega), hR, hg⟩
theorem Part.next {w w' : World} {g n c k j : Nat} {vs : List Value} {F : Nat → Nat → Value} (h : Part w g n c k j vs F) (hb : Below w.heap.size w w') : Part w' g n c k j vs F :=
  ⟨h.1.below hb h.2.2.2, fun t ht => (hb.cell (p := ⟨g, k * c + t, none⟩) h.2.2.2).trans (h.2.1 t ht), h.2.2.1.below hb h.2.2.2, Nat.lt_of_lt_of_le h.2.2.2 hb.size⟩
theorem Part.set {w : World} {g n c k j : Nat} {vs : List Value} {F : Nat → Nat → Value} {v : Value} (h : Part w g n c k j vs F) (hk : k < n) (hj : j < c) (hv : vs[j]? = some v) : Part (w.setCell ⟨g, k * c + j, none⟩ v) g n c k (j + 1) vs F := by
  have hle : k * c + c ≤ n * c := by
    have := Nat.mul_le_mul_right c (show k + 1 ≤ n by omega)
    rw [Nat.add_mul, Nat.one_mul] at this; exact this
  refine ⟨fun i hi t ht => ?_, fun t ht => ?_, h.2.2.1.set (by omega), by simpa using h.2.2.2⟩
  · have : i * c + c ≤ k * c := by
      have := Nat.mul_le_mul_right c (show i + 1 ≤ k by omega)
      rw [Nat.add_mul, Nat.one_mul] at this; exact this
    rw [World.cell?_setCell_other _ _ _ _ (addr_ne (by omega))]
    exact h.1 i hi t ht
  · by_cases e : t = j
    · subst e
      obtain ⟨⟨x, hx⟩, _⟩ := h.2.2.1 (k * c + t) (by omega)
      rw [World.cell?_setCell_same _ _ _ hx, hv]
    · rw [World.cell?_setCell_other _ _ _ _ (addr_ne (by omega))]
      exact h.2.1 t (by omega)
theorem Part.done {w : World} {g n c k : Nat} {vs : List Value} {F : Nat → Nat → Value} (h : Part w g n c k c vs F) (hv : ∀ j, j < c → vs[j]? = some (F k j)) : Elems w g 0 (k + 1) c F ∧ Room w g (n * c) ∧ g < w.heap.size := by
  refine ⟨fun i hi j hj => ?_, h.2.2.1, h.2.2.2⟩
  rcases Nat.lt_or_ge i k with g' | g'
  · exact h.1 i g' j hj
  · have : i = k := by omega
    subst this
    rw [Nat.zero_add, h.2.1 j hj]; exact hv j hj
end Go.Proofs.Ytaofolbnommpgaa
/- Shapes of data: numbers, texts, bools, structs and lists of them, one inside the other: how they lie in memory, who owns it, how large they are. No Go text is spoken of here. -/
namespace Go.Proofs.Ytaofolbnommpgaa
open Go.RowKit
set_option linter.unusedVariables false

inductive Sh where
  | int | str | bool | nil
  | pair (a b : Sh)
  | list (e : Sh)
@[reducible] def Sh.T : Sh → Type
  | .int => Int
  | .str => ByteArray
  | .bool => Bool
  | .nil => Unit
  | .pair a b => a.T × b.T
  | .list e => List e.T
/-- How many cells one takes. -/
def Sh.c : Sh → Nat
  | .int => 1
  | .str => 1
  | .bool => 1
  | .nil => 0
  | .pair a b => a.c + b.c
  | .list _ => 1
/-- Cells that stand in a row. -/
def Cells (w : World) (g off : Nat) (cs : List Value) : Prop := ∀ j, j < cs.length → w.cell? ⟨g, off + j, none⟩ = cs[j]?
theorem Cells.same {w w' : World} {g off : Nat} {cs : List Value} (h : Cells w g off cs) (e : w'.heap[g]? = w.heap[g]?) : Cells w' g off cs := fun j hj => (World.cell?_of_block (a := ⟨g, off + j, none⟩) e).trans (h j hj)
theorem Cells.at {w : World} {g off : Nat} {cs : List Value} (h : Cells w g off cs) (j : Nat) {v : Value} (hv : cs[j]? = some v) : w.cell? ⟨g, off + j, none⟩ = some v := by
  have hj : j < cs.length := by
    rcases Nat.lt_or_ge j cs.length with q | q
    · exact q
    · rw [List.getElem?_eq_none q] at hv; cases hv
  rw [h j hj, hv]
theorem Cells.at0 {w : World} {g off : Nat} {cs : List Value} (h : Cells w g off cs) {v : Value} (hv : cs[0]? = some v) : w.cell? ⟨g, off, none⟩ = some v := h.at 0 hv
/-- These cells hold this datum, wherever its lists lie. -/
def Lies (w : World) : (s : Sh) → List Value → s.T → Prop
  | .int, cs, n => cs = [.int .i64 n]
  | .str, cs, b => cs = [.string b]
  | .bool, cs, b => cs = [.bool b]
  | .nil, cs, _ => cs = []
  | .pair a b, cs, x => ∃ c1 c2, cs = c1 ++ c2 ∧ Lies w a c1 x.1 ∧ Lies w b c2 x.2
  | .list e, cs, l => ∃ ad cap, cs = [.slice ad l.length cap] ∧ l.length ≤ cap ∧ cap ≤ maxLen ∧ (l = [] ∨ ∃ g off, ad = some ⟨g, off, none⟩ ∧ g < w.heap.size ∧ ∀ i (h : i < l.length), ∃ ec, ec.length = e.c ∧ Cells w g (off + i * e.c) ec ∧ Lies w e ec l[i])
theorem Lies.len {w : World} : ∀ {s : Sh} {cs : List Value} {x : s.T}, Lies w s cs x → cs.length = s.c
  | .int, cs, x, h => by rw [show cs = _ from h]; rfl
  | .str, cs, x, h => by rw [show cs = _ from h]; rfl
  | .bool, cs, x, h => by rw [show cs = _ from h]; rfl
  | .nil, cs, x, h => by rw [show cs = _ from h]; rfl
  | .pair a b, cs, x, h => by
    obtain ⟨c1, c2, rfl, h1, h2⟩ := h
    rw [List.length_append, h1.len, h2.len]; rfl
  | .list e, cs, x, h => by
    obtain ⟨ad, cap, rfl, _⟩ := h
    rfl
theorem Lies.keep {w w' : World} (hw : ∀ k, k < w.heap.size → w'.heap[k]? = w.heap[k]?) (hz : w.heap.size ≤ w'.heap.size) : ∀ {s : Sh} {cs : List Value} {x : s.T}, Lies w s cs x → Lies w' s cs x
  | .int, cs, x, h => h
  | .str, cs, x, h => h
  | .bool, cs, x, h => h
  | .nil, cs, x, h => h
  | .pair a b, cs, x, h => by
    obtain ⟨c1, c2, e, h1, h2⟩ := h
    exact ⟨c1, c2, e, h1.keep hw hz, h2.keep hw hz⟩
  | .list e, cs, x, h => by
    obtain ⟨ad, cap, e1, c1, c2, h⟩ := h
    refine ⟨ad, cap, e1, c1, c2, ?_⟩
    rcases h with h | ⟨g, off, e2, hg, hE⟩
    · exact Or.inl h
    · refine Or.inr ⟨g, off, e2, Nat.lt_of_lt_of_le hg hz, fun i hi => ?_⟩
      obtain ⟨ec, h1, h2, h3⟩ := hE i hi
      exact ⟨ec, h1, h2.same (hw g hg), h3.keep hw hz⟩
theorem Lies.next {w w' : World} {s : Sh} {cs : List Value} {x : s.T} (h : Lies w s cs x) (hb : Below w.heap.size w w') : Lies w' s cs x := h.keep (fun k hk => hb.block k hk) hb.size
theorem Lies.elem {w : World} {e : Sh} {a : Option Addr} {n cap : Nat} {l : List e.T} (h : Lies w (.list e) [.slice a n cap] l) {k : Nat} (hk : k < l.length) :
    ∃ g off, a = some ⟨g, off, none⟩ ∧ g < w.heap.size ∧ ∃ ec, ec.length = e.c ∧ Cells w g (off + k * e.c) ec ∧ Lies w e ec l[k] := by
  obtain ⟨ad, c, e1, _, _, h⟩ := h
  simp only [List.cons.injEq, Value.slice.injEq, and_true] at e1
  obtain ⟨rfl, rfl, rfl⟩ := e1
  rcases h with h | ⟨g, off, e2, hg, hE⟩
  · rw [h] at hk; exact absurd hk (by simp)
  · exact ⟨g, off, e2, hg, hE k hk⟩
theorem Lies.count {w : World} {e : Sh} {a : Option Addr} {n cap : Nat} {l : List e.T} (h : Lies w (.list e) [.slice a n cap] l) : n = l.length := by
  obtain ⟨ad, c, e1, h⟩ := h
  simp only [List.cons.injEq, Value.slice.injEq, and_true] at e1
  exact e1.2.1
theorem Lies.caps {w : World} {e : Sh} {a : Option Addr} {n cap : Nat} {l : List e.T} (h : Lies w (.list e) [.slice a n cap] l) : n ≤ cap ∧ cap ≤ maxLen := by
  obtain ⟨ad, c, e1, c1, c2, h⟩ := h
  simp only [List.cons.injEq, Value.slice.injEq, and_true] at e1
  obtain ⟨rfl, rfl, rfl⟩ := e1
  exact ⟨c1, c2⟩
/-- An empty list lies anywhere. -/
theorem Lies.none {w : World} {e : Sh} {a : Option Addr} {cap : Nat} (hc : cap ≤ maxLen) : Lies w (.list e) [.slice a 0 cap] [] := ⟨a, cap, rfl, Nat.zero_le _, hc, Or.inl rfl⟩

/-- Only blocks of S have turned. -/
def TurnS (S : Nat → Prop) (w w' : World) : Prop := w'.os = w.os ∧ w'.tape = w.tape ∧ w'.output = w.output ∧ w.heap.size ≤ w'.heap.size ∧ ∀ k, k < w.heap.size → ¬ S k → w'.heap[k]? = w.heap[k]?
theorem TurnS.refl (S : Nat → Prop) (w : World) : TurnS S w w := ⟨rfl, rfl, rfl, Nat.le_refl _, fun _ _ _ => rfl⟩
theorem TurnS.trans {S : Nat → Prop} {a b c : World} (h : TurnS S a b) (k : TurnS S b c) : TurnS S a c :=
  ⟨k.1.trans h.1, k.2.1.trans h.2.1, k.2.2.1.trans h.2.2.1, Nat.le_trans h.2.2.2.1 k.2.2.2.1, fun i hi hx => (k.2.2.2.2 i (Nat.lt_of_lt_of_le hi h.2.2.2.1) hx).trans (h.2.2.2.2 i hi hx)⟩
theorem TurnS.wide {S S' : Nat → Prop} {w w' : World} (h : TurnS S w w') (hS : ∀ k, S k → S' k) : TurnS S' w w' := ⟨h.1, h.2.1, h.2.2.1, h.2.2.2.1, fun k hk hx => h.2.2.2.2 k hk (fun q => hx (hS k q))⟩
theorem TurnS.of_below {S : Nat → Prop} {w w' : World} (h : Below w.heap.size w w') : TurnS S w w' := ⟨h.os, h.tape, h.output, h.size, fun k hk _ => h.block k hk⟩
theorem TurnS.next {S : Nat → Prop} {a w w' : World} (h : TurnS S a w) (hb : Below w.heap.size w w') : TurnS S a w' := h.trans (TurnS.of_below hb)
theorem TurnS.size {S : Nat → Prop} {w w' : World} (h : TurnS S w w') : w.heap.size ≤ w'.heap.size := h.2.2.2.1
theorem TurnS.block {S : Nat → Prop} {w w' : World} (h : TurnS S w w') {k : Nat} (hk : k < w.heap.size) (hx : ¬ S k) : w'.heap[k]? = w.heap[k]? := h.2.2.2.2 k hk hx
theorem TurnS.cell {S : Nat → Prop} {w w' : World} (h : TurnS S w w') {g q : Nat} (hg : g < w.heap.size) (hx : ¬ S g) : w'.cell? ⟨g, q, none⟩ = w.cell? ⟨g, q, none⟩ := World.cell?_of_block (a := ⟨g, q, none⟩) (h.block hg hx)
theorem TurnS.below {S : Nat → Prop} {w w' : World} {B : Nat} (h : TurnS S w w') (hS : ∀ k, S k → B ≤ k) (hB : B ≤ w.heap.size) : Below B w w' := ⟨h.1, h.2.1, h.2.2.1, h.2.2.2.1, fun k hk => h.2.2.2.2 k (Nat.lt_of_lt_of_le hk hB) (fun q => by have := hS k q; omega)⟩
theorem TurnS.set {S : Nat → Prop} {a w : World} (h : TurnS S a w) {p : Addr} (hp : S p.block) (v : Value) : TurnS S a (w.setCell p v) :=
  h.trans ⟨rfl, rfl, rfl, by simp [World.setCell], fun k _ hx => Below.heap_setCell _ _ _ _ (fun e => hx (e ▸ hp))⟩
theorem Bx0.turn {S : Nat → Prop} {w w' : World} {g m : Nat} (h : Room w g m) (ht : TurnS S w w') (hg : g < w.heap.size) (hx : ¬ S g) : Room w' g m := h.same (ht.block hg hx)

/-- These cells hold this datum, and its lists lie in blocks of S, each in one of its own, which may be written. -/
def Own (w : World) : (s : Sh) → List Value → s.T → (Nat → Prop) → Prop
  | .int, cs, n, _ => cs = [.int .i64 n]
  | .str, cs, b, _ => cs = [.string b]
  | .bool, cs, b, _ => cs = [.bool b]
  | .nil, cs, _, _ => cs = []
  | .pair a b, cs, x, S => ∃ c1 c2 S1 S2, cs = c1 ++ c2 ∧ Own w a c1 x.1 S1 ∧ Own w b c2 x.2 S2 ∧ (∀ k, S1 k → ¬ S2 k) ∧ ∀ k, S1 k ∨ S2 k → S k
  | .list e, cs, l, S => (l = [] ∧ ∃ ad cap, cs = [.slice ad 0 cap] ∧ cap ≤ maxLen) ∨
      ∃ g cap, ∃ B : Nat → Nat → Prop, cs = [.slice (some ⟨g, 0, none⟩) l.length cap] ∧ (l.length ≤ cap ∧ cap ≤ maxLen) ∧ g < w.heap.size ∧ S g ∧ (∀ i, i < l.length → ∀ k, B i k → S k ∧ k ≠ g) ∧ (∀ i j, i < j → j < l.length → ∀ k, B i k → ¬ B j k) ∧
        Room w g (l.length * e.c) ∧ ∀ i (h : i < l.length), ∃ ec, ec.length = e.c ∧ Cells w g (i * e.c) ec ∧ Own w e ec l[i] (B i)
/-- A row of block g with room for m elements, of which the first k are these, each with blocks B i of its own; all blocks in S. -/
def OwnK (w : World) (e : Sh) (g m k : Nat) (l : List e.T) (S : Nat → Prop) (B : Nat → Nat → Prop) : Prop :=
  g < w.heap.size ∧ S g ∧ (∀ i, i < k → ∀ b, B i b → S b ∧ b ≠ g) ∧ (∀ i j, i < j → j < k → ∀ b, B i b → ¬ B j b) ∧
    Room w g (m * e.c) ∧ ∀ i (h : i < l.length), i < k → ∃ ec, ec.length = e.c ∧ Cells w g (i * e.c) ec ∧ Own w e ec l[i] (B i)
theorem own_list {w : World} {e : Sh} {cs : List Value} {l : List e.T} {S : Nat → Prop} (h : Own w (.list e) cs l S) :
    (l = [] ∧ ∃ ad cap, cs = [.slice ad 0 cap] ∧ cap ≤ maxLen) ∨ ∃ g cap B, cs = [.slice (some ⟨g, 0, none⟩) l.length cap] ∧ (l.length ≤ cap ∧ cap ≤ maxLen) ∧ OwnK w e g l.length l.length l S B := by
  rcases h with h | ⟨g, cap, B, e1, hc, h1, h2, h3, h4, h5, h6⟩
  · exact Or.inl h
  · exact Or.inr ⟨g, cap, B, e1, hc, h1, h2, h3, h4, h5, fun i hi _ => h6 i hi⟩
theorem OwnK.list {w : World} {e : Sh} {g cap : Nat} {l : List e.T} {S : Nat → Prop} {B : Nat → Nat → Prop} (h : OwnK w e g l.length l.length l S B) (hc : l.length ≤ cap) (hm : cap ≤ maxLen) : Own w (.list e) [.slice (some ⟨g, 0, none⟩) l.length cap] l S :=
  Or.inr ⟨g, cap, B, rfl, ⟨hc, hm⟩, h.1, h.2.1, h.2.2.1, h.2.2.2.1, h.2.2.2.2.1, fun i hi => h.2.2.2.2.2 i hi hi⟩
theorem own_form {w : World} {e : Sh} {cs : List Value} {l : List e.T} {S : Nat → Prop} (h : Own w (.list e) cs l S) : ∃ a k, cs = [.slice a l.length k] := by
  rcases h with ⟨rfl, ad, cap, rfl, _⟩ | ⟨g, cap, B, e1, _⟩
  · exact ⟨ad, cap, rfl⟩
  · exact ⟨_, cap, e1⟩
theorem Own.none {w : World} {e : Sh} {a : Option Addr} {cap : Nat} {S : Nat → Prop} (hc : cap ≤ maxLen) : Own w (.list e) [.slice a 0 cap] [] S := Or.inl ⟨rfl, a, cap, rfl, hc⟩
theorem Own.lies {w : World} : ∀ {s : Sh} {cs : List Value} {x : s.T} {S : Nat → Prop}, Own w s cs x S → Lies w s cs x
  | .int, cs, x, S, h => h
  | .str, cs, x, S, h => h
  | .bool, cs, x, S, h => h
  | .nil, cs, x, S, h => h
  | .pair a b, cs, x, S, h => by
    obtain ⟨c1, c2, S1, S2, e, h1, h2, _⟩ := h
    exact ⟨c1, c2, e, h1.lies, h2.lies⟩
  | .list e, cs, x, S, h => by
    rcases h with ⟨h, ad, cap, e1, hc⟩ | ⟨g, cap, B, e1, hc, hg, _, _, _, _, hE⟩
    · exact ⟨ad, cap, by rw [e1, h]; rfl, by rw [h]; exact Nat.zero_le _, hc, Or.inl h⟩
    · refine ⟨_, cap, e1, hc.1, hc.2, Or.inr ⟨g, 0, rfl, hg, fun i hi => ?_⟩⟩
      obtain ⟨ec, h1, h2, h3⟩ := hE i hi
      exact ⟨ec, h1, by rw [Nat.zero_add]; exact h2, h3.lies⟩
theorem Own.mono {w : World} : ∀ {s : Sh} {cs : List Value} {x : s.T} {S S' : Nat → Prop}, Own w s cs x S → (∀ k, S k → S' k) → Own w s cs x S'
  | .int, cs, x, S, S', h, _ => h
  | .str, cs, x, S, S', h, _ => h
  | .bool, cs, x, S, S', h, _ => h
  | .nil, cs, x, S, S', h, _ => h
  | .pair a b, cs, x, S, S', h, hS => by
    obtain ⟨c1, c2, S1, S2, e, h1, h2, h3, h4⟩ := h
    exact ⟨c1, c2, S1, S2, e, h1, h2, h3, fun k hk => hS k (h4 k hk)⟩
  | .list e, cs, x, S, S', h, hS => by
    rcases h with h | ⟨g, cap, B, e1, hc, hg, hSg, h3, h4, h5, hE⟩
    · exact Or.inl h
    · exact Or.inr ⟨g, cap, B, e1, hc, hg, hS g hSg, fun i hi k hk => ⟨hS k (h3 i hi k hk).1, (h3 i hi k hk).2⟩, h4, h5, hE⟩
/-- What has not turned in the blocks of S is as it was. -/
theorem Own.keep {w w' : World} (hz : w.heap.size ≤ w'.heap.size) : ∀ {s : Sh} {cs : List Value} {x : s.T} {S : Nat → Prop}, (∀ k, k < w.heap.size → S k → w'.heap[k]? = w.heap[k]?) → Own w s cs x S → Own w' s cs x S
  | .int, cs, x, S, _, h => h
  | .str, cs, x, S, _, h => h
  | .bool, cs, x, S, _, h => h
  | .nil, cs, x, S, _, h => h
  | .pair a b, cs, x, S, hw, h => by
    obtain ⟨c1, c2, S1, S2, e, h1, h2, h3, h4⟩ := h
    exact ⟨c1, c2, S1, S2, e, h1.keep hz (fun k hl hk => hw k hl (h4 k (Or.inl hk))), h2.keep hz (fun k hl hk => hw k hl (h4 k (Or.inr hk))), h3, h4⟩
  | .list e, cs, x, S, hw, h => by
    rcases h with h | ⟨g, cap, B, e1, hc, hg, hS, h3, h4, h5, hE⟩
    · exact Or.inl h
    · have hgg := hw g hg hS
      refine Or.inr ⟨g, cap, B, e1, hc, Nat.lt_of_lt_of_le hg hz, hS, h3, h4, h5.same hgg, fun i hi => ?_⟩
      obtain ⟨ec, q1, q2, q3⟩ := hE i hi
      exact ⟨ec, q1, q2.same hgg, q3.keep hz (fun k hl hk => hw k hl (h3 i hi k hk).1)⟩
theorem Own.next {w w' : World} {s : Sh} {cs : List Value} {x : s.T} {S : Nat → Prop} (h : Own w s cs x S) (hb : Below w.heap.size w w') : Own w' s cs x S := h.keep hb.size (fun k hk _ => hb.block k hk)
theorem Own.turn {S S' : Nat → Prop} {w w' : World} {s : Sh} {cs : List Value} {x : s.T} (h : Own w s cs x S) (ht : TurnS S' w w') (ha : ∀ k, S k → ¬ S' k) : Own w' s cs x S := h.keep ht.size (fun k hk hs => ht.block hk (ha k hs))
theorem Own.len {w : World} {s : Sh} {cs : List Value} {x : s.T} {S : Nat → Prop} (h : Own w s cs x S) : cs.length = s.c := h.lies.len
theorem Own.set {S : Nat → Prop} {w : World} {s : Sh} {cs : List Value} {x : s.T} (h : Own w s cs x S) {p : Addr} (hp : ¬ S p.block) (v : Value) : Own (w.setCell p v) s cs x S :=
  h.keep (by simp [World.setCell]) (fun k _ hk => Below.heap_setCell _ _ _ _ (fun e => hp (e ▸ hk)))

theorem OwnK.next {w w' : World} {e : Sh} {g m k : Nat} {l : List e.T} {S : Nat → Prop} {B : Nat → Nat → Prop} (h : OwnK w e g m k l S B) (hb : Below w.heap.size w w') : OwnK w' e g m k l S B := by
  refine ⟨Nat.lt_of_lt_of_le h.1 hb.size, h.2.1, h.2.2.1, h.2.2.2.1, h.2.2.2.2.1.below hb h.1, fun i hi hk => ?_⟩
  obtain ⟨ec, h1, h2, h3⟩ := h.2.2.2.2.2 i hi hk
  exact ⟨ec, h1, h2.same (hb.block g h.1), h3.next hb⟩
theorem OwnK.turn {w w' : World} {e : Sh} {g m k : Nat} {l : List e.T} {S S' : Nat → Prop} {B : Nat → Nat → Prop} (h : OwnK w e g m k l S B) (ht : TurnS S' w w') (ha : ∀ b, S b → ¬ S' b) : OwnK w' e g m k l S B := by
  refine ⟨Nat.lt_of_lt_of_le h.1 ht.size, h.2.1, h.2.2.1, h.2.2.2.1, h.2.2.2.2.1.same (ht.block h.1 (ha g h.2.1)), fun i hi hk => ?_⟩
  obtain ⟨ec, h1, h2, h3⟩ := h.2.2.2.2.2 i hi hk
  exact ⟨ec, h1, h2.same (ht.block h.1 (ha g h.2.1)), h3.turn ht (fun b hb => ha b (h.2.2.1 i hk b hb).1)⟩
theorem put_block {g : Nat} : ∀ (vs : List Value) (w : World) (o b : Nat), b ≠ g → (put w g o vs).heap[b]? = w.heap[b]?
  | [], _, _, _, _ => rfl
  | v :: vs, w, o, b, h => by rw [put, put_block vs _ (o + 1) b h]; exact Below.heap_setCell _ _ _ _ h
theorem mul_step {i k c : Nat} (h : i < k) : i * c + c ≤ k * c := by
  have := Nat.mul_le_mul_right c (show i + 1 ≤ k by omega)
  rw [Nat.add_mul, Nat.one_mul] at this; exact this
/-- One more element is laid. -/
theorem OwnK.more {w : World} {e : Sh} {g m k : Nat} {l : List e.T} {S S' Sk : Nat → Prop} {B : Nat → Nat → Prop} {ec : List Value} (h : OwnK w e g m k l S B) (hk : k < m) (hl : k < l.length) (hec : ec.length = e.c) (ho : Own w e ec l[k] Sk)
    (h1 : ∀ b, S b → S' b) (h2 : ∀ b, Sk b → S' b ∧ ¬ S b) : OwnK (put w g (k * e.c) ec) e g m (k + 1) l S' (fun i => if i = k then Sk else B i) := by
  have hz := put_size (g := g) ec w (k * e.c)
  refine ⟨by rw [hz]; exact h.1, h1 g h.2.1, upto_succ (fun i hi b hb => ?_) (fun b hb => ?_), fun i j hij hj b hb => ?_, put_room _ _ _ h.2.2.2.2.1 (by rw [hec]; exact mul_step hk), fun i hi hik => ?_⟩
  · have hb : B i b := by simpa [show ¬ i = k by omega] using hb
    exact ⟨h1 b (h.2.2.1 i hi b hb).1, (h.2.2.1 i hi b hb).2⟩
  · have hb : Sk b := by simpa using hb
    exact ⟨(h2 b hb).1, fun q => (h2 b hb).2 (q ▸ h.2.1)⟩
  · have hb : B i b := by simpa [show ¬ i = k by omega] using hb
    by_cases ej : j = k
    · simp only [if_pos ej]
      exact fun q => (h2 b q).2 (h.2.2.1 i (by omega) b hb).1
    · simp only [if_neg ej]
      exact h.2.2.2.1 i j hij (by omega) b hb
  · by_cases ei : i = k
    · subst ei
      simp only [if_true]
      refine ⟨ec, hec, fun j hj => ?_, ho.keep (by rw [hz]; exact Nat.le_refl _) (fun b _ hb => put_block _ _ _ _ (fun q => (h2 b hb).2 (q ▸ h.2.1)))⟩
      rw [List.getElem?_eq_getElem hj]
      exact put_in ec w (i * e.c) h.2.2.2.2.1 (by rw [hec]; exact mul_step hk) j _ (List.getElem?_eq_getElem hj)
    · simp only [if_neg ei]
      obtain ⟨fc, q1, q2, q3⟩ := h.2.2.2.2.2 i hi (by omega)
      refine ⟨fc, q1, fun j hj => ?_, q3.keep (by rw [hz]; exact Nat.le_refl _) (fun b _ hb => put_block _ _ _ _ (h.2.2.1 i (by omega) b hb).2)⟩
      have := mul_step (c := e.c) (show i < k by omega)
      rw [put_out _ _ _ _ (Or.inl (by omega))]
      exact q2 j hj
/-- One element has turned. -/
theorem OwnK.swap {w w' : World} {e : Sh} {g m n k : Nat} {l : List e.T} {S : Nat → Prop} {B : Nat → Nat → Prop} {y : e.T} {ec : List Value} (h : OwnK w e g m n l S B) (hk : k < n) (hz : w.heap.size ≤ w'.heap.size) (hR : Room w' g (m * e.c))
    (ho : ∀ q, q < k * e.c ∨ k * e.c + e.c ≤ q → w'.cell? ⟨g, q, none⟩ = w.cell? ⟨g, q, none⟩) (hT : ∀ b, b < w.heap.size → b ≠ g → ¬ B k b → w'.heap[b]? = w.heap[b]?) (hec : ec.length = e.c) (hc : Cells w' g (k * e.c) ec) (hy : Own w' e ec y (B k)) :
    OwnK w' e g m n (l.set k y) S B := by
  refine ⟨Nat.lt_of_lt_of_le h.1 hz, h.2.1, h.2.2.1, h.2.2.2.1, hR, fun i hi hin => ?_⟩
  rw [List.length_set] at hi
  by_cases ei : i = k
  · subst ei
    refine ⟨ec, hec, hc, ?_⟩
    rw [List.getElem_set_self]; exact hy
  · obtain ⟨fc, q1, q2, q3⟩ := h.2.2.2.2.2 i hi hin
    refine ⟨fc, q1, fun j hj => ?_, ?_⟩
    · rw [ho]
      · exact q2 j hj
      · rcases Nat.lt_or_ge i k with q | q
        · have := mul_step (c := e.c) q; omega
        · have := mul_step (c := e.c) (show k < i by omega); omega
    · rw [List.getElem_set_ne (fun q => ei q.symm)]
      refine q3.keep hz (fun b hb hB => hT b hb (h.2.2.1 i hin b hB).2 (fun q => ?_))
      rcases Nat.lt_or_ge i k with q' | q'
      · exact h.2.2.2.1 i k q' hk b hB q
      · exact h.2.2.2.1 k i (by omega) hin b q hB
/-- Blocks from lo on, below hi. -/
def Btw (lo hi b : Nat) : Prop := lo ≤ b ∧ b < hi

/-- How large a datum is, as the laws reckon it. -/
def szD : (s : Sh) → s.T → Nat
  | .int, _ => 0
  | .str, b => b.size
  | .bool, _ => 0
  | .nil, _ => 0
  | .pair a b, x => szD a x.1 + szD b x.2
  | .list e, l => l.length + (l.map (szD e)).sum
/-- Every list and text of it could be. -/
def Fits : (s : Sh) → s.T → Prop
  | .int, n => -9223372036854775808 ≤ n ∧ n ≤ 9223372036854775807
  | .str, b => b.size ≤ maxLen
  | .bool, _ => True
  | .nil, _ => True
  | .pair a b, x => Fits a x.1 ∧ Fits b x.2
  | .list e, l => l.length ≤ maxLen ∧ ∀ x, x ∈ l → Fits e x
theorem sz_mem {e : Sh} {l : List e.T} {x : e.T} (h : x ∈ l) : szD e x + 1 ≤ szD (.list e) l := by
  simp only [szD]
  induction l with
  | nil => cases h
  | cons y t ih =>
    simp only [List.map_cons, List.sum_cons, List.length_cons]
    rcases List.mem_cons.1 h with rfl | h
    · omega
    · have := ih h; omega
theorem sz_take {e : Sh} (l : List e.T) (k : Nat) (hk : k < l.length) : ((l.take (k + 1)).map (szD e)).sum = ((l.take k).map (szD e)).sum + szD e l[k] := by
  rw [List.take_succ_eq_append_getElem hk, List.map_append, List.sum_append]; simp
theorem sz_part {e : Sh} (l : List e.T) (k : Nat) : ((l.take k).map (szD e)).sum ≤ (l.map (szD e)).sum := by
  have := List.take_append_drop k l
  rw [← this, List.map_append, List.sum_append]
  simp
theorem sum_zero {α : Type} {f : α → Nat} (h : ∀ x, f x = 0) : ∀ l : List α, (l.map f).sum = 0
  | [] => rfl
  | x :: t => by rw [List.map_cons, List.sum_cons, h, sum_zero h t]
/-- What a size function answers: what is left, or less than nothing. -/
def SzP (l : Int) (n : Nat) (w : World) (r : Ending) (w' : World) : Prop := (∃ y : Int, r = .returned (.int .i64 y) ∧ ((y = -1 ∧ l < (n : Int)) ∨ (0 ≤ y ∧ y = l - (n : Int)))) ∧ Below w.heap.size w w'
theorem list_of1 {α : Type} {l : List α} (h : l.length = 1) : ∃ v0, l = [v0] := by
  match l, h with
  | [v0], _ => exact ⟨v0, rfl⟩
theorem list_of2 {α : Type} {l : List α} (h : l.length = 2) : ∃ v0 v1, l = [v0, v1] := by
  match l, h with
  | [v0, v1], _ => exact ⟨v0, v1, rfl⟩
theorem list_of3 {α : Type} {l : List α} (h : l.length = 3) : ∃ v0 v1 v2, l = [v0, v1, v2] := by
  match l, h with
  | [v0, v1, v2], _ => exact ⟨v0, v1, v2, rfl⟩
theorem list_of4 {α : Type} {l : List α} (h : l.length = 4) : ∃ v0 v1 v2 v3, l = [v0, v1, v2, v3] := by
  match l, h with
  | [v0, v1, v2, v3], _ => exact ⟨v0, v1, v2, v3, rfl⟩
theorem list_of5 {α : Type} {l : List α} (h : l.length = 5) : ∃ v0 v1 v2 v3 v4, l = [v0, v1, v2, v3, v4] := by
  match l, h with
  | [v0, v1, v2, v3, v4], _ => exact ⟨v0, v1, v2, v3, v4, rfl⟩
theorem list_of6 {α : Type} {l : List α} (h : l.length = 6) : ∃ v0 v1 v2 v3 v4 v5, l = [v0, v1, v2, v3, v4, v5] := by
  match l, h with
  | [v0, v1, v2, v3, v4, v5], _ => exact ⟨v0, v1, v2, v3, v4, v5, rfl⟩
theorem list_of7 {α : Type} {l : List α} (h : l.length = 7) : ∃ v0 v1 v2 v3 v4 v5 v6, l = [v0, v1, v2, v3, v4, v5, v6] := by
  match l, h with
  | [v0, v1, v2, v3, v4, v5, v6], _ => exact ⟨v0, v1, v2, v3, v4, v5, v6, rfl⟩
theorem list_of8 {α : Type} {l : List α} (h : l.length = 8) : ∃ v0 v1 v2 v3 v4 v5 v6 v7, l = [v0, v1, v2, v3, v4, v5, v6, v7] := by
  match l, h with
  | [v0, v1, v2, v3, v4, v5, v6, v7], _ => exact ⟨v0, v1, v2, v3, v4, v5, v6, v7, rfl⟩
theorem list_of9 {α : Type} {l : List α} (h : l.length = 9) : ∃ v0 v1 v2 v3 v4 v5 v6 v7 v8, l = [v0, v1, v2, v3, v4, v5, v6, v7, v8] := by
  match l, h with
  | [v0, v1, v2, v3, v4, v5, v6, v7, v8], _ => exact ⟨v0, v1, v2, v3, v4, v5, v6, v7, v8, rfl⟩
theorem list_of10 {α : Type} {l : List α} (h : l.length = 10) : ∃ v0 v1 v2 v3 v4 v5 v6 v7 v8 v9, l = [v0, v1, v2, v3, v4, v5, v6, v7, v8, v9] := by
  match l, h with
  | [v0, v1, v2, v3, v4, v5, v6, v7, v8, v9], _ => exact ⟨v0, v1, v2, v3, v4, v5, v6, v7, v8, v9, rfl⟩
theorem list_of11 {α : Type} {l : List α} (h : l.length = 11) : ∃ v0 v1 v2 v3 v4 v5 v6 v7 v8 v9 v10, l = [v0, v1, v2, v3, v4, v5, v6, v7, v8, v9, v10] := by
  match l, h with
  | [v0, v1, v2, v3, v4, v5, v6, v7, v8, v9, v10], _ => exact ⟨v0, v1, v2, v3, v4, v5, v6, v7, v8, v9, v10, rfl⟩
theorem list_of12 {α : Type} {l : List α} (h : l.length = 12) : ∃ v0 v1 v2 v3 v4 v5 v6 v7 v8 v9 v10 v11, l = [v0, v1, v2, v3, v4, v5, v6, v7, v8, v9, v10, v11] := by
  match l, h with
  | [v0, v1, v2, v3, v4, v5, v6, v7, v8, v9, v10, v11], _ => exact ⟨v0, v1, v2, v3, v4, v5, v6, v7, v8, v9, v10, v11, rfl⟩
end Go.Proofs.Ytaofolbnommpgaa
/- Shapes of this chapter's types. Written by tools/nest.py. -/
namespace Go.Proofs.Ytaofolbnommpgaa
open Go.RowKit
set_option linter.unusedVariables false
set_option linter.unusedSimpArgs false

def shCopy : Sh := .pair .int (.pair .int (.pair .str .nil))
theorem lies_Copy {w : World} {cs : List Value} {x0 : Int} {x1 : Int} {x2 : ByteArray} (h : Lies w shCopy cs (x0, x1, x2, ())) : cs = [.int .i64 x0, .int .i64 x1, .string x2] := by
  obtain ⟨_, _, rfl, rfl, ⟨_, _, rfl, rfl, ⟨_, _, rfl, rfl, rfl⟩⟩⟩ := h
  exact rfl
theorem mk_Copy {w : World} {x0 : Int} {x1 : Int} {x2 : ByteArray} : Lies w shCopy [.int .i64 x0, .int .i64 x1, .string x2] (x0, x1, x2, ()) := ⟨_, _, rfl, rfl, ⟨_, _, rfl, rfl, ⟨_, _, rfl, rfl, rfl⟩⟩⟩
theorem own_Copy {w : World} {cs : List Value} {x0 : Int} {x1 : Int} {x2 : ByteArray} {S : Nat → Prop} (h : Own w shCopy cs (x0, x1, x2, ()) S) : cs = [.int .i64 x0, .int .i64 x1, .string x2] := by
  obtain ⟨_, _, s1, t1, rfl, rfl, ⟨_, _, s2, t2, rfl, rfl, ⟨_, _, s3, t3, rfl, rfl, rfl, d3, u3⟩, d2, u2⟩, d1, u1⟩ := h
  exact rfl
theorem mkown_Copy {w : World} {x0 : Int} {x1 : Int} {x2 : ByteArray} {S : Nat → Prop} : Own w shCopy [.int .i64 x0, .int .i64 x1, .string x2] (x0, x1, x2, ()) S := ⟨_, _, fun k => False, fun k => False ∨ False ∨ False, rfl, rfl, ⟨_, _, fun k => False, fun k => False ∨ False, rfl, rfl, ⟨_, _, fun k => False, fun k => False, rfl, rfl, rfl, fun k g _ => g.elim, fun _ h => h⟩, fun k g _ => g.elim, fun _ h => h⟩, fun k g _ => g.elim, (by intro k h; (repeat' (rcases h with h | h)) <;> (first | exact h.elim))⟩
def shRegOp : Sh := .pair .int (.pair .bool (.pair .str (.pair .int (.pair (.list .int) (.pair shCopy (.pair .int (.pair .int .nil)))))))
theorem lies_RegOp {w : World} {cs : List Value} {x0 : Int} {x1 : Bool} {x2 : ByteArray} {x3 : Int} {x4 : List (Sh.T .int)} {x5 : Int} {x6 : Int} {x7 : ByteArray} {x8 : Int} {x9 : Int} (h : Lies w shRegOp cs (x0, x1, x2, x3, x4, (x5, x6, x7, ()), x8, x9, ())) : ∃ (a1 : Option Addr) (k1 : Nat), cs = [.int .i64 x0, .bool x1, .string x2, .int .i64 x3, .slice a1 x4.length k1, .int .i64 x5, .int .i64 x6, .string x7, .int .i64 x8, .int .i64 x9] ∧ Lies w (.list .int) [.slice a1 x4.length k1] x4 := by
  obtain ⟨_, _, rfl, rfl, ⟨_, _, rfl, rfl, ⟨_, _, rfl, rfl, ⟨_, _, rfl, rfl, ⟨_, _, rfl, h1, ⟨_, _, rfl, ⟨_, _, rfl, rfl, ⟨_, _, rfl, rfl, ⟨_, _, rfl, rfl, rfl⟩⟩⟩, ⟨_, _, rfl, rfl, ⟨_, _, rfl, rfl, rfl⟩⟩⟩⟩⟩⟩⟩⟩ := h
  obtain ⟨a1, k1, rfl, q1⟩ := h1
  exact ⟨a1, k1, rfl, ⟨a1, k1, rfl, q1⟩⟩
theorem mk_RegOp {w : World} {a1 : Option Addr} {n1 k1 : Nat} {x0 : Int} {x1 : Bool} {x2 : ByteArray} {x3 : Int} {x4 : List (Sh.T .int)} {x5 : Int} {x6 : Int} {x7 : ByteArray} {x8 : Int} {x9 : Int} (h1 : Lies w (.list .int) [.slice a1 n1 k1] x4) : Lies w shRegOp [.int .i64 x0, .bool x1, .string x2, .int .i64 x3, .slice a1 n1 k1, .int .i64 x5, .int .i64 x6, .string x7, .int .i64 x8, .int .i64 x9] (x0, x1, x2, x3, x4, (x5, x6, x7, ()), x8, x9, ()) := ⟨_, _, rfl, rfl, ⟨_, _, rfl, rfl, ⟨_, _, rfl, rfl, ⟨_, _, rfl, rfl, ⟨_, _, rfl, h1, ⟨_, _, rfl, ⟨_, _, rfl, rfl, ⟨_, _, rfl, rfl, ⟨_, _, rfl, rfl, rfl⟩⟩⟩, ⟨_, _, rfl, rfl, ⟨_, _, rfl, rfl, rfl⟩⟩⟩⟩⟩⟩⟩⟩
theorem own_RegOp {w : World} {cs : List Value} {x0 : Int} {x1 : Bool} {x2 : ByteArray} {x3 : Int} {x4 : List (Sh.T .int)} {x5 : Int} {x6 : Int} {x7 : ByteArray} {x8 : Int} {x9 : Int} {S : Nat → Prop} (h : Own w shRegOp cs (x0, x1, x2, x3, x4, (x5, x6, x7, ()), x8, x9, ()) S) : ∃ (a1 : Option Addr) (k1 : Nat) (S1 : Nat → Prop), cs = [.int .i64 x0, .bool x1, .string x2, .int .i64 x3, .slice a1 x4.length k1, .int .i64 x5, .int .i64 x6, .string x7, .int .i64 x8, .int .i64 x9] ∧ Own w (.list .int) [.slice a1 x4.length k1] x4 S1 ∧ (∀ k, S1 k → S k) := by
  obtain ⟨_, _, s1, t1, rfl, rfl, ⟨_, _, s2, t2, rfl, rfl, ⟨_, _, s3, t3, rfl, rfl, ⟨_, _, s4, t4, rfl, rfl, ⟨_, _, s5, t5, rfl, H5, ⟨_, _, s6, t6, rfl, ⟨_, _, s9, t9, rfl, rfl, ⟨_, _, s10, t10, rfl, rfl, ⟨_, _, s11, t11, rfl, rfl, rfl, d11, u11⟩, d10, u10⟩, d9, u9⟩, ⟨_, _, s7, t7, rfl, rfl, ⟨_, _, s8, t8, rfl, rfl, rfl, d8, u8⟩, d7, u7⟩, d6, u6⟩, d5, u5⟩, d4, u4⟩, d3, u3⟩, d2, u2⟩, d1, u1⟩ := h
  obtain ⟨a1, k1, rfl⟩ := own_form H5
  exact ⟨a1, k1, s5, rfl, H5, fun k e => (u1 _ (Or.inr (u2 _ (Or.inr (u3 _ (Or.inr (u4 _ (Or.inr (u5 _ (Or.inl e))))))))))⟩
theorem mkown_RegOp {w : World} {a1 : Option Addr} {n1 k1 : Nat} {S1 : Nat → Prop} {x0 : Int} {x1 : Bool} {x2 : ByteArray} {x3 : Int} {x4 : List (Sh.T .int)} {x5 : Int} {x6 : Int} {x7 : ByteArray} {x8 : Int} {x9 : Int} {S : Nat → Prop} (h1 : Own w (.list .int) [.slice a1 n1 k1] x4 S1) (e1 : ∀ k, S1 k → S k) : Own w shRegOp [.int .i64 x0, .bool x1, .string x2, .int .i64 x3, .slice a1 n1 k1, .int .i64 x5, .int .i64 x6, .string x7, .int .i64 x8, .int .i64 x9] (x0, x1, x2, x3, x4, (x5, x6, x7, ()), x8, x9, ()) S := ⟨_, _, fun k => False, fun k => False ∨ False ∨ False ∨ S1 k ∨ (False ∨ False ∨ False ∨ False) ∨ False ∨ False ∨ False, rfl, rfl, ⟨_, _, fun k => False, fun k => False ∨ False ∨ S1 k ∨ (False ∨ False ∨ False ∨ False) ∨ False ∨ False ∨ False, rfl, rfl, ⟨_, _, fun k => False, fun k => False ∨ S1 k ∨ (False ∨ False ∨ False ∨ False) ∨ False ∨ False ∨ False, rfl, rfl, ⟨_, _, fun k => False, fun k => S1 k ∨ (False ∨ False ∨ False ∨ False) ∨ False ∨ False ∨ False, rfl, rfl, ⟨_, _, S1, fun k => (False ∨ False ∨ False ∨ False) ∨ False ∨ False ∨ False, rfl, h1, ⟨_, _, fun k => (False ∨ False ∨ False ∨ False), fun k => False ∨ False ∨ False, rfl, ⟨_, _, fun k => False, fun k => False ∨ False ∨ False, rfl, rfl, ⟨_, _, fun k => False, fun k => False ∨ False, rfl, rfl, ⟨_, _, fun k => False, fun k => False, rfl, rfl, rfl, fun k g _ => g.elim, fun _ h => h⟩, fun k g _ => g.elim, fun _ h => h⟩, fun k g _ => g.elim, fun _ h => h⟩, ⟨_, _, fun k => False, fun k => False ∨ False, rfl, rfl, ⟨_, _, fun k => False, fun k => False, rfl, rfl, rfl, fun k g _ => g.elim, fun _ h => h⟩, fun k g _ => g.elim, fun _ h => h⟩, (by intro k g h; simp at g h), fun _ h => h⟩, (by intro k g h; (repeat' (rcases h with h | h)) <;> (first | exact h.elim)), fun _ h => h⟩, fun k g _ => g.elim, fun _ h => h⟩, fun k g _ => g.elim, fun _ h => h⟩, fun k g _ => g.elim, fun _ h => h⟩, fun k g _ => g.elim, (by intro k h; (repeat' (rcases h with h | h)) <;> (first | exact h.elim | exact e1 k h))⟩
def shRegister : Sh := .pair .int (.pair (.list shCopy) (.pair (.list shRegOp) .nil))
theorem lies_Register {w : World} {cs : List Value} {x0 : Int} {x1 : List (Sh.T shCopy)} {x2 : List (Sh.T shRegOp)} (h : Lies w shRegister cs (x0, x1, x2, ())) : ∃ (a1 : Option Addr) (k1 : Nat), ∃ (a2 : Option Addr) (k2 : Nat), cs = [.int .i64 x0, .slice a1 x1.length k1, .slice a2 x2.length k2] ∧ Lies w (.list shCopy) [.slice a1 x1.length k1] x1 ∧ Lies w (.list shRegOp) [.slice a2 x2.length k2] x2 := by
  obtain ⟨_, _, rfl, rfl, ⟨_, _, rfl, h1, ⟨_, _, rfl, h2, rfl⟩⟩⟩ := h
  obtain ⟨a1, k1, rfl, q1⟩ := h1
  obtain ⟨a2, k2, rfl, q2⟩ := h2
  exact ⟨a1, k1, a2, k2, rfl, ⟨a1, k1, rfl, q1⟩, ⟨a2, k2, rfl, q2⟩⟩
theorem mk_Register {w : World} {a1 : Option Addr} {n1 k1 : Nat} {a2 : Option Addr} {n2 k2 : Nat} {x0 : Int} {x1 : List (Sh.T shCopy)} {x2 : List (Sh.T shRegOp)} (h1 : Lies w (.list shCopy) [.slice a1 n1 k1] x1) (h2 : Lies w (.list shRegOp) [.slice a2 n2 k2] x2) : Lies w shRegister [.int .i64 x0, .slice a1 n1 k1, .slice a2 n2 k2] (x0, x1, x2, ()) := ⟨_, _, rfl, rfl, ⟨_, _, rfl, h1, ⟨_, _, rfl, h2, rfl⟩⟩⟩
theorem own_Register {w : World} {cs : List Value} {x0 : Int} {x1 : List (Sh.T shCopy)} {x2 : List (Sh.T shRegOp)} {S : Nat → Prop} (h : Own w shRegister cs (x0, x1, x2, ()) S) : ∃ (a1 : Option Addr) (k1 : Nat) (S1 : Nat → Prop), ∃ (a2 : Option Addr) (k2 : Nat) (S2 : Nat → Prop), cs = [.int .i64 x0, .slice a1 x1.length k1, .slice a2 x2.length k2] ∧ Own w (.list shCopy) [.slice a1 x1.length k1] x1 S1 ∧ Own w (.list shRegOp) [.slice a2 x2.length k2] x2 S2 ∧ (∀ k, S1 k → S k) ∧ (∀ k, S2 k → S k) ∧ (∀ k, S1 k → ¬ S2 k) := by
  obtain ⟨_, _, s1, t1, rfl, rfl, ⟨_, _, s2, t2, rfl, H2, ⟨_, _, s3, t3, rfl, H3, rfl, d3, u3⟩, d2, u2⟩, d1, u1⟩ := h
  obtain ⟨a1, k1, rfl⟩ := own_form H2
  obtain ⟨a2, k2, rfl⟩ := own_form H3
  exact ⟨a1, k1, s2, a2, k2, s3, rfl, H2, H3, fun k e => (u1 _ (Or.inr (u2 _ (Or.inl e)))), fun k e => (u1 _ (Or.inr (u2 _ (Or.inr (u3 _ (Or.inl e)))))), fun k e f => d2 k e (u3 _ (Or.inl f))⟩
theorem mkown_Register {w : World} {a1 : Option Addr} {n1 k1 : Nat} {S1 : Nat → Prop} {a2 : Option Addr} {n2 k2 : Nat} {S2 : Nat → Prop} {x0 : Int} {x1 : List (Sh.T shCopy)} {x2 : List (Sh.T shRegOp)} {S : Nat → Prop} (h1 : Own w (.list shCopy) [.slice a1 n1 k1] x1 S1) (h2 : Own w (.list shRegOp) [.slice a2 n2 k2] x2 S2) (e1 : ∀ k, S1 k → S k) (e2 : ∀ k, S2 k → S k) (d1_2 : ∀ k, S1 k → ¬ S2 k) : Own w shRegister [.int .i64 x0, .slice a1 n1 k1, .slice a2 n2 k2] (x0, x1, x2, ()) S := ⟨_, _, fun k => False, fun k => S1 k ∨ S2 k ∨ False, rfl, rfl, ⟨_, _, S1, fun k => S2 k ∨ False, rfl, h1, ⟨_, _, S2, fun k => False, rfl, h2, rfl, (by intro k g h; (repeat' (rcases h with h | h)) <;> (first | exact h.elim | exact d1_2 k g h)), fun _ h => h⟩, (by intro k g h; (repeat' (rcases h with h | h)) <;> (first | exact h.elim | exact d1_2 k g h)), fun _ h => h⟩, fun k g _ => g.elim, (by intro k h; (repeat' (rcases h with h | h)) <;> (first | exact h.elim | exact e1 k h | exact e2 k h))⟩
def shRegStep : Sh := .pair .bool (.pair .int (.pair .bool (.pair .str (.pair .int (.pair .int .nil)))))
theorem lies_RegStep {w : World} {cs : List Value} {x0 : Bool} {x1 : Int} {x2 : Bool} {x3 : ByteArray} {x4 : Int} {x5 : Int} (h : Lies w shRegStep cs (x0, x1, x2, x3, x4, x5, ())) : cs = [.bool x0, .int .i64 x1, .bool x2, .string x3, .int .i64 x4, .int .i64 x5] := by
  obtain ⟨_, _, rfl, rfl, ⟨_, _, rfl, rfl, ⟨_, _, rfl, rfl, ⟨_, _, rfl, rfl, ⟨_, _, rfl, rfl, ⟨_, _, rfl, rfl, rfl⟩⟩⟩⟩⟩⟩ := h
  exact rfl
theorem mk_RegStep {w : World} {x0 : Bool} {x1 : Int} {x2 : Bool} {x3 : ByteArray} {x4 : Int} {x5 : Int} : Lies w shRegStep [.bool x0, .int .i64 x1, .bool x2, .string x3, .int .i64 x4, .int .i64 x5] (x0, x1, x2, x3, x4, x5, ()) := ⟨_, _, rfl, rfl, ⟨_, _, rfl, rfl, ⟨_, _, rfl, rfl, ⟨_, _, rfl, rfl, ⟨_, _, rfl, rfl, ⟨_, _, rfl, rfl, rfl⟩⟩⟩⟩⟩⟩
theorem own_RegStep {w : World} {cs : List Value} {x0 : Bool} {x1 : Int} {x2 : Bool} {x3 : ByteArray} {x4 : Int} {x5 : Int} {S : Nat → Prop} (h : Own w shRegStep cs (x0, x1, x2, x3, x4, x5, ()) S) : cs = [.bool x0, .int .i64 x1, .bool x2, .string x3, .int .i64 x4, .int .i64 x5] := by
  obtain ⟨_, _, s1, t1, rfl, rfl, ⟨_, _, s2, t2, rfl, rfl, ⟨_, _, s3, t3, rfl, rfl, ⟨_, _, s4, t4, rfl, rfl, ⟨_, _, s5, t5, rfl, rfl, ⟨_, _, s6, t6, rfl, rfl, rfl, d6, u6⟩, d5, u5⟩, d4, u4⟩, d3, u3⟩, d2, u2⟩, d1, u1⟩ := h
  exact rfl
theorem mkown_RegStep {w : World} {x0 : Bool} {x1 : Int} {x2 : Bool} {x3 : ByteArray} {x4 : Int} {x5 : Int} {S : Nat → Prop} : Own w shRegStep [.bool x0, .int .i64 x1, .bool x2, .string x3, .int .i64 x4, .int .i64 x5] (x0, x1, x2, x3, x4, x5, ()) S := ⟨_, _, fun k => False, fun k => False ∨ False ∨ False ∨ False ∨ False ∨ False, rfl, rfl, ⟨_, _, fun k => False, fun k => False ∨ False ∨ False ∨ False ∨ False, rfl, rfl, ⟨_, _, fun k => False, fun k => False ∨ False ∨ False ∨ False, rfl, rfl, ⟨_, _, fun k => False, fun k => False ∨ False ∨ False, rfl, rfl, ⟨_, _, fun k => False, fun k => False ∨ False, rfl, rfl, ⟨_, _, fun k => False, fun k => False, rfl, rfl, rfl, fun k g _ => g.elim, fun _ h => h⟩, fun k g _ => g.elim, fun _ h => h⟩, fun k g _ => g.elim, fun _ h => h⟩, fun k g _ => g.elim, fun _ h => h⟩, fun k g _ => g.elim, fun _ h => h⟩, fun k g _ => g.elim, (by intro k h; (repeat' (rcases h with h | h)) <;> (first | exact h.elim))⟩
def shCall : Sh := .pair .int (.pair .bool (.pair .str (.pair .str (.pair .int (.pair .int .nil)))))
theorem lies_Call {w : World} {cs : List Value} {x0 : Int} {x1 : Bool} {x2 : ByteArray} {x3 : ByteArray} {x4 : Int} {x5 : Int} (h : Lies w shCall cs (x0, x1, x2, x3, x4, x5, ())) : cs = [.int .i64 x0, .bool x1, .string x2, .string x3, .int .i64 x4, .int .i64 x5] := by
  obtain ⟨_, _, rfl, rfl, ⟨_, _, rfl, rfl, ⟨_, _, rfl, rfl, ⟨_, _, rfl, rfl, ⟨_, _, rfl, rfl, ⟨_, _, rfl, rfl, rfl⟩⟩⟩⟩⟩⟩ := h
  exact rfl
theorem mk_Call {w : World} {x0 : Int} {x1 : Bool} {x2 : ByteArray} {x3 : ByteArray} {x4 : Int} {x5 : Int} : Lies w shCall [.int .i64 x0, .bool x1, .string x2, .string x3, .int .i64 x4, .int .i64 x5] (x0, x1, x2, x3, x4, x5, ()) := ⟨_, _, rfl, rfl, ⟨_, _, rfl, rfl, ⟨_, _, rfl, rfl, ⟨_, _, rfl, rfl, ⟨_, _, rfl, rfl, ⟨_, _, rfl, rfl, rfl⟩⟩⟩⟩⟩⟩
theorem own_Call {w : World} {cs : List Value} {x0 : Int} {x1 : Bool} {x2 : ByteArray} {x3 : ByteArray} {x4 : Int} {x5 : Int} {S : Nat → Prop} (h : Own w shCall cs (x0, x1, x2, x3, x4, x5, ()) S) : cs = [.int .i64 x0, .bool x1, .string x2, .string x3, .int .i64 x4, .int .i64 x5] := by
  obtain ⟨_, _, s1, t1, rfl, rfl, ⟨_, _, s2, t2, rfl, rfl, ⟨_, _, s3, t3, rfl, rfl, ⟨_, _, s4, t4, rfl, rfl, ⟨_, _, s5, t5, rfl, rfl, ⟨_, _, s6, t6, rfl, rfl, rfl, d6, u6⟩, d5, u5⟩, d4, u4⟩, d3, u3⟩, d2, u2⟩, d1, u1⟩ := h
  exact rfl
theorem mkown_Call {w : World} {x0 : Int} {x1 : Bool} {x2 : ByteArray} {x3 : ByteArray} {x4 : Int} {x5 : Int} {S : Nat → Prop} : Own w shCall [.int .i64 x0, .bool x1, .string x2, .string x3, .int .i64 x4, .int .i64 x5] (x0, x1, x2, x3, x4, x5, ()) S := ⟨_, _, fun k => False, fun k => False ∨ False ∨ False ∨ False ∨ False ∨ False, rfl, rfl, ⟨_, _, fun k => False, fun k => False ∨ False ∨ False ∨ False ∨ False, rfl, rfl, ⟨_, _, fun k => False, fun k => False ∨ False ∨ False ∨ False, rfl, rfl, ⟨_, _, fun k => False, fun k => False ∨ False ∨ False, rfl, rfl, ⟨_, _, fun k => False, fun k => False ∨ False, rfl, rfl, ⟨_, _, fun k => False, fun k => False, rfl, rfl, rfl, fun k g _ => g.elim, fun _ h => h⟩, fun k g _ => g.elim, fun _ h => h⟩, fun k g _ => g.elim, fun _ h => h⟩, fun k g _ => g.elim, fun _ h => h⟩, fun k g _ => g.elim, fun _ h => h⟩, fun k g _ => g.elim, (by intro k h; (repeat' (rcases h with h | h)) <;> (first | exact h.elim))⟩
end Go.Proofs.Ytaofolbnommpgaa
/- A variable's cells: a block of some values that may be written. No Go text is spoken of here. -/
namespace Go.Proofs.Ytaofolbnommpgaa
open Go.RowKit
set_option linter.unusedVariables false

/-- Block g holds these values, and may be written. -/
def Bx (w : World) (g : Nat) (vs : List Value) : Prop := (∀ j, j < vs.length → w.cell? ⟨g, j, none⟩ = vs[j]? ∧ w.frozen? ⟨g, j, none⟩ = false) ∧ g < w.heap.size
theorem Bx.new (w : World) (vs : List Value) (t : TypeId) : Bx (w.alloc (.cells vs.toArray t)) w.heap.size vs := by
  refine ⟨fun j hj => ⟨?_, ?_⟩, by simp⟩
  · have := cells_new w vs t j vs[j] (by simp [hj])
    rw [show ((⟨w.heap.size, 0, none⟩ : Addr).add j) = ⟨w.heap.size, j, none⟩ by unfold Addr.add; split <;> simp_all] at this
    rw [this]; simp [hj]
  · simp
theorem Bx.next {w w' : World} {g : Nat} {vs : List Value} (h : Bx w g vs) (hb : Below w.heap.size w w') : Bx w' g vs :=
  ⟨fun j hj => ⟨(hb.cell (p := ⟨g, j, none⟩) h.2).trans (h.1 j hj).1, (hb.frozen (p := ⟨g, j, none⟩) h.2).trans (h.1 j hj).2⟩, Nat.lt_of_lt_of_le h.2 hb.size⟩
theorem Bx.alloc {w : World} {g : Nat} {vs : List Value} (h : Bx w g vs) (o : Obj) : Bx (w.alloc o) g vs := h.next (Go.Joins.below_alloc1 _ _)
theorem Bx.trn {w w' : World} {B C g : Nat} {vs : List Value} (h : Bx w g vs) (ht : Trn B C w w') (ha : g < B ∨ C ≤ g) : Bx w' g vs :=
  ⟨fun j hj => ⟨(World.cell?_of_block (a := ⟨g, j, none⟩) (ht.2.2.2.2 g h.2 ha)).trans (h.1 j hj).1, (World.frozen?_of_block (a := ⟨g, j, none⟩) (ht.2.2.2.2 g h.2 ha)).trans (h.1 j hj).2⟩, Nat.lt_of_lt_of_le h.2 ht.2.2.2.1⟩
theorem Bx.other {w : World} {g g' q : Nat} {v : Value} {vs : List Value} (h : Bx w g vs) (hg : g ≠ g') : Bx (w.setCell ⟨g', q, none⟩ v) g vs :=
  ⟨fun j hj => ⟨by rw [World.cell?_setCell_other _ _ _ _ (addr_ne' (fun e => hg e.symm))]; exact (h.1 j hj).1, by simpa using (h.1 j hj).2⟩, by simpa using h.2⟩
theorem Bx.set {w : World} {g k : Nat} {vs : List Value} (h : Bx w g vs) (hk : k < vs.length) (v : Value) : Bx (w.setCell ⟨g, k, none⟩ v) g (vs.set k v) := by
  refine ⟨fun j hj => ⟨?_, by simp at hj; simpa using (h.1 j hj).2⟩, by simpa using h.2⟩
  simp at hj
  by_cases e : k = j
  · subst e
    have h1 := (h.1 k hk).1
    rw [List.getElem?_eq_getElem hk] at h1
    rw [World.cell?_setCell_same _ _ _ h1]; simp [hk]
  · rw [World.cell?_setCell_other _ _ _ _ (addr_ne e), (h.1 j hj).1, List.getElem?_set_ne e]
theorem Bx.cell {w : World} {g : Nat} {vs : List Value} (h : Bx w g vs) (j : Nat) {v : Value} (hv : vs[j]? = some v) : w.cell? ⟨g, j, none⟩ = some v := by
  have hj : j < vs.length := by
    rcases Nat.lt_or_ge j vs.length with g | g
    · exact g
    · rw [List.getElem?_eq_none g] at hv; cases hv
  rw [(h.1 j hj).1, hv]
theorem Bx.frz {w : World} {g : Nat} {vs : List Value} (h : Bx w g vs) (j : Nat) (hj : j < vs.length) : w.frozen? ⟨g, j, none⟩ = false := (h.1 j hj).2
end Go.Proofs.Ytaofolbnommpgaa
/- Whether a number lies between two others: the contracts of inRange and of the specification's own. -/
namespace Go.Proofs.Ytaofolbnommpgaa
open Go.RowKit
set_option linter.unusedVariables false

def inR (n lo hi : Int) : Bool := decide (lo ≤ n) && decide (n ≤ hi)
theorem inR_iff {n lo hi : Int} : inR n lo hi = true ↔ lo ≤ n ∧ n ≤ hi := by simp [inR]
theorem ret_bool {a b : Bool} (h : a = b) : Ending.returned (.bool a) = .returned (.bool b) := by rw [h]

set_option maxHeartbeats 400000 in
theorem inRange_any (n lo hi : Int) (w : World) :
    Calls Try.prog 54 #[.int .i64 n, .int .i64 lo, .int .i64 hi] w fun e w' => e = .returned (.bool (inR n lo hi)) ∧ w' = w := by
  by_cases h1 : lo ≤ n
  · by_cases h2 : n ≤ hi
    · go_enter Try.func54, Try.ntmps54
      go_wp2
      go_ret
      exact ⟨ret_bool (by simp [inR, h1, h2]), rfl⟩
    · go_enter Try.func54, Try.ntmps54
      go_wp2
      go_ret
      exact ⟨ret_bool (by simp [inR, h2]), rfl⟩
  · go_enter Try.func54, Try.ntmps54
    go_wp2
    go_ret
    exact ⟨ret_bool (by simp [inR]; omega), rfl⟩

set_option maxHeartbeats 400000 in
theorem l1In_any (n lo hi : Int) (w : World) :
    Calls Try.prog 61 #[.int .i64 n, .int .i64 lo, .int .i64 hi] w fun e w' => e = .returned (.bool (inR n lo hi)) ∧ w' = w := by
  by_cases h1 : lo ≤ n
  · by_cases h2 : n ≤ hi
    · go_enter Try.func61, Try.ntmps61
      go_wp2
      go_ret
      exact ⟨ret_bool (by simp [inR, h1, h2]), rfl⟩
    · go_enter Try.func61, Try.ntmps61
      go_wp2
      go_ret
      exact ⟨ret_bool (by simp [inR, h2]), rfl⟩
  · go_enter Try.func61, Try.ntmps61
    go_wp2
    go_ret
    exact ⟨ret_bool (by simp [inR]; omega), rfl⟩
end Go.Proofs.Ytaofolbnommpgaa
/- A list of numbers, cell by cell. -/
namespace Go.Proofs.Ytaofolbnommpgaa
open Go.RowKit
set_option linter.unusedVariables false
def intF (X : Nat → Int) (i _ : Nat) : Value := .int .i64 (X i)
theorem int_cell {w : World} {b off n k : Nat} {X : Nat → Int} (h : Elems w b off n 1 (intF X)) (hk : k < n) : w.cell? ⟨b, off + k, none⟩ = some (.int .i64 (X k)) := by
  have := h k hk 0 (by omega); simpa [intF] using this
end Go.Proofs.Ytaofolbnommpgaa
/- Lists of numbers in a row of their own: toIntS, eqIntS, markIntS, heldIntS. -/
namespace Go.Proofs.Ytaofolbnommpgaa
open Go.RowKit
set_option linter.unusedVariables false

/-- n numbers of a list in a block of B..C-1 that may be written (or none). -/
def IntS (w : World) (B C : Nat) (a : Option Addr) (n : Nat) (X : Nat → Int) : Prop :=
  n = 0 ∨ ∃ g, a = some ⟨g, 0, none⟩ ∧ B ≤ g ∧ g < C ∧ g < w.heap.size ∧ ∀ i, i < n → w.cell? ⟨g, i, none⟩ = some (.int .i64 (X i)) ∧ w.frozen? ⟨g, i, none⟩ = false
theorem IntS.sl {w : World} {B C : Nat} {a : Option Addr} {n : Nat} {X : Nat → Int} (h : IntS w B C a n X) : Sl w a n 1 (intF X) := by
  rcases h with h | ⟨g, ha, _, _, hg, hc⟩
  · exact Or.inl h
  · refine Or.inr ⟨g, 0, ha, hg, fun i hi j hj => ?_⟩
    have : j = 0 := by omega
    subst this
    have := (hc i hi).1
    simpa [intF] using this
theorem IntS.below {B' : Nat} {w w' : World} {B C : Nat} {a : Option Addr} {n : Nat} {X : Nat → Int} (h : IntS w B C a n X) (hb : Below B' w w') (hC : C ≤ B') : IntS w' B C a n X := by
  rcases h with h | ⟨g, ha, hB, hc, hg, hx⟩
  · exact Or.inl h
  · exact Or.inr ⟨g, ha, hB, hc, Nat.lt_of_lt_of_le hg hb.size, fun i hi => ⟨(hb.cell (p := ⟨g, i, none⟩) (by show g < B'; omega)).trans (hx i hi).1, (hb.frozen (p := ⟨g, i, none⟩) (by show g < B'; omega)).trans (hx i hi).2⟩⟩
theorem IntS.congr {w : World} {B C : Nat} {a : Option Addr} {n : Nat} {X Y : Nat → Int} (h : IntS w B C a n X) (e : ∀ i, i < n → X i = Y i) : IntS w B C a n Y := by
  rcases h with h | ⟨g, ha, hB, hc, hg, hx⟩
  · exact Or.inl h
  · exact Or.inr ⟨g, ha, hB, hc, hg, fun i hi => ⟨by rw [← e i hi]; exact (hx i hi).1, (hx i hi).2⟩⟩
theorem IntS.wide {w : World} {B C B' C' : Nat} {a : Option Addr} {n : Nat} {X : Nat → Int} (h : IntS w B C a n X) (hB : B' ≤ B) (hC : C ≤ C') : IntS w B' C' a n X := by
  rcases h with h | ⟨g, ha, hb, hc, r⟩
  · exact Or.inl h
  · exact Or.inr ⟨g, ha, by omega, by omega, r⟩
/-- Only blocks of B..C-1 have turned. -/
def Turned (B C : Nat) (w w' : World) : Prop := w'.os = w.os ∧ w'.tape = w.tape ∧ w'.output = w.output ∧ w.heap.size ≤ w'.heap.size ∧ ∀ k, k < w.heap.size → (k < B ∨ C ≤ k) → w'.heap[k]? = w.heap[k]?
theorem Turned.refl (B C : Nat) (w : World) : Turned B C w w := ⟨rfl, rfl, rfl, Nat.le_refl _, fun _ _ _ => rfl⟩
theorem Turned.trans {B C : Nat} {a b c : World} (h : Turned B C a b) (k : Turned B C b c) : Turned B C a c :=
  ⟨k.1.trans h.1, k.2.1.trans h.2.1, k.2.2.1.trans h.2.2.1, Nat.le_trans h.2.2.2.1 k.2.2.2.1, fun i hi hx => (k.2.2.2.2 i (Nat.lt_of_lt_of_le hi h.2.2.2.1) hx).trans (h.2.2.2.2 i hi hx)⟩
theorem Turned.wide {B C B' C' : Nat} {w w' : World} (h : Turned B C w w') (hB : B' ≤ B) (hC : C ≤ C') : Turned B' C' w w' :=
  ⟨h.1, h.2.1, h.2.2.1, h.2.2.2.1, fun k hk hx => h.2.2.2.2 k hk (by omega)⟩
theorem Turned.set {B C : Nat} {a w : World} (h : Turned B C a w) {p : Addr} (h1 : B ≤ p.block) (h2 : p.block < C) (v : Value) : Turned B C a (w.setCell p v) :=
  h.trans ⟨rfl, rfl, rfl, by simp [World.setCell], fun k _ hx => Below.heap_setCell _ _ _ _ (by omega)⟩
theorem Turned.below {B C D : Nat} {w w' : World} (h : Turned B C w w') (hD : D ≤ B) (hs : D ≤ w.heap.size) : Below D w w' :=
  ⟨h.1, h.2.1, h.2.2.1, h.2.2.2.1, fun k hk => h.2.2.2.2 k (by omega) (Or.inl (by omega))⟩
theorem Turned.of_below {B C : Nat} {w w' : World} (h : Below w.heap.size w w') : Turned B C w w' := ⟨h.os, h.tape, h.output, h.size, fun k hk _ => h.block k hk⟩
theorem Turned.ints {B C B' C' : Nat} {w w' : World} {a : Option Addr} {n : Nat} {X : Nat → Int} (h : Turned B C w w') (hi : IntS w B' C' a n X) (ha : C' ≤ B ∨ C ≤ B') : IntS w' B' C' a n X := by
  rcases hi with hi | ⟨g, e, hB, hc, hg, hx⟩
  · exact Or.inl hi
  · have hk := h.2.2.2.2 g hg (by omega)
    exact Or.inr ⟨g, e, hB, hc, Nat.lt_of_lt_of_le hg h.2.2.2.1, fun i hi => ⟨(World.cell?_of_block (a := ⟨g, i, none⟩) hk).trans (hx i hi).1, (World.frozen?_of_block (a := ⟨g, i, none⟩) hk).trans (hx i hi).2⟩⟩
theorem IntS.set {w : World} {B C g n k : Nat} {X : Nat → Int} {v : Int} (h : IntS w B C (some ⟨g, 0, none⟩) n X) (hk : k < n) : IntS (w.setCell ⟨g, k, none⟩ (.int .i64 v)) B C (some ⟨g, 0, none⟩) n (fun i => if i = k then v else X i) := by
  rcases h with h | ⟨g', e, hB, hc, hg, hx⟩
  · omega
  · simp only [Option.some.injEq, Addr.mk.injEq, and_true] at e
    subst e
    refine Or.inr ⟨g, rfl, hB, hc, by simpa using hg, fun i hi => ⟨?_, by simpa using (hx i hi).2⟩⟩
    by_cases e : i = k
    · subst e; simp only [if_true]; exact World.cell?_setCell_same _ _ _ (hx i hi).1
    · rw [World.cell?_setCell_other _ _ _ _ (addr_ne (fun q => e q.symm))]; simp only [if_neg e]; exact (hx i hi).1
theorem info_int : (Try.prog.info? 3).map (fun i => (i.zero, i.size, i.bytes)) = some (some (.int .i64 0), 1, 8) := by kernel_rfl

set_option maxHeartbeats 1000000 in
theorem toIntS_any (a : Option Addr) (n cap : Nat) (X : Nat → Int) (w : World) (hn : n ≤ 1048576) (hs : Sl w a n 1 (intF X)) :
    Calls Try.prog 126 #[.slice a n cap] w fun r w' => r = .returned (.slice (some ⟨w.heap.size, 0, none⟩) n n) ∧ IntS w' w.heap.size (w.heap.size + 1) (some ⟨w.heap.size, 0, none⟩) n X ∧ w.heap.size < w'.heap.size ∧ Below w.heap.size w w' := by
  obtain ⟨i0, hi, hz0, hz1, hz2⟩ := info_parts info_int
  go_enter Try.func126, Try.ntmps126
  go_wp2_with (at_make; refine wpList_make_full _ rfl (.tmp 6) (.tmp 6) 51 rfl w.heap.size 3 i0 (.int .i64 0) 1 Try.underlying51 hi hz0 hz1 .i64 .i64 _ _ n rfl rfl rfl rfl (by rw [hz2]; omega) (by unfold maxLen; omega) (Nat.le_refl _) ?_; intro w1 hown hgrow)
  have hR := room_made hown
  have hB : Below w.heap.size w w1 := (Below.refl _ _).grown hgrow (Nat.le_refl _) (fun k hk => by cases hk)
  have hG : w.heap.size < w1.heap.size := by
    obtain ⟨_, h | ⟨g', cap', cur, hv, hb, hh, _⟩⟩ := hown
    · exact absurd h.1 (by simp)
    · simp only [Value.slice.injEq, Option.some.injEq, Addr.mk.injEq, and_true, true_and] at hv
      obtain ⟨rfl, rfl⟩ := hv
      rcases Nat.lt_or_ge w.heap.size w1.heap.size with h | h
      · exact h
      · rw [Array.getElem?_eq_none h] at hh; cases hh
  clear hown hgrow hi hz0 hz1 hz2
  go_loopw [4] (fun i wr => ∃ k : Nat, k ≤ n ∧ i = .int .i64 k ∧ Room wr w.heap.size (n * 1) ∧ Elems wr w.heap.size 0 k 1 (intF X) ∧ w.heap.size < wr.heap.size ∧ Below w.heap.size w wr) (fun i _ => n - (intOf i).toNat)
  case atStart => exact ⟨0, Nat.zero_le _, rfl, hR, fun i hi => absurd hi (by omega), hG, hB⟩
  case round =>
    obtain ⟨k, hk, rfl, hRr, hEr, hGr, hBr⟩ := hrel
    clear hR hB hG
    by_cases hlt : k < n
    · rcases hs.below hBr (Nat.le_refl _) with h | ⟨b, off, rfl, hbs, hE⟩
      · omega
      have hc := int_cell hE hlt
      have hlt' : (k : Int) < (n : Int) := by omega
      obtain ⟨⟨x, hx⟩, hf⟩ := hRr k (by omega)
      have R : Hid (Room (put wr w.heap.size (k * 1) [.int .i64 (X k)]) w.heap.size (n * 1) ∧ Elems (put wr w.heap.size (k * 1) [.int .i64 (X k)]) w.heap.size 0 (k + 1) 1 (intF X) ∧ w.heap.size < (put wr w.heap.size (k * 1) [.int .i64 (X k)]).heap.size ∧ Below w.heap.size w (put wr w.heap.size (k * 1) [.int .i64 (X k)])) :=
        ⟨put_room _ _ _ hRr (by simp; omega), hEr.step hRr hlt rfl (fun j hj => by match j, hj with | 0, _ => rfl), by rw [put_size]; exact hGr, put_below (Nat.le_refl _) _ _ _ _ hBr⟩
      clear hRr hEr hBr hs hE
      go_wp2
      go_roundw
      case rel => exact ⟨k + 1, by omega, by go_num, by have := R.out; simpa [put] using this⟩
      case measure => simp [intOf]; omega
    · have hkn : k = n := by omega
      subst hkn
      have HH : Hid (IntS wr w.heap.size (w.heap.size + 1) (some ⟨w.heap.size, 0, none⟩) k X ∧ w.heap.size < wr.heap.size ∧ Below w.heap.size w wr) :=
        ⟨Or.inr ⟨_, rfl, Nat.le_refl _, by omega, hGr, fun i hi => ⟨by have := hEr i hi 0 (by omega); simpa [intF] using this, (hRr i (by omega)).2⟩⟩, hGr, hBr⟩
      clear hs hEr hBr hRr
      go_wp2
      go_ret
      exact ⟨rfl, HH.out⟩

set_option maxHeartbeats 1000000 in
theorem eqIntS_same (a a' : Option Addr) (n cap cap' : Nat) (X : Nat → Int) (w : World) (hn : n ≤ 1048576) (hs : Sl w a n 1 (intF X)) (hs' : Sl w a' n 1 (intF X)) :
    Calls Try.prog 124 #[.slice a n cap, .slice a' n cap'] w fun r w' => r = .returned (.bool true) ∧ Below w.heap.size w w' := by
  go_enter Try.func124, Try.ntmps124
  go_wp2
  go_loopw [5] (fun i wr => ∃ k : Nat, k ≤ n ∧ i = .int .i64 k ∧ Below w.heap.size w wr) (fun i _ => n - (intOf i).toNat)
  case atStart => exact ⟨0, Nat.zero_le _, rfl, Below.refl _ _⟩
  case round =>
    obtain ⟨k, hk, rfl, hBr⟩ := hrel
    by_cases hlt : k < n
    · rcases hs.below hBr (Nat.le_refl _) with h | ⟨b, off, rfl, hbs, hE⟩
      · omega
      rcases hs'.below hBr (Nat.le_refl _) with h | ⟨b', off', rfl, hbs', hE'⟩
      · omega
      have hc := int_cell hE hlt
      have hc' := int_cell hE' hlt
      have hlt' : (k : Int) < (n : Int) := by omega
      clear hs hs' hE hE'
      go_upto_region 6 with fail
      go_cut [25] (fun s25 wx => s25 = .bool false ∧ Below w.heap.size w wx)
      case first =>
        go_region
        all_goals (go_wp2_with fail; go_meet; exact ⟨rfl, hBr.drew⟩)
      case rest =>
        obtain ⟨rfl, hb2⟩ := hcut
        go_wp2
        go_roundw
        case rel => exact ⟨k + 1, by omega, by go_num, hb2⟩
        case measure => simp [intOf]; omega
    · have hkn : k = n := by omega
      subst hkn
      clear hs hs'
      go_wp2
      go_ret
      exact ⟨rfl, hBr⟩

set_option maxHeartbeats 1000000 in
theorem markIntS_any (a : Option Addr) (n cap : Nat) (X : Nat → Int) (q : Int) (B C : Nat) (w : World) (hn : n ≤ 1048576) (h0 : 0 ≤ q) (h1 : q ≤ 1099511627776) (hs : IntS w B C a n X) :
    Calls Try.prog 106 #[.slice a n cap, .int .i64 q] w fun r w' => r = .returned (.int .i64 (q + n)) ∧ IntS w' B C a n (fun i => q + i) ∧ Turned B C w w' := by
  go_enter Try.func106, Try.ntmps106
  go_wp2
  go_loopw [5, 1] (fun i q' wr => ∃ k : Nat, k ≤ n ∧ i = .int .i64 k ∧ q' = .int .i64 (q + k) ∧ IntS wr B C a n (fun i => if i < k then q + i else X i) ∧ Turned B C w wr) (fun i _ _ => n - (intOf i).toNat)
  case atStart => exact ⟨0, Nat.zero_le _, rfl, by simp, hs.congr (fun i _ => by simp), Turned.refl _ _ _⟩
  case round =>
    obtain ⟨k, hk, rfl, rfl, hi, ht⟩ := hrel
    by_cases hlt : k < n
    · rcases hi with h | ⟨g, rfl, hB, hC, hg, hx⟩
      · omega
      have hc := (hx k hlt).1
      have hf := (hx k hlt).2
      have hlt' : (k : Int) < (n : Int) := by omega
      have HH : Hid (IntS wr B C (some ⟨g, 0, none⟩) n (fun i => if i < k then q + i else X i) ∧ Turned B C w wr) := ⟨Or.inr ⟨g, rfl, hB, hC, hg, hx⟩, ht⟩
      clear hx ht hs
      go_wp2
      go_roundw
      case rel =>
        refine ⟨k + 1, by omega, by go_num, by go_num, (HH.out.1.set hlt).congr (fun i hi => ?_), HH.out.2.set hB hC _⟩
        by_cases e : i = k
        · subst e; simp
        · by_cases e2 : i < k
          · rw [if_neg e, if_pos e2, if_pos (by omega)]
          · rw [if_neg e, if_neg e2, if_neg (by omega)]
      case measure => simp [intOf]; omega
    · have hkn : k = n := by omega
      subst hkn
      have HH : Hid (IntS wr B C a k (fun i => q + i) ∧ Turned B C w wr) := ⟨hi.congr (fun i h => by simp [h]), ht⟩
      clear hi ht hs
      go_wp2
      go_ret
      exact ⟨rfl, HH.out⟩

set_option maxHeartbeats 1000000 in
theorem heldIntS_any (a : Option Addr) (n cap : Nat) (q : Int) (w : World) (hn : n ≤ 1048576) (h0 : 0 ≤ q) (h1 : q ≤ 1099511627776) (hs : Sl w a n 1 (intF (fun i => q + i))) :
    Calls Try.prog 107 #[.slice a n cap, .int .i64 q] w fun r w' => r = .returned (.int .i64 (q + n)) ∧ w' = w := by
  go_enter Try.func107, Try.ntmps107
  go_wp2
  go_loopw [5, 1] (fun i q' wr => ∃ k : Nat, k ≤ n ∧ i = .int .i64 k ∧ q' = .int .i64 (q + k) ∧ wr = w) (fun i _ _ => n - (intOf i).toNat)
  case atStart => exact ⟨0, Nat.zero_le _, rfl, by simp, rfl⟩
  case round =>
    obtain ⟨k, hk, rfl, rfl, rfl⟩ := hrel
    by_cases hlt : k < n
    · rcases hs with h | ⟨b, off, rfl, hbs, hE⟩
      · omega
      have hc := int_cell hE hlt
      have hlt' : (k : Int) < (n : Int) := by omega
      clear hE
      go_wp2
      go_roundw
      case rel => exact ⟨k + 1, by omega, by go_num, by go_num, trivial⟩
      case measure => simp [intOf]; omega
    · have hkn : k = n := by omega
      subst hkn
      clear hs
      go_wp2
      go_ret
      exact ⟨rfl, rfl⟩
end Go.Proofs.Ytaofolbnommpgaa
/- A list of numbers that stands through the calls of a law. -/
namespace Go.Proofs.Ytaofolbnommpgaa
open Go.RowKit
set_option linter.unusedVariables false
def RowS (w : World) (B C : Nat) (a : Option Addr) (n : Nat) (X : Nat → Int) : Prop := IntS w B C a n X ∧ C ≤ w.heap.size
theorem RowS.next {w w' : World} {B C : Nat} {a : Option Addr} {n : Nat} {X : Nat → Int} (h : RowS w B C a n X) (hb : Below w.heap.size w w') : RowS w' B C a n X := ⟨h.1.below hb h.2, Nat.le_trans h.2 hb.size⟩
theorem RowS.turn {w w' : World} {B C B' C' : Nat} {a : Option Addr} {n : Nat} {X : Nat → Int} (h : RowS w B C a n X) (ht : Turned B' C' w w') (ha : C ≤ B' ∨ C' ≤ B) : RowS w' B C a n X := ⟨ht.ints h.1 ha, Nat.le_trans h.2 ht.2.2.2.1⟩
theorem RowS.sl {w : World} {B C : Nat} {a : Option Addr} {n : Nat} {X : Nat → Int} (h : RowS w B C a n X) : Sl w a n 1 (intF X) := h.1.sl
theorem RowS.of {w : World} {B : Nat} {a : Option Addr} {n : Nat} {X : Nat → Int} (h : IntS w B w.heap.size a n X) : RowS w B w.heap.size a n X := ⟨h, Nat.le_refl _⟩
/-- What came in is as it was. -/
theorem below_next {b w w' : World} (h : Below b.heap.size b w) (hb : Below w.heap.size w w') : Below b.heap.size b w' := h.trans (hb.mono h.size)
theorem below_turn {b w w' : World} {B C : Nat} (h : Below b.heap.size b w) (ht : Turned B C w w') (hB : b.heap.size ≤ B) : Below b.heap.size b w' := h.trans (ht.below hB h.size)
theorem Sl.kept {b w : World} {a : Option Addr} {n c : Nat} {F : Nat → Nat → Value} (h : Sl b a n c F) (hb : Below b.heap.size b w) : Sl w a n c F := h.below hb (Nat.le_refl _)
theorem Hid.intro {p : Prop} (h : p) : Hid p := h
/-- One cell that stands. -/
def BoxS (w : World) (g : Nat) (v : Value) : Prop := w.cell? ⟨g, 0, none⟩ = some v ∧ g < w.heap.size
theorem BoxS.next {w w' : World} {g : Nat} {v : Value} (h : BoxS w g v) (hb : Below w.heap.size w w') : BoxS w' g v := ⟨(hb.cell (p := ⟨g, 0, none⟩) h.2).trans h.1, Nat.lt_of_lt_of_le h.2 hb.size⟩
theorem BoxS.turn {w w' : World} {B C g : Nat} {v : Value} (h : BoxS w g v) (ht : Turned B C w w') (ha : g < B ∨ C ≤ g) : BoxS w' g v := ⟨(World.cell?_of_block (a := ⟨g, 0, none⟩) (ht.2.2.2.2 g h.2 ha)).trans h.1, Nat.lt_of_lt_of_le h.2 ht.2.2.2.1⟩
theorem BoxS.new (w : World) (v : Value) (t : TypeId) : BoxS (w.alloc (.cells #[v] t)) w.heap.size v := ⟨by simp, by simp⟩
/-- A draw leaves all as it is. -/
theorem below_drew (w : World) : Below w.heap.size w w.drew := (Below.refl _ _).drew
end Go.Proofs.Ytaofolbnommpgaa
/- What the law's own functions on shapes answer. -/
namespace Go.Proofs.Ytaofolbnommpgaa
open Go.RowKit
set_option linter.unusedVariables false

theorem Bx.newAt {w : World} {g : Nat} {vs : List Value} {t : TypeId} (h : w.heap.size = g) : Bx (w.alloc (.cells vs.toArray t)) g vs := h ▸ Bx.new w vs t
/-- A struct is made anew. -/
def ToP (s : Sh) (x : s.T) (w : World) (r : Ending) (w' : World) : Prop := ∃ cs : List Value, r = .returned (.agg cs.toArray) ∧ Own w' s cs x (Btw w.heap.size w'.heap.size) ∧ Below w.heap.size w w'
/-- A list is made anew. -/
def ToL (e : Sh) (l : List e.T) (w : World) (r : Ending) (w' : World) : Prop :=
  ∃ g, r = .returned (.slice (some ⟨g, 0, none⟩) l.length l.length) ∧ Own w' (.list e) [.slice (some ⟨g, 0, none⟩) l.length l.length] l (Btw w.heap.size w'.heap.size) ∧ Below w.heap.size w w'
end Go.Proofs.Ytaofolbnommpgaa
/- A list of any shape that is being built by appends: each element's own lists lie in blocks of their own. -/
namespace Go.Proofs.Ytaofolbnommpgaa
open Go.RowKit
set_option linter.unusedVariables false

theorem ownsRow_next {w w' : World} {base : Nat} {e : TypeId} {size : Nat} {v : Value} {n : Nat} {xs : List Value} (h : w.ownsRow base e size v n xs) (hb : Below w.heap.size w w') : w'.ownsRow base e size v n xs := by
  obtain ⟨h1, h2⟩ := h
  refine ⟨h1, ?_⟩
  rcases h2 with h2 | ⟨g, cap, cur, hv, hgb, hh, r⟩
  · exact Or.inl h2
  · refine Or.inr ⟨g, cap, cur, hv, hgb, ?_, r⟩
    rw [hb.block g (by rcases Nat.lt_or_ge g w.heap.size with q | q; (· exact q); rw [Array.getElem?_eq_none q] at hh; cases hh)]
    exact hh
theorem ownsRow_turn {w w' : World} {S : Nat → Prop} {base : Nat} {e : TypeId} {size : Nat} {v : Value} {n : Nat} {xs : List Value} (h : w.ownsRow base e size v n xs) (ht : TurnS S w w') (hx : ∀ k, v.ownBlock = some k → ¬ S k) : w'.ownsRow base e size v n xs := by
  obtain ⟨h1, h2⟩ := h
  refine ⟨h1, ?_⟩
  rcases h2 with h2 | ⟨g, cap, cur, hv, hgb, hh, r⟩
  · exact Or.inl h2
  · refine Or.inr ⟨g, cap, cur, hv, hgb, ?_, r⟩
    rw [ht.block (by rcases Nat.lt_or_ge g w.heap.size with q | q; (· exact q); rw [Array.getElem?_eq_none q] at hh; cases hh) (hx g (by rw [hv]; rfl))]
    exact hh
/-- The elements of such a list and their blocks. -/
def AppR (W : World) (lo : Nat) (e : Sh) (v : Value) (l : List e.T) (xs : List Value) (B : Nat → Nat → Prop) : Prop :=
  (∀ i (h : i < l.length), Own W e ((xs.drop (i * e.c)).take e.c) l[i] (B i)) ∧ (∀ i, i < l.length → ∀ b, B i b → lo ≤ b ∧ b < W.heap.size ∧ v.ownBlock ≠ some b) ∧ (∀ i j, i < j → j < l.length → ∀ b, B i b → ¬ B j b)
def AppB (W : World) (lo : Nat) (ty : TypeId) (e : Sh) (v : Value) (l : List e.T) : Prop := ∃ xs B, W.ownsRow lo ty e.c v l.length xs ∧ AppR W lo e v l xs B
theorem AppB.nil (W : World) (lo : Nat) (ty : TypeId) (e : Sh) : AppB W lo ty e (.slice none 0 0) [] :=
  ⟨[], fun _ _ => False, World.ownsRow_nil _ _ _ _, fun i h => absurd h (by simp), fun i h => absurd h (by simp), fun i j _ h => absurd h (by simp)⟩
theorem AppR.next {W W' : World} {lo : Nat} {e : Sh} {v : Value} {l : List e.T} {xs : List Value} {B : Nat → Nat → Prop} (h : AppR W lo e v l xs B) (hb : Below W.heap.size W W') : AppR W' lo e v l xs B :=
  ⟨fun i hi => (h.1 i hi).next hb, fun i hi b q => ⟨(h.2.1 i hi b q).1, Nat.lt_of_lt_of_le (h.2.1 i hi b q).2.1 hb.size, (h.2.1 i hi b q).2.2⟩, h.2.2⟩
theorem AppB.next {W W' : World} {lo : Nat} {ty : TypeId} {e : Sh} {v : Value} {l : List e.T} (h : AppB W lo ty e v l) (hb : Below W.heap.size W W') : AppB W' lo ty e v l := by
  obtain ⟨xs, B, h1, h2⟩ := h
  exact ⟨xs, B, ownsRow_next h1 hb, h2.next hb⟩
/-- One more element, whose lists were made since W0. -/
theorem AppR.app {W0 W W' : World} {lo : Nat} {ty : TypeId} {e : Sh} {v v' : Value} {l : List e.T} {xs ec : List Value} {B : Nat → Nat → Prop} {x : e.T} (h : AppR W0 lo e v l xs B) (ho : W0.ownsRow lo ty e.c v l.length xs) (hW : Below W0.heap.size W0 W)
    (hec : ec.length = e.c) (hlo : lo ≤ W0.heap.size) (hx : Own W e ec x (Btw W0.heap.size W.heap.size)) (h2 : W'.ownsRow lo ty e.c v' (l.length + 1) (xs ++ ec)) (hg : W.grownBy W' v.ownBlock) (hwh : v'.ownBlock = v.ownBlock ∨ v'.ownBlock = some W.heap.size) : AppB W' lo ty e v' (l ++ [x]) := by
  have hv : ∀ k, v.ownBlock = some k → k < W0.heap.size := fun k hk => (ho.lt k hk).2
  have hxl : xs.length = l.length * e.c := ho.1
  have hblk : ∀ k, k < W.heap.size → v.ownBlock ≠ some k → W'.heap[k]? = W.heap[k]? := fun k hk hne => hg.block k hk (fun q => hne q.symm)
  refine ⟨xs ++ ec, fun i => if i = l.length then Btw W0.heap.size W.heap.size else B i, by rw [List.length_append]; exact h2, fun i hi => ?_, fun i hi b q => ?_, fun i j hij hj b q => ?_⟩
  · rw [List.length_append, List.length_singleton] at hi
    by_cases ei : i = l.length
    · subst ei
      have e1 : ((xs ++ ec).drop (l.length * e.c)).take e.c = ec := by
        rw [← hxl, List.drop_left, ← hec, List.take_length]
      rw [e1]
      simp only [if_true, List.getElem_concat_length]
      exact hx.keep hg.size (fun k hk hB => hblk k hk (fun q => by have := hv k q; have := hB.1; omega))
    · have hil : i < l.length := by omega
      have e1 : ((xs ++ ec).drop (i * e.c)).take e.c = (xs.drop (i * e.c)).take e.c := by
        have := mul_step (c := e.c) hil
        rw [List.drop_append_of_le_length (by omega), List.take_append_of_le_length (by rw [List.length_drop]; omega)]
      rw [e1]
      simp only [if_neg ei]
      rw [List.getElem_append_left hil]
      exact ((h.1 i hil).next hW).keep hg.size (fun k hk hB => hblk k hk ((h.2.1 i hil k hB).2.2))
  · rw [List.length_append, List.length_singleton] at hi
    have hs := hW.size
    have hs' := hg.size
    by_cases ei : i = l.length
    · simp only [if_pos ei] at q
      refine ⟨by have := q.1; omega, by have := q.2; omega, ?_⟩
      rcases hwh with h | h
      · rw [h]; intro q2; have := hv b q2; have := q.1; omega
      · rw [h]; intro q2; have := Option.some.inj q2; have := q.2; omega
    · simp only [if_neg ei] at q
      have := h.2.1 i (by omega) b q
      refine ⟨this.1, by omega, ?_⟩
      rcases hwh with h | h
      · rw [h]; exact this.2.2
      · rw [h]; intro q2; have := Option.some.inj q2; omega
  · rw [List.length_append, List.length_singleton] at hj
    simp only [if_neg (show ¬ i = l.length by omega)] at q
    by_cases ej : j = l.length
    · simp only [if_pos ej]
      intro q2
      have := (h.2.1 i (by omega) b q).2.1
      have := q2.1
      omega
    · simp only [if_neg ej]
      exact h.2.2 i j hij (by omega) b q
theorem cells_of_take {xs : List Value} {c i j : Nat} (hj : j < c) : (((xs.drop (i * c)).take c)[j]?) = xs[i * c + j]? := by
  rw [List.getElem?_take, if_pos hj, List.getElem?_drop]
/-- Such a list is owned. -/
theorem AppB.own {W : World} {lo : Nat} {ty : TypeId} {e : Sh} {v : Value} {l : List e.T} (h : AppB W lo ty e v l) : ∃ a cap, v = .slice a l.length cap ∧ l.length ≤ cap ∧ Own W (.list e) [.slice a l.length cap] l (Btw lo W.heap.size) := by
  obtain ⟨xs, B, h1, h2⟩ := h
  rcases Nat.eq_zero_or_pos l.length with hz | hp
  · have hl := List.eq_nil_of_length_eq_zero hz
    subst hl
    obtain ⟨_, h | ⟨g, cap, cur, rfl, _, _, _, hm, _⟩⟩ := h1
    · exact ⟨none, 0, h.1, Nat.le_refl _, Own.none (Nat.zero_le _)⟩
    · exact ⟨_, cap, rfl, Nat.zero_le _, Own.none hm⟩
  obtain ⟨g, cap, rfl⟩ := Go.Joins.ownsRow_form h1 hp
  have hg := h1.lt g rfl
  have hxl : xs.length = l.length * e.c := h1.1
  have hcap : l.length ≤ cap ∧ cap ≤ maxLen := by
    obtain ⟨_, h | ⟨g', cap', cur, hv, _, _, hn, hm, _⟩⟩ := h1
    · exact absurd h.1 (by simp)
    · simp only [Value.slice.injEq, true_and] at hv
      rw [hv.2]; exact ⟨hn, hm⟩
  refine ⟨_, cap, rfl, hcap.1, OwnK.list (hc := hcap.1) (hm := hcap.2) (B := B) ⟨hg.2, ⟨hg.1, hg.2⟩, fun i hi b q => ⟨⟨(h2.2.1 i hi b q).1, (h2.2.1 i hi b q).2.1⟩, fun q2 => (h2.2.1 i hi b q).2.2 (by rw [q2]; rfl)⟩, h2.2.2, ?_, fun i hi _ => ⟨(xs.drop (i * e.c)).take e.c, ?_, fun j hj => ?_, h2.1 i hi⟩⟩⟩
  · intro q hq
    obtain ⟨hl, h | ⟨g', cap', cur, hv, hb, hh, hn, hm, hs, ht⟩⟩ := h1
    · exact absurd h.1 (by simp)
    · simp only [Value.slice.injEq, Option.some.injEq, Addr.mk.injEq, and_true, true_and] at hv
      obtain ⟨rfl, rfl⟩ := hv
      have hq' : q < cur.size := by rw [hs]; exact Nat.lt_of_lt_of_le hq (Nat.mul_le_mul_right _ hn)
      exact ⟨⟨cur[q], by rw [Go.Joins.cell_of_block hh]; simp [hq']⟩, Go.Joins.unfrozen_of_block hh q⟩
  · have := mul_step (c := e.c) hi
    rw [List.length_take, List.length_drop]; omega
  · have hm := mul_step (c := e.c) hi
    have hj' : j < e.c := by rw [List.length_take] at hj; omega
    rw [cells_of_take hj', World.ownsRow.cellAt h1 _ (by omega)]
theorem AppB.lo {W : World} {lo lo' : Nat} {ty : TypeId} {e : Sh} {v : Value} {l : List e.T} (h : AppB W lo ty e v l) (hl : lo' ≤ lo) : AppB W lo' ty e v l := by
  obtain ⟨xs, B, ⟨h0, h1⟩, h2⟩ := h
  refine ⟨xs, B, ⟨h0, ?_⟩, h2.1, fun i hi b q => ⟨Nat.le_trans hl (h2.2.1 i hi b q).1, (h2.2.1 i hi b q).2⟩, h2.2.2⟩
  rcases h1 with h1 | ⟨g, cap, cur, hv, hgb, r⟩
  · exact Or.inl h1
  · exact Or.inr ⟨g, cap, cur, hv, Nat.le_trans hl hgb, r⟩
end Go.Proofs.Ytaofolbnommpgaa
/- Propositions as Bools, lists of numbers in shapes, small facts on lists: for every chapter with shapes. No Go text is spoken of here. -/
namespace Go.Proofs.Ytaofolbnommpgaa
open Go.RowKit
set_option linter.unusedVariables false

/-- A proposition as a Bool. -/
noncomputable def tf (p : Prop) : Bool := @decide p (Classical.propDecidable p)
theorem tf_iff {p : Prop} : tf p = true ↔ p := by unfold tf; exact @decide_eq_true_iff p (Classical.propDecidable p)
theorem tf_yes {p : Prop} (h : p) : tf p = true := tf_iff.2 h
theorem tf_no {p : Prop} (h : ¬ p) : tf p = false := by cases e : tf p with | false => rfl | true => exact absurd (tf_iff.1 e) h
theorem tf_eq {p q : Prop} (h : p ↔ q) : tf p = tf q := by
  by_cases hq : q
  · rw [tf_yes hq, tf_yes (h.2 hq)]
  · rw [tf_no hq, tf_no (fun hp => hq (h.1 hp))]
theorem tf_bool {b : Bool} : tf (b = true) = b := by cases b; exact tf_no (by simp); exact tf_yes rfl

def atI (l : List Int) (i : Nat) : Int := l.getD i 0
theorem atI_lt {l : List Int} {i : Nat} (h : i < l.length) : atI l i = l[i] := by simp [atI, List.getD_eq_getElem?_getD, List.getElem?_eq_getElem h]
/-- A list of numbers, as the elder texts speak of it. -/
theorem lies_sl {w : World} {a : Option Addr} {cap : Nat} {l : List (Sh.T .int)} (h : Lies w (.list .int) [.slice a l.length cap] l) : Sl w a l.length 1 (intF (atI l)) := by
  obtain ⟨ad, c, e1, _, _, h⟩ := h
  simp only [List.cons.injEq, Value.slice.injEq, and_true, true_and] at e1
  obtain ⟨rfl, rfl⟩ := e1
  rcases h with h | ⟨g, off, e2, hg, hE⟩
  · exact Or.inl (by rw [h]; rfl)
  · refine Or.inr ⟨g, off, e2, hg, fun i hi j hj => ?_⟩
    have hj0 : j = 0 := by omega
    subst hj0
    obtain ⟨ec, h1, h2, h3⟩ := hE i hi
    have h3 : ec = [.int .i64 l[i]] := h3
    subst h3
    have := h2 0 (by simp)
    simp only [Sh.c, Nat.add_zero] at this
    rw [Nat.add_zero, this]
    simp [intF, atI_lt hi]
theorem Lies.take {w : World} {e : Sh} {a : Option Addr} {n cap : Nat} {l : List e.T} (h : Lies w (.list e) [.slice a n cap] l) (k : Nat) (hk : k ≤ l.length) : Lies w (.list e) [.slice a k cap] (l.take k) := by
  obtain ⟨ad, c, e1, c1, c2, h⟩ := h
  simp only [List.cons.injEq, Value.slice.injEq, and_true] at e1
  obtain ⟨rfl, rfl, rfl⟩ := e1
  have hl : (l.take k).length = k := by rw [List.length_take]; omega
  refine ⟨a, cap, by rw [hl], by omega, c2, ?_⟩
  rcases h with h | ⟨g, off, e2, hg, hE⟩
  · left; rw [h]; simp
  · right
    refine ⟨g, off, e2, hg, fun i hi => ?_⟩
    obtain ⟨ec, h1, h2, h3⟩ := hE i (by omega)
    exact ⟨ec, h1, h2, by rw [List.getElem_take]; exact h3⟩

theorem mem_take_succ {α : Type} {l : List α} {k : Nat} (h : k < l.length) {P : α → Prop} (h1 : ∀ o ∈ l.take k, P o) (h2 : P l[k]) : ∀ o ∈ l.take (k + 1), P o := by
  rw [List.take_succ_eq_append_getElem h]
  intro o ho
  rcases List.mem_append.1 ho with q | q
  · exact h1 o q
  · rw [List.mem_singleton.1 q]; exact h2
theorem pair_take_succ {α : Type} {l : List α} {k : Nat} (h : k < l.length) {R : α → α → Prop} (h1 : (l.take k).Pairwise R) (h2 : ∀ o ∈ l.take k, R o l[k]) : (l.take (k + 1)).Pairwise R := by
  rw [List.take_succ_eq_append_getElem h, List.pairwise_append]
  exact ⟨h1, List.pairwise_singleton _ _, fun a ha b hb => by rw [List.mem_singleton.1 hb]; exact h2 a ha⟩
theorem pair_take_no {α : Type} {l : List α} {k : Nat} (h : k < l.length) {R : α → α → Prop} {o : α} (ho : o ∈ l.take k) (hn : ¬ R o l[k]) : ¬ l.Pairwise R := by
  intro hp
  have := hp.sublist (List.take_sublist (k + 1) l)
  rw [List.take_succ_eq_append_getElem h, List.pairwise_append] at this
  exact hn (this.2.2 o ho _ (List.mem_singleton.2 rfl))
theorem emptyB_size (s : ByteArray) : s.toList.isEmpty = (s.size == 0) := by
  rw [ByteArray.toList_eq]
  cases h : s.data.toList with
  | nil => have : s.size = 0 := by have := congrArg List.length h; simpa using this
           simp [this]
  | cons a l => have : s.size = l.length + 1 := by have := congrArg List.length h; simpa using this
                simp [this]
theorem empty_iff {v : ByteArray} : v.toList.isEmpty = true ↔ v.size = 0 := by rw [emptyB_size]; simp
theorem Bx.grow {w w' : World} {row : Option Nat} {g : Nat} {vs : List Value} (h : Bx w g vs) (hg : w.grownBy w' row) (hne : some g ≠ row) : Bx w' g vs :=
  ⟨fun j hj => ⟨(hg.cell_far ⟨g, j, none⟩ h.2 hne).trans (h.1 j hj).1, (hg.frozen_far ⟨g, j, none⟩ h.2 hne).trans (h.1 j hj).2⟩, Nat.lt_of_lt_of_le h.2 hg.size⟩
theorem size_text {n : Nat} (h : n ≤ 1073741824) : n ≤ maxLen := by unfold maxLen; omega
theorem below_dN {B : Nat} {a w : World} (h : Below B a w) (n : Nat) : Below B a (w.drewN n) := ⟨h.os, h.tape, h.output, h.size, h.block⟩
end Go.Proofs.Ytaofolbnommpgaa
