/- Put together of: Mem, Turn. -/
import Derived.WalkKit
import Derived.WalkSpells
import Derived.WalkLawsBesides
import Derived.Lib.SmallJoins
import Derived.Deep.AppendLies
/- Rows of structs in memory: the plain laws on cells that the walks use. No Go text is spoken of here. -/
namespace Go.Proofs.YtkpobihpcnoemaaDoor
open Go.RowKit
set_option linter.unusedVariables false

/-- n elements of c cells each, from offset 'off' of block g on: cell j of element i holds 'F i j'. -/
def Elems (w : World) (g off n c : Nat) (F : Nat → Nat → Value) : Prop := ∀ i, i < n → ∀ j, j < c → w.cell? ⟨g, off + i * c + j, none⟩ = some (F i j)
/-- A row of m cells that may be written. -/
def Room (w : World) (g m : Nat) : Prop := ∀ q, q < m → (∃ v, w.cell? ⟨g, q, none⟩ = some v) ∧ w.frozen? ⟨g, q, none⟩ = false
/-- The values, one behind the other, from a place on. -/
def put (w : World) (g o : Nat) : List Value → World
  | [] => w
  | v :: vs => put (w.setCell ⟨g, o, none⟩ v) g (o + 1) vs
/-- A slice's n elements of c cells each. -/
def Sl (w : World) (a : Option Addr) (n c : Nat) (F : Nat → Nat → Value) : Prop :=
  n = 0 ∨ ∃ b off, a = some ⟨b, off, none⟩ ∧ b < w.heap.size ∧ Elems w b off n c F

theorem upto_succ {P : Nat → Prop} {k : Nat} (h : ∀ i, i < k → P i) (hk : P k) : ∀ i, i < k + 1 → P i := by
  intro i hi
  rcases Nat.lt_or_ge i k with g | g
  · exact h i g
  · have : i = k := by omega
    subst this; exact hk
theorem addr_ne {g q q' : Nat} (h : q ≠ q') : (⟨g, q, none⟩ : Addr) ≠ ⟨g, q', none⟩ := fun e => h (by injection e)
theorem addr_ne' {g g' q q' : Nat} (h : g ≠ g') : (⟨g, q, none⟩ : Addr) ≠ ⟨g', q', none⟩ := fun e => h (by injection e)

theorem Elems.below {B : Nat} {w w' : World} {g off n c : Nat} {F : Nat → Nat → Value} (h : Elems w g off n c F) (hb : Below B w w') (hg : g < B) : Elems w' g off n c F :=
  fun i hi j hj => (hb.cell (p := ⟨g, off + i * c + j, none⟩) hg).trans (h i hi j hj)
theorem Elems.le {w : World} {g off n n' c : Nat} {F : Nat → Nat → Value} (h : Elems w g off n c F) (hn : n' ≤ n) : Elems w g off n' c F :=
  fun i hi j hj => h i (by omega) j hj
theorem Room.below {B : Nat} {w w' : World} {g m : Nat} (h : Room w g m) (hb : Below B w w') (hg : g < B) : Room w' g m :=
  fun q hq => ⟨by obtain ⟨v, hv⟩ := (h q hq).1; exact ⟨v, (hb.cell (p := ⟨g, q, none⟩) hg).trans hv⟩, (hb.frozen (p := ⟨g, q, none⟩) hg).trans (h q hq).2⟩
theorem Sl.below {B : Nat} {w w' : World} {a : Option Addr} {n c : Nat} {F : Nat → Nat → Value} (h : Sl w a n c F) (hb : Below B w w') (hB : w.heap.size ≤ B) : Sl w' a n c F := by
  rcases h with h | ⟨b, off, rfl, hlt, hE⟩
  · exact Or.inl h
  · exact Or.inr ⟨b, off, rfl, Nat.lt_of_lt_of_le hlt hb.size, hE.below hb (by omega)⟩

theorem Room.set {w : World} {g m o : Nat} {v : Value} (h : Room w g m) (ho : o < m) : Room (w.setCell ⟨g, o, none⟩ v) g m := by
  intro q hq
  obtain ⟨⟨u, hu⟩, hf⟩ := h q hq
  obtain ⟨u', hu'⟩ := cell?_setCell_some (p := ⟨g, o, none⟩) (x := v) hu
  exact ⟨⟨u', hu'⟩, by simpa using hf⟩
theorem put_room {g m : Nat} : ∀ (vs : List Value) (w : World) (o : Nat), Room w g m → o + vs.length ≤ m → Room (put w g o vs) g m
  | [], _, _, h, _ => h
  | v :: vs, w, o, h, ho => put_room vs _ (o + 1) (h.set (by simp at ho; omega)) (by simp at ho; omega)
theorem put_out {g : Nat} : ∀ (vs : List Value) (w : World) (o q : Nat), (q < o ∨ o + vs.length ≤ q) → (put w g o vs).cell? ⟨g, q, none⟩ = w.cell? ⟨g, q, none⟩
  | [], _, _, _, _ => rfl
  | v :: vs, w, o, q, h => by
    rw [put, put_out vs _ (o + 1) q (by simp at h; omega), World.cell?_setCell_other _ _ _ _ (addr_ne (by simp at h; omega))]
theorem put_in {g m : Nat} : ∀ (vs : List Value) (w : World) (o : Nat), Room w g m → o + vs.length ≤ m → ∀ j v, vs[j]? = some v → (put w g o vs).cell? ⟨g, o + j, none⟩ = some v
  | [], _, _, _, _, j, v, hj => by simp at hj
  | u :: vs, w, o, h, ho, j, v, hj => by
    have ho' : o + 1 + vs.length ≤ m := by simp at ho; omega
    cases j with
    | zero =>
      simp at hj; subst hj
      obtain ⟨⟨x, hx⟩, _⟩ := h o (by omega)
      rw [put, put_out vs _ (o + 1) (o + 0) (by omega)]
      exact World.cell?_setCell_same _ _ _ hx
    | succ j =>
      have := put_in vs (w.setCell ⟨g, o, none⟩ u) (o + 1) (h.set (by omega)) ho' j v (by simpa using hj)
      rw [put, show o + (j + 1) = o + 1 + j by omega]; exact this
theorem put_below {g B : Nat} (hB : B ≤ g) : ∀ (vs : List Value) (a w : World) (o : Nat), Below B a w → Below B a (put w g o vs)
  | [], _, _, _, h => h
  | v :: vs, a, w, o, h => put_below hB vs a _ (o + 1) (h.setCell (p := ⟨g, o, none⟩) hB v)
theorem put_size {g : Nat} : ∀ (vs : List Value) (w : World) (o : Nat), (put w g o vs).heap.size = w.heap.size
  | [], _, _ => rfl
  | v :: vs, w, o => by rw [put, put_size vs]; simp

/-- Element k is laid behind the first k. -/
theorem Elems.step {w : World} {g n k c : Nat} {F : Nat → Nat → Value} {vs : List Value} (h : Elems w g 0 k c F) (hr : Room w g (n * c)) (hk : k < n) (hc : vs.length = c) (hv : ∀ j, j < c → vs[j]? = some (F k j)) :
    Elems (put w g (k * c) vs) g 0 (k + 1) c F := by
  have hle : k * c + c ≤ n * c := by
    have := Nat.mul_le_mul_right c (show k + 1 ≤ n by omega)
    rw [Nat.add_mul, Nat.one_mul] at this; exact this
  intro i hi j hj
  rw [Nat.zero_add]
  rcases Nat.lt_or_ge i k with hlt | hge
  · have : i * c + c ≤ k * c := by
      have := Nat.mul_le_mul_right c (show i + 1 ≤ k by omega)
      rw [Nat.add_mul, Nat.one_mul] at this; exact this
    rw [put_out vs w (k * c) (i * c + j) (by omega)]
    have := h i hlt j hj
    rwa [Nat.zero_add] at this
  · have hik : i = k := by omega
    subst hik
    exact put_in vs w (i * c) hr (by omega) j (F i j) (hv j hj)

/-- The row that 'make' has laid may be written. -/
theorem room_made {w : World} {base g n size cap : Nat} {e : TypeId} {xs : List Value} (h : w.ownsRow base e size (.slice (some ⟨g, 0, none⟩) n cap) n xs) : Room w g (n * size) := by
  obtain ⟨hl, h | ⟨g', cap', cur, hv, hb, hh, hn, hm, hs, ht⟩⟩ := h
  · exact absurd h.1 (by simp)
  · simp only [Value.slice.injEq, Option.some.injEq, Addr.mk.injEq, and_true, true_and] at hv
    obtain ⟨rfl, rfl⟩ := hv
    intro q hq
    have hq' : q < cur.size := by rw [hs]; exact Nat.lt_of_lt_of_le hq (Nat.mul_le_mul_right _ hn)
    refine ⟨⟨cur[q], ?_⟩, ?_⟩
    · rw [Go.Joins.cell_of_block hh]; simp [hq']
    · exact Go.Joins.unfrozen_of_block hh q
end Go.Proofs.YtkpobihpcnoemaaDoor
/- Only some blocks have turned. Rows of structs that a call owns: n elements of c cells each. No Go text is spoken of here. -/
namespace Go.Proofs.YtkpobihpcnoemaaDoor
open Go.RowKit
set_option linter.unusedVariables false

/-- Blocks B..C-1 may have turned, no others. -/
def Trn (B C : Nat) (w w' : World) : Prop := w'.os = w.os ∧ w'.tape = w.tape ∧ w'.output = w.output ∧ w.heap.size ≤ w'.heap.size ∧ ∀ k, k < w.heap.size → (k < B ∨ C ≤ k) → w'.heap[k]? = w.heap[k]?
theorem Trn.refl (B C : Nat) (w : World) : Trn B C w w := ⟨rfl, rfl, rfl, Nat.le_refl _, fun _ _ _ => rfl⟩
theorem Trn.trans {B C : Nat} {a b c : World} (h : Trn B C a b) (k : Trn B C b c) : Trn B C a c :=
  ⟨k.1.trans h.1, k.2.1.trans h.2.1, k.2.2.1.trans h.2.2.1, Nat.le_trans h.2.2.2.1 k.2.2.2.1, fun i hi hx => (k.2.2.2.2 i (Nat.lt_of_lt_of_le hi h.2.2.2.1) hx).trans (h.2.2.2.2 i hi hx)⟩
theorem Trn.wide {B C B' C' : Nat} {w w' : World} (h : Trn B C w w') (hB : B' ≤ B) (hC : C ≤ C') : Trn B' C' w w' :=
  ⟨h.1, h.2.1, h.2.2.1, h.2.2.2.1, fun k hk hx => h.2.2.2.2 k hk (by omega)⟩
theorem Trn.set {B C : Nat} {a w : World} (h : Trn B C a w) {p : Addr} (h1 : B ≤ p.block) (h2 : p.block < C) (v : Value) : Trn B C a (w.setCell p v) :=
  h.trans ⟨rfl, rfl, rfl, by simp [World.setCell], fun k _ hx => Below.heap_setCell _ _ _ _ (by omega)⟩
theorem Trn.next {B C : Nat} {a w w' : World} (h : Trn B C a w) (hb : Below w.heap.size w w') : Trn B C a w' :=
  h.trans ⟨hb.os, hb.tape, hb.output, hb.size, fun k hk _ => hb.block k hk⟩
theorem Trn.below {B C D : Nat} {w w' : World} (h : Trn B C w w') (hD : D ≤ B) (hs : D ≤ w.heap.size) : Below D w w' :=
  ⟨h.1, h.2.1, h.2.2.1, h.2.2.2.1, fun k hk => h.2.2.2.2 k (by omega) (Or.inl (by omega))⟩
theorem below_trn {b w w' : World} {B C : Nat} (h : Below b.heap.size b w) (ht : Trn B C w w') (hB : b.heap.size ≤ B) : Below b.heap.size b w' := h.trans (ht.below hB h.size)

/-- n elements of c cells each, in a block of B..C-1 that may be written (or none). -/
def SRow (w : World) (B C : Nat) (a : Option Addr) (n c : Nat) (F : Nat → Nat → Value) : Prop :=
  (n = 0 ∨ ∃ g, a = some ⟨g, 0, none⟩ ∧ B ≤ g ∧ g < C ∧ g < w.heap.size ∧ Elems w g 0 n c F ∧ Room w g (n * c)) ∧ C ≤ w.heap.size
theorem SRow.sl {w : World} {B C : Nat} {a : Option Addr} {n c : Nat} {F : Nat → Nat → Value} (h : SRow w B C a n c F) : Sl w a n c F := by
  rcases h.1 with h | ⟨g, ha, _, _, hg, hE, _⟩
  · exact Or.inl h
  · exact Or.inr ⟨g, 0, ha, hg, hE⟩
theorem SRow.next {w w' : World} {B C : Nat} {a : Option Addr} {n c : Nat} {F : Nat → Nat → Value} (h : SRow w B C a n c F) (hb : Below w.heap.size w w') : SRow w' B C a n c F := by
  refine ⟨?_, Nat.le_trans h.2 hb.size⟩
  rcases h.1 with h | ⟨g, ha, hB, hC, hg, hE, hR⟩
  · exact Or.inl h
  · exact Or.inr ⟨g, ha, hB, hC, Nat.lt_of_lt_of_le hg hb.size, hE.below hb hg, hR.below hb hg⟩
theorem Elems.same {w w' : World} {g off n c : Nat} {F : Nat → Nat → Value} (h : Elems w g off n c F) (e : w'.heap[g]? = w.heap[g]?) : Elems w' g off n c F :=
  fun i hi j hj => (World.cell?_of_block (a := ⟨g, off + i * c + j, none⟩) e).trans (h i hi j hj)
theorem Room.same {w w' : World} {g m : Nat} (h : Room w g m) (e : w'.heap[g]? = w.heap[g]?) : Room w' g m :=
  fun q hq => ⟨by obtain ⟨v, hv⟩ := (h q hq).1; exact ⟨v, (World.cell?_of_block (a := ⟨g, q, none⟩) e).trans hv⟩, (World.frozen?_of_block (a := ⟨g, q, none⟩) e).trans (h q hq).2⟩
theorem SRow.trn {w w' : World} {B C B' C' : Nat} {a : Option Addr} {n c : Nat} {F : Nat → Nat → Value} (h : SRow w B C a n c F) (ht : Trn B' C' w w') (ha : C ≤ B' ∨ C' ≤ B) : SRow w' B C a n c F := by
  refine ⟨?_, Nat.le_trans h.2 ht.2.2.2.1⟩
  rcases h.1 with h | ⟨g, e, hB, hC, hg, hE, hR⟩
  · exact Or.inl h
  · have hk := ht.2.2.2.2 g hg (by omega)
    exact Or.inr ⟨g, e, hB, hC, Nat.lt_of_lt_of_le hg ht.2.2.2.1, hE.same hk, hR.same hk⟩

theorem SRow.wide {w : World} {B B' C : Nat} {a : Option Addr} {n c : Nat} {F : Nat → Nat → Value} (h : SRow w B C a n c F) (hB : B' ≤ B) : SRow w B' C a n c F := by
  refine ⟨?_, h.2⟩
  rcases h.1 with h | ⟨g, e, hb, r⟩
  · exact Or.inl h
  · exact Or.inr ⟨g, e, by omega, r⟩
/-- The cells of n elements, one behind the other. -/
def cellsL (F : Nat → Nat → Value) (c : Nat) : Nat → List Value
  | 0 => []
  | n + 1 => cellsL F c n ++ (List.range c).map (F n)
theorem cellsL_len (F : Nat → Nat → Value) (c : Nat) : ∀ n, (cellsL F c n).length = n * c
  | 0 => by simp [cellsL]
  | n + 1 => by simp [cellsL, cellsL_len F c n, Nat.add_mul]
theorem cellsL_at (F : Nat → Nat → Value) (c : Nat) : ∀ n i j, i < n → j < c → (cellsL F c n)[i * c + j]? = some (F i j)
  | n + 1, i, j, hi, hj => by
    rcases Nat.lt_or_ge i n with h | h
    · have hlt : i * c + j < n * c := by
        have := Nat.mul_le_mul_right c (show i + 1 ≤ n by omega)
        rw [Nat.add_mul, Nat.one_mul] at this; omega
      rw [cellsL, List.getElem?_append_left (by rw [cellsL_len]; exact hlt)]
      exact cellsL_at F c n i j h hj
    · have : i = n := by omega
      subst this
      rw [cellsL, List.getElem?_append_right (by rw [cellsL_len]; omega), cellsL_len, show i * c + j - i * c = j by omega]
      simp [hj]
theorem cellsL_congr {F G : Nat → Nat → Value} {c : Nat} : ∀ {n : Nat}, (∀ i, i < n → ∀ j, j < c → F i j = G i j) → cellsL F c n = cellsL G c n
  | 0, _ => rfl
  | n + 1, h => by
    rw [cellsL, cellsL, cellsL_congr (fun i hi j hj => h i (by omega) j hj)]
    congr 1
    apply List.map_congr_left
    intro j hj
    exact h n (by omega) j (List.mem_range.1 hj)
theorem SRow.of {w : World} {base n c : Nat} {e : TypeId} {v : Value} {F : Nat → Nat → Value} (h : w.ownsRow base e c v n (cellsL F c n)) : ∃ a cap, v = .slice a n cap ∧ n ≤ cap ∧ SRow w base w.heap.size a n c F := by
  rcases Nat.eq_zero_or_pos n with hz | hp
  · subst hz
    obtain ⟨_, h | ⟨g, cap, cur, rfl, _⟩⟩ := h
    · exact ⟨none, 0, h.1, Nat.le_refl _, Or.inl rfl, Nat.le_refl _⟩
    · exact ⟨_, cap, rfl, Nat.zero_le _, Or.inl rfl, Nat.le_refl _⟩
  obtain ⟨g, cap, rfl⟩ := Go.Joins.ownsRow_form h hp
  have hcap : n ≤ cap := by
    obtain ⟨_, h | ⟨g', cap', cur, hv, _, _, hn, _⟩⟩ := h
    · exact absurd h.1 (by simp)
    · simp only [Value.slice.injEq, true_and] at hv
      rw [hv.2]; exact hn
  have hcell : ∀ i, i < n → ∀ j, j < c → w.cell? ⟨g, 0 + i * c + j, none⟩ = some (F i j) := fun i hi j hj => by
    have hlt : i * c + j < n * c := by
      have := Nat.mul_le_mul_right c (show i + 1 ≤ n by omega)
      rw [Nat.add_mul, Nat.one_mul] at this; omega
    rw [Nat.zero_add, World.ownsRow.cellAt h _ hlt]
    exact cellsL_at F c n i j hi hj
  refine ⟨_, cap, rfl, hcap, Or.inr ⟨g, rfl, (h.lt g rfl).1, (h.lt g rfl).2, (h.lt g rfl).2, hcell, fun q hq => ?_⟩, Nat.le_refl _⟩
  obtain ⟨hl, h | ⟨g', cap', cur, hv, hb, hh, hn, hm, hs, ht⟩⟩ := h
  · exact absurd h.1 (by simp)
  · simp only [Value.slice.injEq, Option.some.injEq, Addr.mk.injEq, and_true, true_and] at hv
    obtain ⟨rfl, rfl⟩ := hv
    have hq' : q < cur.size := by rw [hs]; exact Nat.lt_of_lt_of_le hq (Nat.mul_le_mul_right _ hn)
    exact ⟨⟨cur[q], by rw [Go.Joins.cell_of_block hh]; simp [hq']⟩, Go.Joins.unfrozen_of_block hh q⟩
theorem cells_new (w : World) (C : List Value) (e : TypeId) : ∀ j u, C[j]? = some u → (w.alloc (.cells C.toArray e)).cell? ((⟨w.heap.size, 0, none⟩ : Addr).add j) = some u := by
  intro j u h
  have e1 : ((⟨w.heap.size, 0, none⟩ : Addr).add j) = ⟨w.heap.size, j, none⟩ := by unfold Addr.add; split <;> simp_all
  rw [e1]
  simp [h]

/-- k elements are done, and the first j cells of the next one. -/
def Part (w : World) (g n c k j : Nat) (vs : List Value) (F : Nat → Nat → Value) : Prop :=
  Elems w g 0 k c F ∧ (∀ t, t < j → w.cell? ⟨g, k * c + t, none⟩ = vs[t]?) ∧ Room w g (n * c) ∧ g < w.heap.size
theorem Part.start {w : World} {g n c k : Nat} {vs : List Value} {F : Nat → Nat → Value} (h : Elems w g 0 k c F) (hR : Room w g (n * c)) (hg : g < w.heap.size) : Part w g n c k 0 vs F := ⟨h, fun t ht => absurd ht (by omega), hR, hg⟩
theorem Part.next {w w' : World} {g n c k j : Nat} {vs : List Value} {F : Nat → Nat → Value} (h : Part w g n c k j vs F) (hb : Below w.heap.size w w') : Part w' g n c k j vs F :=
  ⟨h.1.below hb h.2.2.2, fun t ht => (hb.cell (p := ⟨g, k * c + t, none⟩) h.2.2.2).trans (h.2.1 t ht), h.2.2.1.below hb h.2.2.2, Nat.lt_of_lt_of_le h.2.2.2 hb.size⟩
theorem Part.set {w : World} {g n c k j : Nat} {vs : List Value} {F : Nat → Nat → Value} {v : Value} (h : Part w g n c k j vs F) (hk : k < n) (hj : j < c) (hv : vs[j]? = some v) : Part (w.setCell ⟨g, k * c + j, none⟩ v) g n c k (j + 1) vs F := by
  have hle : k * c + c ≤ n * c := by
    have := Nat.mul_le_mul_right c (show k + 1 ≤ n by omega)
    rw [Nat.add_mul, Nat.one_mul] at this; exact this
  refine ⟨fun i hi t ht => ?_, fun t ht => ?_, h.2.2.1.set (by omega), by simpa using h.2.2.2⟩
  · have : i * c + c ≤ k * c := by
      have := Nat.mul_le_mul_right c (show i + 1 ≤ k by omega)
      rw [Nat.add_mul, Nat.one_mul] at this; exact this
    rw [World.cell?_setCell_other _ _ _ _ (addr_ne (by omega))]
    exact h.1 i hi t ht
  · by_cases e : t = j
    · subst e
      obtain ⟨⟨x, hx⟩, _⟩ := h.2.2.1 (k * c + t) (by omega)
      rw [World.cell?_setCell_same _ _ _ hx, hv]
    · rw [World.cell?_setCell_other _ _ _ _ (addr_ne (by omega))]
      exact h.2.1 t (by omega)
theorem Part.done {w : World} {g n c k : Nat} {vs : List Value} {F : Nat → Nat → Value} (h : Part w g n c k c vs F) (hv : ∀ j, j < c → vs[j]? = some (F k j)) : Elems w g 0 (k + 1) c F ∧ Room w g (n * c) ∧ g < w.heap.size := by
  refine ⟨fun i hi j hj => ?_, h.2.2.1, h.2.2.2⟩
  rcases Nat.lt_or_ge i k with g' | g'
  · exact h.1 i g' j hj
  · have : i = k := by omega
    subst this
    rw [Nat.zero_add, h.2.1 j hj]; exact hv j hj
end Go.Proofs.YtkpobihpcnoemaaDoor
