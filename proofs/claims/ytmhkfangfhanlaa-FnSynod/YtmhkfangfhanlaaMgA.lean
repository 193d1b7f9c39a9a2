/- Put together of: Mem, Turn, Sh, NtS, Bx. -/
import Derived.WalkKit
import Derived.WalkSpells
import Derived.WalkLawsBesides
import Derived.Lib.SmallJoins
import Derived.Deep.AppendLies
/- Rows of structs in memory: the plain laws on cells that the walks use. No Go text is spoken of here. -/
namespace Go.Proofs.Ytmhkfangfhanlaa
open Go.RowKit
set_option linter.unusedVariables false

/-- n elements of c cells each, from offset 'off' of block g on: cell j of element i holds 'F i j'. -/
def Elems (w : World) (g off n c : Nat) (F : Nat → Nat → Value) : Prop := ∀ i, i < n → ∀ j, j < c → w.cell? ⟨g, off + i * c + j, none⟩ = some (F i j)
/-- A row of m cells that may be written. -/
def Room (w : World) (g m : Nat) : Prop := ∀ q, q < m → (∃ v, w.cell? ⟨g, q, none⟩ = some v) ∧ w.frozen? ⟨g, q, none⟩ = false
/-- The values, one behind the other, from a place on. -/
def put (w : World) (g o : Nat) : List Value → World
  | [] => w
  | v :: vs => put (w.setCell ⟨g, o, none⟩ v) g (o + 1) vs
/-- A slice's n elements of c cells each. -/
def Sl (w : World) (a : Option Addr) (n c : Nat) (F : Nat → Nat → Value) : Prop :=
  n = 0 ∨ ∃ b off, a = some ⟨b, off, none⟩ ∧ b < w.heap.size ∧ Elems w b off n c F

theorem upto_succ {P : Nat → Prop} {k : Nat} (h : ∀ i, i < k → P i) (hk : P k) : ∀ i, i < k + 1 → P i := by
  intro i hi
  rcases Nat.lt_or_ge i k with g | g
  · exact h i g
  · have : i = k := by omega
    subst this; exact hk
theorem addr_ne {g q q' : Nat} (h : q ≠ q') : (⟨g, q, none⟩ : Addr) ≠ ⟨g, q', none⟩ := fun e => h (by injection e)
theorem addr_ne' {g g' q q' : Nat} (h : g ≠ g') : (⟨g, q, none⟩ : Addr) ≠ ⟨g', q', none⟩ := fun e => h (by injection e)

theorem Elems.below {B : Nat} {w w' : World} {g off n c : Nat} {F : Nat → Nat → Value} (h : Elems w g off n c F) (hb : Below B w w') (hg : g < B) : Elems w' g off n c F :=
  fun i hi j hj => (hb.cell (p := ⟨g, off + i * c + j, none⟩) hg).trans (h i hi j hj)
theorem Elems.le {w : World} {g off n n' c : Nat} {F : Nat → Nat → Value} (h : Elems w g off n c F) (hn : n' ≤ n) : Elems w g off n' c F :=
  fun i hi j hj => h i (by omega) j hj
theorem Room.below {B : Nat} {w w' : World} {g m : Nat} (h : Room w g m) (hb : Below B w w') (hg : g < B) : Room w' g m :=
  fun q hq => ⟨by obtain ⟨v, hv⟩ := (h q hq).1; exact ⟨v, (hb.cell (p := ⟨g, q, none⟩) hg).trans hv⟩, (hb.frozen (p := ⟨g, q, none⟩) hg).trans (h q hq).2⟩
theorem Sl.below {B : Nat} {w w' : World} {a : Option Addr} {n c : Nat} {F : Nat → Nat → Value} (h : Sl w a n c F) (hb : Below B w w') (hB : w.heap.size ≤ B) : Sl w' a n c F := by
  rcases h with h | ⟨b, off, rfl, hlt, hE⟩
  · exact Or.inl h
  · exact Or.inr ⟨b, off, rfl, Nat.lt_of_lt_of_le hlt hb.size, hE.below hb (by omega)⟩

theorem Room.set {w : World} {g m o : Nat} {v : Value} (h : Room w g m) (ho : o < m) : Room (w.setCell ⟨g, o, none⟩ v) g m := by
  intro q hq
  obtain ⟨⟨u, hu⟩, hf⟩ := h q hq
  obtain ⟨u', hu'⟩ := cell?_setCell_some (p := ⟨g, o, none⟩) (x := v) hu
  exact ⟨⟨u', hu'⟩, by simpa using hf⟩
theorem put_room {g m : Nat} : ∀ (vs : List Value) (w : World) (o : Nat), Room w g m → o + vs.length ≤ m → Room (put w g o vs) g m
  | [], _, _, h, _ => h
  | v :: vs, w, o, h, ho => put_room vs _ (o + 1) (h.set (by simp at ho; omega)) (by simp at ho; omega)
theorem put_out {g : Nat} : ∀ (vs : List Value) (w : World) (o q : Nat), (q < o ∨ o + vs.length ≤ q) → (put w g o vs).cell? ⟨g, q, none⟩ = w.cell? ⟨g, q, none⟩
  | [], _, _, _, _ => rfl
  | v :: vs, w, o, q, h => by
    rw [put, put_out vs _ (o + 1) q (by simp at h; omega), World.cell?_setCell_other _ _ _ _ (addr_ne (by simp at h; omega))]
theorem put_in {g m : Nat} : ∀ (vs : List Value) (w : World) (o : Nat), Room w g m → o + vs.length ≤ m → ∀ j v, vs[j]? = some v → (put w g o vs).cell? ⟨g, o + j, none⟩ = some v
  | [], _, _, _, _, j, v, hj => by simp at hj
  | u :: vs, w, o, h, ho, j, v, hj => by
    have ho' : o + 1 + vs.length ≤ m := by simp at ho; omega
    cases j with
    | zero =>
      simp at hj; subst hj
      obtain ⟨⟨x, hx⟩, _⟩ := h o (by omega)
      rw [put, put_out vs _ (o + 1) (o + 0) (by omega)]
      exact World.cell?_setCell_same _ _ _ hx
    | succ j =>
      have := put_in vs (w.setCell ⟨g, o, none⟩ u) (o + 1) (h.set (by omega)) ho' j v (by simpa using hj)
      rw [put, show o + (j + 1) = o + 1 + j by omega]; exact this
theorem put_below {g B : Nat} (hB : B ≤ g) : ∀ (vs : List Value) (a w : World) (o : Nat), Below B a w → Below B a (put w g o vs)
  | [], _, _, _, h => h
  | v :: vs, a, w, o, h => put_below hB vs a _ (o + 1) (h.setCell (p := ⟨g, o, none⟩) hB v)
theorem put_size {g : Nat} : ∀ (vs : List Value) (w : World) (o : Nat), (put w g o vs).heap.size = w.heap.size
  | [], _, _ => rfl
  | v :: vs, w, o => by rw [put, put_size vs]; simp

/-- Element k is laid behind the first k. -/
theorem Elems.step {w : World} {g n k c : Nat} {F : Nat → Nat → Value} {vs : List Value} (h : Elems w g 0 k c F) (hr : Room w g (n * c)) (hk : k < n) (hc : vs.length = c) (hv : ∀ j, j < c → vs[j]? = some (F k j)) :
    Elems (put w g (k * c) vs) g 0 (k + 1) c F := by
  have hle : k * c + c ≤ n * c := by
    have := Nat.mul_le_mul_right c (show k + 1 ≤ n by omega)
    rw [Nat.add_mul, Nat.one_mul] at this; exact this
  intro i hi j hj
  rw [Nat.zero_add]
  rcases Nat.lt_or_ge i k with hlt | hge
  · have : i * c + c ≤ k * c := by
      have := Nat.mul_le_mul_right c (show i + 1 ≤ k by omega)
      rw [Nat.add_mul, Nat.one_mul] at this; exact this
    rw [put_out vs w (k * c) (i * c + j) (by omega)]
    have := h i hlt j hj
    rwa [Nat.zero_add] at this
  · have hik : i = k := by omega
    subst hik
    exact put_in vs w (i * c) hr (by omega) j (F i j) (hv j hj)

/-- The row that 'make' has laid may be written. -/
theorem room_made {w : World} {base g n size cap : Nat} {e : TypeId} {xs : List Value} (h : w.ownsRow base e size (.slice (some ⟨g, 0, none⟩) n cap) n xs) : Room w g (n * size) := by
  obtain ⟨hl, h | ⟨g', cap', cur, hv, hb, hh, hn, hm, hs, ht⟩⟩ := h
  · exact absurd h.1 (by simp)
  · simp only [Value.slice.injEq, Option.some.injEq, Addr.mk.injEq, and_true, true_and] at hv
    obtain ⟨rfl, rfl⟩ := hv
    intro q hq
    have hq' : q < cur.size := by rw [hs]; exact Nat.lt_of_lt_of_le hq (Nat.mul_le_mul_right _ hn)
    refine ⟨⟨cur[q], ?_⟩, ?_⟩
    · rw [Go.Joins.cell_of_block hh]; simp [hq']
    · exact Go.Joins.unfrozen_of_block hh q
end Go.Proofs.Ytmhkfangfhanlaa
/- Only some blocks have turned. Rows of structs that a call owns: n elements of c cells each. No Go text is spoken of here. -/
namespace Go.Proofs.Ytmhkfangfhanlaa
open Go.RowKit
set_option linter.unusedVariables false

/-- Blocks B..C-1 may have turned, no others. -/
def Trn (B C : Nat) (w w' : World) : Prop := w'.os = w.os ∧ w'.tape = w.tape ∧ w'.output = w.output ∧ w.heap.size ≤ w'.heap.size ∧ ∀ k, k < w.heap.size → (k < B ∨ C ≤ k) → w'.heap[k]? = w.heap[k]?
theorem Trn.refl (B C : Nat) (w : World) : Trn B C w w := ⟨rfl, rfl, rfl, Nat.le_refl _, fun _ _ _ => rfl⟩
theorem Trn.trans {B C : Nat} {a b c : World} (h : Trn B C a b) (k : Trn B C b c) : Trn B C a c :=
  ⟨k.1.trans h.1, k.2.1.trans h.2.1, k.2.2.1.trans h.2.2.1, Nat.le_trans h.2.2.2.1 k.2.2.2.1, fun i hi hx => (k.2.2.2.2 i (Nat.lt_of_lt_of_le hi h.2.2.2.1) hx).trans (h.2.2.2.2 i hi hx)⟩
theorem Trn.wide {B C B' C' : Nat} {w w' : World} (h : Trn B C w w') (hB : B' ≤ B) (hC : C ≤ C') : Trn B' C' w w' :=
  ⟨h.1, h.2.1, h.2.2.1, h.2.2.2.1, fun k hk hx => h.2.2.2.2 k hk (by omega)⟩
theorem Trn.set {B C : Nat} {a w : World} (h : Trn B C a w) {p : Addr} (h1 : B ≤ p.block) (h2 : p.block < C) (v : Value) : Trn B C a (w.setCell p v) :=
  h.trans ⟨rfl, rfl, rfl, by simp [World.setCell], fun k _ hx => Below.heap_setCell _ _ _ _ (by omega)⟩
theorem Trn.next {B C : Nat} {a w w' : World} (h : Trn B C a w) (hb : Below w.heap.size w w') : Trn B C a w' :=
  h.trans ⟨hb.os, hb.tape, hb.output, hb.size, fun k hk _ => hb.block k hk⟩
theorem Trn.below {B C D : Nat} {w w' : World} (h : Trn B C w w') (hD : D ≤ B) (hs : D ≤ w.heap.size) : Below D w w' :=
  ⟨h.1, h.2.1, h.2.2.1, h.2.2.2.1, fun k hk => h.2.2.2.2 k (by omega) (Or.inl (by omega))⟩
theorem below_trn {b w w' : World} {B C : Nat} (h : Below b.heap.size b w) (ht : Trn B C w w') (hB : b.heap.size ≤ B) : Below b.heap.size b w' := h.trans (ht.below hB h.size)

/-- n elements of c cells each, in a block of B..C-1 that may be written (or none). -/
def SRow (w : World) (B C : Nat) (a : Option Addr) (n c : Nat) (F : Nat → Nat → Value) : Prop :=
  (n = 0 ∨ ∃ g, a = some ⟨g, 0, none⟩ ∧ B ≤ g ∧ g < C ∧ g < w.heap.size ∧ Elems w g 0 n c F ∧ Room w g (n * c)) ∧ C ≤ w.heap.size
theorem SRow.sl {w : World} {B C : Nat} {a : Option Addr} {n c : Nat} {F : Nat → Nat → Value} (h : SRow w B C a n c F) : Sl w a n c F := by
  rcases h.1 with h | ⟨g, ha, _, _, hg, hE, _⟩
  · exact Or.inl h
  · exact Or.inr ⟨g, 0, ha, hg, hE⟩
theorem SRow.next {w w' : World} {B C : Nat} {a : Option Addr} {n c : Nat} {F : Nat → Nat → Value} (h : SRow w B C a n c F) (hb : Below w.heap.size w w') : SRow w' B C a n c F := by
  refine ⟨?_, Nat.le_trans h.2 hb.size⟩
  rcases h.1 with h | ⟨g, ha, hB, hC, hg, hE, hR⟩
  · exact Or.inl h
  · exact Or.inr ⟨g, ha, hB, hC, Nat.lt_of_lt_of_le hg hb.size, hE.below hb hg, hR.below hb hg⟩
theorem Elems.same {w w' : World} {g off n c : Nat} {F : Nat → Nat → Value} (h : Elems w g off n c F) (e : w'.heap[g]? = w.heap[g]?) : Elems w' g off n c F :=
  fun i hi j hj => (World.cell?_of_block (a := ⟨g, off + i * c + j, none⟩) e).trans (h i hi j hj)
theorem Room.same {w w' : World} {g m : Nat} (h : Room w g m) (e : w'.heap[g]? = w.heap[g]?) : Room w' g m :=
  fun q hq => ⟨by obtain ⟨v, hv⟩ := (h q hq).1; exact ⟨v, (World.cell?_of_block (a := ⟨g, q, none⟩) e).trans hv⟩, (World.frozen?_of_block (a := ⟨g, q, none⟩) e).trans (h q hq).2⟩
theorem SRow.trn {w w' : World} {B C B' C' : Nat} {a : Option Addr} {n c : Nat} {F : Nat → Nat → Value} (h : SRow w B C a n c F) (ht : Trn B' C' w w') (ha : C ≤ B' ∨ C' ≤ B) : SRow w' B C a n c F := by
  refine ⟨?_, Nat.le_trans h.2 ht.2.2.2.1⟩
  rcases h.1 with h | ⟨g, e, hB, hC, hg, hE, hR⟩
  · exact Or.inl h
  · have hk := ht.2.2.2.2 g hg (by omega)
    exact Or.inr ⟨g, e, hB, hC, Nat.lt_of_lt_of_le hg ht.2.2.2.1, hE.same hk, hR.same hk⟩

theorem SRow.wide {w : World} {B B' C : Nat} {a : Option Addr} {n c : Nat} {F : Nat → Nat → Value} (h : SRow w B C a n c F) (hB : B' ≤ B) : SRow w B' C a n c F := by
  refine ⟨?_, h.2⟩
  rcases h.1 with h | ⟨g, e, hb, r⟩
  · exact Or.inl h
  · exact Or.inr ⟨g, e, by omega, r⟩
/-- The cells of n elements, one behind the other. -/
def cellsL (F : Nat → Nat → Value) (c : Nat) : Nat → List Value
  | 0 => []
  | n + 1 => cellsL F c n ++ (List.range c).map (F n)
theorem cellsL_len (F : Nat → Nat → Value) (c : Nat) : ∀ n, (cellsL F c n).length = n * c
  | 0 => by simp [cellsL]
  | n + 1 => by simp [cellsL, cellsL_len F c n, Nat.add_mul]
theorem cellsL_at (F : Nat → Nat → Value) (c : Nat) : ∀ n i j, i < n → j < c → (cellsL F c n)[i * c + j]? = some (F i j)
  | n + 1, i, j, hi, hj => by
    rcases Nat.lt_or_ge i n with h | h
    · have hlt : i * c + j < n * c := by
        have := Nat.mul_le_mul_right c (show i + 1 ≤ n by omega)
        rw [Nat.add_mul, Nat.one_mul] at this; omega
      rw [cellsL, List.getElem?_append_left (by rw [cellsL_len]; exact hlt)]
      exact cellsL_at F c n i j h hj
    · have : i = n := by omega
      subst this
      rw [cellsL, List.getElem?_append_right (by rw [cellsL_len]; omega), cellsL_len, show i * c + j - i * c = j by omega]
      simp [hj]
theorem cellsL_congr {F G : Nat → Nat → Value} {c : Nat} : ∀ {n : Nat}, (∀ i, i < n → ∀ j, j < c → F i j = G i j) → cellsL F c n = cellsL G c n
  | 0, _ => rfl
  | n + 1, h => by
    rw [cellsL, cellsL, cellsL_congr (fun i hi j hj => h i (by omega) j hj)]
    congr 1
    apply List.map_congr_left
    intro j hj
    exact h n (by omega) j (List.mem_range.1 hj)
theorem SRow.of {w : World} {base n c : Nat} {e : TypeId} {v : Value} {F : Nat → Nat → Value} (h : w.ownsRow base e c v n (cellsL F c n)) : ∃ a cap, v = .slice a n cap ∧ n ≤ cap ∧ SRow w base w.heap.size a n c F := by
  rcases Nat.eq_zero_or_pos n with hz | hp
  · subst hz
    obtain ⟨_, h | ⟨g, cap, cur, rfl, _⟩⟩ := h
    · exact ⟨none, 0, h.1, Nat.le_refl _, Or.inl rfl, Nat.le_refl _⟩
    · exact ⟨_, cap, rfl, Nat.zero_le _, Or.inl rfl, Nat.le_refl _⟩
  obtain ⟨g, cap, rfl⟩ := Go.Joins.ownsRow_form h hp
  have hcap : n ≤ cap := by
    obtain ⟨_, h | ⟨g', cap', cur, hv, _, _, hn, _⟩⟩ := h
    · exact absurd h.1 (by simp)
    · simp only [Value.slice.injEq, true_and] at hv
      rw [hv.2]; exact hn
  have hcell : ∀ i, i < n → ∀ j, j < c → w.cell? ⟨g, 0 + i * c + j, none⟩ = some (F i j) := fun i hi j hj => by
    have hlt : i * c + j < n * c := by
      have := Nat.mul_le_mul_right c (show i + 1 ≤ n by omega)
      rw [Nat.add_mul, Nat.one_mul] at this; omega
    rw [Nat.zero_add, World.ownsRow.cellAt h _ hlt]
    exact cellsL_at F c n i j hi hj
  refine ⟨_, cap, rfl, hcap, Or.inr ⟨g, rfl, (h.lt g rfl).1, (h.lt g rfl).2, (h.lt g rfl).2, hcell, fun q hq => ?_⟩, Nat.le_refl _⟩
  obtain ⟨hl, h | ⟨g', cap', cur, hv, hb, hh, hn, hm, hs, ht⟩⟩ := h
  · exact absurd h.1 (by simp)
  · simp only [Value.slice.injEq, Option.some.injEq, Addr.mk.injEq, and_true, true_and] at hv
    obtain ⟨rfl, rfl⟩ := hv
    have hq' : q < cur.size := by rw [hs]; exact Nat.lt_of_lt_of_le hq (Nat.mul_le_mul_right _ hn)
    exact ⟨⟨cur[q], by rw [Go.Joins.cell_of_block hh]; simp [hq']⟩, Go.Joins.unfrozen_of_block hh q⟩
theorem cells_new (w : World) (C : List Value) (e : TypeId) : ∀ j u, C[j]? = some u → (w.alloc (.cells C.toArray e)).cell? ((⟨w.heap.size, 0, none⟩ : Addr).add j) = some u := by
  intro j u h
  have e1 : ((⟨w.heap.size, 0, none⟩ : Addr).add j) = ⟨w.heap.size, j, none⟩ := by unfold Addr.add; split <;> simp_all
  rw [e1]
  simp [h]

/-- k elements are done, and the first j cells of the next one. -/
def Part (w : World) (g n c k j : Nat) (vs : List Value) (F : Nat → Nat → Value) : Prop :=
  Elems w g 0 k c F ∧ (∀ t, t < j → w.cell? ⟨g, k * c + t, none⟩ = vs[t]?) ∧ Room w g (n * c) ∧ g < w.heap.size
theorem Part.start {w : World} {g n c k : Nat} {vs : List Value} {F : Nat → Nat → Value} (h : Elems w g 0 k c F) (hR : Room w g (n * c)) (hg : g < w.heap.size) : Part w g n c k 0 vs F := ⟨h, fun t ht => absurd ht (by omega), hR, hg⟩
theorem Part.next {w w' : World} {g n c k j : Nat} {vs : List Value} {F : Nat → Nat → Value} (h : Part w g n c k j vs F) (hb : Below w.heap.size w w') : Part w' g n c k j vs F :=
  ⟨h.1.below hb h.2.2.2, fun t ht => (hb.cell (p := ⟨g, k * c + t, none⟩) h.2.2.2).trans (h.2.1 t ht), h.2.2.1.below hb h.2.2.2, Nat.lt_of_lt_of_le h.2.2.2 hb.size⟩
theorem Part.set {w : World} {g n c k j : Nat} {vs : List Value} {F : Nat → Nat → Value} {v : Value} (h : Part w g n c k j vs F) (hk : k < n) (hj : j < c) (hv : vs[j]? = some v) : Part (w.setCell ⟨g, k * c + j, none⟩ v) g n c k (j + 1) vs F := by
  have hle : k * c + c ≤ n * c := by
    have := Nat.mul_le_mul_right c (show k + 1 ≤ n by omega)
    rw [Nat.add_mul, Nat.one_mul] at this; exact this
  refine ⟨fun i hi t ht => ?_, fun t ht => ?_, h.2.2.1.set (by omega), by simpa using h.2.2.2⟩
  · have : i * c + c ≤ k * c := by
      have := Nat.mul_le_mul_right c (show i + 1 ≤ k by omega)
      rw [Nat.add_mul, Nat.one_mul] at this; exact this
    rw [World.cell?_setCell_other _ _ _ _ (addr_ne (by omega))]
    exact h.1 i hi t ht
  · by_cases e : t = j
    · subst e
      obtain ⟨⟨x, hx⟩, _⟩ := h.2.2.1 (k * c + t) (by omega)
      rw [World.cell?_setCell_same _ _ _ hx, hv]
    · rw [World.cell?_setCell_other _ _ _ _ (addr_ne (by omega))]
      exact h.2.1 t (by omega)
theorem Part.done {w : World} {g n c k : Nat} {vs : List Value} {F : Nat → Nat → Value} (h : Part w g n c k c vs F) (hv : ∀ j, j < c → vs[j]? = some (F k j)) : Elems w g 0 (k + 1) c F ∧ Room w g (n * c) ∧ g < w.heap.size := by
  refine ⟨fun i hi j hj => ?_, h.2.2.1, h.2.2.2⟩
  rcases Nat.lt_or_ge i k with g' | g'
  · exact h.1 i g' j hj
  · have : i = k := by omega
    subst this
    rw [Nat.zero_add, h.2.1 j hj]; exact hv j hj
end Go.Proofs.Ytmhkfangfhanlaa
/- Shapes of data: numbers, texts, bools, structs and lists of them, one inside the other: how they lie in memory, who owns it, how large they are. No Go text is spoken of here. -/
namespace Go.Proofs.Ytmhkfangfhanlaa
open Go.RowKit
set_option linter.unusedVariables false

inductive Sh where
  | int | str | bool | nil
  | pair (a b : Sh)
  | list (e : Sh)
@[reducible] def Sh.T : Sh → Type
  | .int => Int
  | .str => ByteArray
  | .bool => Bool
  | .nil => Unit
  | .pair a b => a.T × b.T
  | .list e => List e.T
/-- How many cells one takes. -/
def Sh.c : Sh → Nat
  | .int => 1
  | .str => 1
  | .bool => 1
  | .nil => 0
  | .pair a b => a.c + b.c
  | .list _ => 1
/-- Cells that stand in a row. -/
def Cells (w : World) (g off : Nat) (cs : List Value) : Prop := ∀ j, j < cs.length → w.cell? ⟨g, off + j, none⟩ = cs[j]?
theorem Cells.same {w w' : World} {g off : Nat} {cs : List Value} (h : Cells w g off cs) (e : w'.heap[g]? = w.heap[g]?) : Cells w' g off cs := fun j hj => (World.cell?_of_block (a := ⟨g, off + j, none⟩) e).trans (h j hj)
theorem Cells.at {w : World} {g off : Nat} {cs : List Value} (h : Cells w g off cs) (j : Nat) {v : Value} (hv : cs[j]? = some v) : w.cell? ⟨g, off + j, none⟩ = some v := by
  have hj : j < cs.length := by
    rcases Nat.lt_or_ge j cs.length with q | q
    · exact q
    · rw [List.getElem?_eq_none q] at hv; cases hv
  rw [h j hj, hv]
theorem Cells.at0 {w : World} {g off : Nat} {cs : List Value} (h : Cells w g off cs) {v : Value} (hv : cs[0]? = some v) : w.cell? ⟨g, off, none⟩ = some v := h.at 0 hv
/-- These cells hold this datum, wherever its lists lie. -/
def Lies (w : World) : (s : Sh) → List Value → s.T → Prop
  | .int, cs, n => cs = [.int .i64 n]
  | .str, cs, b => cs = [.string b]
  | .bool, cs, b => cs = [.bool b]
  | .nil, cs, _ => cs = []
  | .pair a b, cs, x => ∃ c1 c2, cs = c1 ++ c2 ∧ Lies w a c1 x.1 ∧ Lies w b c2 x.2
  | .list e, cs, l => ∃ ad cap, cs = [.slice ad l.length cap] ∧ l.length ≤ cap ∧ cap ≤ maxLen ∧ (l = [] ∨ ∃ g off, ad = some ⟨g, off, none⟩ ∧ g < w.heap.size ∧ ∀ i (h : i < l.length), ∃ ec, ec.length = e.c ∧ Cells w g (off + i * e.c) ec ∧ Lies w e ec l[i])
theorem Lies.len {w : World} : ∀ {s : Sh} {cs : List Value} {x : s.T}, Lies w s cs x → cs.length = s.c
  | .int, cs, x, h => by rw [show cs = _ from h]; rfl
  | .str, cs, x, h => by rw [show cs = _ from h]; rfl
  | .bool, cs, x, h => by rw [show cs = _ from h]; rfl
  | .nil, cs, x, h => by rw [show cs = _ from h]; rfl
  | .pair a b, cs, x, h => by
    obtain ⟨c1, c2, rfl, h1, h2⟩ := h
    rw [List.length_append, h1.len, h2.len]; rfl
  | .list e, cs, x, h => by
    obtain ⟨ad, cap, rfl, _⟩ := h
    rfl
theorem Lies.keep {w w' : World} (hw : ∀ k, k < w.heap.size → w'.heap[k]? = w.heap[k]?) (hz : w.heap.size ≤ w'.heap.size) : ∀ {s : Sh} {cs : List Value} {x : s.T}, Lies w s cs x → Lies w' s cs x
  | .int, cs, x, h => h
  | .str, cs, x, h => h
  | .bool, cs, x, h => h
  | .nil, cs, x, h => h
  | .pair a b, cs, x, h => by
    obtain ⟨c1, c2, e, h1, h2⟩ := h
    exact ⟨c1, c2, e, h1.keep hw hz, h2.keep hw hz⟩
  | .list e, cs, x, h => by
    obtain ⟨ad, cap, e1, c1, c2, h⟩ := h
    refine ⟨ad, cap, e1, c1, c2, ?_⟩
    rcases h with h | ⟨g, off, e2, hg, hE⟩
    · exact Or.inl h
    · refine Or.inr ⟨g, off, e2, Nat.lt_of_lt_of_le hg hz, fun i hi => ?_⟩
      obtain ⟨ec, h1, h2, h3⟩ := hE i hi
      exact ⟨ec, h1, h2.same (hw g hg), h3.keep hw hz⟩
theorem Lies.next {w w' : World} {s : Sh} {cs : List Value} {x : s.T} (h : Lies w s cs x) (hb : Below w.heap.size w w') : Lies w' s cs x := h.keep (fun k hk => hb.block k hk) hb.size
theorem Lies.elem {w : World} {e : Sh} {a : Option Addr} {n cap : Nat} {l : List e.T} (h : Lies w (.list e) [.slice a n cap] l) {k : Nat} (hk : k < l.length) :
    ∃ g off, a = some ⟨g, off, none⟩ ∧ g < w.heap.size ∧ ∃ ec, ec.length = e.c ∧ Cells w g (off + k * e.c) ec ∧ Lies w e ec l[k] := by
  obtain ⟨ad, c, e1, _, _, h⟩ := h
  simp only [List.cons.injEq, Value.slice.injEq, and_true] at e1
  obtain ⟨rfl, rfl, rfl⟩ := e1
  rcases h with h | ⟨g, off, e2, hg, hE⟩
  · rw [h] at hk; exact absurd hk (by simp)
  · exact ⟨g, off, e2, hg, hE k hk⟩
theorem Lies.count {w : World} {e : Sh} {a : Option Addr} {n cap : Nat} {l : List e.T} (h : Lies w (.list e) [.slice a n cap] l) : n = l.length := by
  obtain ⟨ad, c, e1, h⟩ := h
  simp only [List.cons.injEq, Value.slice.injEq, and_true] at e1
  exact e1.2.1
theorem Lies.caps {w : World} {e : Sh} {a : Option Addr} {n cap : Nat} {l : List e.T} (h : Lies w (.list e) [.slice a n cap] l) : n ≤ cap ∧ cap ≤ maxLen := by
  obtain ⟨ad, c, e1, c1, c2, h⟩ := h
  simp only [List.cons.injEq, Value.slice.injEq, and_true] at e1
  obtain ⟨rfl, rfl, rfl⟩ := e1
  exact ⟨c1, c2⟩
/-- An empty list lies anywhere. -/
theorem Lies.none {w : World} {e : Sh} {a : Option Addr} {cap : Nat} (hc : cap ≤ maxLen) : Lies w (.list e) [.slice a 0 cap] [] := ⟨a, cap, rfl, Nat.zero_le _, hc, Or.inl rfl⟩

/-- Only blocks of S have turned. -/
def TurnS (S : Nat → Prop) (w w' : World) : Prop := w'.os = w.os ∧ w'.tape = w.tape ∧ w'.output = w.output ∧ w.heap.size ≤ w'.heap.size ∧ ∀ k, k < w.heap.size → ¬ S k → w'.heap[k]? = w.heap[k]?
theorem TurnS.refl (S : Nat → Prop) (w : World) : TurnS S w w := ⟨rfl, rfl, rfl, Nat.le_refl _, fun _ _ _ => rfl⟩
theorem TurnS.trans {S : Nat → Prop} {a b c : World} (h : TurnS S a b) (k : TurnS S b c) : TurnS S a c :=
  ⟨k.1.trans h.1, k.2.1.trans h.2.1, k.2.2.1.trans h.2.2.1, Nat.le_trans h.2.2.2.1 k.2.2.2.1, fun i hi hx => (k.2.2.2.2 i (Nat.lt_of_lt_of_le hi h.2.2.2.1) hx).trans (h.2.2.2.2 i hi hx)⟩
theorem TurnS.wide {S S' : Nat → Prop} {w w' : World} (h : TurnS S w w') (hS : ∀ k, S k → S' k) : TurnS S' w w' := ⟨h.1, h.2.1, h.2.2.1, h.2.2.2.1, fun k hk hx => h.2.2.2.2 k hk (fun q => hx (hS k q))⟩
theorem TurnS.of_below {S : Nat → Prop} {w w' : World} (h : Below w.heap.size w w') : TurnS S w w' := ⟨h.os, h.tape, h.output, h.size, fun k hk _ => h.block k hk⟩
theorem TurnS.next {S : Nat → Prop} {a w w' : World} (h : TurnS S a w) (hb : Below w.heap.size w w') : TurnS S a w' := h.trans (TurnS.of_below hb)
theorem TurnS.size {S : Nat → Prop} {w w' : World} (h : TurnS S w w') : w.heap.size ≤ w'.heap.size := h.2.2.2.1
theorem TurnS.block {S : Nat → Prop} {w w' : World} (h : TurnS S w w') {k : Nat} (hk : k < w.heap.size) (hx : ¬ S k) : w'.heap[k]? = w.heap[k]? := h.2.2.2.2 k hk hx
theorem TurnS.cell {S : Nat → Prop} {w w' : World} (h : TurnS S w w') {g q : Nat} (hg : g < w.heap.size) (hx : ¬ S g) : w'.cell? ⟨g, q, none⟩ = w.cell? ⟨g, q, none⟩ := World.cell?_of_block (a := ⟨g, q, none⟩) (h.block hg hx)
theorem TurnS.below {S : Nat → Prop} {w w' : World} {B : Nat} (h : TurnS S w w') (hS : ∀ k, S k → B ≤ k) (hB : B ≤ w.heap.size) : Below B w w' := ⟨h.1, h.2.1, h.2.2.1, h.2.2.2.1, fun k hk => h.2.2.2.2 k (Nat.lt_of_lt_of_le hk hB) (fun q => by have := hS k q; omega)⟩
theorem TurnS.set {S : Nat → Prop} {a w : World} (h : TurnS S a w) {p : Addr} (hp : S p.block) (v : Value) : TurnS S a (w.setCell p v) :=
  h.trans ⟨rfl, rfl, rfl, by simp [World.setCell], fun k _ hx => Below.heap_setCell _ _ _ _ (fun e => hx (e ▸ hp))⟩
theorem Bx0.turn {S : Nat → Prop} {w w' : World} {g m : Nat} (h : Room w g m) (ht : TurnS S w w') (hg : g < w.heap.size) (hx : ¬ S g) : Room w' g m := h.same (ht.block hg hx)

/-- These cells hold this datum, and its lists lie in blocks of S, each in one of its own, which may be written. -/
def Own (w : World) : (s : Sh) → List Value → s.T → (Nat → Prop) → Prop
  | .int, cs, n, _ => cs = [.int .i64 n]
  | .str, cs, b, _ => cs = [.string b]
  | .bool, cs, b, _ => cs = [.bool b]
  | .nil, cs, _, _ => cs = []
  | .pair a b, cs, x, S => ∃ c1 c2 S1 S2, cs = c1 ++ c2 ∧ Own w a c1 x.1 S1 ∧ Own w b c2 x.2 S2 ∧ (∀ k, S1 k → ¬ S2 k) ∧ ∀ k, S1 k ∨ S2 k → S k
  | .list e, cs, l, S => (l = [] ∧ ∃ ad cap, cs = [.slice ad 0 cap] ∧ cap ≤ maxLen) ∨
      ∃ g cap, ∃ B : Nat → Nat → Prop, cs = [.slice (some ⟨g, 0, none⟩) l.length cap] ∧ (l.length ≤ cap ∧ cap ≤ maxLen) ∧ g < w.heap.size ∧ S g ∧ (∀ i, i < l.length → ∀ k, B i k → S k ∧ k ≠ g) ∧ (∀ i j, i < j → j < l.length → ∀ k, B i k → ¬ B j k) ∧
        Room w g (l.length * e.c) ∧ ∀ i (h : i < l.length), ∃ ec, ec.length = e.c ∧ Cells w g (i * e.c) ec ∧ Own w e ec l[i] (B i)
/-- A row of block g with room for m elements, of which the first k are these, each with blocks B i of its own; all blocks in S. -/
def OwnK (w : World) (e : Sh) (g m k : Nat) (l : List e.T) (S : Nat → Prop) (B : Nat → Nat → Prop) : Prop :=
  g < w.heap.size ∧ S g ∧ (∀ i, i < k → ∀ b, B i b → S b ∧ b ≠ g) ∧ (∀ i j, i < j → j < k → ∀ b, B i b → ¬ B j b) ∧
    Room w g (m * e.c) ∧ ∀ i (h : i < l.length), i < k → ∃ ec, ec.length = e.c ∧ Cells w g (i * e.c) ec ∧ Own w e ec l[i] (B i)
theorem own_list {w : World} {e : Sh} {cs : List Value} {l : List e.T} {S : Nat → Prop} (h : Own w (.list e) cs l S) :
    (l = [] ∧ ∃ ad cap, cs = [.slice ad 0 cap] ∧ cap ≤ maxLen) ∨ ∃ g cap B, cs = [.slice (some ⟨g, 0, none⟩) l.length cap] ∧ (l.length ≤ cap ∧ cap ≤ maxLen) ∧ OwnK w e g l.length l.length l S B := by
  rcases h with h | ⟨g, cap, B, e1, hc, h1, h2, h3, h4, h5, h6⟩
  · exact Or.inl h
  · exact Or.inr ⟨g, cap, B, e1, hc, h1, h2, h3, h4, h5, fun i hi _ => h6 i hi⟩
theorem OwnK.list {w : World} {e : Sh} {g cap : Nat} {l : List e.T} {S : Nat → Prop} {B : Nat → Nat → Prop} (h : OwnK w e g l.length l.length l S B) (hc : l.length ≤ cap) (hm : cap ≤ maxLen) : Own w (.list e) [.slice (some ⟨g, 0, none⟩) l.length cap] l S :=
  Or.inr ⟨g, cap, B, rfl, ⟨hc, hm⟩, h.1, h.2.1, h.2.2.1, h.2.2.2.1, h.2.2.2.2.1, fun i hi => h.2.2.2.2.2 i hi hi⟩
theorem own_form {w : World} {e : Sh} {cs : List Value} {l : List e.T} {S : Nat → Prop} (h : Own w (.list e) cs l S) : ∃ a k, cs = [.slice a l.length k] := by
  rcases h with ⟨rfl, ad, cap, rfl, _⟩ | ⟨g, cap, B, e1, _⟩
  · exact ⟨ad, cap, rfl⟩
  · exact ⟨_, cap, e1⟩
theorem Own.none {w : World} {e : Sh} {a : Option Addr} {cap : Nat} {S : Nat → Prop} (hc : cap ≤ maxLen) : Own w (.list e) [.slice a 0 cap] [] S := Or.inl ⟨rfl, a, cap, rfl, hc⟩
theorem Own.lies {w : World} : ∀ {s : Sh} {cs : List Value} {x : s.T} {S : Nat → Prop}, Own w s cs x S → Lies w s cs x
  | .int, cs, x, S, h => h
  | .str, cs, x, S, h => h
  | .bool, cs, x, S, h => h
  | .nil, cs, x, S, h => h
  | .pair a b, cs, x, S, h => by
    obtain ⟨c1, c2, S1, S2, e, h1, h2, _⟩ := h
    exact ⟨c1, c2, e, h1.lies, h2.lies⟩
  | .list e, cs, x, S, h => by
    rcases h with ⟨h, ad, cap, e1, hc⟩ | ⟨g, cap, B, e1, hc, hg, _, _, _, _, hE⟩
    · exact ⟨ad, cap, by rw [e1, h]; rfl, by rw [h]; exact Nat.zero_le _, hc, Or.inl h⟩
    · refine ⟨_, cap, e1, hc.1, hc.2, Or.inr ⟨g, 0, rfl, hg, fun i hi => ?_⟩⟩
      obtain ⟨ec, h1, h2, h3⟩ := hE i hi
      exact ⟨ec, h1, by rw [Nat.zero_add]; exact h2, h3.lies⟩
theorem Own.mono {w : World} : ∀ {s : Sh} {cs : List Value} {x : s.T} {S S' : Nat → Prop}, Own w s cs x S → (∀ k, S k → S' k) → Own w s cs x S'
  | .int, cs, x, S, S', h, _ => h
  | .str, cs, x, S, S', h, _ => h
  | .bool, cs, x, S, S', h, _ => h
  | .nil, cs, x, S, S', h, _ => h
  | .pair a b, cs, x, S, S', h, hS => by
    obtain ⟨c1, c2, S1, S2, e, h1, h2, h3, h4⟩ := h
    exact ⟨c1, c2, S1, S2, e, h1, h2, h3, fun k hk => hS k (h4 k hk)⟩
  | .list e, cs, x, S, S', h, hS => by
    rcases h with h | ⟨g, cap, B, e1, hc, hg, hSg, h3, h4, h5, hE⟩
    · exact Or.inl h
    · exact Or.inr ⟨g, cap, B, e1, hc, hg, hS g hSg, fun i hi k hk => ⟨hS k (h3 i hi k hk).1, (h3 i hi k hk).2⟩, h4, h5, hE⟩
/-- What has not turned in the blocks of S is as it was. -/
theorem Own.keep {w w' : World} (hz : w.heap.size ≤ w'.heap.size) : ∀ {s : Sh} {cs : List Value} {x : s.T} {S : Nat → Prop}, (∀ k, k < w.heap.size → S k → w'.heap[k]? = w.heap[k]?) → Own w s cs x S → Own w' s cs x S
  | .int, cs, x, S, _, h => h
  | .str, cs, x, S, _, h => h
  | .bool, cs, x, S, _, h => h
  | .nil, cs, x, S, _, h => h
  | .pair a b, cs, x, S, hw, h => by
    obtain ⟨c1, c2, S1, S2, e, h1, h2, h3, h4⟩ := h
    exact ⟨c1, c2, S1, S2, e, h1.keep hz (fun k hl hk => hw k hl (h4 k (Or.inl hk))), h2.keep hz (fun k hl hk => hw k hl (h4 k (Or.inr hk))), h3, h4⟩
  | .list e, cs, x, S, hw, h => by
    rcases h with h | ⟨g, cap, B, e1, hc, hg, hS, h3, h4, h5, hE⟩
    · exact Or.inl h
    · have hgg := hw g hg hS
      refine Or.inr ⟨g, cap, B, e1, hc, Nat.lt_of_lt_of_le hg hz, hS, h3, h4, h5.same hgg, fun i hi => ?_⟩
      obtain ⟨ec, q1, q2, q3⟩ := hE i hi
      exact ⟨ec, q1, q2.same hgg, q3.keep hz (fun k hl hk => hw k hl (h3 i hi k hk).1)⟩
theorem Own.next {w w' : World} {s : Sh} {cs : List Value} {x : s.T} {S : Nat → Prop} (h : Own w s cs x S) (hb : Below w.heap.size w w') : Own w' s cs x S := h.keep hb.size (fun k hk _ => hb.block k hk)
theorem Own.turn {S S' : Nat → Prop} {w w' : World} {s : Sh} {cs : List Value} {x : s.T} (h : Own w s cs x S) (ht : TurnS S' w w') (ha : ∀ k, S k → ¬ S' k) : Own w' s cs x S := h.keep ht.size (fun k hk hs => ht.block hk (ha k hs))
theorem Own.len {w : World} {s : Sh} {cs : List Value} {x : s.T} {S : Nat → Prop} (h : Own w s cs x S) : cs.length = s.c := h.lies.len
theorem Own.set {S : Nat → Prop} {w : World} {s : Sh} {cs : List Value} {x : s.T} (h : Own w s cs x S) {p : Addr} (hp : ¬ S p.block) (v : Value) : Own (w.setCell p v) s cs x S :=
  h.keep (by simp [World.setCell]) (fun k _ hk => Below.heap_setCell _ _ _ _ (fun e => hp (e ▸ hk)))

theorem OwnK.next {w w' : World} {e : Sh} {g m k : Nat} {l : List e.T} {S : Nat → Prop} {B : Nat → Nat → Prop} (h : OwnK w e g m k l S B) (hb : Below w.heap.size w w') : OwnK w' e g m k l S B := by
  refine ⟨Nat.lt_of_lt_of_le h.1 hb.size, h.2.1, h.2.2.1, h.2.2.2.1, h.2.2.2.2.1.below hb h.1, fun i hi hk => ?_⟩
  obtain ⟨ec, h1, h2, h3⟩ := h.2.2.2.2.2 i hi hk
  exact ⟨ec, h1, h2.same (hb.block g h.1), h3.next hb⟩
theorem OwnK.turn {w w' : World} {e : Sh} {g m k : Nat} {l : List e.T} {S S' : Nat → Prop} {B : Nat → Nat → Prop} (h : OwnK w e g m k l S B) (ht : TurnS S' w w') (ha : ∀ b, S b → ¬ S' b) : OwnK w' e g m k l S B := by
  refine ⟨Nat.lt_of_lt_of_le h.1 ht.size, h.2.1, h.2.2.1, h.2.2.2.1, h.2.2.2.2.1.same (ht.block h.1 (ha g h.2.1)), fun i hi hk => ?_⟩
  obtain ⟨ec, h1, h2, h3⟩ := h.2.2.2.2.2 i hi hk
  exact ⟨ec, h1, h2.same (ht.block h.1 (ha g h.2.1)), h3.turn ht (fun b hb => ha b (h.2.2.1 i hk b hb).1)⟩
theorem put_block {g : Nat} : ∀ (vs : List Value) (w : World) (o b : Nat), b ≠ g → (put w g o vs).heap[b]? = w.heap[b]?
  | [], _, _, _, _ => rfl
  | v :: vs, w, o, b, h => by rw [put, put_block vs _ (o + 1) b h]; exact Below.heap_setCell _ _ _ _ h
theorem mul_step {i k c : Nat} (h : i < k) : i * c + c ≤ k * c := by
  have := Nat.mul_le_mul_right c (show i + 1 ≤ k by omega)
  rw [Nat.add_mul, Nat.one_mul] at this; exact this
/-- One more element is laid. -/
theorem OwnK.more {w : World} {e : Sh} {g m k : Nat} {l : List e.T} {S S' Sk : Nat → Prop} {B : Nat → Nat → Prop} {ec : List Value} (h : OwnK w e g m k l S B) (hk : k < m) (hl : k < l.length) (hec : ec.length = e.c) (ho : Own w e ec l[k] Sk)
    (h1 : ∀ b, S b → S' b) (h2 : ∀ b, Sk b → S' b ∧ ¬ S b) : OwnK (put w g (k * e.c) ec) e g m (k + 1) l S' (fun i => if i = k then Sk else B i) := by
  have hz := put_size (g := g) ec w (k * e.c)
  refine ⟨by rw [hz]; exact h.1, h1 g h.2.1, upto_succ (fun i hi b hb => ?_) (fun b hb => ?_), fun i j hij hj b hb => ?_, put_room _ _ _ h.2.2.2.2.1 (by rw [hec]; exact mul_step hk), fun i hi hik => ?_⟩
  · have hb : B i b := by simpa [show ¬ i = k by omega] using hb
    exact ⟨h1 b (h.2.2.1 i hi b hb).1, (h.2.2.1 i hi b hb).2⟩
  · have hb : Sk b := by simpa using hb
    exact ⟨(h2 b hb).1, fun q => (h2 b hb).2 (q ▸ h.2.1)⟩
  · have hb : B i b := by simpa [show ¬ i = k by omega] using hb
    by_cases ej : j = k
    · simp only [if_pos ej]
      exact fun q => (h2 b q).2 (h.2.2.1 i (by omega) b hb).1
    · simp only [if_neg ej]
      exact h.2.2.2.1 i j hij (by omega) b hb
  · by_cases ei : i = k
    · subst ei
      simp only [if_true]
      refine ⟨ec, hec, fun j hj => ?_, ho.keep (by rw [hz]; exact Nat.le_refl _) (fun b _ hb => put_block _ _ _ _ (fun q => (h2 b hb).2 (q ▸ h.2.1)))⟩
      rw [List.getElem?_eq_getElem hj]
      exact put_in ec w (i * e.c) h.2.2.2.2.1 (by rw [hec]; exact mul_step hk) j _ (List.getElem?_eq_getElem hj)
    · simp only [if_neg ei]
      obtain ⟨fc, q1, q2, q3⟩ := h.2.2.2.2.2 i hi (by omega)
      refine ⟨fc, q1, fun j hj => ?_, q3.keep (by rw [hz]; exact Nat.le_refl _) (fun b _ hb => put_block _ _ _ _ (h.2.2.1 i (by omega) b hb).2)⟩
      have := mul_step (c := e.c) (show i < k by omega)
      rw [put_out _ _ _ _ (Or.inl (by omega))]
      exact q2 j hj
/-- One element has turned. -/
theorem OwnK.swap {w w' : World} {e : Sh} {g m n k : Nat} {l : List e.T} {S : Nat → Prop} {B : Nat → Nat → Prop} {y : e.T} {ec : List Value} (h : OwnK w e g m n l S B) (hk : k < n) (hz : w.heap.size ≤ w'.heap.size) (hR : Room w' g (m * e.c))
    (ho : ∀ q, q < k * e.c ∨ k * e.c + e.c ≤ q → w'.cell? ⟨g, q, none⟩ = w.cell? ⟨g, q, none⟩) (hT : ∀ b, b < w.heap.size → b ≠ g → ¬ B k b → w'.heap[b]? = w.heap[b]?) (hec : ec.length = e.c) (hc : Cells w' g (k * e.c) ec) (hy : Own w' e ec y (B k)) :
    OwnK w' e g m n (l.set k y) S B := by
  refine ⟨Nat.lt_of_lt_of_le h.1 hz, h.2.1, h.2.2.1, h.2.2.2.1, hR, fun i hi hin => ?_⟩
  rw [List.length_set] at hi
  by_cases ei : i = k
  · subst ei
    refine ⟨ec, hec, hc, ?_⟩
    rw [List.getElem_set_self]; exact hy
  · obtain ⟨fc, q1, q2, q3⟩ := h.2.2.2.2.2 i hi hin
    refine ⟨fc, q1, fun j hj => ?_, ?_⟩
    · rw [ho]
      · exact q2 j hj
      · rcases Nat.lt_or_ge i k with q | q
        · have := mul_step (c := e.c) q; omega
        · have := mul_step (c := e.c) (show k < i by omega); omega
    · rw [List.getElem_set_ne (fun q => ei q.symm)]
      refine q3.keep hz (fun b hb hB => hT b hb (h.2.2.1 i hin b hB).2 (fun q => ?_))
      rcases Nat.lt_or_ge i k with q' | q'
      · exact h.2.2.2.1 i k q' hk b hB q
      · exact h.2.2.2.1 k i (by omega) hin b q hB
/-- Blocks from lo on, below hi. -/
def Btw (lo hi b : Nat) : Prop := lo ≤ b ∧ b < hi

/-- How large a datum is, as the laws reckon it. -/
def szD : (s : Sh) → s.T → Nat
  | .int, _ => 0
  | .str, b => b.size
  | .bool, _ => 0
  | .nil, _ => 0
  | .pair a b, x => szD a x.1 + szD b x.2
  | .list e, l => l.length + (l.map (szD e)).sum
/-- Every list and text of it could be. -/
def Fits : (s : Sh) → s.T → Prop
  | .int, n => -9223372036854775808 ≤ n ∧ n ≤ 9223372036854775807
  | .str, b => b.size ≤ maxLen
  | .bool, _ => True
  | .nil, _ => True
  | .pair a b, x => Fits a x.1 ∧ Fits b x.2
  | .list e, l => l.length ≤ maxLen ∧ ∀ x, x ∈ l → Fits e x
theorem sz_mem {e : Sh} {l : List e.T} {x : e.T} (h : x ∈ l) : szD e x + 1 ≤ szD (.list e) l := by
  simp only [szD]
  induction l with
  | nil => cases h
  | cons y t ih =>
    simp only [List.map_cons, List.sum_cons, List.length_cons]
    rcases List.mem_cons.1 h with rfl | h
    · omega
    · have := ih h; omega
theorem sz_take {e : Sh} (l : List e.T) (k : Nat) (hk : k < l.length) : ((l.take (k + 1)).map (szD e)).sum = ((l.take k).map (szD e)).sum + szD e l[k] := by
  rw [List.take_succ_eq_append_getElem hk, List.map_append, List.sum_append]; simp
theorem sz_part {e : Sh} (l : List e.T) (k : Nat) : ((l.take k).map (szD e)).sum ≤ (l.map (szD e)).sum := by
  have := List.take_append_drop k l
  rw [← this, List.map_append, List.sum_append]
  simp
theorem sum_zero {α : Type} {f : α → Nat} (h : ∀ x, f x = 0) : ∀ l : List α, (l.map f).sum = 0
  | [] => rfl
  | x :: t => by rw [List.map_cons, List.sum_cons, h, sum_zero h t]
/-- What a size function answers: what is left, or less than nothing. -/
def SzP (l : Int) (n : Nat) (w : World) (r : Ending) (w' : World) : Prop := (∃ y : Int, r = .returned (.int .i64 y) ∧ ((y = -1 ∧ l < (n : Int)) ∨ (0 ≤ y ∧ y = l - (n : Int)))) ∧ Below w.heap.size w w'
theorem list_of1 {α : Type} {l : List α} (h : l.length = 1) : ∃ v0, l = [v0] := by
  match l, h with
  | [v0], _ => exact ⟨v0, rfl⟩
theorem list_of2 {α : Type} {l : List α} (h : l.length = 2) : ∃ v0 v1, l = [v0, v1] := by
  match l, h with
  | [v0, v1], _ => exact ⟨v0, v1, rfl⟩
theorem list_of3 {α : Type} {l : List α} (h : l.length = 3) : ∃ v0 v1 v2, l = [v0, v1, v2] := by
  match l, h with
  | [v0, v1, v2], _ => exact ⟨v0, v1, v2, rfl⟩
theorem list_of4 {α : Type} {l : List α} (h : l.length = 4) : ∃ v0 v1 v2 v3, l = [v0, v1, v2, v3] := by
  match l, h with
  | [v0, v1, v2, v3], _ => exact ⟨v0, v1, v2, v3, rfl⟩
theorem list_of5 {α : Type} {l : List α} (h : l.length = 5) : ∃ v0 v1 v2 v3 v4, l = [v0, v1, v2, v3, v4] := by
  match l, h with
  | [v0, v1, v2, v3, v4], _ => exact ⟨v0, v1, v2, v3, v4, rfl⟩
theorem list_of6 {α : Type} {l : List α} (h : l.length = 6) : ∃ v0 v1 v2 v3 v4 v5, l = [v0, v1, v2, v3, v4, v5] := by
  match l, h with
  | [v0, v1, v2, v3, v4, v5], _ => exact ⟨v0, v1, v2, v3, v4, v5, rfl⟩
theorem list_of7 {α : Type} {l : List α} (h : l.length = 7) : ∃ v0 v1 v2 v3 v4 v5 v6, l = [v0, v1, v2, v3, v4, v5, v6] := by
  match l, h with
  | [v0, v1, v2, v3, v4, v5, v6], _ => exact ⟨v0, v1, v2, v3, v4, v5, v6, rfl⟩
theorem list_of8 {α : Type} {l : List α} (h : l.length = 8) : ∃ v0 v1 v2 v3 v4 v5 v6 v7, l = [v0, v1, v2, v3, v4, v5, v6, v7] := by
  match l, h with
  | [v0, v1, v2, v3, v4, v5, v6, v7], _ => exact ⟨v0, v1, v2, v3, v4, v5, v6, v7, rfl⟩
theorem list_of9 {α : Type} {l : List α} (h : l.length = 9) : ∃ v0 v1 v2 v3 v4 v5 v6 v7 v8, l = [v0, v1, v2, v3, v4, v5, v6, v7, v8] := by
  match l, h with
  | [v0, v1, v2, v3, v4, v5, v6, v7, v8], _ => exact ⟨v0, v1, v2, v3, v4, v5, v6, v7, v8, rfl⟩
theorem list_of10 {α : Type} {l : List α} (h : l.length = 10) : ∃ v0 v1 v2 v3 v4 v5 v6 v7 v8 v9, l = [v0, v1, v2, v3, v4, v5, v6, v7, v8, v9] := by
  match l, h with
  | [v0, v1, v2, v3, v4, v5, v6, v7, v8, v9], _ => exact ⟨v0, v1, v2, v3, v4, v5, v6, v7, v8, v9, rfl⟩
theorem list_of11 {α : Type} {l : List α} (h : l.length = 11) : ∃ v0 v1 v2 v3 v4 v5 v6 v7 v8 v9 v10, l = [v0, v1, v2, v3, v4, v5, v6, v7, v8, v9, v10] := by
  match l, h with
  | [v0, v1, v2, v3, v4, v5, v6, v7, v8, v9, v10], _ => exact ⟨v0, v1, v2, v3, v4, v5, v6, v7, v8, v9, v10, rfl⟩
theorem list_of12 {α : Type} {l : List α} (h : l.length = 12) : ∃ v0 v1 v2 v3 v4 v5 v6 v7 v8 v9 v10 v11, l = [v0, v1, v2, v3, v4, v5, v6, v7, v8, v9, v10, v11] := by
  match l, h with
  | [v0, v1, v2, v3, v4, v5, v6, v7, v8, v9, v10, v11], _ => exact ⟨v0, v1, v2, v3, v4, v5, v6, v7, v8, v9, v10, v11, rfl⟩
end Go.Proofs.Ytmhkfangfhanlaa
/- Shapes of this chapter's types. Written by tools/nest.py. -/
namespace Go.Proofs.Ytmhkfangfhanlaa
open Go.RowKit
set_option linter.unusedVariables false
set_option linter.unusedSimpArgs false

def shAcceptor : Sh := .pair .int (.pair .int (.pair .str .nil))
theorem lies_Acceptor {w : World} {cs : List Value} {x0 : Int} {x1 : Int} {x2 : ByteArray} (h : Lies w shAcceptor cs (x0, x1, x2, ())) : cs = [.int .i64 x0, .int .i64 x1, .string x2] := by
  obtain ⟨_, _, rfl, rfl, ⟨_, _, rfl, rfl, ⟨_, _, rfl, rfl, rfl⟩⟩⟩ := h
  exact rfl
theorem mk_Acceptor {w : World} {x0 : Int} {x1 : Int} {x2 : ByteArray} : Lies w shAcceptor [.int .i64 x0, .int .i64 x1, .string x2] (x0, x1, x2, ()) := ⟨_, _, rfl, rfl, ⟨_, _, rfl, rfl, ⟨_, _, rfl, rfl, rfl⟩⟩⟩
theorem own_Acceptor {w : World} {cs : List Value} {x0 : Int} {x1 : Int} {x2 : ByteArray} {S : Nat → Prop} (h : Own w shAcceptor cs (x0, x1, x2, ()) S) : cs = [.int .i64 x0, .int .i64 x1, .string x2] := by
  obtain ⟨_, _, s1, t1, rfl, rfl, ⟨_, _, s2, t2, rfl, rfl, ⟨_, _, s3, t3, rfl, rfl, rfl, d3, u3⟩, d2, u2⟩, d1, u1⟩ := h
  exact rfl
theorem mkown_Acceptor {w : World} {x0 : Int} {x1 : Int} {x2 : ByteArray} {S : Nat → Prop} : Own w shAcceptor [.int .i64 x0, .int .i64 x1, .string x2] (x0, x1, x2, ()) S := ⟨_, _, fun k => False, fun k => False ∨ False ∨ False, rfl, rfl, ⟨_, _, fun k => False, fun k => False ∨ False, rfl, rfl, ⟨_, _, fun k => False, fun k => False, rfl, rfl, rfl, fun k g _ => g.elim, fun _ h => h⟩, fun k g _ => g.elim, fun _ h => h⟩, fun k g _ => g.elim, (by intro k h; (repeat' (rcases h with h | h)) <;> (first | exact h.elim))⟩
def shPromise : Sh := .pair .int (.pair .int (.pair .str .nil))
theorem lies_Promise {w : World} {cs : List Value} {x0 : Int} {x1 : Int} {x2 : ByteArray} (h : Lies w shPromise cs (x0, x1, x2, ())) : cs = [.int .i64 x0, .int .i64 x1, .string x2] := by
  obtain ⟨_, _, rfl, rfl, ⟨_, _, rfl, rfl, ⟨_, _, rfl, rfl, rfl⟩⟩⟩ := h
  exact rfl
theorem mk_Promise {w : World} {x0 : Int} {x1 : Int} {x2 : ByteArray} : Lies w shPromise [.int .i64 x0, .int .i64 x1, .string x2] (x0, x1, x2, ()) := ⟨_, _, rfl, rfl, ⟨_, _, rfl, rfl, ⟨_, _, rfl, rfl, rfl⟩⟩⟩
theorem own_Promise {w : World} {cs : List Value} {x0 : Int} {x1 : Int} {x2 : ByteArray} {S : Nat → Prop} (h : Own w shPromise cs (x0, x1, x2, ()) S) : cs = [.int .i64 x0, .int .i64 x1, .string x2] := by
  obtain ⟨_, _, s1, t1, rfl, rfl, ⟨_, _, s2, t2, rfl, rfl, ⟨_, _, s3, t3, rfl, rfl, rfl, d3, u3⟩, d2, u2⟩, d1, u1⟩ := h
  exact rfl
theorem mkown_Promise {w : World} {x0 : Int} {x1 : Int} {x2 : ByteArray} {S : Nat → Prop} : Own w shPromise [.int .i64 x0, .int .i64 x1, .string x2] (x0, x1, x2, ()) S := ⟨_, _, fun k => False, fun k => False ∨ False ∨ False, rfl, rfl, ⟨_, _, fun k => False, fun k => False ∨ False, rfl, rfl, ⟨_, _, fun k => False, fun k => False, rfl, rfl, rfl, fun k g _ => g.elim, fun _ h => h⟩, fun k g _ => g.elim, fun _ h => h⟩, fun k g _ => g.elim, (by intro k h; (repeat' (rcases h with h | h)) <;> (first | exact h.elim))⟩
def shProposer : Sh := .pair .str (.pair (.list shPromise) (.pair .bool (.pair .str (.pair (.list .int) .nil))))
theorem lies_Proposer {w : World} {cs : List Value} {x0 : ByteArray} {x1 : List (Sh.T shPromise)} {x2 : Bool} {x3 : ByteArray} {x4 : List (Sh.T .int)} (h : Lies w shProposer cs (x0, x1, x2, x3, x4, ())) : ∃ (a1 : Option Addr) (k1 : Nat), ∃ (a2 : Option Addr) (k2 : Nat), cs = [.string x0, .slice a1 x1.length k1, .bool x2, .string x3, .slice a2 x4.length k2] ∧ Lies w (.list shPromise) [.slice a1 x1.length k1] x1 ∧ Lies w (.list .int) [.slice a2 x4.length k2] x4 := by
  obtain ⟨_, _, rfl, rfl, ⟨_, _, rfl, h1, ⟨_, _, rfl, rfl, ⟨_, _, rfl, rfl, ⟨_, _, rfl, h2, rfl⟩⟩⟩⟩⟩ := h
  obtain ⟨a1, k1, rfl, q1⟩ := h1
  obtain ⟨a2, k2, rfl, q2⟩ := h2
  exact ⟨a1, k1, a2, k2, rfl, ⟨a1, k1, rfl, q1⟩, ⟨a2, k2, rfl, q2⟩⟩
theorem mk_Proposer {w : World} {a1 : Option Addr} {n1 k1 : Nat} {a2 : Option Addr} {n2 k2 : Nat} {x0 : ByteArray} {x1 : List (Sh.T shPromise)} {x2 : Bool} {x3 : ByteArray} {x4 : List (Sh.T .int)} (h1 : Lies w (.list shPromise) [.slice a1 n1 k1] x1) (h2 : Lies w (.list .int) [.slice a2 n2 k2] x4) : Lies w shProposer [.string x0, .slice a1 n1 k1, .bool x2, .string x3, .slice a2 n2 k2] (x0, x1, x2, x3, x4, ()) := ⟨_, _, rfl, rfl, ⟨_, _, rfl, h1, ⟨_, _, rfl, rfl, ⟨_, _, rfl, rfl, ⟨_, _, rfl, h2, rfl⟩⟩⟩⟩⟩
theorem own_Proposer {w : World} {cs : List Value} {x0 : ByteArray} {x1 : List (Sh.T shPromise)} {x2 : Bool} {x3 : ByteArray} {x4 : List (Sh.T .int)} {S : Nat → Prop} (h : Own w shProposer cs (x0, x1, x2, x3, x4, ()) S) : ∃ (a1 : Option Addr) (k1 : Nat) (S1 : Nat → Prop), ∃ (a2 : Option Addr) (k2 : Nat) (S2 : Nat → Prop), cs = [.string x0, .slice a1 x1.length k1, .bool x2, .string x3, .slice a2 x4.length k2] ∧ Own w (.list shPromise) [.slice a1 x1.length k1] x1 S1 ∧ Own w (.list .int) [.slice a2 x4.length k2] x4 S2 ∧ (∀ k, S1 k → S k) ∧ (∀ k, S2 k → S k) ∧ (∀ k, S1 k → ¬ S2 k) := by
  obtain ⟨_, _, s1, t1, rfl, rfl, ⟨_, _, s2, t2, rfl, H2, ⟨_, _, s3, t3, rfl, rfl, ⟨_, _, s4, t4, rfl, rfl, ⟨_, _, s5, t5, rfl, H5, rfl, d5, u5⟩, d4, u4⟩, d3, u3⟩, d2, u2⟩, d1, u1⟩ := h
  obtain ⟨a1, k1, rfl⟩ := own_form H2
  obtain ⟨a2, k2, rfl⟩ := own_form H5
  exact ⟨a1, k1, s2, a2, k2, s5, rfl, H2, H5, fun k e => (u1 _ (Or.inr (u2 _ (Or.inl e)))), fun k e => (u1 _ (Or.inr (u2 _ (Or.inr (u3 _ (Or.inr (u4 _ (Or.inr (u5 _ (Or.inl e)))))))))), fun k e f => d2 k e (u3 _ (Or.inr (u4 _ (Or.inr (u5 _ (Or.inl f))))))⟩
theorem mkown_Proposer {w : World} {a1 : Option Addr} {n1 k1 : Nat} {S1 : Nat → Prop} {a2 : Option Addr} {n2 k2 : Nat} {S2 : Nat → Prop} {x0 : ByteArray} {x1 : List (Sh.T shPromise)} {x2 : Bool} {x3 : ByteArray} {x4 : List (Sh.T .int)} {S : Nat → Prop} (h1 : Own w (.list shPromise) [.slice a1 n1 k1] x1 S1) (h2 : Own w (.list .int) [.slice a2 n2 k2] x4 S2) (e1 : ∀ k, S1 k → S k) (e2 : ∀ k, S2 k → S k) (d1_2 : ∀ k, S1 k → ¬ S2 k) : Own w shProposer [.string x0, .slice a1 n1 k1, .bool x2, .string x3, .slice a2 n2 k2] (x0, x1, x2, x3, x4, ()) S := ⟨_, _, fun k => False, fun k => S1 k ∨ False ∨ False ∨ S2 k ∨ False, rfl, rfl, ⟨_, _, S1, fun k => False ∨ False ∨ S2 k ∨ False, rfl, h1, ⟨_, _, fun k => False, fun k => False ∨ S2 k ∨ False, rfl, rfl, ⟨_, _, fun k => False, fun k => S2 k ∨ False, rfl, rfl, ⟨_, _, S2, fun k => False, rfl, h2, rfl, (by intro k g h; (repeat' (rcases h with h | h)) <;> (first | exact h.elim | exact d1_2 k g h)), fun _ h => h⟩, fun k g _ => g.elim, fun _ h => h⟩, fun k g _ => g.elim, fun _ h => h⟩, (by intro k g h; (repeat' (rcases h with h | h)) <;> (first | exact h.elim | exact d1_2 k g h)), fun _ h => h⟩, fun k g _ => g.elim, (by intro k h; (repeat' (rcases h with h | h)) <;> (first | exact h.elim | exact e1 k h | exact e2 k h))⟩
def shSynod : Sh := .pair (.list shAcceptor) (.pair (.list shProposer) .nil)
theorem lies_Synod {w : World} {cs : List Value} {x0 : List (Sh.T shAcceptor)} {x1 : List (Sh.T shProposer)} (h : Lies w shSynod cs (x0, x1, ())) : ∃ (a1 : Option Addr) (k1 : Nat), ∃ (a2 : Option Addr) (k2 : Nat), cs = [.slice a1 x0.length k1, .slice a2 x1.length k2] ∧ Lies w (.list shAcceptor) [.slice a1 x0.length k1] x0 ∧ Lies w (.list shProposer) [.slice a2 x1.length k2] x1 := by
  obtain ⟨_, _, rfl, h1, ⟨_, _, rfl, h2, rfl⟩⟩ := h
  obtain ⟨a1, k1, rfl, q1⟩ := h1
  obtain ⟨a2, k2, rfl, q2⟩ := h2
  exact ⟨a1, k1, a2, k2, rfl, ⟨a1, k1, rfl, q1⟩, ⟨a2, k2, rfl, q2⟩⟩
theorem mk_Synod {w : World} {a1 : Option Addr} {n1 k1 : Nat} {a2 : Option Addr} {n2 k2 : Nat} {x0 : List (Sh.T shAcceptor)} {x1 : List (Sh.T shProposer)} (h1 : Lies w (.list shAcceptor) [.slice a1 n1 k1] x0) (h2 : Lies w (.list shProposer) [.slice a2 n2 k2] x1) : Lies w shSynod [.slice a1 n1 k1, .slice a2 n2 k2] (x0, x1, ()) := ⟨_, _, rfl, h1, ⟨_, _, rfl, h2, rfl⟩⟩
theorem own_Synod {w : World} {cs : List Value} {x0 : List (Sh.T shAcceptor)} {x1 : List (Sh.T shProposer)} {S : Nat → Prop} (h : Own w shSynod cs (x0, x1, ()) S) : ∃ (a1 : Option Addr) (k1 : Nat) (S1 : Nat → Prop), ∃ (a2 : Option Addr) (k2 : Nat) (S2 : Nat → Prop), cs = [.slice a1 x0.length k1, .slice a2 x1.length k2] ∧ Own w (.list shAcceptor) [.slice a1 x0.length k1] x0 S1 ∧ Own w (.list shProposer) [.slice a2 x1.length k2] x1 S2 ∧ (∀ k, S1 k → S k) ∧ (∀ k, S2 k → S k) ∧ (∀ k, S1 k → ¬ S2 k) := by
  obtain ⟨_, _, s1, t1, rfl, H1, ⟨_, _, s2, t2, rfl, H2, rfl, d2, u2⟩, d1, u1⟩ := h
  obtain ⟨a1, k1, rfl⟩ := own_form H1
  obtain ⟨a2, k2, rfl⟩ := own_form H2
  exact ⟨a1, k1, s1, a2, k2, s2, rfl, H1, H2, fun k e => (u1 _ (Or.inl e)), fun k e => (u1 _ (Or.inr (u2 _ (Or.inl e)))), fun k e f => d1 k e (u2 _ (Or.inl f))⟩
theorem mkown_Synod {w : World} {a1 : Option Addr} {n1 k1 : Nat} {S1 : Nat → Prop} {a2 : Option Addr} {n2 k2 : Nat} {S2 : Nat → Prop} {x0 : List (Sh.T shAcceptor)} {x1 : List (Sh.T shProposer)} {S : Nat → Prop} (h1 : Own w (.list shAcceptor) [.slice a1 n1 k1] x0 S1) (h2 : Own w (.list shProposer) [.slice a2 n2 k2] x1 S2) (e1 : ∀ k, S1 k → S k) (e2 : ∀ k, S2 k → S k) (d1_2 : ∀ k, S1 k → ¬ S2 k) : Own w shSynod [.slice a1 n1 k1, .slice a2 n2 k2] (x0, x1, ()) S := ⟨_, _, S1, fun k => S2 k ∨ False, rfl, h1, ⟨_, _, S2, fun k => False, rfl, h2, rfl, (by intro k g h; (repeat' (rcases h with h | h)) <;> (first | exact h.elim | exact d1_2 k g h)), fun _ h => h⟩, (by intro k g h; (repeat' (rcases h with h | h)) <;> (first | exact h.elim | exact d1_2 k g h)), (by intro k h; (repeat' (rcases h with h | h)) <;> (first | exact h.elim | exact e1 k h | exact e2 k h))⟩
def shSynodStep : Sh := .pair .bool (.pair .int (.pair .int .nil))
theorem lies_SynodStep {w : World} {cs : List Value} {x0 : Bool} {x1 : Int} {x2 : Int} (h : Lies w shSynodStep cs (x0, x1, x2, ())) : cs = [.bool x0, .int .i64 x1, .int .i64 x2] := by
  obtain ⟨_, _, rfl, rfl, ⟨_, _, rfl, rfl, ⟨_, _, rfl, rfl, rfl⟩⟩⟩ := h
  exact rfl
theorem mk_SynodStep {w : World} {x0 : Bool} {x1 : Int} {x2 : Int} : Lies w shSynodStep [.bool x0, .int .i64 x1, .int .i64 x2] (x0, x1, x2, ()) := ⟨_, _, rfl, rfl, ⟨_, _, rfl, rfl, ⟨_, _, rfl, rfl, rfl⟩⟩⟩
theorem own_SynodStep {w : World} {cs : List Value} {x0 : Bool} {x1 : Int} {x2 : Int} {S : Nat → Prop} (h : Own w shSynodStep cs (x0, x1, x2, ()) S) : cs = [.bool x0, .int .i64 x1, .int .i64 x2] := by
  obtain ⟨_, _, s1, t1, rfl, rfl, ⟨_, _, s2, t2, rfl, rfl, ⟨_, _, s3, t3, rfl, rfl, rfl, d3, u3⟩, d2, u2⟩, d1, u1⟩ := h
  exact rfl
theorem mkown_SynodStep {w : World} {x0 : Bool} {x1 : Int} {x2 : Int} {S : Nat → Prop} : Own w shSynodStep [.bool x0, .int .i64 x1, .int .i64 x2] (x0, x1, x2, ()) S := ⟨_, _, fun k => False, fun k => False ∨ False ∨ False, rfl, rfl, ⟨_, _, fun k => False, fun k => False ∨ False, rfl, rfl, ⟨_, _, fun k => False, fun k => False, rfl, rfl, rfl, fun k g _ => g.elim, fun _ h => h⟩, fun k g _ => g.elim, fun _ h => h⟩, fun k g _ => g.elim, (by intro k h; (repeat' (rcases h with h | h)) <;> (first | exact h.elim))⟩
end Go.Proofs.Ytmhkfangfhanlaa
/- A variable's cells: a block of some values that may be written. No Go text is spoken of here. -/
namespace Go.Proofs.Ytmhkfangfhanlaa
open Go.RowKit
set_option linter.unusedVariables false

/-- Block g holds these values, and may be written. -/
def Bx (w : World) (g : Nat) (vs : List Value) : Prop := (∀ j, j < vs.length → w.cell? ⟨g, j, none⟩ = vs[j]? ∧ w.frozen? ⟨g, j, none⟩ = false) ∧ g < w.heap.size
theorem Bx.new (w : World) (vs : List Value) (t : TypeId) : Bx (w.alloc (.cells vs.toArray t)) w.heap.size vs := by
  refine ⟨fun j hj => ⟨?_, ?_⟩, by simp⟩
  · have := cells_new w vs t j vs[j] (by simp [hj])
    rw [show ((⟨w.heap.size, 0, none⟩ : Addr).add j) = ⟨w.heap.size, j, none⟩ by unfold Addr.add; split <;> simp_all] at this
    rw [this]; simp [hj]
  · simp
theorem Bx.next {w w' : World} {g : Nat} {vs : List Value} (h : Bx w g vs) (hb : Below w.heap.size w w') : Bx w' g vs :=
  ⟨fun j hj => ⟨(hb.cell (p := ⟨g, j, none⟩) h.2).trans (h.1 j hj).1, (hb.frozen (p := ⟨g, j, none⟩) h.2).trans (h.1 j hj).2⟩, Nat.lt_of_lt_of_le h.2 hb.size⟩
theorem Bx.alloc {w : World} {g : Nat} {vs : List Value} (h : Bx w g vs) (o : Obj) : Bx (w.alloc o) g vs := h.next (Go.Joins.below_alloc1 _ _)
theorem Bx.trn {w w' : World} {B C g : Nat} {vs : List Value} (h : Bx w g vs) (ht : Trn B C w w') (ha : g < B ∨ C ≤ g) : Bx w' g vs :=
  ⟨fun j hj => ⟨(World.cell?_of_block (a := ⟨g, j, none⟩) (ht.2.2.2.2 g h.2 ha)).trans (h.1 j hj).1, (World.frozen?_of_block (a := ⟨g, j, none⟩) (ht.2.2.2.2 g h.2 ha)).trans (h.1 j hj).2⟩, Nat.lt_of_lt_of_le h.2 ht.2.2.2.1⟩
theorem Bx.other {w : World} {g g' q : Nat} {v : Value} {vs : List Value} (h : Bx w g vs) (hg : g ≠ g') : Bx (w.setCell ⟨g', q, none⟩ v) g vs :=
  ⟨fun j hj => ⟨by rw [World.cell?_setCell_other _ _ _ _ (addr_ne' (fun e => hg e.symm))]; exact (h.1 j hj).1, by simpa using (h.1 j hj).2⟩, by simpa using h.2⟩
theorem Bx.set {w : World} {g k : Nat} {vs : List Value} (h : Bx w g vs) (hk : k < vs.length) (v : Value) : Bx (w.setCell ⟨g, k, none⟩ v) g (vs.set k v) := by
  refine ⟨fun j hj => ⟨?_, by simp at hj; simpa using (h.1 j hj).2⟩, by simpa using h.2⟩
  simp at hj
  by_cases e : k = j
  · subst e
    have h1 := (h.1 k hk).1
    rw [List.getElem?_eq_getElem hk] at h1
    rw [World.cell?_setCell_same _ _ _ h1]; simp [hk]
  · rw [World.cell?_setCell_other _ _ _ _ (addr_ne e), (h.1 j hj).1, List.getElem?_set_ne e]
theorem Bx.cell {w : World} {g : Nat} {vs : List Value} (h : Bx w g vs) (j : Nat) {v : Value} (hv : vs[j]? = some v) : w.cell? ⟨g, j, none⟩ = some v := by
  have hj : j < vs.length := by
    rcases Nat.lt_or_ge j vs.length with g | g
    · exact g
    · rw [List.getElem?_eq_none g] at hv; cases hv
  rw [(h.1 j hj).1, hv]
theorem Bx.frz {w : World} {g : Nat} {vs : List Value} (h : Bx w g vs) (j : Nat) (hj : j < vs.length) : w.frozen? ⟨g, j, none⟩ = false := (h.1 j hj).2
end Go.Proofs.Ytmhkfangfhanlaa
