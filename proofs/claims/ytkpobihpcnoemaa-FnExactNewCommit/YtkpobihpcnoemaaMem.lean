/- Rows of structs in memory: the plain laws on cells that the walks use. No Go text is spoken of here. -/
import Derived.WalkKit
import Derived.WalkSpells
import Derived.WalkLawsBesides
import Derived.Lib.SmallJoins
namespace Go.Proofs.Ytkpobihpcnoemaa
open Go.RowKit
set_option linter.unusedVariables false

/-- n elements of c cells each, from offset 'off' of block g on: cell j of element i holds 'F i j'. -/
def Elems (w : World) (g off n c : Nat) (F : Nat → Nat → Value) : Prop := ∀ i, i < n → ∀ j, j < c → w.cell? ⟨g, off + i * c + j, none⟩ = some (F i j)
/-- A row of m cells that may be written. -/
def Room (w : World) (g m : Nat) : Prop := ∀ q, q < m → (∃ v, w.cell? ⟨g, q, none⟩ = some v) ∧ w.frozen? ⟨g, q, none⟩ = false
/-- The values, one behind the other, from a place on. -/
def put (w : World) (g o : Nat) : List Value → World
  | [] => w
  | v :: vs => put (w.setCell ⟨g, o, none⟩ v) g (o + 1) vs
/-- A slice's n elements of c cells each. -/
def Sl (w : World) (a : Option Addr) (n c : Nat) (F : Nat → Nat → Value) : Prop :=
  n = 0 ∨ ∃ b off, a = some ⟨b, off, none⟩ ∧ b < w.heap.size ∧ Elems w b off n c F

theorem upto_succ {P : Nat → Prop} {k : Nat} (h : ∀ i, i < k → P i) (hk : P k) : ∀ i, i < k + 1 → P i := by
  intro i hi
  rcases Nat.lt_or_ge i k with g | g
  · exact h i g
  · have : i = k := by omega
    subst this; exact hk
theorem addr_ne {g q q' : Nat} (h : q ≠ q') : (⟨g, q, none⟩ : Addr) ≠ ⟨g, q', none⟩ := fun e => h (by injection e)
theorem addr_ne' {g g' q q' : Nat} (h : g ≠ g') : (⟨g, q, none⟩ : Addr) ≠ ⟨g', q', none⟩ := fun e => h (by injection e)

theorem Elems.below {B : Nat} {w w' : World} {g off n c : Nat} {F : Nat → Nat → Value} (h : Elems w g off n c F) (hb : Below B w w') (hg : g < B) : Elems w' g off n c F :=
  fun i hi j hj => (hb.cell (p := ⟨g, off + i * c + j, none⟩) hg).trans (h i hi j hj)
theorem Elems.le {w : World} {g off n n' c : Nat} {F : Nat → Nat → Value} (h : Elems w g off n c F) (hn : n' ≤ n) : Elems w g off n' c F :=
  fun i hi j hj => h i (by omega) j hj
theorem Room.below {B : Nat} {w w' : World} {g m : Nat} (h : Room w g m) (hb : Below B w w') (hg : g < B) : Room w' g m :=
  fun q hq => ⟨by obtain ⟨v, hv⟩ := (h q hq).1; exact ⟨v, (hb.cell (p := ⟨g, q, none⟩) hg).trans hv⟩, (hb.frozen (p := ⟨g, q, none⟩) hg).trans (h q hq).2⟩
theorem Sl.below {B : Nat} {w w' : World} {a : Option Addr} {n c : Nat} {F : Nat → Nat → Value} (h : Sl w a n c F) (hb : Below B w w') (hB : w.heap.size ≤ B) : Sl w' a n c F := by
  rcases h with h | ⟨b, off, rfl, hlt, hE⟩
  · exact Or.inl h
  · exact Or.inr ⟨b, off, rfl, Nat.lt_of_lt_of_le hlt hb.size, hE.below hb (by omega)⟩

theorem Room.set {w : World} {g m o : Nat} {v : Value} (h : Room w g m) (ho : o < m) : Room (w.setCell ⟨g, o, none⟩ v) g m := by
  intro q hq
  obtain ⟨⟨u, hu⟩, hf⟩ := h q hq
  obtain ⟨u', hu'⟩ := cell?_setCell_some (p := ⟨g, o, none⟩) (x := v) hu
  exact ⟨⟨u', hu'⟩, by simpa using hf⟩
theorem put_room {g m : Nat} : ∀ (vs : List Value) (w : World) (o : Nat), Room w g m → o + vs.length ≤ m → Room (put w g o vs) g m
  | [], _, _, h, _ => h
  | v :: vs, w, o, h, ho => put_room vs _ (o + 1) (h.set (by simp at ho; omega)) (by simp at ho; omega)
theorem put_out {g : Nat} : ∀ (vs : List Value) (w : World) (o q : Nat), (q < o ∨ o + vs.length ≤ q) → (put w g o vs).cell? ⟨g, q, none⟩ = w.cell? ⟨g, q, none⟩
  | [], _, _, _, _ => rfl
  | v :: vs, w, o, q, h => by
    rw [put, put_out vs _ (o + 1) q (by simp at h; omega), World.cell?_setCell_other _ _ _ _ (addr_ne (by simp at h; omega))]
theorem put_in {g m : Nat} : ∀ (vs : List Value) (w : World) (o : Nat), Room w g m → o + vs.length ≤ m → ∀ j v, vs[j]? = some v → (put w g o vs).cell? ⟨g, o + j, none⟩ = some v
  | [], _, _, _, _, j, v, hj => by simp at hj
  | u :: vs, w, o, h, ho, j, v, hj => by
    have ho' : o + 1 + vs.length ≤ m := by simp at ho; omega
    cases j with
    | zero =>
      simp at hj; subst hj
      obtain ⟨⟨x, hx⟩, _⟩ := h o (by omega)
      rw [put, put_out vs _ (o + 1) (o + 0) (by omega)]
      exact World.cell?_setCell_same _ _ _ hx
    | succ j =>
      have := put_in vs (w.setCell ⟨g, o, none⟩ u) (o + 1) (h.set (by omega)) ho' j v (by simpa using hj)
      rw [put, show o + (j + 1) = o + 1 + j by omega]; exact this
theorem put_below {g B : Nat} (hB : B ≤ g) : ∀ (vs : List Value) (a w : World) (o : Nat), Below B a w → Below B a (put w g o vs)
  | [], _, _, _, h => h
  | v :: vs, a, w, o, h => put_below hB vs a _ (o + 1) (h.setCell (p := ⟨g, o, none⟩) hB v)
theorem put_size {g : Nat} : ∀ (vs : List Value) (w : World) (o : Nat), (put w g o vs).heap.size = w.heap.size
  | [], _, _ => rfl
  | v :: vs, w, o => by rw [put, put_size vs]; simp

/-- Element k is laid behind the first k. -/
theorem Elems.step {w : World} {g n k c : Nat} {F : Nat → Nat → Value} {vs : List Value} (h : Elems w g 0 k c F) (hr : Room w g (n * c)) (hk : k < n) (hc : vs.length = c) (hv : ∀ j, j < c → vs[j]? = some (F k j)) :
    Elems (put w g (k * c) vs) g 0 (k + 1) c F := by
  have hle : k * c + c ≤ n * c := by
    have := Nat.mul_le_mul_right c (show k + 1 ≤ n by omega)
    rw [Nat.add_mul, Nat.one_mul] at this; exact this
  intro i hi j hj
  rw [Nat.zero_add]
  rcases Nat.lt_or_ge i k with hlt | hge
  · have : i * c + c ≤ k * c := by
      have := Nat.mul_le_mul_right c (show i + 1 ≤ k by omega)
      rw [Nat.add_mul, Nat.one_mul] at this; exact this
    rw [put_out vs w (k * c) (i * c + j) (by omega)]
    have := h i hlt j hj
    rwa [Nat.zero_add] at this
  · have hik : i = k := by omega
    subst hik
    exact put_in vs w (i * c) hr (by omega) j (F i j) (hv j hj)

/-- The row that 'make' has laid may be written. -/
theorem room_made {w : World} {base g n size cap : Nat} {e : TypeId} {xs : List Value} (h : w.ownsRow base e size (.slice (some ⟨g, 0, none⟩) n cap) n xs) : Room w g (n * size) := by
  obtain ⟨hl, h | ⟨g', cap', cur, hv, hb, hh, hn, hm, hs, ht⟩⟩ := h
  · exact absurd h.1 (by simp)
  · simp only [Value.slice.injEq, Option.some.injEq, Addr.mk.injEq, and_true, true_and] at hv
    obtain ⟨rfl, rfl⟩ := hv
    intro q hq
    have hq' : q < cur.size := by rw [hs]; exact Nat.lt_of_lt_of_le hq (Nat.mul_le_mul_right _ hn)
    refine ⟨⟨cur[q], ?_⟩, ?_⟩
    · rw [Go.Joins.cell_of_block hh]; simp [hq']
    · exact Go.Joins.unfrozen_of_block hh q
end Go.Proofs.Ytkpobihpcnoemaa
