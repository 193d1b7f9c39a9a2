/- Bytes that a call gathers in a row of its own: the plain laws. -/
import Derived.WalkKit
import Derived.WalkSpells
import Derived.WalkLawsBesides
import Derived.Lib.AppendStr
import Derived.Lib.SlBytesRow
import Derived.Lib.SmallJoins
namespace Go.Proofs.Ytbklhmeaoigneaa
open Go.RowKit
set_option linter.unusedVariables false

def by8 (x : Int) : UInt8 := UInt8.ofNat (x % 256).toNat
theorem by8_wrap (x : Int) : IntKind.u8.wrap x = ((by8 x).toNat : Int) := by
  have h : (by8 x).toNat = (x % 256).toNat := by
    unfold by8; rw [UInt8.toNat_ofNat_of_lt' (by simp; omega)]
  rw [h]; show x % 256 = _; omega
theorem by8_byte (x : Int) (h0 : 0 ≤ x) (h1 : x ≤ 255) : x = ((by8 x).toNat : Int) := by
  have := by8_wrap x
  rw [← this]; show x = x % 256; omega
def cells8 (l : List UInt8) : List Value := l.map fun b => Value.int .u8 (b.toNat : Int)
theorem cells8_str (s : ByteArray) : Lib.strCells s = cells8 s.data.toList := rfl
theorem cells8_append (l m : List UInt8) : cells8 (l ++ m) = cells8 l ++ cells8 m := by simp [cells8]
theorem cells8_one (l : List UInt8) : ∀ u ∈ cells8 l, u.oneCell' = true := by
  intro u hu
  simp only [cells8, List.mem_map] at hu
  obtain ⟨b, _, rfl⟩ := hu
  rfl
/-- The slice value v holds the bytes l in a row of the call's own (e: the bytes' type). -/
def Own8 (w : World) (base : Nat) (e : TypeId) (v : Value) (l : List UInt8) : Prop := w.ownsRow base e 1 v l.length (cells8 l)
/-- Nothing below 'base' has turned, and no block of another type than e. -/
def Kep (base : Nat) (e : TypeId) (w w' : World) : Prop := Below base w w' ∧ ∀ (k : Nat) (C : Array Value) (t : TypeId) (fr : Nat × Nat), w.heap[k]? = some (Obj.cells C t fr) → t ≠ e → w'.heap[k]? = some (Obj.cells C t fr)
theorem Kep.refl (base : Nat) (e : TypeId) (w : World) : Kep base e w w := ⟨Below.refl _ _, fun _ _ _ _ h _ => h⟩
theorem Kep.trans {base : Nat} {e : TypeId} {a b c : World} (h : Kep base e a b) (k : Kep base e b c) : Kep base e a c :=
  ⟨h.1.trans k.1, fun i C t fr hi ht => k.2 i C t fr (h.2 i C t fr hi ht) ht⟩
theorem Kep.drew {base : Nat} {e : TypeId} {a b : World} (h : Kep base e a b) : Kep base e a b.drew := ⟨h.1.drew, h.2⟩
theorem heap_new (w : World) (o : Obj) : (w.alloc o).heap[w.heap.size]? = some o := by
  show (w.heap.push o)[w.heap.size]? = some o
  simp
theorem lt_of_heap {w : World} {k : Nat} {o : Obj} (h : w.heap[k]? = some o) : k < w.heap.size := by
  rcases Nat.lt_or_ge k w.heap.size with g | g
  · exact g
  · rw [Array.getElem?_eq_none g] at h; cases h
theorem Kep.alloc {base : Nat} {e : TypeId} {a b : World} (h : Kep base e a b) (hb : base ≤ b.heap.size) (o : Obj) : Kep base e a (b.alloc o) :=
  h.trans ⟨(Below.refl _ _).alloc hb _, fun i C t fr hi _ => by rw [Below.heap_alloc _ _ _ (lt_of_heap hi)]; exact hi⟩
/-- What a call that only makes memory keeps. -/
theorem Kep.below {base : Nat} {e : TypeId} {a b c : World} (h : Kep base e a b) (hb : Below b.heap.size b c) (hle : base ≤ b.heap.size) : Kep base e a c :=
  h.trans ⟨hb.mono hle, fun i C t fr hi _ => by rw [hb.block i (lt_of_heap hi)]; exact hi⟩
theorem own_block {w : World} {base : Nat} {e : TypeId} {v : Value} {n : Nat} {xs : List Value} {k : Nat} (h : w.ownsRow base e 1 v n xs) (hv : v.ownBlock = some k) : base ≤ k ∧ ∃ C, w.heap[k]? = some (.cells C e (0, 0)) := by
  obtain ⟨_, h | ⟨g, cap, cur, rfl, hb, hh, _⟩⟩ := h
  · rw [h.1] at hv; cases hv
  · simp [Value.ownBlock] at hv; subst hv; exact ⟨hb, cur, hh⟩
theorem Kep.grown {base : Nat} {e : TypeId} {w w' : World} {v : Value} {n : Nat} {xs : List Value} (h : w.ownsRow base e 1 v n xs) (hg : w.grownBy w' v.ownBlock) (hb : base ≤ w.heap.size) : Kep base e w w' := by
  refine ⟨(Below.refl _ _).grown hg hb (fun k hk => (own_block h hk).1), fun k C t fr hk ht => ?_⟩
  rw [hg.block k (lt_of_heap hk) (fun hv => ?_)]
  · exact hk
  · obtain ⟨_, C', hC⟩ := own_block h hv.symm
    rw [hk] at hC; simp at hC; exact ht hC.2.1
theorem Own8.kep {w w' : World} {base base' : Nat} {e : TypeId} {v : Value} {l : List UInt8} (h : Own8 w base e v l) (hb : Below base' w w') (hB : w.heap.size ≤ base') : Own8 w' base e v l := by
  obtain ⟨hl, h | ⟨g, cap, cur, rfl, hb0, hh, h3, h4, h5, h6⟩⟩ := h
  · exact ⟨hl, Or.inl h⟩
  · exact ⟨hl, Or.inr ⟨g, cap, cur, rfl, hb0, by rw [hb.block g (Nat.lt_of_lt_of_le (lt_of_heap hh) hB)]; exact hh, h3, h4, h5, h6⟩⟩
theorem Own8.nil (w : World) (base : Nat) (e : TypeId) : Own8 w base e (.slice none 0 0) [] := World.ownsRow_nil w base e 1
theorem Own8.bytes {w : World} {base : Nat} {e : TypeId} {v : Value} {l : List UInt8} (h : Own8 w base e v l) (hl : 0 < l.length) :
    ∃ g cap, v = .slice (some ⟨g, 0, none⟩) l.length cap ∧ Lib.Bytes w g 0 ⟨l.toArray⟩ := by
  obtain ⟨g, cap, rfl⟩ := Go.Joins.ownsRow_form h hl
  refine ⟨g, cap, rfl, fun i hi => ?_⟩
  have hi' : i < l.length := by simpa [ByteArray.size] using hi
  have := World.ownsRow.cellAt h i (by omega)
  rw [Nat.zero_add, this]
  simp [cells8, hi']
  rfl
theorem by8_mod (y : Int) : y % 256 = ((by8 y).toNat : Int) := by rw [← by8_wrap]; rfl
theorem news_new (w : World) (C : List Value) (e : TypeId) : ∀ j u, C[j]? = some u → (w.alloc (.cells C.toArray e)).cell? ((⟨w.heap.size, 0, none⟩ : Addr).add j) = some u := by
  intro j u h
  have : ((⟨w.heap.size, 0, none⟩ : Addr).add j) = ⟨w.heap.size, j, none⟩ := by unfold Addr.add; split <;> simp_all
  rw [this]; simpa using h
theorem Own8.more {w' : World} {base : Nat} {e : TypeId} {v' : Value} {l m : List UInt8} {k : Nat} {xs : List Value} (h : w'.ownsRow base e 1 v' (l.length + k) (cells8 l ++ xs)) (hk : k = m.length) (hx : xs = cells8 m) : Own8 w' base e v' (l ++ m) := by
  subst hk hx
  unfold Own8; rw [cells8_append, List.length_append]; exact h
/-- The bytes of a word, the highest first, from the j-th on. -/
def wordFrom (x : Int) : Nat → List UInt8
  | 0 => []
  | j + 1 => by8 (x / 2 ^ (8 * j)) :: wordFrom x j
theorem wordFrom_length (x : Int) : ∀ j, (wordFrom x j).length = j
  | 0 => rfl
  | j + 1 => by simp [wordFrom, wordFrom_length x j]
end Go.Proofs.Ytbklhmeaoigneaa
