/- The contract of LamportOf. -/
import Derived.Test.YtjophhiccbkpjaaEvI
import Derived.Test.YtjophhiccbkpjaaLam
import Derived.Test.YtjophhiccbkpjaaRow
namespace Go.Proofs.Ytjophhiccbkpjaa
open Go.RowKit Go.Maps
set_option linter.unusedVariables false

theorem one_at {w : World} {s : Nat} (hs : w.heap.size = s) (v : Value) (e : TypeId) : ∀ j u, [v][j]? = some u → (w.alloc (.cells #[v] e)).cell? ((⟨s, 0, none⟩ : Addr).add j) = some u := hs ▸ one_new w v e
def lmN (K P M : Nat → Int) (n : Nat) : Nat := if goodE K P M n then n else 0
def lmV (K P M : Nat → Int) (i : Nat) : Int := lam K P M (i + 1)
def LamPost (K P M : Nat → Int) (n : Nat) (w : World) (r : Ending) (w' : World) : Prop :=
  (∃ a cap, r = .returned (.tuple #[.slice a (lmN K P M n) cap, .bool (goodE K P M n)]) ∧ IntS w' w.heap.size w'.heap.size a (lmN K P M n) (lmV K P M)) ∧ Below w.heap.size w w'
theorem lam_no {K P M : Nat → Int} {n : Nat} {w w' : World} (h : goodE K P M n = false) (hb : Below w.heap.size w w') : LamPost K P M n w (.returned (.tuple #[.slice none 0 0, .bool false])) w' :=
  ⟨⟨none, 0, by simp [lmN, h], Or.inl (by simp [lmN, h])⟩, hb⟩
theorem lam_yes {K P M : Nat → Int} {n : Nat} {w w' : World} {a : Option Addr} {cap : Nat} (h : goodE K P M n = true) (hx : IntS w' w.heap.size w'.heap.size a n (lmV K P M)) (hb : Below w.heap.size w w') : LamPost K P M n w (.returned (.tuple #[.slice a n cap, .bool true])) w' :=
  ⟨⟨a, cap, by simp [lmN, h], by simpa [lmN, h] using hx⟩, hb⟩

theorem Vec.grown {w w' : World} {g : Nat} {x : Nat → Int} {row : Option Nat} (h : Vec w g x) (hg : w.grownBy w' row) (hne : some g ≠ row) : Vec w' g x := by
  have e := hg.block g h.2 hne
  exact ⟨fun i hi => ⟨(World.cell?_of_block (a := ⟨g, i, none⟩) e).trans (h.1 i hi).1, (World.frozen?_of_block (a := ⟨g, i, none⟩) e).trans (h.1 i hi).2⟩, Nat.lt_of_lt_of_le h.2 hg.size⟩
theorem IMap.grown {w w' : World} {b n : Nat} {f : Int → Int} {row : Option Nat} (h : IMap w b n f) (hg : w.grownBy w' row) (hne : some b ≠ row) : IMap w' b n f := by
  obtain ⟨D, ho, hf⟩ := h
  exact ⟨D, ho.kept hg hne, hf⟩
theorem IMap.setCell {w : World} {b n g o : Nat} {f : Int → Int} {v : Value} (h : IMap w b n f) (hne : b ≠ g) : IMap (w.setCell ⟨g, o, none⟩ v) b n f := by
  obtain ⟨D, ho, hf⟩ := h
  exact ⟨D, World.ownsMap.setCell ho (by simpa using hne) _, hf⟩
theorem IMap.congr {w : World} {b n : Nat} {f f' : Int → Int} (h : IMap w b n f) (e : ∀ m, f m = f' m) : IMap w b n f' := by
  obtain ⟨D, ho, hf⟩ := h
  exact ⟨D, ho, fun m => by rw [hf, e]⟩
theorem IMap.mono {w : World} {b n n' : Nat} {f : Int → Int} (h : IMap w b n f) (hn : n ≤ n') : IMap w b n' f := by
  obtain ⟨D, ho, hf⟩ := h
  exact ⟨D, ho.mono hn, hf⟩
theorem own_grown {w w' : World} {base : Nat} {e : TypeId} {size : Nat} {v : Value} {n : Nat} {xs : List Value} {b : Nat} (h : w.ownsRow base e size v n xs) (hg : w.grownBy w' (some b)) (hb : b < base) : w'.ownsRow base e size v n xs := by
  obtain ⟨h1, h2⟩ := h
  refine ⟨h1, ?_⟩
  rcases h2 with h2 | ⟨g, cap, cur, hv, hgb, hh, r⟩
  · exact Or.inl h2
  · have hlt : g < w.heap.size := by
      rcases Nat.lt_or_ge g w.heap.size with q | q
      · exact q
      · rw [Array.getElem?_eq_none q] at hh; cases hh
    exact Or.inr ⟨g, cap, cur, hv, hgb, by rw [hg.block g hlt (by simp; omega)]; exact hh, r⟩

/-- What stands behind the first k events: 'last' in block g, 'sent' in the next one, the numbers in a row from g + 2 on. -/
def LamS (K P M : Nat → Int) (B : World) (wr : World) (g k : Nat) (v : Value) : Prop :=
  Vec wr g (lastN K P M k) ∧ IMap wr (g + 1) k (sentN K P M k) ∧ wr.ownsRow (g + 2) 3 1 v k (ints (lmV K P M) k) ∧ Below B.heap.size B wr
theorem row_ne {w : World} {g : Nat} {e : TypeId} {size : Nat} {v : Value} {n : Nat} {xs : List Value} (h : w.ownsRow (g + 2) e size v n xs) : some g ≠ v.ownBlock ∧ some (g + 1) ≠ v.ownBlock := by
  constructor
  · intro e; have := (h.lt g e.symm).1; omega
  · intro e; have := (h.lt (g + 1) e.symm).1; omega
theorem below_row {B w w' : World} {g : Nat} {e : TypeId} {size : Nat} {v : Value} {n : Nat} {xs : List Value} (h : w.ownsRow (g + 2) e size v n xs) (hb : Below B.heap.size B w) (hg : w.grownBy w' v.ownBlock) (hB : B.heap.size ≤ g) : Below B.heap.size B w' :=
  hb.grown hg hb.size (fun k hk => by have := (h.lt k hk).1; omega)
/-- The worlds of a round, up to where the number is put into 'last'. -/
theorem lam_mid {K P M : Nat → Int} {B wr : World} {g k q : Nat} {v : Value} {o : Obj} (h : LamS K P M B wr g k v) (hB : B.heap.size ≤ g) (hp : P k = (q : Int)) (hq : q < 6) {y : Int} (hy : y = lam K P M (k + 1)) :
    Vec ((wr.setCell ⟨g, q, none⟩ (.int .i64 y)).alloc o) g (lastN K P M (k + 1)) ∧ IMap ((wr.setCell ⟨g, q, none⟩ (.int .i64 y)).alloc o) (g + 1) k (sentN K P M k) ∧
    ((wr.setCell ⟨g, q, none⟩ (.int .i64 y)).alloc o).ownsRow (g + 2) 3 1 v k (ints (lmV K P M) k) ∧ Below B.heap.size B ((wr.setCell ⟨g, q, none⟩ (.int .i64 y)).alloc o) := by
  obtain ⟨hv, hi, ho, hb⟩ := h
  have ha := Go.Joins.below_alloc1 (wr.setCell ⟨g, q, none⟩ (.int .i64 y)) o
  have hs := hb.size
  have hv2 := (hv.set hq y).congr (y := lastN K P M (k + 1)) (fun i _ => by rw [hy]; exact lastN_step hp i)
  have hi2 := hi.setCell (g := g) (o := q) (v := .int .i64 y) (by omega)
  refine ⟨hv2.below ha hv2.2, hi2.below ha hi2.lt, own_keep (ownsRow_setCell_below ho (a := ⟨g, q, none⟩) (by show g < g + 2; omega) _) ha, (hb.setCell (p := ⟨g, q, none⟩) hB _).alloc (by simpa using hs) o⟩
theorem lam_end {K P M : Nat → Int} {B w3 w4 : World} {g k : Nat} {v v4 : Value} {o : Obj} {y : Int} (hB : B.heap.size ≤ g) (hv : Vec w3 g (lastN K P M (k + 1))) (hi : IMap w3 (g + 1) (k + 1) (sentN K P M (k + 1))) (ho : w3.ownsRow (g + 2) 3 1 v k (ints (lmV K P M) k)) (hb : Below B.heap.size B w3)
    (hy : y = lam K P M (k + 1)) (hown : w4.ownsRow (g + 2) 3 1 v4 (k + 1) (ints (lmV K P M) k ++ [.int .i64 y])) (hg : (w3.alloc o).grownBy w4 v.ownBlock) : LamS K P M B w4 g (k + 1) v4 := by
  have ha := Go.Joins.below_alloc1 w3 o
  have ho' := own_keep ho ha
  obtain ⟨n1, n2⟩ := row_ne ho'
  refine ⟨(hv.below ha hv.2).grown hg n1, (hi.below ha hi.lt).grown hg n2, ?_, below_row ho' (hb.alloc hb.size o) hg hB⟩
  rw [ints_succ]; subst hy; exact hown
end Go.Proofs.Ytjophhiccbkpjaa
