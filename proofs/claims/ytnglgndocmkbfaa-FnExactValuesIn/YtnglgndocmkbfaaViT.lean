/- slices.Sort and slices.Compact at texts: the library's contracts at this program, at a row of one's own. -/
import Derived.Shelf.Lay
import Derived.Shelf.Sort.Plain
import Derived.Shelf.Slices.In.SortNone2
import Derived.Shelf.Slices.CompactS
import Derived.Ground.Names2Prog
import Derived.Lib.OwnBridge
import Derived.Test.YtnglgndocmkbfaaViG
namespace Go.Proofs
open Go.Shelf Go.Sort Go.RowKit
shelf_lay Lays.n190 Nm 190 at Try as Try.lays190
shelf_lay Lays.n194 Nm 194 at Try as Try.lays194
theorem Try.sort_texts (blk off cap : Nat) (ss : List (List UInt8)) (w : World) (hH : Holds encStr w blk off ss.toArray) (hblk : blk < w.heap.size) (hsz : ss.length < 4611686018427387904) :
    Calls Try.prog 90 #[.slice (some ⟨blk, off, none⟩) ss.length cap] w fun e w' =>
      e = .returned (.tuple #[]) ∧ ∃ n os, w' = grow (putRow encStr (Sort.ahead w n) blk off (ss.mergeSort fun x y => decide (x ≤ y)).toArray) os := Any.slices_Sort_string Try.lays190 blk off cap ss w hH hblk hsz
theorem Try.sort_texts_none (p : Option Addr) (cap : Nat) (w : World) :
    Calls Try.prog 90 #[.slice p 0 cap] w fun e w' => e = .returned (.tuple #[]) ∧ w' = w := Any.slices_Sort_string_none Try.lays190 p cap w
theorem Try.compact_texts (blk off cap : Nat) (zs : List (List UInt8)) (w : World) (hH : Holds encStr w blk off zs.toArray) (hsz : zs.length ≤ 9223372036854775807) (hcap : zs.length ≤ cap) :
    Calls Try.prog 91 #[.slice (some ⟨blk, off, none⟩) zs.length cap] w fun e w' => e = .returned (.slice (some ⟨blk, off, none⟩) (Lib.compact zs).length cap) ∧ ∃ q, w' = putRow encStr (Sort.ahead w q) blk off (Lib.compact zs ++ List.replicate (zs.length - (Lib.compact zs).length) []).toArray :=
  Any.slices_Compact_string Try.lays194 blk off cap zs w hH hsz hcap
theorem Try.compact_texts_none (a : Option Addr) (cap : Nat) (w : World) :
    Calls Try.prog 91 #[.slice a 0 cap] w fun e w' => e = .returned (.slice a 0 cap) ∧ w' = w := Any.slices_Compact_string_empty Try.lays194 a cap w
end Go.Proofs
namespace Go.Proofs.Ytnglgndocmkbfaa
open Go.Sort Go.RowKit
set_option linter.unusedVariables false

theorem below_grw {B : Nat} {w0 w : World} (h : Below B w0 w) (hB : B ≤ w.heap.size) (os : Array Obj) : Below B w0 (Go.Sort.grow w os) :=
  ⟨h.os, h.tape, h.output, by have := h.size; simp [Go.Sort.grow]; omega, fun k hk => by
    rw [← h.block k hk]
    simp only [Go.Sort.grow]
    rw [Array.getElem?_append_left (by omega)]⟩
theorem own_in1 {w : World} {base g : Nat} {e : TypeId} {n cap : Nat} {xs : List Value} (h : w.ownsRow base e 1 (.slice (some ⟨g, 0, none⟩) n cap) n xs) : base ≤ g ∧ g < w.heap.size := h.lt g rfl
/-- A row of texts, by their bytes. -/
def OwT (W : World) (lo : Nat) (v : Value) (ss : List (List UInt8)) : Prop := W.ownsRow lo 9 1 v ss.length (ss.map encStr)
def TnP (base : Nat) (v : Value) (ss : List (List UInt8)) (w : World) (r : Ending) (w' : World) : Prop := r = .returned (.tuple #[]) ∧ OwT w' base v ss ∧ ∀ B w0, Below B w0 w → B ≤ base → B ≤ w.heap.size → Below B w0 w'
theorem sortT (base : Nat) (v : Value) (ss : List (List UInt8)) (w : World) (hz : ss.length < 4611686018427387904) (h : OwT w base v ss) :
    Calls Try.prog 90 #[v] w (TnP base v (ss.mergeSort fun x y => decide (x ≤ y)) w) := by
  have hl : (ss.mergeSort fun x y => decide (x ≤ y)).length = ss.length := List.length_mergeSort _
  by_cases hv : v = .slice none 0 0
  · subst hv
    have h0 : ss = [] := by
      rcases Go.Joins.ownsRow_forms h with ⟨_, h0⟩ | ⟨g, cap, e⟩
      · exact List.length_eq_zero_iff.1 h0
      · cases e
    subst h0
    refine (Try.sort_texts_none none 0 w).mono ?_
    rintro e w' ⟨rfl, rfl⟩
    exact ⟨rfl, by simpa using h, fun B w0 hb _ _ => hb⟩
  · obtain ⟨g, cap, rfl, _, _, _, _, _, hH⟩ := Go.Lib.holds_of_ownsRow h hv
    refine (Try.sort_texts g 0 cap ss w hH (own_in1 h).2 hz).mono ?_
    rintro e w' ⟨rfl, n, os, rfl⟩
    have hp := Go.Lib.ownsRow_putRow (q := n) h hl (Nat.le_refl _)
    rw [← hl, List.take_length] at hp
    have hsz : (Go.Sort.putRow encStr (Go.Sort.ahead w n) g 0 (ss.mergeSort fun x y => decide (x ≤ y)).toArray).heap.size = w.heap.size := by simp [Go.Sort.putRow, Go.Sort.mapBlock, Go.Sort.ahead]
    refine ⟨rfl, ?_, fun B w0 hb h1 h2 => below_grw (Go.Lib.below_putRow hb (Nat.le_trans h1 (own_in1 h).1)) (by rw [hsz]; exact h2) os⟩
    unfold OwT
    rw [← hl]
    exact ownsRow_next hp (below_grw (Below.refl _ _) (Nat.le_refl _) os)
def CmP (base : Nat) (ss : List (List UInt8)) (w : World) (r : Ending) (w' : World) : Prop := ∃ a cap, r = .returned (.slice a ss.length cap) ∧ OwT w' base (.slice a ss.length cap) ss ∧ ∀ B w0, Below B w0 w → B ≤ base → Below B w0 w'
theorem compactT (base : Nat) (v : Value) (ss : List (List UInt8)) (w : World) (hz : ss.length ≤ 9223372036854775807) (h : OwT w base v ss) :
    Calls Try.prog 91 #[v] w (CmP base (Lib.compact ss) w) := by
  have hl := Go.Lib.compact_length_le ss
  by_cases hv : v = .slice none 0 0
  · subst hv
    have h0 : ss = [] := by
      rcases Go.Joins.ownsRow_forms h with ⟨_, h0⟩ | ⟨g, cap, e⟩
      · exact List.length_eq_zero_iff.1 h0
      · cases e
    subst h0
    refine (Try.compact_texts_none none 0 w).mono ?_
    rintro e w' ⟨rfl, rfl⟩
    have e : Lib.compact ([] : List (List UInt8)) = [] := rfl
    rw [e]
    exact ⟨none, 0, rfl, h, fun B w0 hb _ => hb⟩
  · obtain ⟨g, cap, rfl, _, _, hcap, _, _, hH⟩ := Go.Lib.holds_of_ownsRow h hv
    refine (Try.compact_texts g 0 cap ss w hH hz hcap).mono ?_
    rintro e w' ⟨rfl, q, rfl⟩
    have hp := Go.Lib.ownsRow_putRow (q := q) (k := (Lib.compact ss).length) (ys := Lib.compact ss ++ List.replicate (ss.length - (Lib.compact ss).length) []) h (by simp; omega) hl
    rw [List.take_left] at hp
    exact ⟨_, cap, rfl, hp, fun B w0 hb h1 => Go.Lib.below_putRow hb (Nat.le_trans h1 (own_in1 h).1)⟩
end Go.Proofs.Ytnglgndocmkbfaa
