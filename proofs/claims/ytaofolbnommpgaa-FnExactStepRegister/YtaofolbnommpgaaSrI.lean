/- slices.BinarySearch at numbers: where it would stand, and whether it is there. -/
import Derived.Shelf.Lay
import Derived.Shelf.Slices.SearchI
import Derived.Shelf.Slices.Empties
import Derived.Ground.Names2Prog
import Derived.Test.YtaofolbnommpgaaMgA
import Derived.WalkKit
import Derived.WalkSpells
import Derived.WalkLawsBesides
namespace Go.Proofs
open Go.Shelf Go.RowKit
shelf_lay Lays2.n25 Nm2 25 at Try as Try.lays25
theorem Try.search_ints (b off n c : Nat) (zs : List Int) (x : Int) (w : World) (hz : n ≤ zs.length) (hbig : n < 4611686018427387904) (hc : ∀ j, j < zs.length → w.cell? ⟨b, off + j, none⟩ = some (.int .i64 (zs.getD j 0))) (hs : (zs.take n).Pairwise (· ≤ ·)) :
    Calls Try.prog 120 #[.slice (some ⟨b, off, none⟩) n c, .int .i64 x] w fun e w' => e = .returned (.tuple #[.int .i64 ((zs.take n).countP (· < x) : Nat), .bool ((zs.take n).contains x)]) ∧ ∃ q, w' = w.drewN q :=
  Any.slices_BinarySearch_int Try.lays25 b off n c zs x w hz hbig hc hs
theorem Try.search_ints0 (a : Option Addr) (c : Nat) (x : Int) (w : World) : Calls Try.prog 120 #[.slice a 0 c, .int .i64 x] w fun e w' => e = .returned (.tuple #[.int .i64 0, .bool false]) ∧ w' = w :=
  Any.slices_BinarySearch_int_empty Try.lays25 a c x w
end Go.Proofs
namespace Go.Proofs.Ytaofolbnommpgaa
open Go.RowKit
set_option linter.unusedVariables false

/-- Of a rising list: how many are less, and whether it is there. -/
theorem searchInt_some (g off cap : Nat) (l : List (Sh.T .int)) (x : Int) (w : World) (hn : l.length ≤ 1000) (hr : List.Pairwise (fun a b : Int => a ≤ b) l) (h : Lies w (.list .int) [.slice (some ⟨g, off, none⟩) l.length cap] l) (hl : l ≠ []) :
    Calls Try.prog 120 #[.slice (some ⟨g, off, none⟩) l.length cap, .int .i64 x] w fun e w' => e = .returned (.tuple #[.int .i64 (List.countP (fun a : Int => decide (a < x)) l : Nat), .bool (List.contains l x)]) ∧ Below w.heap.size w w' := by
  have hc : ∀ j, j < List.length (α := Int) l → w.cell? ⟨g, off + j, none⟩ = some (.int .i64 (List.getD (α := Int) l j 0)) := by
    intro j hj
    rcases lies_sl h with q | ⟨g', off', e, _, hE⟩
    · exact absurd (List.eq_nil_of_length_eq_zero q) hl
    · have e : (⟨g, off, none⟩ : Addr) = ⟨g', off', none⟩ := by simpa using e
      simp only [Addr.mk.injEq, and_true] at e
      obtain ⟨rfl, rfl⟩ := e
      have := hE j hj 0 (by omega)
      simpa [intF, atI] using this
  have := Try.search_ints g off l.length cap l x w (Nat.le_refl _) (Nat.lt_of_le_of_lt hn (by decide)) hc (by rw [List.take_length]; exact hr)
  refine this.mono ?_
  rintro e w' ⟨rfl, q, rfl⟩
  rw [List.take_length]
  exact ⟨rfl, ⟨rfl, rfl, rfl, Nat.le_refl _, fun _ _ => rfl⟩⟩
theorem searchInt_c (a : Option Addr) (cap : Nat) (l : List (Sh.T .int)) (x : Int) (w : World) (hn : l.length ≤ 1000) (hr : List.Pairwise (fun a b : Int => a ≤ b) l) (h : Lies w (.list .int) [.slice a l.length cap] l) :
    Calls Try.prog 120 #[.slice a l.length cap, .int .i64 x] w fun e w' => e = .returned (.tuple #[.int .i64 (List.countP (fun a : Int => decide (a < x)) l : Nat), .bool (List.contains (α := Int) l x)]) ∧ Below w.heap.size w w' := by
  by_cases hl : l = []
  · subst hl
    refine (Try.search_ints0 a cap x w).mono ?_
    rintro e w' ⟨rfl, rfl⟩
    exact ⟨rfl, Below.refl _ _⟩
  · have hp : 0 < l.length := List.length_pos_iff.2 hl
    obtain ⟨g, off, rfl, _⟩ := Lies.elem h hp
    refine (searchInt_some g off cap l x w hn hr h hl).mono ?_
    rintro e w' ⟨rfl, hb⟩
    exact ⟨rfl, hb⟩
end Go.Proofs.Ytaofolbnommpgaa
