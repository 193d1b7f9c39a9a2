/- slices.Index, slices.Contains and slices.BinarySearch at numbers. -/
import Derived.Shelf.Lay
import Derived.Shelf.Slices.SearchI
import Derived.Shelf.Slices.Empties
import Derived.Ground.Names2Prog
import Derived.Test.YtmhkfangfhanlaaMgC
import Derived.Test.YtmhkfangfhanlaaMgB
import Derived.WalkKit
import Derived.WalkSpells
import Derived.WalkLawsBesides
namespace Go.Proofs
open Go.Shelf Go.RowKit
shelf_lay Lays2.n25 Nm2 25 at Try as Try.lays25
theorem Try.search_ints (b off n c : Nat) (zs : List Int) (x : Int) (w : World) (hz : n ≤ zs.length) (hbig : n < 4611686018427387904) (hc : ∀ j, j < zs.length → w.cell? ⟨b, off + j, none⟩ = some (.int .i64 (zs.getD j 0))) (hs : (zs.take n).Pairwise (· ≤ ·)) :
    Calls Try.prog 125 #[.slice (some ⟨b, off, none⟩) n c, .int .i64 x] w fun e w' => e = .returned (.tuple #[.int .i64 ((zs.take n).countP (· < x) : Nat), .bool ((zs.take n).contains x)]) ∧ ∃ q, w' = w.drewN q :=
  Any.slices_BinarySearch_int Try.lays25 b off n c zs x w hz hbig hc hs
theorem Try.search_ints0 (a : Option Addr) (c : Nat) (x : Int) (w : World) : Calls Try.prog 125 #[.slice a 0 c, .int .i64 x] w fun e w' => e = .returned (.tuple #[.int .i64 0, .bool false]) ∧ w' = w :=
  Any.slices_BinarySearch_int_empty Try.lays25 a c x w
end Go.Proofs
namespace Go.Proofs.Ytmhkfangfhanlaa
open Go.RowKit
set_option linter.unusedVariables false

set_option maxRecDepth 100000 in
set_option maxHeartbeats 2000000 in
theorem indexInt_n (a : Option Addr) (cap : Nat) (l : List (Sh.T .int)) (c : Int) (w : World) (hn : l.length ≤ 1073741824) (h : Lies w (.list .int) [.slice a l.length cap] l) :
    Calls Try.prog 135 #[.slice a l.length cap, .int .i64 c] w fun r w' => (∃ x : Int, r = .returned (.int .i64 x) ∧ (0 ≤ x ↔ c ∈ l)) ∧ w' = w := by
  have HL : Hid (Lies w (.list .int) [.slice a l.length cap] l) := h
  clear h
  obtain ⟨n, hnn⟩ : ∃ n, n = l.length := ⟨_, rfl⟩
  have HN : Hid (n = l.length) := hnn
  rw [← hnn] at hn ⊢
  clear hnn
  go_enter Try.func135, Try.ntmps135
  go_wp2
  go_loopw [8] (fun i wr => ∃ k : Nat, k ≤ n ∧ i = .int .i64 k ∧ (∀ o ∈ l.take k, o ≠ c) ∧ wr = w) (fun i _ => n - (intOf i).toNat)
  case atStart => exact ⟨0, Nat.zero_le _, rfl, fun o ho => by simp at ho, rfl⟩
  case round =>
    obtain ⟨k, hk, rfl, hno, rfl⟩ := hrel
    have HO : Hid (∀ o ∈ l.take k, o ≠ c) := hno
    clear hno
    by_cases hlt : k < n
    · have hlx : k < l.length := by have := HN.out; omega
      have hlt' : (k : Int) < (n : Int) := by omega
      obtain ⟨g, off, hgo, hgs, ec, hel, hec, hle⟩ := Lies.elem HL.out hlx
      subst hgo
      have hev : ec = [.int .i64 l[k]] := hle
      subst hev
      have c0 : wr.cell? ⟨g, off + k, none⟩ = some (.int .i64 l[k]) := by have := hec 0 (by simp); simpa [Sh.c] using this
      clear hec hel hle
      obtain ⟨y, hy⟩ : ∃ y, y = l[k] := ⟨_, rfl⟩
      have HY : Hid (y = l[k]) := hy
      rw [← hy] at c0
      clear hy
      by_cases e : c = y
      · have e' : (c == y) = true := by simpa using e
        have HS : Hid (0 ≤ (k : Int) ↔ c ∈ l) := Hid.intro ⟨fun _ => by rw [e, HY.out]; exact List.getElem_mem hlx, fun _ => by omega⟩
        clear e
        go_wp2
        go_ret
        exact ⟨⟨_, rfl, HS.out⟩, rfl⟩
      · have e' : (c == y) = false := by simpa using e
        have HS : Hid (l[k] ≠ c) := Hid.intro (fun q => e (by rw [HY.out, q]))
        clear e
        go_wp2
        go_roundw
        case rel => exact ⟨k + 1, by omega, by go_num, mem_take_succ hlx HO.out HS.out, trivial⟩
        case measure => simp [intOf]; omega
    · have hkn : k = n := by omega
      have HS : Hid (0 ≤ (-1 : Int) ↔ c ∈ l) := Hid.intro ⟨fun q => absurd q (by decide), fun q => absurd rfl (HO.out c (by rw [hkn, HN.out, List.take_length]; exact q))⟩
      clear hkn
      go_wp2
      go_ret
      exact ⟨⟨_, rfl, HS.out⟩, rfl⟩

set_option maxHeartbeats 2000000 in
theorem containsInt_n (a : Option Addr) (cap : Nat) (l : List (Sh.T .int)) (c : Int) (w : World) (hn : l.length ≤ 1073741824) (h : Lies w (.list .int) [.slice a l.length cap] l) :
    Calls Try.prog 124 #[.slice a l.length cap, .int .i64 c] w fun r w' => r = .returned (.bool (tf (c ∈ l))) ∧ w' = w := by
  go_enter Try.func124, Try.ntmps124
  go_wp2_with fail
  refine (indexInt_n a cap l c _ hn h).mono ?_
  rintro r w1 ⟨⟨x, rfl, hx⟩, hw⟩
  have hw := hw.symm
  subst hw
  have HX : Hid (0 ≤ x ↔ c ∈ l) := hx
  clear hx
  go_wp2
  go_ret
  exact ⟨ret_bool (by rw [Bool.eq_iff_iff, tf_iff, ← HX.out]; simp), rfl⟩

/-- Of a rising list: how many are less, and whether it is there. -/
theorem searchInt_some (g off cap : Nat) (l : List (Sh.T .int)) (x : Int) (w : World) (hn : l.length ≤ 1000) (hr : List.Pairwise (fun a b : Int => a ≤ b) l) (h : Lies w (.list .int) [.slice (some ⟨g, off, none⟩) l.length cap] l) (hl : l ≠ []) :
    Calls Try.prog 125 #[.slice (some ⟨g, off, none⟩) l.length cap, .int .i64 x] w fun e w' => e = .returned (.tuple #[.int .i64 (List.countP (fun a : Int => decide (a < x)) l : Nat), .bool (List.contains l x)]) ∧ Below w.heap.size w w' := by
  have hc : ∀ j, j < List.length (α := Int) l → w.cell? ⟨g, off + j, none⟩ = some (.int .i64 (List.getD (α := Int) l j 0)) := by
    intro j hj
    rcases lies_sl h with q | ⟨g', off', e, _, hE⟩
    · exact absurd (List.eq_nil_of_length_eq_zero q) hl
    · have e : (⟨g, off, none⟩ : Addr) = ⟨g', off', none⟩ := by simpa using e
      simp only [Addr.mk.injEq, and_true] at e
      obtain ⟨rfl, rfl⟩ := e
      have := hE j hj 0 (by omega)
      simpa [intF, atI] using this
  have := Try.search_ints g off l.length cap l x w (Nat.le_refl _) (Nat.lt_of_le_of_lt hn (by decide)) hc (by rw [List.take_length]; exact hr)
  refine this.mono ?_
  rintro e w' ⟨rfl, q, rfl⟩
  rw [List.take_length]
  exact ⟨rfl, ⟨rfl, rfl, rfl, Nat.le_refl _, fun _ _ => rfl⟩⟩
theorem searchInt_n (a : Option Addr) (cap : Nat) (l : List (Sh.T .int)) (x : Int) (w : World) (hn : l.length ≤ 1000) (hr : List.Pairwise (fun a b : Int => a ≤ b) l) (h : Lies w (.list .int) [.slice a l.length cap] l) :
    Calls Try.prog 125 #[.slice a l.length cap, .int .i64 x] w fun e w' => (∃ z : Bool, e = .returned (.tuple #[.int .i64 (List.countP (fun a : Int => decide (a < x)) l : Nat), .bool z])) ∧ Below w.heap.size w w' := by
  by_cases hl : l = []
  · subst hl
    refine (Try.search_ints0 a cap x w).mono ?_
    rintro e w' ⟨rfl, rfl⟩
    exact ⟨⟨false, rfl⟩, Below.refl _ _⟩
  · have hp : 0 < l.length := List.length_pos_iff.2 hl
    obtain ⟨g, off, rfl, _⟩ := Lies.elem h hp
    refine (searchInt_some g off cap l x w hn hr h hl).mono ?_
    rintro e w' ⟨rfl, hb⟩
    exact ⟨⟨_, rfl⟩, hb⟩
end Go.Proofs.Ytmhkfangfhanlaa
