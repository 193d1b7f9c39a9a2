/- slices.SortFunc at members, by impl.compareMember. -/
import Derived.Shelf.SlSortCmp.WholeK
import Derived.Shelf.SlicesG.Cmp
import Derived.Shelf.Lay
import Derived.Ground.SlsfProg
import Derived.Ground.SlgcProg
import Derived.Test.YtcbdlalpnlahcaaFeG
import Derived.Test.YtcbdlalpnlahcaaProg
import Derived.WalkKit
import Derived.WalkSpells
import Derived.WalkLawsBesides
namespace Go.Proofs
open Go.Shelf Go.RowKit Go.Lib Go.Sort
shelf_lay_g SlLaysF0.n6 Slsf 6 at Try 71 as Try.sortMb
shelf_lay_g SlLaysC2.n5 Slgc 5 at Try 79 as Try.cmpInt
/-- A member's cells as plain data. -/
abbrev Try.MbV : Type := Int × Int × (Option Addr × Nat × Nat) × Int
def Try.encMb (x : Try.MbV) : List Value := [.int .i64 x.1, .int .i64 x.2.1, .slice x.2.2.1.1 x.2.2.1.2.1 x.2.2.1.2.2, .int .i64 x.2.2.2]
def Try.cmpMb (x y : Try.MbV) : Int := Lib.compareInt x.1 y.1
set_option maxHeartbeats 1000000 in
theorem Try.compareMb (x y : Try.MbV) (W : World) : Calls Try.prog 72 #[.agg #[.int .i64 x.1, .int .i64 x.2.1, .slice x.2.2.1.1 x.2.2.1.2.1 x.2.2.1.2.2, .int .i64 x.2.2.2], .agg #[.int .i64 y.1, .int .i64 y.2.1, .slice y.2.2.1.1 y.2.2.1.2.1 y.2.2.1.2.2, .int .i64 y.2.2.2]] W fun e w' => e = .returned (.int .i64 (Try.cmpMb x y)) ∧ ∃ q os', w' = grow (W.drewN q) os' := by
  have hc1 := fun W' => AnyG.cmp_Compare_int Try.cmpInt x.1 y.1 W'
  change ∀ W', Calls Try.prog 79 _ _ _ at hc1
  obtain ⟨x1, x2, ⟨xa, xn, xc⟩, x3⟩ := x
  obtain ⟨y1, y2, ⟨ya, yn, yc⟩, y3⟩ := y
  simp only at hc1 ⊢
  have e : Try.cmpMb (x1, x2, (xa, xn, xc), x3) (y1, y2, (ya, yn, yc), y3) = Lib.compareInt x1 y1 := rfl
  rw [e]
  clear e
  generalize Lib.compareInt x1 y1 = r at hc1 ⊢
  go_enter Try.func72, Try.ntmps72
  go_wp2_with (go_at_call 79; refine (hc1 _).mono ?_; rintro e w' ⟨rfl, rfl⟩)
  go_ret
  exact ⟨rfl, 0, _, by rw [alloc_eq_grow, alloc_eq_grow, grow_grow]; rfl⟩
theorem Try.ltMb (x y : Try.MbV) : ltOf Try.cmpMb x y = true ↔ x.1 < y.1 := by
  unfold ltOf Try.cmpMb Lib.compareInt
  simp only [decide_eq_true_eq]
  split
  · simp_all
  · split <;> simp_all <;> omega
theorem Try.ltMbN (x y : Try.MbV) : ltOf Try.cmpMb x y = false ↔ ¬ x.1 < y.1 := by rw [← Try.ltMb, Bool.not_eq_true]
theorem Try.swoMb : SWO (ltOf Try.cmpMb) where
  irrefl x := by rw [Try.ltMbN]; omega
  trans x y z h1 h2 := by rw [Try.ltMb] at *; omega
  ntrans x y z h1 h2 := by rw [Try.ltMbN] at *; omega
theorem Try.sortMembers (blk off cap : Nat) (d : Array Try.MbV) (w : World) (hH : HoldsK Try.encMb 4 w blk off d) (hblk : blk < w.heap.size) (hsz : d.size < 4611686018427387904) :
    Calls Try.prog 71 #[.slice (some ⟨blk, off, none⟩) d.size cap, .func (.func 72) #[] #[]] w fun e w' => e = .returned (.tuple #[]) ∧ ∃ d' n os, PermIn 0 d.size d d' ∧ SortedIn (ltOf Try.cmpMb) 0 d.size d' ∧ w' = sortWorldK Try.encMb 4 w blk off n d' os := by
  have eg : ∀ args w, (callFunc 72 args).run Try.prog w = .ok (.enter 72 args) w := enters_of Try.func72 (by kernel_rfl) rfl
  have hcon := AnyQ.slices_SortFunc Try.sortMb 4 (fun w => by kernel_rfl) (fun w => by kernel_rfl) Try.encMb (fun _ => rfl) (fun x v hv => by simp [Try.encMb] at hv; rcases hv with rfl | rfl | rfl | rfl <;> rfl) Try.cmpMb Try.swoMb 72 #[] blk off cap d w eg (fun _ _ _ _ x y => Try.compareMb x y _) hH hblk hsz
  exact hcon
end Go.Proofs
namespace Go.Proofs.Ytcbdlalpnlahcaa
open Go.RowKit
set_option linter.unusedVariables false
set_option linter.unusedSimpArgs false
theorem growM_size (w : World) (os : Array Obj) : (Go.Sort.grow w os).heap.size = w.heap.size + os.size := by simp [Go.Sort.grow]
theorem putM_size (w : World) (g n : Nat) (d : Array Try.MbV) : (Go.Sort.putRowK Try.encMb 4 (Go.Sort.ahead w n) g 0 d).heap.size = w.heap.size := by simp [Go.Sort.putRowK, Go.Sort.putRow, Go.Sort.mapBlock, Go.Sort.ahead]
theorem putM_other (w : World) (g n k : Nat) (d : Array Try.MbV) (h : k ≠ g) : (Go.Sort.putRowK Try.encMb 4 (Go.Sort.ahead w n) g 0 d).heap[k]? = w.heap[k]? := by
  simp [Go.Sort.putRowK, Go.Sort.putRow, Go.Sort.mapBlock, Go.Sort.ahead, Array.getElem?_modify, Ne.symm h]
theorem sortM_trn (w : World) (g n : Nat) (d : Array Try.MbV) (os : Array Obj) : TurnS (fun k => k = g) w (sortWorldK Try.encMb 4 w g 0 n d os) := by
  refine ⟨rfl, rfl, rfl, ?_, fun k hk hne => ?_⟩
  · show w.heap.size ≤ (Go.Sort.grow (Go.Sort.putRowK Try.encMb 4 (Go.Sort.ahead w n) g 0 d) os).heap.size
    rw [growM_size, putM_size]; omega
  · show (Go.Sort.grow (Go.Sort.putRowK Try.encMb 4 (Go.Sort.ahead w n) g 0 d) os).heap[k]? = _
    rw [← putM_other w g n k d hne]
    simp only [Go.Sort.grow]
    rw [Array.getElem?_append_left (by rw [putM_size]; exact hk)]
/-- Cells of members in a row. -/
def rowM (R : List Try.MbV) : List Value := R.flatMap Try.encMb
theorem rowM_len : ∀ R : List Try.MbV, (rowM R).length = R.length * 4
  | [] => rfl
  | x :: t => by show (Try.encMb x ++ rowM t).length = _; rw [List.length_append, rowM_len t]; show 4 + _ = _; simp; omega
theorem rowM_at : ∀ (R : List Try.MbV) (i : Nat) (hi : i < R.length), ((rowM R).drop (i * 4)).take 4 = Try.encMb R[i]
  | [], i, hi => by simp at hi
  | x :: t, 0, hi => by show ((Try.encMb x ++ rowM t).drop (0 * 4)).take 4 = _; rfl
  | x :: t, i + 1, hi => by
    show ((Try.encMb x ++ rowM t).drop ((i + 1) * 4)).take 4 = _
    have e : (i + 1) * 4 = (Try.encMb x).length + i * 4 := by show _ = 4 + _; omega
    rw [e, ← List.drop_drop, List.drop_left, rowM_at t i (by simpa using hi)]; rfl
end Go.Proofs.Ytcbdlalpnlahcaa
