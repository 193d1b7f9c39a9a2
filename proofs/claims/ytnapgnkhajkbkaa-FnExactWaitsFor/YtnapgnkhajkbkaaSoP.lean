/- slices.SortFunc at pairs, by impl.comparePairs. -/
import Derived.Shelf.SlSortCmp.WholeK
import Derived.Shelf.SlicesG.Cmp
import Derived.Shelf.Lay
import Derived.Ground.SlsfProg
import Derived.Ground.SlgcProg
import Derived.Test.YtnapgnkhajkbkaaPwG
namespace Go.Proofs
open Go.Shelf Go.RowKit Go.Lib Go.Sort
shelf_lay_g SlLaysF0.n6 Slsf 6 at Try 46 as Try.sortPr
shelf_lay_g SlLaysC2.n5 Slgc 5 at Try 93 as Try.cmpInt
def Try.encPr (x : Int × Int) : List Value := [.int .i64 x.1, .int .i64 x.2]
def Try.cmpPr (x y : Int × Int) : Int := if x.1 = y.1 then Lib.compareInt x.2 y.2 else Lib.compareInt x.1 y.1
set_option maxHeartbeats 1000000 in
theorem Try.comparePr (x y : Int × Int) (W : World) : Calls Try.prog 47 #[.agg #[.int .i64 x.1, .int .i64 x.2], .agg #[.int .i64 y.1, .int .i64 y.2]] W fun e w' => e = .returned (.int .i64 (Try.cmpPr x y)) ∧ ∃ q os', w' = grow (W.drewN q) os' := by
  have hc1 := fun W' => AnyG.cmp_Compare_int Try.cmpInt x.1 y.1 W'
  have hc2 := fun W' => AnyG.cmp_Compare_int Try.cmpInt x.2 y.2 W'
  change ∀ W', Calls Try.prog 93 _ _ _ at hc1
  change ∀ W', Calls Try.prog 93 _ _ _ at hc2
  obtain ⟨x1, x2⟩ := x
  obtain ⟨y1, y2⟩ := y
  simp only at hc1 hc2 ⊢
  by_cases h : x1 = y1
  · have e : Try.cmpPr (x1, x2) (y1, y2) = Lib.compareInt x2 y2 := if_pos h
    rw [e]
    clear e
    generalize Lib.compareInt x2 y2 = r at hc2 ⊢
    subst h
    clear hc1
    go_enter Try.func47, Try.ntmps47
    go_wp2_with (go_at_call 93; refine (hc2 _).mono ?_; rintro e w' ⟨rfl, rfl⟩)
    go_ret
    exact ⟨rfl, 0, _, by rw [alloc_eq_grow, alloc_eq_grow, grow_grow]; rfl⟩
  · have e : Try.cmpPr (x1, x2) (y1, y2) = Lib.compareInt x1 y1 := if_neg h
    rw [e]
    clear e
    generalize Lib.compareInt x1 y1 = r at hc1 ⊢
    have h' : (x1 == y1) = false := by simpa using h
    clear hc2
    go_enter Try.func47, Try.ntmps47
    go_wp2_with (go_at_call 93; refine (hc1 _).mono ?_; rintro e w' ⟨rfl, rfl⟩)
    go_ret
    exact ⟨rfl, 0, _, by rw [alloc_eq_grow, alloc_eq_grow, grow_grow]; rfl⟩
theorem Try.ltPr (x y : Int × Int) : ltOf Try.cmpPr x y = true ↔ (x.1 < y.1 ∨ (x.1 = y.1 ∧ x.2 < y.2)) := by
  unfold ltOf Try.cmpPr Lib.compareInt
  simp only [decide_eq_true_eq]
  split
  · split
    · simp_all
    · split <;> simp_all <;> omega
  · split
    · simp_all
    · split <;> simp_all <;> omega
theorem Try.ltPrN (x y : Int × Int) : ltOf Try.cmpPr x y = false ↔ ¬ (x.1 < y.1 ∨ (x.1 = y.1 ∧ x.2 < y.2)) := by rw [← Try.ltPr, Bool.not_eq_true]
theorem Try.swoPr : SWO (ltOf Try.cmpPr) where
  irrefl x := by rw [Try.ltPrN]; omega
  trans x y z h1 h2 := by rw [Try.ltPr] at *; omega
  ntrans x y z h1 h2 := by rw [Try.ltPrN] at *; omega
theorem Try.sortPairs (blk off cap : Nat) (d : Array (Int × Int)) (w : World) (hH : HoldsK Try.encPr 2 w blk off d) (hblk : blk < w.heap.size) (hsz : d.size < 4611686018427387904) :
    Calls Try.prog 46 #[.slice (some ⟨blk, off, none⟩) d.size cap, .func (.func 47) #[] #[]] w fun e w' => e = .returned (.tuple #[]) ∧ ∃ d' n os, PermIn 0 d.size d d' ∧ SortedIn (ltOf Try.cmpPr) 0 d.size d' ∧ w' = sortWorldK Try.encPr 2 w blk off n d' os := by
  have eg : ∀ args w, (callFunc 47 args).run Try.prog w = .ok (.enter 47 args) w := enters_of Try.func47 (by kernel_rfl) rfl
  have hcon := AnyQ.slices_SortFunc Try.sortPr 2 (fun w => by kernel_rfl) (fun w => by kernel_rfl) Try.encPr (fun _ => rfl) (fun x v hv => by simp [Try.encPr] at hv; rcases hv with rfl | rfl <;> rfl) Try.cmpPr Try.swoPr 47 #[] blk off cap d w eg (fun _ _ _ _ x y => Try.comparePr x y _) hH hblk hsz
  exact hcon
#print axioms Try.sortPairs
end Go.Proofs
