/- Put together of: Rg, Rg2. -/
import Derived.Test.YtkpobihpcnoemaaDoorProg
import Derived.WalkKit
import Derived.WalkSpells
import Derived.WalkLawsBesides
import Derived.Deep.RegionHeld3
import Derived.Test.YtkpobihpcnoemaaDoorBx
/- Operations of a drawn region that are taken first, one by one: those that yield a value, and those whose guard lets them by. -/
namespace Go.Proofs.YtkpobihpcnoemaaDoor
open Go.RowKit
set_option linter.unusedVariables false

theorem take_v {P : Program} {ops : Array Oper} {Q : Exit → Act → World → Prop} {md : Region.Mode} {S : World → Prop} {fuel : Nat} {listed : Array Bool} {a : Act} {w : World} {v : Value} {a' : Act} (i : Nat) (oi : Oper)
    (hi : ops[i]? = some oi) (hQ : ∀ c a w, ¬ Q (.panic c) a w) (hx : ∀ W, S W → (execOp a.eval oi).run P W = .ok (.value v) W) (hS : S w)
    (h : wpAnyH P md ops Q S fuel (listed.setIfInBounds i true) a' w)
    (hs : Region.noSelect ops = true := by kernel_rfl) (hf : Region.free md ops listed i = true := by kernel_rfl) (hr : (Region.ready md ops listed).contains i = true := by kernel_rfl)
    (hg : Region.wanted oi (yielded ops a.tmps) = true := by kernel_rfl) (ha : a.put oi.dst v = a' := by (simp only [Act.put, List.setIfInBounds_toArray, List.set_cons_zero, List.set_cons_succ]; with_reducible rfl)) : wpAnyH P md ops Q S (fuel + 1) listed a w :=
  wpAnyH_take hi hs hf hr (fun c a w h => absurd h (hQ c _ w)) (Or.inl ⟨hg, hx⟩) hS (ha ▸ h)
theorem take_n {P : Program} {ops : Array Oper} {Q : Exit → Act → World → Prop} {md : Region.Mode} {S : World → Prop} {fuel : Nat} {listed : Array Bool} {a a' : Act} {w : World} (i : Nat) (oi : Oper)
    (hi : ops[i]? = some oi) (hQ : ∀ c a w, ¬ Q (.panic c) a w) (hS : S w)
    (h : wpAnyH P md ops Q S fuel (listed.setIfInBounds i true) a' w)
    (hs : Region.noSelect ops = true := by kernel_rfl) (hf : Region.free md ops listed i = true := by kernel_rfl) (hr : (Region.ready md ops listed).contains i = true := by kernel_rfl)
    (hg : Region.wanted oi (yielded ops a.tmps) = false := by kernel_rfl) (ha : a.put oi.dst undef = a' := by (simp only [Act.put, List.setIfInBounds_toArray, List.set_cons_zero, List.set_cons_succ]; with_reducible rfl)) : wpAnyH P md ops Q S (fuel + 1) listed a w :=
  wpAnyH_take hi hs hf hr (fun c a w h => absurd h (hQ c _ w)) (Or.inr ⟨hg, rfl⟩) hS (ha ▸ h)
theorem ready_call {P : Program} {ops : Array Oper} {Q : Exit → Act → World → Prop} {md : Region.Mode} {S : World → Prop} {fuel : Nat} {listed : Array Bool} {a : Act} {w : World} (i : Nat) (o : Oper)
    (hr : Region.ready md ops listed = [i]) (ho : ops[i]? = some o) (hg : Region.wanted o (yielded ops a.tmps) = true)
    (h : ∀ K' : Act → World → Prop, Shut (∀ a w, S w → (S w → wpAnyH P md ops Q S fuel (listed.setIfInBounds i true) a w) → K' a w) → Oper.wp P o a w K' Q) : wpAnyH P md ops Q S (fuel + 1) listed a w :=
  wpAnyH_ready hr (by simp) (AllReadyH.cons ho (fun K' hK => by rw [if_pos hg]; exact h K' hK) AllReadyH.nil)
end Go.Proofs.YtkpobihpcnoemaaDoor
/- Two operations of a drawn region that come up at once; small facts on cells and rows. -/
namespace Go.Proofs.YtkpobihpcnoemaaDoor
open Go.RowKit
set_option linter.unusedVariables false

theorem ready_two {P : Program} {ops : Array Oper} {Q : Exit → Act → World → Prop} {md : Region.Mode} {S : World → Prop} {fuel : Nat} {listed : Array Bool} {a : Act} {w : World} (i j : Nat) (o p : Oper)
    (hr : Region.ready md ops listed = [i, j]) (ho : ops[i]? = some o) (hp : ops[j]? = some p) (hg : Region.wanted o (yielded ops a.tmps) = true) (hg' : Region.wanted p (yielded ops a.tmps) = true)
    (h : ∀ K' : Act → World → Prop, Shut (∀ a w, S w → (S w → wpAnyH P md ops Q S fuel (listed.setIfInBounds i true) a w) → K' a w) → Oper.wp P o a w K' Q)
    (h' : ∀ K' : Act → World → Prop, Shut (∀ a w, S w → (S w → wpAnyH P md ops Q S fuel (listed.setIfInBounds j true) a w) → K' a w) → Oper.wp P p a w K' Q) : wpAnyH P md ops Q S (fuel + 1) listed a w :=
  wpAnyH_ready hr (by simp) (AllReadyH.cons ho (fun K' hK => by rw [if_pos hg]; exact h K' hK) (AllReadyH.cons hp (fun K' hK => by rw [if_pos hg']; exact h' K' hK) AllReadyH.nil))
theorem Bx.newOf {W : World} {q : Nat} {vs : List Value} (h : Bx W q vs) (us : List Value) (t : TypeId) : Bx (W.alloc (.cells us.toArray t)) W.heap.size us := Bx.new W us t
theorem Bx.name {W : World} {q : Nat} {vs : List Value} (h : Bx W q vs) : ∃ y, y = W := ⟨W, rfl⟩
theorem alloc_drew (w : World) (o : Obj) : w.drew.alloc o = (w.alloc o).drew := rfl
theorem size_drew (w : World) : w.drew.heap.size = w.heap.size := rfl
theorem Sl.less {w : World} {a : Option Addr} {n m c : Nat} {F : Nat → Nat → Value} (h : Sl w a n c F) (hm : m ≤ n) : Sl w a m c F := by
  rcases h with h | ⟨b, off, rfl, hlt, hE⟩
  · exact Or.inl (by omega)
  · exact Or.inr ⟨b, off, rfl, hlt, hE.le hm⟩
end Go.Proofs.YtkpobihpcnoemaaDoor
