/- Two operations of a drawn region that come up at once; small facts on cells and rows. -/
import Derived.Test.YtkpobihpcnoemaaRg
import Derived.Test.YtkpobihpcnoemaaBx
namespace Go.Proofs.Ytkpobihpcnoemaa
open Go.RowKit
set_option linter.unusedVariables false

theorem ready_two {P : Program} {ops : Array Oper} {Q : Exit → Act → World → Prop} {md : Region.Mode} {S : World → Prop} {fuel : Nat} {listed : Array Bool} {a : Act} {w : World} (i j : Nat) (o p : Oper)
    (hr : Region.ready md ops listed = [i, j]) (ho : ops[i]? = some o) (hp : ops[j]? = some p) (hg : Region.wanted o (yielded ops a.tmps) = true) (hg' : Region.wanted p (yielded ops a.tmps) = true)
    (h : ∀ K' : Act → World → Prop, Shut (∀ a w, S w → (S w → wpAnyH P md ops Q S fuel (listed.setIfInBounds i true) a w) → K' a w) → Oper.wp P o a w K' Q)
    (h' : ∀ K' : Act → World → Prop, Shut (∀ a w, S w → (S w → wpAnyH P md ops Q S fuel (listed.setIfInBounds j true) a w) → K' a w) → Oper.wp P p a w K' Q) : wpAnyH P md ops Q S (fuel + 1) listed a w :=
  wpAnyH_ready hr (by simp) (AllReadyH.cons ho (fun K' hK => by rw [if_pos hg]; exact h K' hK) (AllReadyH.cons hp (fun K' hK => by rw [if_pos hg']; exact h' K' hK) AllReadyH.nil))
theorem Bx.newOf {W : World} {q : Nat} {vs : List Value} (h : Bx W q vs) (us : List Value) (t : TypeId) : Bx (W.alloc (.cells us.toArray t)) W.heap.size us := Bx.new W us t
theorem Bx.name {W : World} {q : Nat} {vs : List Value} (h : Bx W q vs) : ∃ y, y = W := ⟨W, rfl⟩
theorem alloc_drew (w : World) (o : Obj) : w.drew.alloc o = (w.alloc o).drew := rfl
theorem size_drew (w : World) : w.drew.heap.size = w.heap.size := rfl
theorem Sl.less {w : World} {a : Option Addr} {n m c : Nat} {F : Nat → Nat → Value} (h : Sl w a n c F) (hm : m ≤ n) : Sl w a m c F := by
  rcases h with h | ⟨b, off, rfl, hlt, hE⟩
  · exact Or.inl (by omega)
  · exact Or.inr ⟨b, off, rfl, hlt, hE.le hm⟩
end Go.Proofs.Ytkpobihpcnoemaa
