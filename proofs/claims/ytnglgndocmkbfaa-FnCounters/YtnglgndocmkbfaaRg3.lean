/- Three operations of a drawn region that come up at once. -/
import Derived.Test.YtnglgndocmkbfaaRg2
namespace Go.Proofs.Ytnglgndocmkbfaa
open Go.RowKit
set_option linter.unusedVariables false

theorem ready_three {P : Program} {ops : Array Oper} {Q : Exit → Act → World → Prop} {md : Region.Mode} {S : World → Prop} {fuel : Nat} {listed : Array Bool} {a : Act} {w : World} (i j k : Nat) (o p r : Oper)
    (hr : Region.ready md ops listed = [i, j, k]) (ho : ops[i]? = some o) (hp : ops[j]? = some p) (hq : ops[k]? = some r) (hg : Region.wanted o (yielded ops a.tmps) = true) (hg' : Region.wanted p (yielded ops a.tmps) = true) (hg2 : Region.wanted r (yielded ops a.tmps) = true)
    (h : ∀ K' : Act → World → Prop, Shut (∀ a w, S w → (S w → wpAnyH P md ops Q S fuel (listed.setIfInBounds i true) a w) → K' a w) → Oper.wp P o a w K' Q)
    (h' : ∀ K' : Act → World → Prop, Shut (∀ a w, S w → (S w → wpAnyH P md ops Q S fuel (listed.setIfInBounds j true) a w) → K' a w) → Oper.wp P p a w K' Q)
    (h2 : ∀ K' : Act → World → Prop, Shut (∀ a w, S w → (S w → wpAnyH P md ops Q S fuel (listed.setIfInBounds k true) a w) → K' a w) → Oper.wp P r a w K' Q) : wpAnyH P md ops Q S (fuel + 1) listed a w :=
  wpAnyH_ready hr (by simp) (AllReadyH.cons ho (fun K' hK => by rw [if_pos hg]; exact h K' hK) (AllReadyH.cons hp (fun K' hK => by rw [if_pos hg']; exact h' K' hK) (AllReadyH.cons hq (fun K' hK => by rw [if_pos hg2]; exact h2 K' hK) AllReadyH.nil)))
end Go.Proofs.Ytnglgndocmkbfaa
