/- Put together of: CpA, RgP. -/
import Derived.Test.YtkpobihpcnoemaaDoorCmU
import Derived.Test.YtkpobihpcnoemaaDoorCmL
import Derived.Test.YtkpobihpcnoemaaDoorGaC
/- Commits: faults that give up by a panic: must, mustBeOpen. -/
namespace Go.Proofs.YtkpobihpcnoemaaDoor
open Go.RowKit
set_option linter.unusedVariables false
set_option linter.unusedSimpArgs false

/-- The fault's variable holds an error. -/
def Flt (w : World) : Prop := ∃ p, w.cell? ⟨0, 0, none⟩ = some (.iface 123 p)
theorem cell_lt {w : World} {g j : Nat} {v : Value} (h : w.cell? ⟨g, j, none⟩ = some v) : g < w.heap.size := by
  rcases Nat.lt_or_ge g w.heap.size with q | q
  · exact q
  · simp [World.cell?, Array.getElem?_eq_none q] at h
theorem Flt.lt {w : World} (h : Flt w) : 0 < w.heap.size := by obtain ⟨p, h⟩ := h; exact cell_lt h
theorem Flt.next {w w' : World} {lo : Nat} (h : Flt w) (hb : Below lo w w') (hl : 0 < lo) : Flt w' := by
  obtain ⟨p, h⟩ := h
  exact ⟨p, (World.cell?_of_block (a := ⟨0, 0, none⟩) (hb.block 0 hl)).trans h⟩
theorem Flt.turn {w w' : World} {S : Nat → Prop} (h : Flt w) (ht : TurnS S w w') (hS : ¬ S 0) : Flt w' := by
  obtain ⟨p, h⟩ := h
  exact ⟨p, (ht.cell (cell_lt h) hS).trans h⟩
/-- It gives up. -/
def Gup (r : Ending) : Prop := ∃ p, r = .panicked [{ v := .iface 123 p, recovered := false }]
set_option maxRecDepth 100000 in
set_option maxHeartbeats 800000 in
theorem must_yes (w : World) : Calls Tryd.prog 85 #[.bool true] w fun r w' => r = .returned (.tuple #[]) ∧ w' = w := by
  go_enter Tryd.func85, Tryd.ntmps85
  go_wp2
  first
    | (go_end0; exact ⟨rfl, rfl⟩)
    | exact bodyPost_ret (v := .tuple #[]) (by simp [results, Tryd.results85]) rfl ⟨rfl, rfl⟩
set_option maxRecDepth 100000 in
set_option maxHeartbeats 800000 in
theorem must_no (w : World) (h : Flt w) : Calls Tryd.prog 85 #[.bool false] w fun r w' => Gup r ∧ w' = w := by
  obtain ⟨p, h⟩ := h
  go_enter Tryd.func85, Tryd.ntmps85
  go_wp2
  exact ⟨rfl, ⟨p, rfl⟩, rfl⟩
end Go.Proofs.YtkpobihpcnoemaaDoor
/- Operations of a drawn region taken one by one where the region may panic. No Go text is spoken of here. -/
namespace Go.Proofs.YtkpobihpcnoemaaDoor
open Go.RowKit
set_option linter.unusedVariables false

theorem take_vp {P : Program} {ops : Array Oper} {Q : Exit → Act → World → Prop} {md : Region.Mode} {S : World → Prop} {fuel : Nat} {listed : Array Bool} {a : Act} {w : World} {v : Value} {a' : Act} (i : Nat) (oi : Oper)
    (hi : ops[i]? = some oi) (hQ : ∀ c a w, Q (.panic c) (a.put oi.dst v) w → Q (.panic c) a w) (hx : ∀ W, S W → (execOp a.eval oi).run P W = .ok (.value v) W) (hS : S w)
    (h : wpAnyH P md ops Q S fuel (listed.setIfInBounds i true) a' w)
    (hs : Region.noSelect ops = true := by kernel_rfl) (hf : Region.free md ops listed i = true := by kernel_rfl) (hr : (Region.ready md ops listed).contains i = true := by kernel_rfl)
    (hg : Region.wanted oi (yielded ops a.tmps) = true := by kernel_rfl) (ha : a.put oi.dst v = a' := by (simp only [Act.put, List.setIfInBounds_toArray, List.set_cons_zero, List.set_cons_succ]; with_reducible rfl)) : wpAnyH P md ops Q S (fuel + 1) listed a w :=
  wpAnyH_take hi hs hf hr hQ (Or.inl ⟨hg, hx⟩) hS (ha ▸ h)
theorem take_np {P : Program} {ops : Array Oper} {Q : Exit → Act → World → Prop} {md : Region.Mode} {S : World → Prop} {fuel : Nat} {listed : Array Bool} {a a' : Act} {w : World} (i : Nat) (oi : Oper)
    (hi : ops[i]? = some oi) (hQ : ∀ c a w, Q (.panic c) (a.put oi.dst undef) w → Q (.panic c) a w) (hS : S w)
    (h : wpAnyH P md ops Q S fuel (listed.setIfInBounds i true) a' w)
    (hs : Region.noSelect ops = true := by kernel_rfl) (hf : Region.free md ops listed i = true := by kernel_rfl) (hr : (Region.ready md ops listed).contains i = true := by kernel_rfl)
    (hg : Region.wanted oi (yielded ops a.tmps) = false := by kernel_rfl) (ha : a.put oi.dst undef = a' := by (simp only [Act.put, List.setIfInBounds_toArray, List.set_cons_zero, List.set_cons_succ]; with_reducible rfl)) : wpAnyH P md ops Q S (fuel + 1) listed a w :=
  wpAnyH_take hi hs hf hr hQ (Or.inr ⟨hg, rfl⟩) hS (ha ▸ h)
end Go.Proofs.YtkpobihpcnoemaaDoor
