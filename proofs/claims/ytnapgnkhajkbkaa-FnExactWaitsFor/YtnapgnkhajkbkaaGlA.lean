/- An array of 1001 bools as a block that a call lays. -/
import Derived.Test.YtnapgnkhajkbkaaGlW
import Derived.Great.Walk
namespace Go.Proofs.Ytnapgnkhajkbkaa
open Go.RowKit
set_option linter.unusedVariables false

def zerosB : Array Value := Array.replicate 1001 (.bool false)
set_option maxRecDepth 100000 in
theorem run_zeros (w : World) : (Instr.alloc 82 true (.tuple #[])).run Try.prog w = .ok (.pointer (some ⟨w.heap.size, 0, none⟩)) (w.alloc (.cells zerosB 82)) := by kernel_rfl
theorem exec_zeros (ρ : Operand → Value) (o : Oper) (ho : o.op = .alloc 82) (w : World) : (execOp ρ o).run Try.prog w = .ok (.value (.pointer (some ⟨w.heap.size, 0, none⟩))) (w.alloc (.cells zerosB 82)) := by
  unfold execOp
  rw [ho]
  simp only [Sem.run_bind, Sem.run_pure, run_zeros, Result.andThen_ok]
/-- Block g holds 1001 bools and may be written. -/
def BigB (w : World) (g : Nat) (f : Nat → Bool) : Prop := (∀ i, i < 1001 → w.cell? ⟨g, i, none⟩ = some (.bool (f i)) ∧ w.frozen? ⟨g, i, none⟩ = false) ∧ g < w.heap.size
theorem rep_new (w : World) (N : Nat) (v : Value) (t : TypeId) (i : Nat) (hi : i < N) : (w.alloc (.cells (Array.replicate N v) t)).cell? ⟨w.heap.size, i, none⟩ = some v := by
  have e : Array.replicate N v = (List.replicate N v).toArray := by simp
  rw [e]
  have := cells_new w (List.replicate N v) t i v (by simp [hi])
  rw [show ((⟨w.heap.size, 0, none⟩ : Addr).add i) = ⟨w.heap.size, i, none⟩ by unfold Addr.add; split <;> simp_all] at this
  exact this
theorem rep_frz (w : World) (c : Array Value) (t : TypeId) (i : Nat) : (w.alloc (.cells c t)).frozen? ⟨w.heap.size, i, none⟩ = false := by simp
theorem BigB.new (w : World) : BigB (w.alloc (.cells zerosB 82)) w.heap.size (fun _ => false) :=
  ⟨fun i hi => ⟨rep_new w 1001 (.bool false) _ i hi, rep_frz w _ _ i⟩, by rw [World.size_alloc]; exact Nat.lt_succ_self _⟩
theorem BigB.next {w w' : World} {g : Nat} {f : Nat → Bool} (h : BigB w g f) (hb : Below w.heap.size w w') : BigB w' g f :=
  ⟨fun i hi => ⟨(hb.cell (p := ⟨g, i, none⟩) h.2).trans (h.1 i hi).1, (hb.frozen (p := ⟨g, i, none⟩) h.2).trans (h.1 i hi).2⟩, Nat.lt_of_lt_of_le h.2 hb.size⟩
theorem BigB.congr {w : World} {g : Nat} {x y : Nat → Bool} (h : BigB w g x) (e : ∀ i, i < 1001 → x i = y i) : BigB w g y :=
  ⟨fun i hi => ⟨by rw [← e i hi]; exact (h.1 i hi).1, (h.1 i hi).2⟩, h.2⟩
theorem BigB.set {w : World} {g k : Nat} {x : Nat → Bool} (h : BigB w g x) (hk : k < 1001) (n : Bool) : BigB (w.setCell ⟨g, k, none⟩ (.bool n)) g (fun i => if i = k then n else x i) := by
  refine ⟨fun i hi => ⟨?_, by simpa using (h.1 i hi).2⟩, by simpa using h.2⟩
  by_cases e : i = k
  · subst e; simp only [if_true]; exact World.cell?_setCell_same _ _ _ (h.1 i hi).1
  · rw [World.cell?_setCell_other _ _ _ _ (addr_ne (fun q => e q.symm))]; simp only [if_neg e]; exact (h.1 i hi).1
end Go.Proofs.Ytnapgnkhajkbkaa
