/- Counters: what is good, said plainly. No Go text is spoken of here. -/
import Derived.Test.YtnglgndocmkbfaaNg
import Derived.Test.YtnglgndocmkbfaaIn
import Derived.Test.YtnglgndocmkbfaaNtS
namespace Go.Proofs.Ytnglgndocmkbfaa
open Go.RowKit
set_option linter.unusedVariables false
set_option linter.unusedSimpArgs false

def cntK (x : Int) : Prop := 0 ≤ x ∧ x ≤ 1000000
def cntR (l : List (Sh.T .int)) : Prop := l.length = 6 ∧ ∀ k, k < l.length → cntK (atI l k)
def goodC (u d : List (Sh.T .int)) : Prop := cntR u ∧ cntR d
theorem goodC_tf {u d : List (Sh.T .int)} : tf (goodC u d) = (tf (cntR u) && tf (cntR d)) := by
  rw [Bool.eq_iff_iff, Bool.and_eq_true, tf_iff, tf_iff, tf_iff]; exact Iff.rfl
/-- The sum of the first k. -/
def sumK (l : List Int) (k : Nat) : Int := (l.take k).sum
theorem sumK_succ {l : List Int} {k : Nat} (h : k < l.length) : sumK l (k + 1) = sumK l k + atI l k := by
  unfold sumK; rw [List.take_succ_eq_append_getElem h, List.sum_append, atI_lt h]; simp
theorem sumK_all (l : List Int) : sumK l l.length = l.sum := by unfold sumK; rw [List.take_length]
theorem sumK_bd {l : List Int} (h : ∀ k, k < l.length → cntK (atI l k)) : ∀ k, k ≤ l.length → 0 ≤ sumK l k ∧ sumK l k ≤ 1000000 * k := by
  intro k
  induction k with
  | zero => intro _; exact ⟨by simp [sumK], by simp [sumK]⟩
  | succ j ih =>
    intro hk
    have h1 := ih (by omega)
    have h2 := h j (by omega)
    rw [sumK_succ (by omega)]
    have h3 := h2.1
    have h4 := h2.2
    omega
/-- What a counter counts. -/
noncomputable def voA (u d : List (Sh.T .int)) : Int × Bool := if tf (goodC u d) = true then (sumK u u.length - sumK d d.length, true) else (0, false)
theorem voA_yes {u d : List (Sh.T .int)} (h : goodC u d) : voA u d = (sumK u u.length - sumK d d.length, true) := if_pos (tf_yes h)
theorem voA_no {u d : List (Sh.T .int)} (h : ¬ goodC u d) : voA u d = (0, false) := if_neg (by rw [tf_no h]; simp)
def VoP (v : Int × Bool) (w : World) (r : Ending) (w' : World) : Prop := r = .returned (.tuple #[.int .i64 v.1, .bool v.2]) ∧ Below w.heap.size w w'
/-- CountBy. -/
def cbU (u : List (Sh.T .int)) (a b : Int) : List (Sh.T .int) := if 0 ≤ b then u.set a.toNat (atI u a.toNat + b) else u
def cbD (d : List (Sh.T .int)) (a b : Int) : List (Sh.T .int) := if 0 ≤ b then d else d.set a.toNat (atI d a.toNat - b)
def cbP (u d : List (Sh.T .int)) (a b : Int) : Prop := goodC u d ∧ (0 ≤ a ∧ a ≤ 5) ∧ (-1000 ≤ b ∧ b ≤ 1000) ∧ goodC (cbU u a b) (cbD d a b)
noncomputable def cbA (u d : List (Sh.T .int)) (a b : Int) : List (Sh.T .int) × List (Sh.T .int) × Bool := if tf (cbP u d a b) = true then (cbU u a b, cbD d a b, true) else ([], [], false)
theorem cbA_yes {u d : List (Sh.T .int)} {a b : Int} (h : cbP u d a b) : cbA u d a b = (cbU u a b, cbD d a b, true) := if_pos (tf_yes h)
theorem cbA_no {u d : List (Sh.T .int)} {a b : Int} (h : ¬ cbP u d a b) : cbA u d a b = ([], [], false) := if_neg (by rw [tf_no h]; simp)
/-- Place by place the greater ones. -/
def mxL (a b : List (Sh.T .int)) : List (Sh.T .int) := (List.range 6).map (fun i => max (atI a i) (atI b i))
noncomputable def mcA (u d u2 d2 : List (Sh.T .int)) : List (Sh.T .int) × List (Sh.T .int) × Bool := if tf (goodC u d ∧ goodC u2 d2) = true then (mxL u u2, mxL d d2, true) else ([], [], false)
theorem mcA_yes {u d u2 d2 : List (Sh.T .int)} (h : goodC u d ∧ goodC u2 d2) : mcA u d u2 d2 = (mxL u u2, mxL d d2, true) := if_pos (tf_yes h)
theorem mcA_no {u d u2 d2 : List (Sh.T .int)} (h : ¬ (goodC u d ∧ goodC u2 d2)) : mcA u d u2 d2 = ([], [], false) := if_neg (by rw [tf_no h]; simp)
end Go.Proofs.Ytnglgndocmkbfaa
