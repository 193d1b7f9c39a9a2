/- Leases: what is good, said plainly. No Go text is spoken of here. -/
import Derived.Test.YtidalpgkljafdaaNg
import Derived.Test.YtidalpgkljafdaaIn
namespace Go.Proofs.Ytidalpgkljafdaa
open Go.RowKit
set_option linter.unusedVariables false

/-- A clock that is not too far. -/
def nearB (sk nw c : Int) : Bool := decide (0 ≤ c) && inR c (nw - sk) (nw + sk)
theorem nearB_iff {sk nw c : Int} : nearB sk nw c = true ↔ 0 ≤ c ∧ nw - sk ≤ c ∧ c ≤ nw + sk := by simp [nearB, inR]
/-- Up to when a node may have been told that it holds. -/
def toldN (nw ho un : Int) (i : Int) : Int := if i = ho then un else min un nw
/-- A node's clock is not too far, and it was told no more than it may have been. -/
def nodeP (sk nw ho un : Int) (i : Nat) (c k : Int) : Prop := nearB sk nw c = true ∧ 0 ≤ k ∧ k ≤ un ∧ ((i : Int) ≠ ho → k ≤ nw)
def goodL (sk nw : Int) (cl : List (Sh.T .int)) (ho un : Int) (kn : List (Sh.T .int)) : Prop :=
  (0 ≤ sk ∧ sk ≤ 1000) ∧ (0 ≤ nw ∧ nw ≤ 1000000) ∧ (0 ≤ un ∧ un ≤ 2000000) ∧ (1 ≤ (cl.length : Int) ∧ (cl.length : Int) ≤ 12) ∧ kn.length = cl.length ∧ (-1 ≤ ho ∧ ho ≤ (cl.length : Int) - 1) ∧
    ∀ i, i < cl.length → nodeP sk nw ho un i (atI cl i) (atI kn i)
theorem told_iff {nw ho un k : Int} {i : Nat} : inR k 0 (toldN nw ho un i) = true ↔ 0 ≤ k ∧ k ≤ un ∧ ((i : Int) ≠ ho → k ≤ nw) := by
  rw [inR_iff]
  unfold toldN
  by_cases h : (i : Int) = ho
  · rw [if_pos h]; constructor
    · intro q; exact ⟨q.1, q.2, fun x => absurd h x⟩
    · intro q; exact ⟨q.1, q.2.1⟩
  · rw [if_neg h]; constructor
    · intro q; exact ⟨q.1, by omega, fun _ => by omega⟩
    · intro q; have := q.2.2 h; exact ⟨q.1, by omega⟩
theorem good_no {sk nw : Int} {cl : List (Sh.T .int)} {ho un : Int} {kn : List (Sh.T .int)} (h : ¬ goodL sk nw cl ho un kn) : Ending.returned (.bool false) = .returned (.bool (tf (goodL sk nw cl ho un kn))) := by rw [tf_no h]
theorem good_yes {sk nw : Int} {cl : List (Sh.T .int)} {ho un : Int} {kn : List (Sh.T .int)} (h : goodL sk nw cl ho un kn) : Ending.returned (.bool true) = .returned (.bool (tf (goodL sk nw cl ho un kn))) := by rw [tf_yes h]
end Go.Proofs.Ytidalpgkljafdaa
