/- What is left of a size; small facts for lists of structs. No Go text is spoken of here. -/
import Derived.Test.YtnglgndocmkbfaaOpenE
namespace Go.Proofs.Ytnglgndocmkbfaa
open Go.RowKit Go.Deep
set_option linter.unusedVariables false
def szN (l : Int) (k : Nat) : Int := if l < k then -1 else l - k
theorem szN_bd (l : Int) (k : Nat) (h0 : 0 ≤ l) (h1 : l ≤ 1048576) : -1 ≤ szN l k ∧ szN l k ≤ 1048576 := by
  unfold szN; split <;> omega
theorem cells_str : Try.prog.cellsOf 9 = 1 := by kernel_rfl
theorem cells_bool : Try.prog.cellsOf 4 = 1 := by kernel_rfl
theorem info_two {o : Option TypeInfo} {z : Option Value} {s : Nat} (h : o.map (fun i => (i.zero, i.size)) = some (z, s)) : ∃ i, o = some i ∧ i.zero = z ∧ i.size = s := by
  cases o with
  | none => cases h
  | some i => simp at h; exact ⟨i, rfl, h.1, h.2⟩
theorem bytes_le {n b : Nat} (hn : n ≤ 1048576) (hb : b ≤ 100) : n * b ≤ 140737488355328 := by
  have := Nat.mul_le_mul hn hb; omega
end Go.Proofs.Ytnglgndocmkbfaa
