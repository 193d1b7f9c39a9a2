/- Registers: how large the calls of a register are, and how many marks nested data take. -/
import Derived.Test.YtjebnhbadbhaaaaRgX
import Derived.Test.YtjebnhbadbhaaaaShM
namespace Go.Proofs.Ytjebnhbadbhaaaa
open Go.RowKit
set_option linter.unusedVariables false

def Small : Sh → Prop
  | .pair a b => Small a ∧ Small b
  | .list e => e.c ≤ 64 ∧ Small e
  | _ => True
theorem cnt_le : ∀ (s : Sh) (x : s.T), Small s → cntD s x ≤ s.c + 64 * szD s x
  | .int, _, _ => by show 1 ≤ 1 + 64 * 0; omega
  | .str, b, _ => by show 1 ≤ 1 + 64 * b.size; omega
  | .bool, _, _ => by show 1 ≤ 1 + 64 * 0; omega
  | .nil, _, _ => by show 0 ≤ _; omega
  | .pair a b, x, h => by
    have h1 := cnt_le a x.1 h.1
    have h2 := cnt_le b x.2 h.2
    show cntD a x.1 + cntD b x.2 ≤ a.c + b.c + 64 * (szD a x.1 + szD b x.2)
    omega
  | .list e, l, h => by
    show (l.map (cntD e)).sum ≤ 1 + 64 * (l.length + (l.map (szD e)).sum)
    have h2 : (l.map (cntD e)).sum ≤ 64 * (l.length + (l.map (szD e)).sum) := by
      induction l with
      | nil => simp
      | cons x t ih =>
        have h1 := cnt_le e x h.2
        have := h.1
        simp only [List.map_cons, List.sum_cons, List.length_cons]
        have := ih
        omega
    omega
theorem cntT_le : ∀ (s : Sh) (x : s.T), cntT s x ≤ cntD s x
  | .int, _ => Nat.zero_le _
  | .str, _ => Nat.zero_le _
  | .bool, _ => Nat.zero_le _
  | .nil, _ => Nat.zero_le _
  | .pair a b, x => by
    have h1 := cntT_le a x.1
    have h2 := cntT_le b x.2
    show cntT a x.1 + cntT b x.2 ≤ cntD a x.1 + cntD b x.2
    omega
  | .list e, l => Nat.le_refl _
theorem cnt_reg {ck : Int} {cp : List (Sh.T shCopy)} {os : List (Sh.T shRegOp)} (h : szD shRegister (ck, cp, os, ()) ≤ 1073741824) : cntT shRegister (ck, cp, os, ()) ≤ 100000000000 := by
  have h1 := cntT_le shRegister (ck, cp, os, ())
  have h2 := cnt_le shRegister (ck, cp, os, ()) ⟨trivial, ⟨by decide, trivial, trivial, trivial, trivial⟩, ⟨by decide, trivial, trivial, trivial, trivial, ⟨by decide, trivial⟩, ⟨trivial, trivial, trivial, trivial⟩, trivial, trivial, trivial⟩, trivial⟩
  have h3 : shRegister.c = 3 := rfl
  omega
theorem sz_snoc (e : Sh) (l : List e.T) (x : e.T) : szD (.list e) (l ++ [x]) = szD (.list e) l + (1 + szD e x) := by
  show (l ++ [x]).length + ((l ++ [x]).map (szD e)).sum = l.length + (l.map (szD e)).sum + (1 + szD e x)
  rw [List.length_append, List.map_append, List.sum_append]
  simp
  omega
theorem val_size {v : ByteArray} (h : valOk v = true) : v.size ≤ 20 := by
  unfold valOk at h
  rw [Bool.and_eq_true, decide_eq_true_eq] at h
  exact h.1
theorem sz_caK {ck nc : Int} {os : List (Sh.T shRegOp)} (h : ∀ o ∈ os, opP ck nc o) : ∀ k, szD (.list shCall) (caK os k) ≤ 22 * k
  | 0 => Nat.le_refl _
  | k + 1 => by
    have ih := sz_caK h k
    by_cases hk : k < os.length
    · cases hb : caB os[k].2.1 os[k].2.2.2.1
      · rw [caK_no hk hb]; omega
      · rw [caK_yes hk hb, sz_snoc]
        have ho := h os[k] (List.getElem_mem hk)
        have h1 := val_size ho.2.1
        have h2 := val_size ho.2.2.2.2.1.2.2
        have h3 : szD shCall (caC os[k] k) = 0 + (0 + (keyX.size + ((caV os[k].2.1 os[k].2.2.1 os[k].2.2.2.2.2.1.2.2.1).size + (0 + (0 + 0))))) := rfl
        have h4 : keyX.size = 1 := rfl
        have h5 : (caV os[k].2.1 os[k].2.2.1 os[k].2.2.2.2.2.1.2.2.1).size ≤ 20 := by
          unfold caV
          split
          · exact h1
          · exact h2
        omega
    · have e : os[k]? = none := List.getElem?_eq_none (by omega)
      simp only [caK, e, List.append_nil]
      omega
theorem sz_caA (ck : Int) (cp : List (Sh.T shCopy)) (os : List (Sh.T shRegOp)) : szD (.list shCall) (caA ck cp os) ≤ 154 := by
  by_cases h : goodR ck cp os
  · have e : caA ck cp os = caK os os.length := if_pos (tf_yes h)
    have h1 := sz_caK h.2.2.2.2.1 os.length
    have h2 := h.2.2.1
    rw [e]
    omega
  · have e : caA ck cp os = [] := if_neg (by rw [tf_no h]; simp)
    rw [e]
    exact Nat.zero_le _
theorem cnt_caA (ck : Int) (cp : List (Sh.T shCopy)) (os : List (Sh.T shRegOp)) : cntD (.list shCall) (caA ck cp os) ≤ 10000 := by
  have h1 := cnt_le (.list shCall) (caA ck cp os) ⟨by decide, trivial, trivial, trivial, trivial, trivial, trivial, trivial⟩
  have h2 := sz_caA ck cp os
  have h3 : Sh.c (.list shCall) = 1 := rfl
  omega
end Go.Proofs.Ytjebnhbadbhaaaa
