/- How many marks nested data take. No Go text is spoken of here. -/
import Derived.Test.YtkpobihpcnoemaaShM
import Derived.Test.YtkpobihpcnoemaaNg
namespace Go.Proofs.Ytkpobihpcnoemaa
open Go.RowKit
set_option linter.unusedVariables false

def Small : Sh → Prop
  | .pair a b => Small a ∧ Small b
  | .list e => e.c ≤ 64 ∧ Small e
  | _ => True
theorem cnt_le : ∀ (s : Sh) (x : s.T), Small s → cntD s x ≤ s.c + 64 * szD s x
  | .int, _, _ => by show 1 ≤ 1 + 64 * 0; omega
  | .str, b, _ => by show 1 ≤ 1 + 64 * b.size; omega
  | .bool, _, _ => by show 1 ≤ 1 + 64 * 0; omega
  | .nil, _, _ => by show 0 ≤ _; omega
  | .pair a b, x, h => by
    have h1 := cnt_le a x.1 h.1
    have h2 := cnt_le b x.2 h.2
    show cntD a x.1 + cntD b x.2 ≤ a.c + b.c + 64 * (szD a x.1 + szD b x.2)
    omega
  | .list e, l, h => by
    show (l.map (cntD e)).sum ≤ 1 + 64 * (l.length + (l.map (szD e)).sum)
    have h2 : (l.map (cntD e)).sum ≤ 64 * (l.length + (l.map (szD e)).sum) := by
      induction l with
      | nil => simp
      | cons x t ih =>
        have h1 := cnt_le e x h.2
        have := h.1
        simp only [List.map_cons, List.sum_cons, List.length_cons]
        have := ih
        omega
    omega
theorem cntT_le : ∀ (s : Sh) (x : s.T), cntT s x ≤ cntD s x
  | .int, _ => Nat.zero_le _
  | .str, _ => Nat.zero_le _
  | .bool, _ => Nat.zero_le _
  | .nil, _ => Nat.zero_le _
  | .pair a b, x => by
    have h1 := cntT_le a x.1
    have h2 := cntT_le b x.2
    show cntT a x.1 + cntT b x.2 ≤ cntD a x.1 + cntD b x.2
    omega
  | .list e, l => Nat.le_refl _
theorem sz_snoc (e : Sh) (l : List e.T) (x : e.T) : szD (.list e) (l ++ [x]) = szD (.list e) l + (1 + szD e x) := by
  show (l ++ [x]).length + ((l ++ [x]).map (szD e)).sum = l.length + (l.map (szD e)).sum + (1 + szD e x)
  rw [List.length_append, List.map_append, List.sum_append]
  simp
  omega
end Go.Proofs.Ytkpobihpcnoemaa
