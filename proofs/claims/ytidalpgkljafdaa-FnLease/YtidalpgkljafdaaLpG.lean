/- Plays of leases: mathematics alone. -/
import Derived.Test.YtidalpgkljafdaaLsF
import Derived.Test.YtidalpgkljafdaaShPl
namespace Go.Proofs.Ytidalpgkljafdaa
open Go.RowKit
set_option linter.unusedVariables false
set_option linter.unusedSimpArgs false

noncomputable def leX (y : Sh.T shLeases) (x : Sh.T shLeaseStep) : Option (Sh.T shLeases) := leB y.1 y.2.1 y.2.2.1 y.2.2.2.1 y.2.2.2.2.1 y.2.2.2.2.2.1 x.1 x.2.1 x.2.2.1
/-- How many believe. -/
noncomputable def blN (y : Sh.T shLeases) : Int := ((blv y.1 y.2.2.1 y.2.2.2.2.2.1 y.2.2.1.length).length : Int)
noncomputable def lpT (F : Sh.T shLeases × List (Sh.T .int)) (x : Sh.T shLeaseStep) : Sh.T shLeases × List (Sh.T .int) := ((leX F.1 x).getD F.1, F.2 ++ [blN ((leX F.1 x).getD F.1)])
/-- A play. -/
noncomputable def lpF (s : Sh.T shLeases) (l : List (Sh.T shLeaseStep)) : Sh.T shLeases × List (Sh.T .int) := l.foldl lpT (s, [])
theorem lp_take {s : Sh.T shLeases} {l : List (Sh.T shLeaseStep)} {k : Nat} (h : k < l.length) : lpF s (l.take (k + 1)) = lpT (lpF s (l.take k)) l[k] := by
  unfold lpF; rw [List.take_succ_eq_append_getElem h, List.foldl_append]; rfl
theorem lp_len {s : Sh.T shLeases} {l : List (Sh.T shLeaseStep)} : ∀ {k : Nat}, k ≤ l.length → (lpF s (l.take k)).2.length = k
  | 0, _ => by rw [List.take_zero]; rfl
  | k + 1, h => by rw [lp_take h]; show ((lpF s (l.take k)).2 ++ [_]).length = _; rw [List.length_append, lp_len (by omega)]; rfl
theorem leX_good {y : Sh.T shLeases} {x : Sh.T shLeaseStep} (hg : goodX y) : goodX ((leX y x).getD y) := by
  cases e : leX y x with
  | none => exact hg
  | some z => exact leB_good (y := z) hg e
theorem lp_good {s : Sh.T shLeases} {l : List (Sh.T shLeaseStep)} (hg : goodX s) : ∀ {k : Nat}, k ≤ l.length → goodX (lpF s (l.take k)).1
  | 0, _ => by rw [List.take_zero]; exact hg
  | k + 1, h => by
    have ih := lp_good hg (k := k) (l := l) (by omega)
    rw [lp_take h]
    exact leX_good ih
def lpOk (m sk : Int) (l : List (Sh.T shLeaseStep)) : Prop := ((1 ≤ m ∧ m ≤ 12) ∧ (0 ≤ sk ∧ sk ≤ 1000)) ∧ l.length ≤ 100
def lp0 (m sk : Int) : Sh.T shLeases := mkLe sk 0 (List.replicate m.toNat 0) (-1) 0 (List.replicate m.toNat 0)
noncomputable def lpA (m sk : Int) (l : List (Sh.T shLeaseStep)) : Sh.T shLeases × List (Sh.T .int) := if tf (lpOk m sk l) then lpF (lp0 m sk) l else (z0L, [])
theorem lp_no {m sk : Int} {l : List (Sh.T shLeaseStep)} (h : ¬ lpOk m sk l) : lpA m sk l = (z0L, []) ∧ tf (lpOk m sk l) = false := by unfold lpA; rw [tf_no h]; exact ⟨rfl, rfl⟩
theorem lp_yes {m sk : Int} {l : List (Sh.T shLeaseStep)} (h : lpOk m sk l) : lpA m sk l = lpF (lp0 m sk) l ∧ tf (lpOk m sk l) = true := by unfold lpA; rw [tf_yes h]; exact ⟨rfl, rfl⟩
/-- What PlayLeases answers. -/
def LpR (m sk : Int) (l : List (Sh.T shLeaseStep)) (w : World) (r : Ending) (w' : World) : Prop := PyP shLeases .int (lpA m sk l).1 (lpA m sk l).2 (tf (lpOk m sk l)) w r w'
theorem LpR.no {m sk : Int} {l : List (Sh.T shLeaseStep)} {w w' : World} (h : ¬ lpOk m sk l) (hb : Below w.heap.size w w') : LpR m sk l w (.returned (.tuple #[.agg #[.int .i64 0, .int .i64 0, .slice none 0 0, .int .i64 0, .int .i64 0, .slice none 0 0], .slice none 0 0, .bool false])) w' := by
  obtain ⟨e1, e2⟩ := lp_no h
  unfold LpR; rw [e1, e2]
  exact ⟨[.int .i64 0, .int .i64 0, .slice none 0 0, .int .i64 0, .int .i64 0, .slice none 0 0], _, fun _ => False, fun _ => False, rfl, mkown_Leases (Own.none (S := fun _ => False) (Nat.zero_le _)) (Own.none (S := fun _ => False) (Nat.zero_le _)) (fun k e => e.elim) (fun k e => e.elim) (fun k e => e.elim), Own.none (S := fun _ => False) (Nat.zero_le _), fun k q => q.elim, fun k q => q.elim, hb⟩
theorem good_lp0 {m sk : Int} (h : (1 ≤ m ∧ m ≤ 12) ∧ (0 ≤ sk ∧ sk ≤ 1000)) : goodX (lp0 m sk) := good_nw h
theorem lp_set {D : List (Sh.T .int)} {k n : Nat} {u : Int} (hD : D.length = k) (h : k < n) : (D ++ List.replicate (n - k) (0 : Int)).set k u = (D ++ [u]) ++ List.replicate (n - (k + 1)) (0 : Int) := by
  have e : n - k = (n - (k + 1)) + 1 := by omega
  rw [e, List.replicate_succ, List.set_append_right _ _ (by omega), hD, Nat.sub_self, List.append_assoc]; rfl
theorem Bx.set6 {W : World} {b : Nat} {v0 v1 v2 v3 v4 v5 : Value} (h : Bx W b [v0, v1, v2, v3, v4, v5]) (u0 u1 u2 u3 u4 u5 : Value) : Bx ((((((W.setCell ⟨b, 0, none⟩ u0).setCell ⟨b, 1, none⟩ u1).setCell ⟨b, 2, none⟩ u2).setCell ⟨b, 3, none⟩ u3).setCell ⟨b, 4, none⟩ u4).setCell ⟨b, 5, none⟩ u5) b [u0, u1, u2, u3, u4, u5] :=
  (((((h.set (k := 0) (by simp) u0).set (k := 1) (by simp) u1).set (k := 2) (by simp) u2).set (k := 3) (by simp) u3).set (k := 4) (by simp) u4).set (k := 5) (by simp) u5
end Go.Proofs.Ytidalpgkljafdaa
