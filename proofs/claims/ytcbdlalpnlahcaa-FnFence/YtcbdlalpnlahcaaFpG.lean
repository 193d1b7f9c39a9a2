/- Plays of fences: mathematics alone; what a play answers. -/
import Derived.Test.YtcbdlalpnlahcaaFeI
import Derived.Test.YtcbdlalpnlahcaaShPl
namespace Go.Proofs.Ytcbdlalpnlahcaa
open Go.RowKit
set_option linter.unusedVariables false
set_option linter.unusedSimpArgs false

noncomputable def fpT (F : Sh.T shFence × List (Sh.T .int)) (x : Sh.T shFenceStep) : Sh.T shFence × List (Sh.T .int) := (nxF F.1 x, F.2 ++ [(nxF F.1 x).2.1])
/-- A play. -/
noncomputable def fpF (s : Sh.T shFence) (l : List (Sh.T shFenceStep)) : Sh.T shFence × List (Sh.T .int) := l.foldl fpT (s, [])
theorem fp_take {s : Sh.T shFence} {l : List (Sh.T shFenceStep)} {k : Nat} (h : k < l.length) : fpF s (l.take (k + 1)) = fpT (fpF s (l.take k)) l[k] := by
  unfold fpF; rw [List.take_succ_eq_append_getElem h, List.foldl_append]; rfl
theorem fp_len {s : Sh.T shFence} {l : List (Sh.T shFenceStep)} : ∀ {k : Nat}, k ≤ l.length → (fpF s (l.take k)).2.length = k
  | 0, _ => by rw [List.take_zero]; rfl
  | k + 1, h => by rw [fp_take h]; show ((fpF s (l.take k)).2 ++ [_]).length = _; rw [List.length_append, fp_len (by omega)]; rfl
theorem fp_good {s : Sh.T shFence} {l : List (Sh.T shFenceStep)} (hg : goodT s) : ∀ {k : Nat}, k ≤ l.length → goodT (fpF s (l.take k)).1
  | 0, _ => by rw [List.take_zero]; exact hg
  | k + 1, h => by
    have ih := fp_good hg (k := k) (l := l) (by omega)
    rw [fp_take h]
    exact nx_good ih
theorem fp_play {s : Sh.T shFence} {l : List (Sh.T shFenceStep)} (hg : playP s.1 s.2.1) : ∀ {k : Nat}, k ≤ l.length → playP (fpF s (l.take k)).1.1 (fpF s (l.take k)).1.2.1
  | 0, _ => by rw [List.take_zero]; exact hg
  | k + 1, h => by
    have ih := fp_play hg (k := k) (l := l) (by omega)
    rw [fp_take h]
    exact (nx_play ih).1
/-- How many run or were ended. -/
def totF (x : Sh.T shFence) : Nat := List.length (α := Sh.T .int) x.2.2.2.1 + runT x.2.2.1
theorem mem_tot {ep du : Int} {ms : List (Sh.T shMember)} {en : List (Sh.T .int)} {a n : Int} {i : Nat} (hi : i < ms.length) {y : Sh.T shFence} (e : memF ep du ms en a n i ms[i] = some y) : totF y ≤ en.length + runT ms + 1 := by
  have key : ∀ (x0 x1 x3 : Int) (x2 : List (Sh.T .int)) (en' : List (Sh.T .int)), en'.length + x2.length ≤ en.length + (mru ms[i]).length + 1 → totF (mkFe ep du (ms.set i (mkMb x0 x1 x2 x3)) en') ≤ en.length + runT ms + 1 := fun x0 x1 x3 x2 en' h => by
    have hS := runT_set ms i hi (mkMb x0 x1 x2 x3)
    have e2 : (mru (mkMb x0 x1 x2 x3)).length = x2.length := rfl
    show en'.length + runT (ms.set i (mkMb x0 x1 x2 x3)) ≤ _
    omega
  unfold memF at e
  split at e
  · split at e
    · cases e
    · cases e; exact key _ _ _ _ _ (by rw [List.length_append]; simp; omega)
  · split at e
    · split at e
      · rename_i c
        cases e
        have hn : n.toNat < (mru ms[i]).length := by omega
        exact key _ _ _ _ _ (by rw [List.length_append, List.length_eraseIdx_of_lt hn]; simp; omega)
      · cases e
    · split at e
      · split at e
        · cases e
        · cases e; exact key _ _ _ _ _ (by omega)
      · split at e
        · split at e
          · cases e
          · cases e; exact key _ _ _ _ _ (by omega)
        · split at e
          · split at e
            · cases e
            · cases e
              have := runT_erase ms i hi
              show en.length + runT (ms.eraseIdx i) ≤ _
              omega
          · cases e
theorem nx_tot {x : Sh.T shFence} {s : Sh.T shFenceStep} : totF (nxF x s) ≤ totF x + 1 := by
  unfold nxF
  cases e : stF x.1 x.2.1 x.2.2.1 x.2.2.2.1 s.1 s.2.1 s.2.2.1 with
  | none => exact Nat.le_succ _
  | some y =>
    show totF y ≤ _
    unfold stF at e
    split at e
    · by_cases c : (x.1 : Int) ≠ 1000 ∧ ¬ ((x.2.1 : Int) = (show Int from x.1) - 1 ∧ 1 < (show Int from x.1)) ∧ ackP x.1 x.2.2.1 (List.length (α := Sh.T shMember) x.2.2.1)
      · rw [adv_yes c] at e; cases e; exact Nat.le_succ _
      · rw [adv_no c] at e; cases e
    · split at e
      · cases e
      · split at e
        · cases e
        · rename_i hm
          obtain ⟨hi, rfl⟩ := List.getElem?_eq_some_iff.1 hm
          exact mem_tot hi e
theorem fp_tot {s : Sh.T shFence} {l : List (Sh.T shFenceStep)} (h0 : totF s = 0) : ∀ {k : Nat}, k ≤ l.length → totF (fpF s (l.take k)).1 ≤ k
  | 0, _ => by rw [List.take_zero]; exact Nat.le_of_eq h0
  | k + 1, h => by
    have ih := fp_tot h0 (k := k) (l := l) (by omega)
    rw [fp_take h]
    exact Nat.le_trans nx_tot (by omega)
theorem fp_all {s : Sh.T shFence} : ∀ (l : List (Sh.T shFenceStep)), fpF s l = (plF s l, plD s l) := by
  have key : ∀ (l : List (Sh.T shFenceStep)) (x : Sh.T shFence) (D : List (Sh.T .int)), l.foldl fpT (x, D) = (plF x l, D ++ plD x l) := by
    intro l
    induction l with
    | nil => intro x D; simp [plF, plD]
    | cons a t ih =>
      intro x D
      rw [List.foldl_cons]
      show t.foldl fpT (nxF x a, D ++ [(nxF x a).2.1]) = _
      rw [ih]
      show _ = (plF (nxF x a) t, D ++ ((nxF x a).2.1 :: plD (nxF x a) t))
      rw [List.append_assoc]; rfl
  intro l
  have := key l s []
  rwa [List.nil_append] at this
def fpOk (m : Int) (l : List (Sh.T shFenceStep)) : Prop := (1 ≤ m ∧ m ≤ 8) ∧ l.length ≤ 120
def fp0 (m : Int) : Sh.T shFence := mkFe 1 0 (newMs m.toNat) []
def z0F : Sh.T shFence := mkFe 0 0 [] []
noncomputable def fpA (m : Int) (l : List (Sh.T shFenceStep)) : Sh.T shFence × List (Sh.T .int) := if tf (fpOk m l) then fpF (fp0 m) l else (z0F, [])
theorem fp_no {m : Int} {l : List (Sh.T shFenceStep)} (h : ¬ fpOk m l) : fpA m l = (z0F, []) ∧ tf (fpOk m l) = false := by unfold fpA; rw [tf_no h]; exact ⟨rfl, rfl⟩
theorem fp_yes {m : Int} {l : List (Sh.T shFenceStep)} (h : fpOk m l) : fpA m l = fpF (fp0 m) l ∧ tf (fpOk m l) = true := by unfold fpA; rw [tf_yes h]; exact ⟨rfl, rfl⟩
theorem fp0_good {m : Int} (h : 1 ≤ m ∧ m ≤ 8) : goodT (fp0 m) ∧ playP (fp0 m).1 (fp0 m).2.1 ∧ totF (fp0 m) = 0 := by
  have := new_good (n := m.toNat) (by omega)
  exact ⟨this.1, this.2, by show 0 + runT (newMs m.toNat) = 0; rw [runT_new]⟩
/-- What PlayFence answers. -/
def FpR (m : Int) (l : List (Sh.T shFenceStep)) (w : World) (r : Ending) (w' : World) : Prop := PyP shFence .int (fpA m l).1 (fpA m l).2 (tf (fpOk m l)) w r w'
theorem FpR.no {m : Int} {l : List (Sh.T shFenceStep)} {w w' : World} (h : ¬ fpOk m l) (hb : Below w.heap.size w w') : FpR m l w (.returned (.tuple #[.agg #[.int .i64 0, .int .i64 0, .slice none 0 0, .slice none 0 0], .slice none 0 0, .bool false])) w' := by
  obtain ⟨e1, e2⟩ := fp_no h
  unfold FpR; rw [e1, e2]
  exact ⟨[.int .i64 0, .int .i64 0, .slice none 0 0, .slice none 0 0], _, fun _ => False, fun _ => False, rfl, own_feZ, Own.none (Nat.zero_le _), fun k q => q.elim, fun k q => q.elim, hb⟩
theorem own_cellsF {W : World} {cs : List Value} {ep du : Int} {ms : List (Sh.T shMember)} {en : List (Sh.T .int)} {S : Nat → Prop} (h : Own W shFence cs (ep, du, ms, en, ()) S) : ∃ (p3 : Option Addr) (n3 q3 : Nat) (p4 : Option Addr) (n4 q4 : Nat), cs = [.int .i64 ep, .int .i64 du, .slice p3 n3 q3, .slice p4 n4 q4] := by
  obtain ⟨a1, k1, _, a2, k2, _, e, _⟩ := own_Fence h
  exact ⟨a1, _, k1, a2, _, k2, e⟩
theorem Bx.set4 {W : World} {b : Nat} {v0 v1 v2 v3 : Value} (h : Bx W b [v0, v1, v2, v3]) (u0 u1 u2 u3 : Value) : Bx ((((W.setCell ⟨b, 0, none⟩ u0).setCell ⟨b, 1, none⟩ u1).setCell ⟨b, 2, none⟩ u2).setCell ⟨b, 3, none⟩ u3) b [u0, u1, u2, u3] :=
  (((h.set (k := 0) (by simp) u0).set (k := 1) (by simp) u1).set (k := 2) (by simp) u2).set (k := 3) (by simp) u3
/-- Between the steps of a play of fences. -/
def FqS (w : World) (b : Nat) (wr : World) (y : Sh.T shFence) (v : Value) (D : List (Sh.T .int)) : Prop := ∃ (p3 : Option Addr) (n3 q3 : Nat) (p4 : Option Addr) (n4 q4 : Nat), PyS shFence .int 3 [.int .i64 0, .int .i64 0, .slice none 0 0, .slice none 0 0] w b wr [.int .i64 y.1, .int .i64 y.2.1, .slice p3 n3 q3, .slice p4 n4 q4] y v D
end Go.Proofs.Ytcbdlalpnlahcaa
