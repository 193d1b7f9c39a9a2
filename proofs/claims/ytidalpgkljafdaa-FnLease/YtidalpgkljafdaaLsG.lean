/- Leases: what a step makes of them, and that it keeps them good. No Go text is spoken of here. -/
import Derived.Test.YtidalpgkljafdaaLeG
import Derived.Test.YtidalpgkljafdaaNtS
namespace Go.Proofs.Ytidalpgkljafdaa
open Go.RowKit
set_option linter.unusedVariables false
set_option linter.unusedSimpArgs false

def mkLe (sk nw : Int) (cl : List (Sh.T .int)) (ho un : Int) (kn : List (Sh.T .int)) : Sh.T shLeases := (sk, nw, cl, ho, un, kn, ())
def goodX (y : Sh.T shLeases) : Prop := goodL y.1 y.2.1 y.2.2.1 y.2.2.2.1 y.2.2.2.2.1 y.2.2.2.2.2.1
def grU (nw ho un b n : Int) : Int := if b = ho then max un (nw + n) else nw + n
noncomputable def leTime (sk nw : Int) (cl : List (Sh.T .int)) (ho un : Int) (kn : List (Sh.T .int)) (n : Int) : Option (Sh.T shLeases) :=
  if tf ((1 ≤ n ∧ n ≤ 1000000 - nw) ∧ ∀ i, i < cl.length → nearB sk (nw + n) (atI cl i) = true) then some (mkLe sk (nw + n) cl ho un kn) else none
noncomputable def leGrant (sk nw : Int) (cl : List (Sh.T .int)) (ho un : Int) (kn : List (Sh.T .int)) (b n : Int) : Option (Sh.T shLeases) :=
  if tf ((0 ≤ b ∧ b ≤ (cl.length : Int) - 1) ∧ (1 ≤ n ∧ n ≤ 1000000) ∧ (b = ho ∨ un ≤ nw)) then some (mkLe sk nw cl b (grU nw ho un b n) kn) else none
noncomputable def leTell (sk nw : Int) (cl : List (Sh.T .int)) (ho un : Int) (kn : List (Sh.T .int)) (b : Int) : Option (Sh.T shLeases) :=
  if tf ((0 ≤ b ∧ b ≤ (cl.length : Int) - 1) ∧ b = ho) then some (mkLe sk nw cl ho un (kn.set b.toNat un)) else none
noncomputable def leTick (sk nw : Int) (cl : List (Sh.T .int)) (ho un : Int) (kn : List (Sh.T .int)) (b n : Int) : Option (Sh.T shLeases) :=
  if tf ((0 ≤ b ∧ b ≤ (cl.length : Int) - 1) ∧ (-1000 ≤ n ∧ n ≤ 1000000) ∧ nearB sk nw (atI cl b.toNat + n) = true) then some (mkLe sk nw (cl.set b.toNat (atI cl b.toNat + n)) ho un kn) else none
/-- A step, of leases that are taken as good. -/
noncomputable def leB (sk nw : Int) (cl : List (Sh.T .int)) (ho un : Int) (kn : List (Sh.T .int)) (a b n : Int) : Option (Sh.T shLeases) :=
  if a = 1 then leGrant sk nw cl ho un kn b n else if a = 2 then leTell sk nw cl ho un kn b else if a = 3 then leTime sk nw cl ho un kn n else if a = 4 then leTick sk nw cl ho un kn b n else none
noncomputable def leS (sk nw : Int) (cl : List (Sh.T .int)) (ho un : Int) (kn : List (Sh.T .int)) (a b n : Int) : Option (Sh.T shLeases) := if tf (goodL sk nw cl ho un kn) then leB sk nw cl ho un kn a b n else none
section
variable {sk nw : Int} {cl : List (Sh.T .int)} {ho un : Int} {kn : List (Sh.T .int)} {a b n : Int}
theorem le1 : leB sk nw cl ho un kn 1 b n = leGrant sk nw cl ho un kn b n := rfl
theorem le2 : leB sk nw cl ho un kn 2 b n = leTell sk nw cl ho un kn b := rfl
theorem le3 : leB sk nw cl ho un kn 3 b n = leTime sk nw cl ho un kn n := rfl
theorem le4 : leB sk nw cl ho un kn 4 b n = leTick sk nw cl ho un kn b n := rfl
theorem le5 (h1 : ¬ a = 1) (h2 : ¬ a = 2) (h3 : ¬ a = 3) (h4 : ¬ a = 4) : leB sk nw cl ho un kn a b n = none := by unfold leB; rw [if_neg h1, if_neg h2, if_neg h3, if_neg h4]
theorem leS_no (h : ¬ goodL sk nw cl ho un kn) : leS sk nw cl ho un kn a b n = none := by unfold leS; rw [tf_no h]; rfl
theorem leS_yes (h : goodL sk nw cl ho un kn) : leS sk nw cl ho un kn a b n = leB sk nw cl ho un kn a b n := by unfold leS; rw [tf_yes h]; rfl
theorem leTime_no (h : ¬ ((1 ≤ n ∧ n ≤ 1000000 - nw) ∧ ∀ i, i < cl.length → nearB sk (nw + n) (atI cl i) = true)) : leTime sk nw cl ho un kn n = none := by unfold leTime; rw [tf_no h]; rfl
theorem leTime_yes (h : (1 ≤ n ∧ n ≤ 1000000 - nw) ∧ ∀ i, i < cl.length → nearB sk (nw + n) (atI cl i) = true) : leTime sk nw cl ho un kn n = some (mkLe sk (nw + n) cl ho un kn) := by unfold leTime; rw [tf_yes h]; rfl
theorem leGrant_no (h : ¬ ((0 ≤ b ∧ b ≤ (cl.length : Int) - 1) ∧ (1 ≤ n ∧ n ≤ 1000000) ∧ (b = ho ∨ un ≤ nw))) : leGrant sk nw cl ho un kn b n = none := by unfold leGrant; rw [tf_no h]; rfl
theorem leGrant_yes (h : (0 ≤ b ∧ b ≤ (cl.length : Int) - 1) ∧ (1 ≤ n ∧ n ≤ 1000000) ∧ (b = ho ∨ un ≤ nw)) : leGrant sk nw cl ho un kn b n = some (mkLe sk nw cl b (grU nw ho un b n) kn) := by unfold leGrant; rw [tf_yes h]; rfl
theorem leTell_no (h : ¬ ((0 ≤ b ∧ b ≤ (cl.length : Int) - 1) ∧ b = ho)) : leTell sk nw cl ho un kn b = none := by unfold leTell; rw [tf_no h]; rfl
theorem leTell_yes (h : (0 ≤ b ∧ b ≤ (cl.length : Int) - 1) ∧ b = ho) : leTell sk nw cl ho un kn b = some (mkLe sk nw cl ho un (kn.set b.toNat un)) := by unfold leTell; rw [tf_yes h]; rfl
theorem leTick_no (h : ¬ ((0 ≤ b ∧ b ≤ (cl.length : Int) - 1) ∧ (-1000 ≤ n ∧ n ≤ 1000000) ∧ nearB sk nw (atI cl b.toNat + n) = true)) : leTick sk nw cl ho un kn b n = none := by unfold leTick; rw [tf_no h]; rfl
theorem leTick_yes (h : (0 ≤ b ∧ b ≤ (cl.length : Int) - 1) ∧ (-1000 ≤ n ∧ n ≤ 1000000) ∧ nearB sk nw (atI cl b.toNat + n) = true) : leTick sk nw cl ho un kn b n = some (mkLe sk nw (cl.set b.toNat (atI cl b.toNat + n)) ho un kn) := by unfold leTick; rw [tf_yes h]; rfl
theorem atI_set {l : List (Sh.T .int)} {k i : Nat} {x : Int} (h : i < l.length) : atI (l.set k x) i = if k = i then x else atI l i := by
  rw [atI_lt (by rw [List.length_set]; exact h), List.getElem_set, atI_lt h]
/-- A grant keeps leases good. -/
theorem good_grant (hg : goodL sk nw cl ho un kn) (h : (0 ≤ b ∧ b ≤ (cl.length : Int) - 1) ∧ (1 ≤ n ∧ n ≤ 1000000) ∧ (b = ho ∨ un ≤ nw)) : goodL sk nw cl b (grU nw ho un b n) kn := by
  obtain ⟨g1, g2, g3, g4, g5, g6, g7⟩ := hg
  obtain ⟨h1, h2, h3⟩ := h
  have hu : un ≤ grU nw ho un b n ∧ 0 ≤ grU nw ho un b n ∧ grU nw ho un b n ≤ 2000000 := by
    unfold grU
    by_cases e : b = ho
    · rw [if_pos e]; omega
    · rw [if_neg e]; omega
  refine ⟨g1, g2, ⟨hu.2.1, hu.2.2⟩, g4, g5, ⟨by omega, h1.2⟩, fun i hi => ?_⟩
  obtain ⟨q1, q2, q3, q4⟩ := g7 i hi
  refine ⟨q1, q2, by omega, fun hne => ?_⟩
  by_cases e : (i : Int) = ho
  · rcases h3 with h3 | h3
    · exact absurd (e.trans h3.symm) hne
    · omega
  · exact q4 e
/-- A telling keeps leases good. -/
theorem good_tell (hg : goodL sk nw cl ho un kn) (h : (0 ≤ b ∧ b ≤ (cl.length : Int) - 1) ∧ b = ho) : goodL sk nw cl ho un (kn.set b.toNat un) := by
  obtain ⟨g1, g2, g3, g4, g5, g6, g7⟩ := hg
  obtain ⟨h1, h2⟩ := h
  refine ⟨g1, g2, g3, g4, by rw [List.length_set]; exact g5, g6, fun i hi => ?_⟩
  obtain ⟨q1, q2, q3, q4⟩ := g7 i hi
  rw [atI_set (by rw [g5]; exact hi)]
  by_cases e : b.toNat = i
  · rw [if_pos e]
    exact ⟨q1, g3.1, Int.le_refl _, fun hne => absurd (by omega) hne⟩
  · rw [if_neg e]; exact ⟨q1, q2, q3, q4⟩
/-- Time that passes keeps leases good just where no clock is too far then. -/
theorem good_time (hg : goodL sk nw cl ho un kn) (hn : 1 ≤ n ∧ n ≤ 1000000) : goodL sk (nw + n) cl ho un kn ↔ (1 ≤ n ∧ n ≤ 1000000 - nw) ∧ ∀ i, i < cl.length → nearB sk (nw + n) (atI cl i) = true := by
  obtain ⟨g1, g2, g3, g4, g5, g6, g7⟩ := hg
  constructor
  · rintro ⟨_, p2, _, _, _, _, p7⟩
    exact ⟨⟨hn.1, by omega⟩, fun i hi => (p7 i hi).1⟩
  · rintro ⟨h1, h2⟩
    refine ⟨g1, by omega, g3, g4, g5, g6, fun i hi => ?_⟩
    obtain ⟨q1, q2, q3, q4⟩ := g7 i hi
    exact ⟨h2 i hi, q2, q3, fun hne => by have := q4 hne; omega⟩
/-- A tick keeps leases good just where the clock is not too far then. -/
theorem good_tick {k : Nat} (hg : goodL sk nw cl ho un kn) (hk : k < cl.length) : goodL sk nw (cl.set k (atI cl k + n)) ho un kn ↔ nearB sk nw (atI cl k + n) = true := by
  obtain ⟨g1, g2, g3, g4, g5, g6, g7⟩ := hg
  constructor
  · rintro ⟨_, _, _, _, _, _, p7⟩
    have := (p7 k (by rw [List.length_set]; exact hk)).1
    rw [atI_set hk, if_pos rfl] at this
    exact this
  · intro h
    refine ⟨g1, g2, g3, by rw [List.length_set]; exact g4, by rw [List.length_set]; exact g5, by rw [List.length_set]; exact g6, fun i hi => ?_⟩
    rw [List.length_set] at hi
    obtain ⟨q1, q2, q3, q4⟩ := g7 i hi
    rw [atI_set hi]
    by_cases e : k = i
    · rw [if_pos e]; exact ⟨h, q2, q3, q4⟩
    · rw [if_neg e]; exact ⟨q1, q2, q3, q4⟩
/-- A step keeps leases good. -/
theorem leB_good {y : Sh.T shLeases} (hg : goodL sk nw cl ho un kn) (h : leB sk nw cl ho un kn a b n = some y) : goodX y := by
  unfold leB at h
  split at h
  · by_cases c : (0 ≤ b ∧ b ≤ (cl.length : Int) - 1) ∧ (1 ≤ n ∧ n ≤ 1000000) ∧ (b = ho ∨ un ≤ nw)
    · rw [leGrant_yes c] at h; cases h; exact good_grant hg c
    · rw [leGrant_no c] at h; cases h
  split at h
  · by_cases c : (0 ≤ b ∧ b ≤ (cl.length : Int) - 1) ∧ b = ho
    · rw [leTell_yes c] at h; cases h; exact good_tell hg c
    · rw [leTell_no c] at h; cases h
  split at h
  · by_cases c : (1 ≤ n ∧ n ≤ 1000000 - nw) ∧ ∀ i, i < cl.length → nearB sk (nw + n) (atI cl i) = true
    · rw [leTime_yes c] at h; cases h; exact (good_time hg ⟨c.1.1, by have := hg.2.1; omega⟩).2 c
    · rw [leTime_no c] at h; cases h
  split at h
  · by_cases c : (0 ≤ b ∧ b ≤ (cl.length : Int) - 1) ∧ (-1000 ≤ n ∧ n ≤ 1000000) ∧ nearB sk nw (atI cl b.toNat + n) = true
    · rw [leTick_yes c] at h; cases h; exact (good_tick hg (by omega)).2 c.2.2
    · rw [leTick_no c] at h; cases h
  · cases h
end
end Go.Proofs.Ytidalpgkljafdaa
