/- Orders of calls: each number once; whether all fit. No Go text is spoken of here. -/
import Derived.Test.YtkniokbioggkeaaOnG
import Derived.Test.YtkniokbioggkeaaHeG
import Derived.Test.YtkniokbioggkeaaHasJ
namespace Go.Proofs.Ytkniokbioggkeaa
open Go.RowKit
set_option linter.unusedVariables false

def idN (k : Nat) : Int := (k : Int)
theorem idN_rise (n : Nat) : (lstN idN n).Pairwise (· < ·) := by
  rw [lstN, List.pairwise_map]
  exact List.pairwise_lt_range.imp (fun {a b} h => by show (a : Int) < (b : Int); omega)
/-- The list is an order of n calls. -/
def ordB (O : Nat → Int) (m n : Nat) : Bool := eachB O m (lstN idN n)
theorem ordB_iff {O : Nat → Int} {m n : Nat} : ordB O m n = true ↔ m = n ∧ ∀ i, i < m → inR (O i) 0 ((n : Int) - 1) = true ∧ hasN O (O i) i = false := by
  rw [ordB, each_iff (idN_rise n), lstN_len]
  constructor
  · rintro ⟨h1, h2⟩
    refine ⟨h1, fun i hi => ⟨?_, ?_⟩⟩
    · obtain ⟨j, hj, e⟩ := lstN_mem.1 (h2 i hi).1
      rw [inR_iff, ← e, idN]; omega
    · rw [Bool.eq_false_iff]
      intro h
      obtain ⟨j, hj, e⟩ := hasN_iff.1 h
      exact (h2 i hi).2 j hj e
  · rintro ⟨h1, h2⟩
    refine ⟨h1, fun i hi => ⟨?_, fun j hj e => ?_⟩⟩
    · have := inR_iff.1 (h2 i hi).1
      exact lstN_mem.2 ⟨(O i).toNat, by omega, by rw [idN]; omega⟩
    · have := (h2 i hi).2
      rw [Bool.eq_false_iff] at this
      exact this (hasN_iff.2 ⟨j, hj, e⟩)
/-- The order, as numbers from 0 on. -/
def ordN (O : Nat → Int) (k : Nat) : List Nat := (List.range k).map fun j => (O j).toNat
theorem ordN_len (O : Nat → Int) (k : Nat) : (ordN O k).length = k := by simp [ordN]
theorem ordN_succ (O : Nat → Int) (k : Nat) : ordN O (k + 1) = ordN O k ++ [(O k).toNat] := by simp [ordN, List.range_succ]
/-- The first k fit, each behind those ahead of it. -/
def fitP (V : Nat → CallV) (O : Nat → Int) (k : Nat) : Prop := ∀ j, j < k → fitB V (ordN O j) (O j).toNat = true
instance (V : Nat → CallV) (O : Nat → Int) (k : Nat) : Decidable (fitP V O k) := by unfold fitP; infer_instance
theorem fitP_up {V : Nat → CallV} {O : Nat → Int} {k : Nat} (h : fitP V O k) (hk : fitB V (ordN O k) (O k).toNat = true) : fitP V O (k + 1) := by
  intro j hj
  rcases Nat.lt_or_ge j k with g | g
  · exact h j g
  · have : j = k := by omega
    subst this; exact hk
/-- Both answers of FitsOrder. -/
def foOk (V : Nat → CallV) (n : Nat) (O : Nat → Int) (m : Nat) : Bool := calsB V n && ordB O m n
def foB (V : Nat → CallV) (n : Nat) (O : Nat → Int) (m : Nat) : Bool := foOk V n O m && decide (fitP V O m)
theorem fo_no1 {V : Nat → CallV} {n : Nat} {O : Nat → Int} {m : Nat} (h : calsB V n = false) : foOk V n O m = false ∧ foB V n O m = false := by simp [foB, foOk, h]
theorem fo_no2 {V : Nat → CallV} {n : Nat} {O : Nat → Int} {m : Nat} (h : ordB O m n = false) : foOk V n O m = false ∧ foB V n O m = false := by simp [foB, foOk, h]
theorem fo_yes {V : Nat → CallV} {n : Nat} {O : Nat → Int} {m : Nat} (h : calsB V n = true) (h' : ordB O m n = true) (hf : fitP V O m) : foOk V n O m = true ∧ foB V n O m = true := by simp [foB, foOk, h, h', hf]
theorem fo_un {V : Nat → CallV} {n : Nat} {O : Nat → Int} {m k : Nat} (h : calsB V n = true) (h' : ordB O m n = true) (hk : k < m) (hf : fitB V (ordN O k) (O k).toNat = false) : foOk V n O m = true ∧ foB V n O m = false := by
  have : ¬ fitP V O m := fun q => by rw [q k hk] at hf; cases hf
  simp [foB, foOk, h, h', this]
theorem cals_key {V : Nat → CallV} {n i : Nat} (h : calsB V n = true) (hi : i < n) : (V i).f2.size ≤ 8 := by
  have := ((calsB_iff.1 h).2 i hi).1
  simp only [callOk, keyOk, Bool.and_eq_true] at this
  have := inR_iff.1 this.2.1.1
  omega
def FoPost (V : Nat → CallV) (n : Nat) (O : Nat → Int) (m : Nat) (w : World) (r : Ending) (w' : World) : Prop :=
  r = .returned (.tuple #[.bool (foB V n O m), .bool (foOk V n O m)]) ∧ Below w.heap.size w w'
theorem fo_post {V : Nat → CallV} {n : Nat} {O : Nat → Int} {m : Nat} {w w' : World} {x y : Bool} (h : foOk V n O m = y ∧ foB V n O m = x) (hb : Below w.heap.size w w') : FoPost V n O m w (.returned (.tuple #[.bool x, .bool y])) w' := by
  rw [FoPost, h.1, h.2]; exact ⟨rfl, hb⟩
end Go.Proofs.Ytkniokbioggkeaa
