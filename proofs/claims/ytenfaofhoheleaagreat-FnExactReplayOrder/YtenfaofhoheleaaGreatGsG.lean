/- Good stores: what is asked of their parts. No Go text is spoken of here. -/
import Derived.Test.YtenfaofhoheleaaGreatEqT
import Derived.Test.YtenfaofhoheleaaGreatCmT
import Derived.Test.YtenfaofhoheleaaGreatOpenSt
import Derived.Test.YtenfaofhoheleaaGreatRg2
namespace Go.Proofs.YtenfaofhoheleaaGreat
open Go.RowKit
set_option linter.unusedVariables false

noncomputable def clB (p : Prop) : Bool := @decide p (Classical.propDecidable p)
theorem clB_yes {p : Prop} (h : p) : clB p = true := by simp [clB, h]
theorem clB_no {p : Prop} (h : ¬ p) : clB p = false := by simp [clB, h]
theorem clB_iff {p : Prop} : clB p = true ↔ p := by simp [clB]
theorem clB_not {p : Prop} (h : clB p = false) : ¬ p := fun k => by rw [clB_yes k] at h; cases h
theorem clB_eq {p : Prop} {b : Bool} (h : b = true ↔ p) : clB p = b := by
  cases b
  · exact clB_no (fun k => by cases h.2 k)
  · exact clB_yes (h.1 rfl)
theorem tidE_iff {e s : Int} {b : Bool} {e' s' : Int} {b' : Bool} : tidE e s b e' s' b' = true ↔ e = e' ∧ s = s' ∧ b = b' := by simp [tidE]

def mayB (s : Int) : Bool := s == 2 || s == 3
def hasB (s : Int) : Bool := s == 3 || s == 4
def lookOk (v : LookV) : Bool := keyOk v.f0 && (valOk v.f1 && (goodT v.f2 v.f3 && !v.f4))
def look1 (L : Nat → LookV) (i : Nat) : Prop := lookOk (L i) = true ∧ ∀ j, j < i → (L j).f0.toList ≠ (L i).f0.toList
def looksP (L : Nat → LookV) (n : Nat) : Prop := ∀ i, i < n → look1 L i
def cell1 (C : Nat → CellV) (i : Nat) : Prop := (keyOk (C i).f0 = true ∧ valOk (C i).f1 = true) ∧ (0 < i → Op.bytesLess (C (i - 1)).f0.toList (C i).f0.toList = true)
def cellsP (C : Nat → CellV) (n : Nat) : Prop := ∀ i, i < n → cell1 C i
theorem cellsP_rise {C : Nat → CellV} {n : Nat} (h : cellsP C n) : RiseK (fun q => (C q).f0) n := fun i hi => (h (i + 1) hi).2 (by omega)
noncomputable def tidOk (st e s : Int) (b : Bool) : Bool := if hasB st = true then goodT e s && !b else tidE e s b 0 0 false
def runP (V : RuV) : Prop := inR V.st 1 5 = true ∧ (V.ln ≤ 40 ∧ looksP V.lk V.ln) ∧ cellsP V.cl V.cn ∧ tidOk V.st V.e V.s V.b = true
def writesP (V : RuV) (k : ByteArray) : Prop := ∃ j, j < V.cn ∧ (V.cl j).f0.toList = k.toList
def ownP (S : StV) (r : RecordV) : Prop := (r.f5 = 0 ∧ r.f4 = false) ∨ (r.f5 ≠ 0 ∧ r.f4 = true ∧ ∃ q : Nat, q < S.tn ∧ r.f5 = (q : Int) + 1 ∧ mayB (S.T q).st = true ∧ writesP (S.T q) r.f0)
def recOk (ep : Int) (r : RecordV) : Bool := keyOk r.f0 && (valOk r.f1 && (goodT r.f2 r.f3 && decide (r.f2 ≤ ep)))
def riseAt (R : Nat → RecordV) (i : Nat) : Prop := 0 < i → Op.bytesLess (R (i - 1)).f0.toList (R i).f0.toList = true
def recP (S : StV) (i : Nat) : Prop := recOk S.ep (S.R i) = true ∧ ownP S (S.R i) ∧ riseAt S.R i
theorem recs_rise {S : StV} {n : Nat} (h : ∀ i, i < n → recP S i) : RiseK (fun q => (S.R q).f0) n := fun i hi => (h (i + 1) hi).2.2 (by omega)
def ownsP (S : StV) (V : RuV) : Prop := ∀ j, j < V.cn → ∃ q, q < S.rn ∧ (S.R q).f0.toList = (V.cl j).f0.toList ∧ (S.R q).f5 = V.id
def txnP (S : StV) (i : Nat) : Prop := (S.T i).id = (i : Int) + 1 ∧ runP (S.T i) ∧ (mayB (S.T i).st = true → ownsP S (S.T i))
/-- The ids of those of the first k that have a tid. -/
def idsL (T : Nat → RuV) : Nat → List Int
  | 0 => []
  | k + 1 => if hasB (T k).st = true then idsL T k ++ [(T k).id] else idsL T k
def ord1 (S : StV) (i : Nat) : Prop := (∃ q : Nat, q < S.tn ∧ S.O i = (q : Int) + 1 ∧ hasB (S.T q).st = true) ∧ ∀ j, j < i → S.O j ≠ S.O i
def ordP (S : StV) : Prop := S.on = (idsL S.T S.tn).length ∧ ∀ i, i < S.on → ord1 S i
def headP (S : StV) : Prop := inR S.ep 1 1000 = true ∧ S.rn ≤ 40 ∧ S.tn ≤ 20
def goodP (S : StV) : Prop := headP S ∧ (∀ i, i < S.rn → recP S i) ∧ (∀ i, i < S.tn → txnP S i) ∧ ordP S
noncomputable def goodB (S : StV) : Bool := clB (goodP S)
theorem no_head {S : StV} (h : ¬ headP S) : goodB S = false := clB_no fun g => h g.1
theorem no_rec {S : StV} {i : Nat} (hi : i < S.rn) (h : ¬ recP S i) : goodB S = false := clB_no fun g => h (g.2.1 i hi)
theorem no_txn {S : StV} {i : Nat} (hi : i < S.tn) (h : ¬ txnP S i) : goodB S = false := clB_no fun g => h (g.2.2.1 i hi)
theorem no_cells {S : StV} {q : Nat} (hq : q < S.tn) (h : ¬ RiseK (fun x => ((S.T q).cl x).f0) (S.T q).cn) : goodB S = false := clB_no fun g => h (cellsP_rise (g.2.2.1 q hq).2.1.2.2.1)
theorem no_ord {S : StV} (h : ¬ ordP S) : goodB S = false := clB_no fun g => h g.2.2.2
theorem good_is {S : StV} (h1 : headP S) (h2 : ∀ i, i < S.rn → recP S i) (h3 : ∀ i, i < S.tn → txnP S i) : goodB S = clB (ordP S) := by
  by_cases h : ordP S
  · rw [clB_yes h]; exact clB_yes ⟨h1, h2, h3, h⟩
  · rw [clB_no h]; exact no_ord h
theorem idsL_mem {T : Nat → RuV} {x : Int} : ∀ {k : Nat}, x ∈ idsL T k ↔ ∃ q, q < k ∧ (T q).id = x ∧ hasB (T q).st = true
  | 0 => by simp [idsL]
  | k + 1 => by
    rw [idsL]
    split
    · rename_i h
      rw [List.mem_append, idsL_mem, List.mem_singleton]
      constructor
      · rintro (⟨q, h1, h2⟩ | e)
        · exact ⟨q, by omega, h2⟩
        · exact ⟨k, by omega, e.symm, h⟩
      · rintro ⟨q, h1, h2, h3⟩
        rcases Nat.lt_or_ge q k with g | g
        · exact Or.inl ⟨q, g, h2, h3⟩
        · have : q = k := by omega
          subst this; exact Or.inr h2.symm
    · rename_i h
      rw [idsL_mem]
      constructor
      · rintro ⟨q, h1, h2⟩; exact ⟨q, by omega, h2⟩
      · rintro ⟨q, h1, h2, h3⟩
        rcases Nat.lt_or_ge q k with g | g
        · exact ⟨q, g, h2, h3⟩
        · have : q = k := by omega
          subst this; exact absurd h3 h
theorem idsL_rise {T : Nat → RuV} : ∀ {k : Nat}, (∀ i, i < k → (T i).id = (i : Int) + 1) → (idsL T k).Pairwise (· < ·)
  | 0, _ => by simp [idsL]
  | k + 1, h => by
    rw [idsL]
    split
    · rw [List.pairwise_append]
      refine ⟨idsL_rise (fun i hi => h i (by omega)), by simp, ?_⟩
      intro a ha b hb
      obtain ⟨q, h1, h2, _⟩ := idsL_mem.1 ha
      rw [List.mem_singleton] at hb
      rw [hb, ← h2, h q (by omega), h k (by omega)]; omega
    · exact idsL_rise (fun i hi => h i (by omega))
theorem ord_mem {S : StV} (h : ∀ i, i < S.tn → (S.T i).id = (i : Int) + 1) {x : Int} : (∃ q : Nat, q < S.tn ∧ x = (q : Int) + 1 ∧ hasB (S.T q).st = true) ↔ x ∈ idsL S.T S.tn := by
  rw [idsL_mem]
  constructor
  · rintro ⟨q, h1, h2, h3⟩; exact ⟨q, h1, by rw [h q h1, h2], h3⟩
  · rintro ⟨q, h1, h2, h3⟩; exact ⟨q, h1, by rw [← h2, h q h1], h3⟩
end Go.Proofs.YtenfaofhoheleaaGreat
