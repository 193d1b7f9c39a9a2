/- Good calls: what is asked of a call, and of two. No Go text is spoken of here. -/
import Derived.Test.YtkniokbioggkeaaRwCall
import Derived.Test.YtkniokbioggkeaaValI
namespace Go.Proofs.Ytkniokbioggkeaa
open Go.RowKit
set_option linter.unusedVariables false

theorem below_nx {b w w' : World} (h : Below b.heap.size b w) (hb : Below w.heap.size w w') : Below b.heap.size b w' := h.trans (hb.mono h.size)
def callOk (v : CallV) : Bool := inR v.f0 0 9 && (keyOk v.f2 && (valOk v.f3 && (decide (0 ≤ v.f4) && (decide (v.f4 < v.f5) && decide (v.f5 ≤ 999999)))))
/-- a ends ahead of where b starts. -/
def endB (a b : CallV) : Bool := decide (a.f5 < b.f4)
def ownB (a b : CallV) : Bool := (a.f0 == b.f0) && endB a b
def likeB (a b : CallV) : Bool := (a.f4 == b.f4) || ((a.f4 == b.f5) || ((a.f5 == b.f4) || (a.f5 == b.f5)))
def ovlB (a b : CallV) : Bool := !endB a b && !endB b a
def lapB (a b : CallV) : Bool := decide (a.f4 < b.f5) && decide (b.f4 < a.f5)
def clashB (a b : CallV) : Bool := likeB a b || ((a.f0 == b.f0) && ovlB a b)
theorem likeB_comm (a b : CallV) : likeB a b = likeB b a := by
  simp only [likeB]
  rw [Bool.eq_iff_iff]
  simp only [Bool.or_eq_true, beq_iff_eq]
  omega
theorem lap_ovl {a b : CallV} (h : likeB a b = false) : lapB a b = ovlB b a := by
  simp only [likeB, Bool.or_eq_false_iff, beq_eq_false_iff_ne, ne_eq] at h
  simp only [lapB, ovlB, endB]
  rw [Bool.eq_iff_iff]
  simp only [Bool.and_eq_true, Bool.not_eq_true', decide_eq_true_eq, decide_eq_false_iff_not]
  omega
theorem clash_like {a b : CallV} (h : likeB b a = true) : clashB a b = true := by simp [clashB, likeB_comm a b, h]
theorem clash_proc {a b : CallV} (h : likeB b a = false) (hp : (b.f0 == a.f0) = false) : clashB a b = false := by
  have : (a.f0 == b.f0) = false := by simp at hp ⊢; omega
  simp [clashB, likeB_comm a b, h, this]
theorem clash_lap {a b : CallV} (h : likeB b a = false) (hp : (b.f0 == a.f0) = true) : clashB a b = lapB b a := by
  have : (a.f0 == b.f0) = true := by simp at hp ⊢; omega
  rw [lap_ovl h]
  simp [clashB, likeB_comm a b, h, this]
/-- Call i is good, and clashes with no one ahead of it. -/
def calP (V : Nat → CallV) (i : Nat) : Prop := callOk (V i) = true ∧ ∀ j, j < i → clashB (V i) (V j) = false
def calsP (V : Nat → CallV) (n : Nat) : Prop := ∀ i, i < n → calP V i
instance (V : Nat → CallV) (i : Nat) : Decidable (calP V i) := by unfold calP; infer_instance
instance (V : Nat → CallV) (n : Nat) : Decidable (calsP V n) := by unfold calsP; infer_instance
def calsB (V : Nat → CallV) (n : Nat) : Bool := decide (n ≤ 7) && decide (calsP V n)
theorem calsB_big {V : Nat → CallV} {n : Nat} (h : ¬ n ≤ 7) : calsB V n = false := by simp [calsB, h]
theorem calsB_yes {V : Nat → CallV} {n : Nat} (h : n ≤ 7) (hp : calsP V n) : calsB V n = true := by simp [calsB, h, hp]
theorem calsB_size {V : Nat → CallV} {n : Nat} (hp : calsP V n) : calsB V n = decide (n ≤ 7) := by simp [calsB, hp]
theorem calsB_iff {V : Nat → CallV} {n : Nat} : calsB V n = true ↔ n ≤ 7 ∧ calsP V n := by simp [calsB]
theorem calsB_bad {V : Nat → CallV} {n k : Nat} (hk : k < n) (h : callOk (V k) = false) : calsB V n = false := by
  have : ¬ calsP V n := fun hp => by rw [(hp k hk).1] at h; cases h
  simp [calsB, this]
theorem calsB_clash {V : Nat → CallV} {n k j : Nat} (hk : k < n) (hj : j < k) (h : clashB (V k) (V j) = true) : calsB V n = false := by
  have : ¬ calsP V n := fun hp => by rw [(hp k hk).2 j hj] at h; cases h
  simp [calsB, this]
theorem calsP_up {V : Nat → CallV} {k : Nat} (h : calsP V k) (hk : calP V k) : calsP V (k + 1) := by
  intro i hi
  rcases Nat.lt_or_ge i k with g | g
  · exact h i g
  · have : i = k := by omega
    subst this; exact hk
end Go.Proofs.Ytkniokbioggkeaa
