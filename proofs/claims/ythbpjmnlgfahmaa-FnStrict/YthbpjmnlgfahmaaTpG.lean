/- Two phases: holdings of keys, the mathematics. No Go text is spoken of here. -/
import Derived.Test.YthbpjmnlgfahmaaCfG
namespace Go.Proofs.Ythbpjmnlgfahmaa
open Go.RowKit
set_option linter.unusedVariables false

/-- From where to where t holds s by the first k ops, and whether it writes it. -/
def hoN (K T : Nat → Int) (S : Nat → ByteArray) (L : Nat → Int) (t : Int) (s : ByteArray) : Nat → Int × Int × Bool
  | 0 => (-1, -1, false)
  | k + 1 => if (T k == t && (S k).toList == s.toList) = true then (if (hoN K T S L t s k).1 < 0 then (k : Int) else (hoN K T S L t s k).1, if (hoN K T S L t s k).2.1 < L k then L k else (hoN K T S L t s k).2.1, (hoN K T S L t s k).2.2 || K k == 2) else hoN K T S L t s k
structure Ho where
  t : Int
  s : ByteArray
  f : Int
  z : Int
  w : Bool
def mB (T : Nat → Int) (S : Nat → ByteArray) (k : Nat) (t : Int) (s : ByteArray) : Bool := T k == t && (S k).toList == s.toList
theorem mB_iff {T : Nat → Int} {S : Nat → ByteArray} {k : Nat} {t : Int} {s : ByteArray} : mB T S k t s = true ↔ T k = t ∧ (S k).toList = s.toList := by simp [mB]
theorem ho_no {K T : Nat → Int} {S : Nat → ByteArray} {L : Nat → Int} {t : Int} {s : ByteArray} {k : Nat} (h : mB T S k t s = false) : hoN K T S L t s (k + 1) = hoN K T S L t s k := by
  unfold mB at h; rw [hoN, h]; rfl
theorem ho_yes {K T : Nat → Int} {S : Nat → ByteArray} {L : Nat → Int} {t : Int} {s : ByteArray} {k : Nat} (h : mB T S k t s = true) : hoN K T S L t s (k + 1) = (if (hoN K T S L t s k).1 < 0 then (k : Int) else (hoN K T S L t s k).1, if (hoN K T S L t s k).2.1 < L k then L k else (hoN K T S L t s k).2.1, (hoN K T S L t s k).2.2 || K k == 2) := by
  unfold mB at h; rw [hoN, if_pos h]
theorem ho_none {K T : Nat → Int} {S : Nat → ByteArray} {L : Nat → Int} {t : Int} {s : ByteArray} : ∀ {k : Nat}, (∀ q, q < k → mB T S q t s = false) → hoN K T S L t s k = (-1, -1, false)
  | 0, _ => rfl
  | k + 1, h => by rw [ho_no (h k (by omega))]; exact ho_none (fun q hq => h q (by omega))
theorem ho_same {K T : Nat → Int} {S : Nat → ByteArray} {L : Nat → Int} {t : Int} {s s' : ByteArray} (h : s.toList = s'.toList) : ∀ k, hoN K T S L t s k = hoN K T S L t s' k
  | 0 => rfl
  | k + 1 => by rw [hoN, hoN, ho_same h k, h]
def HoI (K T : Nat → Int) (S : Nat → ByteArray) (L : Nat → Int) (H : Nat → Ho) (c k : Nat) : Prop :=
  (∀ i, i < c → hoN K T S L (H i).t (H i).s k = ((H i).f, (H i).z, (H i).w) ∧ ∃ q : Nat, q < k ∧ (H i).f = (q : Int) ∧ T q = (H i).t ∧ (S q).toList = (H i).s.toList ∧ K q ≠ 3) ∧
  (∀ q, q < k → K q ≠ 3 → ∃ i, i < c ∧ (H i).t = T q ∧ (H i).s.toList = (S q).toList) ∧
  (∀ i j, i < c → j < c → (H i).t = (H j).t → (H i).s.toList = (H j).s.toList → i = j) ∧ c ≤ k
theorem HoI.zero (K T : Nat → Int) (S : Nat → ByteArray) (L : Nat → Int) (H : Nat → Ho) : HoI K T S L H 0 0 :=
  ⟨fun i hi => absurd hi (by omega), fun i hi => absurd hi (by omega), fun i j hi => absurd hi (by omega), Nat.le_refl _⟩
theorem key_ne {K T : Nat → Int} {S : Nat → ByteArray} {n q k : Nat} (hg : goodP (okO K T S) K T n) (hq : q < n) (hk : k < n) (h1 : K q ≠ 3) (h2 : K k = 3) : (S q).toList ≠ (S k).toList := by
  intro e
  rcases op_kind (hg.2 q hq).1 with ⟨_, g⟩ | ⟨g, _⟩
  · rcases op_kind (hg.2 k hk).1 with ⟨g', _⟩ | ⟨_, g'⟩
    · omega
    · rw [← e, key_some g] at g'; cases g'
  · exact h1 g
theorem HoI.skip {K T : Nat → Int} {S : Nat → ByteArray} {L : Nat → Int} {H : Nat → Ho} {c k n : Nat} (h : HoI K T S L H c k) (hg : goodP (okO K T S) K T n) (hk : k < n) (h3 : K k = 3) : HoI K T S L H c (k + 1) := by
  obtain ⟨a, b, d, e⟩ := h
  refine ⟨fun i hi => ?_, fun q hq h1 => ?_, d, by omega⟩
  · obtain ⟨x, q, hq, y1, y2, y3, y4⟩ := a i hi
    refine ⟨?_, q, by omega, y1, y2, y3, y4⟩
    rw [ho_no, x]
    cases m : mB T S k (H i).t (H i).s
    · rfl
    · exact absurd (y3.trans (mB_iff.1 m).2.symm) (key_ne hg (by omega) hk y4 h3)
  · rcases Nat.lt_succ_iff_lt_or_eq.1 hq with g | g
    · exact b q g h1
    · subst g; exact absurd h3 h1
def hoUp (H : Nat → Ho) (j : Nat) (l : Int) (b : Bool) (i : Nat) : Ho := if i = j then ⟨(H j).t, (H j).s, (H j).f, max (H j).z l, (H j).w || b⟩ else H i
theorem hoUp_t (H : Nat → Ho) (j : Nat) (l : Int) (b : Bool) (i : Nat) : (hoUp H j l b i).t = (H i).t ∧ (hoUp H j l b i).s = (H i).s ∧ (hoUp H j l b i).f = (H i).f := by
  unfold hoUp; split
  · rename_i e; subst e; exact ⟨rfl, rfl, rfl⟩
  · exact ⟨rfl, rfl, rfl⟩
theorem HoI.up {K T : Nat → Int} {S : Nat → ByteArray} {L : Nat → Int} {H : Nat → Ho} {c k j : Nat} (h : HoI K T S L H c k) (hj : j < c) (h3 : K k ≠ 3) (ht : (H j).t = T k) (hs : (H j).s.toList = (S k).toList) : HoI K T S L (hoUp H j (L k) (K k == 2)) c (k + 1) := by
  obtain ⟨a, b, d, e⟩ := h
  refine ⟨fun i hi => ?_, fun q hq h1 => ?_, fun i i' hi hi' e1 e2 => ?_, by omega⟩
  · obtain ⟨x, q, hq, y1, y2, y3, y4⟩ := a i hi
    obtain ⟨u1, u2, u3⟩ := hoUp_t H j (L k) (K k == 2) i
    rw [u1, u2, u3]
    refine ⟨?_, q, by omega, y1, y2, y3, y4⟩
    by_cases ij : i = j
    · subst ij
      rw [ho_yes (mB_iff.2 ⟨ht.symm, hs.symm⟩), x]
      have f0 : ¬ (H i).f < 0 := by omega
      simp only [if_neg f0, hoUp, if_pos]
      congr 2
      split <;> omega
    · have hz : hoUp H j (L k) (K k == 2) i = H i := by simp [hoUp, ij]
      rw [hz, ho_no, x]
      cases m : mB T S k (H i).t (H i).s
      · rfl
      · obtain ⟨m1, m2⟩ := mB_iff.1 m
        exact absurd (d i j hi hj (m1.symm.trans ht.symm) (m2.symm.trans hs.symm)) ij
  · rcases Nat.lt_succ_iff_lt_or_eq.1 hq with g | g
    · obtain ⟨i, hi, x⟩ := b q g h1
      obtain ⟨u1, u2, _⟩ := hoUp_t H j (L k) (K k == 2) i
      exact ⟨i, hi, by rw [u1, u2]; exact x⟩
    · subst g
      obtain ⟨u1, u2, _⟩ := hoUp_t H j (L q) (K q == 2) j
      exact ⟨j, hj, by rw [u1, u2]; exact ⟨ht, hs⟩⟩
  · obtain ⟨u1, u2, _⟩ := hoUp_t H j (L k) (K k == 2) i
    obtain ⟨v1, v2, _⟩ := hoUp_t H j (L k) (K k == 2) i'
    rw [u1, v1] at e1; rw [u2, v2] at e2
    exact d i i' hi hi' e1 e2
def hoAdd (H : Nat → Ho) (c : Nat) (x : Ho) (i : Nat) : Ho := if i = c then x else H i
theorem HoI.add {K T : Nat → Int} {S : Nat → ByteArray} {L : Nat → Int} {H : Nat → Ho} {c k n : Nat} (h : HoI K T S L H c k) (hg : goodP (okO K T S) K T n) (hk : k < n) (h3 : K k ≠ 3) (hL : 0 ≤ L k) (hno : ∀ j, j < c → mB T S k (H j).t (H j).s = false) :
    HoI K T S L (hoAdd H c ⟨T k, S k, k, L k, K k == 2⟩) (c + 1) (k + 1) := by
  obtain ⟨a, b, d, e⟩ := h
  have old : ∀ i, i < c → hoAdd H c ⟨T k, S k, k, L k, K k == 2⟩ i = H i := fun i hi => by simp [hoAdd, show i ≠ c by omega]
  have new : hoAdd H c ⟨T k, S k, k, L k, K k == 2⟩ c = ⟨T k, S k, k, L k, K k == 2⟩ := by simp [hoAdd]
  have none : ∀ q, q < k → mB T S q (T k) (S k) = false := by
    intro q hq
    cases m : mB T S q (T k) (S k)
    · rfl
    · obtain ⟨m1, m2⟩ := mB_iff.1 m
      by_cases q3 : K q = 3
      · exact absurd m2.symm (key_ne hg hk (by omega) h3 q3)
      · obtain ⟨i, hi, x1, x2⟩ := b q hq q3
        have := hno i hi
        rw [mB_iff.2 ⟨(x1.trans m1).symm, (x2.trans m2).symm⟩] at this; cases this
  refine ⟨fun i hi => ?_, fun q hq h1 => ?_, fun i i' hi hi' e1 e2 => ?_, by omega⟩
  · rcases Nat.lt_succ_iff_lt_or_eq.1 hi with g | g
    · rw [old i g]
      obtain ⟨x, q, hq, y⟩ := a i g
      exact ⟨by rw [ho_no (hno i g)]; exact x, q, by omega, y⟩
    · subst g
      rw [new]
      refine ⟨?_, k, by omega, rfl, rfl, rfl, h3⟩
      rw [ho_yes (mB_iff.2 ⟨rfl, rfl⟩), ho_none none]
      simp only [show ((-1 : Int) < 0) = True from by simp, if_true, show ((-1 : Int) < L k) = True from eq_true (by omega), Bool.false_or]
  · rcases Nat.lt_succ_iff_lt_or_eq.1 hq with g | g
    · obtain ⟨i, hi, x⟩ := b q g h1
      exact ⟨i, by omega, by rw [old i hi]; exact x⟩
    · subst g
      exact ⟨c, by omega, by rw [new]; exact ⟨rfl, rfl⟩⟩
  · rcases Nat.lt_succ_iff_lt_or_eq.1 hi with g | g <;> rcases Nat.lt_succ_iff_lt_or_eq.1 hi' with g' | g'
    · rw [old i g, old i' g'] at e1 e2; exact d i i' g g' e1 e2
    · subst g'
      rw [old i g, new] at e1 e2
      have := hno i g
      rw [mB_iff.2 ⟨e1.symm, e2.symm⟩] at this; cases this
    · subst g
      rw [old i' g', new] at e1 e2
      have := hno i' g'
      rw [mB_iff.2 ⟨e1, e2⟩] at this; cases this
    · omega
/-- Two holdings of unlike txns clash; one is taken behind where another one was given back. -/
def clH (x y : Ho) : Bool := (x.t != y.t) && ((x.s.toList == y.s.toList) && (decide (x.f ≤ y.z) && (decide (y.f ≤ x.z) && (x.w || y.w))))
def bdH (x y : Ho) : Bool := clH x y || (x.t == y.t && decide (y.z < x.f))
def hoOf (K T : Nat → Int) (S : Nat → ByteArray) (L : Nat → Int) (n i : Nat) : Ho := ⟨T i, S i, (hoN K T S L (T i) (S i) n).1, (hoN K T S L (T i) (S i) n).2.1, (hoN K T S L (T i) (S i) n).2.2⟩
/-- What the specification asks of the ops i and j. -/
def bdS (i : Nat) (x y : Ho) : Bool := ((y.t != x.t) && ((y.s.toList == x.s.toList) && ((x.w || y.w) && (decide (x.f ≤ y.z) && decide (y.f ≤ x.z))))) || (y.t == x.t && (x.f == (i : Int) && decide (x.z < y.f)))
def badP (K T : Nat → Int) (S : Nat → ByteArray) (L : Nat → Int) (n : Nat) : Prop := ∃ i j, i < n ∧ j < n ∧ (S i).toList.isEmpty = false ∧ (S j).toList.isEmpty = false ∧ bdS i (hoOf K T S L n i) (hoOf K T S L n j) = true
theorem no_commit {K T : Nat → Int} {S : Nat → ByteArray} {n q : Nat} (hg : goodP (okO K T S) K T n) (hq : q < n) : K q ≠ 3 ↔ (S q).toList.isEmpty = false := by
  rcases op_kind (hg.2 q hq).1 with ⟨h, g⟩ | ⟨h, g⟩
  · rw [key_some g]; exact ⟨fun _ => rfl, fun _ => by omega⟩
  · rw [g]; exact ⟨fun x => absurd h x, fun x => by cases x⟩
theorem bad_same {K T : Nat → Int} {S : Nat → ByteArray} {L : Nat → Int} {H : Nat → Ho} {c n : Nat} (h : HoI K T S L H c n) (hg : goodP (okO K T S) K T n) : (∃ i j, i < c ∧ j < c ∧ bdH (H i) (H j) = true) ↔ badP K T S L n := by
  obtain ⟨a, b, d, e⟩ := h
  have same : ∀ i q, i < c → q < n → (H i).t = T q → (H i).s.toList = (S q).toList → (hoOf K T S L n q).f = (H i).f ∧ (hoOf K T S L n q).z = (H i).z ∧ (hoOf K T S L n q).w = (H i).w := by
    intro i q hi hq h1 h2
    have x := (a i hi).1
    rw [h1, ho_same h2] at x
    simp only [hoOf, x, and_self]
  constructor
  · rintro ⟨i, j, hi, hj, hb⟩
    obtain ⟨_, p, hp, p1, p2, p3, p4⟩ := a i hi
    obtain ⟨_, q, hq, q1, q2, q3, q4⟩ := a j hj
    obtain ⟨s1, s2, s3⟩ := same i p hi hp p2.symm p3.symm
    obtain ⟨t1, t2, t3⟩ := same j q hj hq q2.symm q3.symm
    simp only [bdH, clH, Bool.or_eq_true, Bool.and_eq_true, bne_iff_ne, ne_eq, beq_iff_eq, decide_eq_true_eq] at hb
    rcases hb with ⟨b1, b2, b3, b4, b5⟩ | ⟨b1, b2⟩
    · refine ⟨p, q, hp, hq, (no_commit hg hp).1 p4, (no_commit hg hq).1 q4, ?_⟩
      simp only [bdS, Bool.or_eq_true, Bool.and_eq_true, bne_iff_ne, ne_eq, beq_iff_eq, decide_eq_true_eq, s1, s2, s3, t1, t2, t3]
      exact Or.inl ⟨fun g => b1 (by have g' : T q = T p := g; rw [← p2, ← q2, g']), by show (S q).toList = (S p).toList; rw [p3, q3, b2], b5, b3, b4⟩
    · refine ⟨q, p, hq, hp, (no_commit hg hq).1 q4, (no_commit hg hp).1 p4, ?_⟩
      simp only [bdS, Bool.or_eq_true, Bool.and_eq_true, bne_iff_ne, ne_eq, beq_iff_eq, decide_eq_true_eq, s1, s2, s3, t1, t2, t3]
      exact Or.inr ⟨by show T p = T q; rw [p2, q2, b1], q1, b2⟩
  · rintro ⟨p, q, hp, hq, p4, q4, hb⟩
    obtain ⟨i, hi, i1, i2⟩ := b p hp ((no_commit hg hp).2 p4)
    obtain ⟨j, hj, j1, j2⟩ := b q hq ((no_commit hg hq).2 q4)
    obtain ⟨s1, s2, s3⟩ := same i p hi hp i1 i2
    obtain ⟨t1, t2, t3⟩ := same j q hj hq j1 j2
    simp only [bdS, Bool.or_eq_true, Bool.and_eq_true, bne_iff_ne, ne_eq, beq_iff_eq, decide_eq_true_eq, s1, s2, s3, t1, t2, t3] at hb
    rcases hb with ⟨b1, b2, b3, b4, b5⟩ | ⟨b1, b2, b3⟩
    · refine ⟨i, j, hi, hj, ?_⟩
      simp only [bdH, clH, Bool.or_eq_true, Bool.and_eq_true, bne_iff_ne, ne_eq, beq_iff_eq, decide_eq_true_eq]
      exact Or.inl ⟨fun g => b1 (by show T q = T p; rw [← i1, ← j1, g]), by rw [i2, j2]; exact Eq.symm b2, b4, b5, b3⟩
    · refine ⟨j, i, hj, hi, ?_⟩
      simp only [bdH, clH, Bool.or_eq_true, Bool.and_eq_true, bne_iff_ne, ne_eq, beq_iff_eq, decide_eq_true_eq]
      exact Or.inr ⟨by rw [i1, j1]; exact b1, b3⟩
/-- A lock's place, and all of them. -/
def lkB (K L : Nat → Int) (n i : Nat) : Bool := if K i = 3 then inR (L i) 0 0 else inR (L i) (i : Int) ((n : Int) - 1)
def lkP (K L : Nat → Int) (n n' : Nat) : Prop := n' = n ∧ ∀ i, i < n → lkB K L n i = true
open Classical in
noncomputable def lkO (K L : Nat → Int) (n n' : Nat) : Bool := decide (lkP K L n n')
open Classical in
noncomputable def twB (K T : Nat → Int) (S : Nat → ByteArray) (L : Nat → Int) (n : Nat) : Bool := decide (¬ badP K T S L n)
noncomputable def twOk (K T : Nat → Int) (S : Nat → ByteArray) (L : Nat → Int) (n n' : Nat) : Bool := goodO (okO K T S) K T n && lkO K L n n'
noncomputable def twV (K T : Nat → Int) (S : Nat → ByteArray) (L : Nat → Int) (n n' : Nat) : Bool := twOk K T S L n n' && twB K T S L n
theorem lk_pos {K L : Nat → Int} {n n' k : Nat} (h : lkP K L n n') (hk : k < n) : 0 ≤ L k ∧ L k ≤ (n : Int) := by
  have := h.2 k hk
  unfold lkB at this
  split at this <;> · have := inR_iff.1 this; omega
end Go.Proofs.Ythbpjmnlgfahmaa
