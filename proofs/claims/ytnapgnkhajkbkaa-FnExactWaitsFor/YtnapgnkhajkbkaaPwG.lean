/- Who waits for whom, as pairs: the order of pairs, sorted lists of them, and what locks say: mathematics. -/
import Derived.Test.YtnapgnkhajkbkaaPrL
import Derived.Test.YtnapgnkhajkbkaaGlG
namespace Go.Proofs.Ytnapgnkhajkbkaa
open Go.RowKit
set_option linter.unusedVariables false

def PLt (x y : Int × Int) : Prop := x.1 < y.1 ∨ (x.1 = y.1 ∧ x.2 < y.2)
theorem PLt.trans {x y z : Int × Int} (h : PLt x y) (k : PLt y z) : PLt x z := by unfold PLt at *; omega
theorem PLt.irr {x : Int × Int} (h : PLt x x) : False := by unfold PLt at h; omega
theorem PLt.tri (x y : Int × Int) : PLt x y ∨ x = y ∨ PLt y x := by
  unfold PLt
  rcases Int.lt_trichotomy x.1 y.1 with h | h | h
  · exact Or.inl (Or.inl h)
  · rcases Int.lt_trichotomy x.2 y.2 with q | q | q
    · exact Or.inl (Or.inr ⟨h, q⟩)
    · exact Or.inr (Or.inl (Prod.ext h q))
    · exact Or.inr (Or.inr (Or.inr ⟨h.symm, q⟩))
  · exact Or.inr (Or.inr (Or.inl h))
def SortP (L : List (Int × Int)) : Prop := L.Pairwise PLt
theorem sortP_ext : ∀ {A B : List (Int × Int)}, SortP A → SortP B → (∀ z, z ∈ A ↔ z ∈ B) → A = B
  | [], [], _, _, _ => rfl
  | [], b :: B, _, _, h => by have := (h b).2 (List.mem_cons_self ..); simp at this
  | a :: A, [], _, _, h => by have := (h a).1 (List.mem_cons_self ..); simp at this
  | a :: A, b :: B, ha, hb, h => by
    have ha' := List.pairwise_cons.1 ha
    have hb' := List.pairwise_cons.1 hb
    have e : a = b := by
      rcases List.mem_cons.1 ((h a).1 (List.mem_cons_self ..)) with q | q
      · exact q
      · rcases List.mem_cons.1 ((h b).2 (List.mem_cons_self ..)) with r | r
        · exact r.symm
        · exact ((hb'.1 a q).trans (ha'.1 b r)).irr.elim
    subst e
    congr 1
    refine sortP_ext ha'.2 hb'.2 (fun z => ?_)
    constructor
    · intro hz
      rcases List.mem_cons.1 ((h z).1 (List.mem_cons_of_mem _ hz)) with q | q
      · subst q; exact (ha'.1 z hz).irr.elim
      · exact q
    · intro hz
      rcases List.mem_cons.1 ((h z).2 (List.mem_cons_of_mem _ hz)) with q | q
      · subst q; exact (hb'.1 z hz).irr.elim
      · exact q
/-- The first k lie ahead of x, the one behind them does not. -/
def AtP (L : List (Int × Int)) (x : Int × Int) (k : Nat) : Prop := k ≤ L.length ∧ ∀ j, j < k → PLt (pP L j, pQ L j) x
theorem at_pq {L : List (Int × Int)} {j : Nat} (hj : j < L.length) : (pP L j, pQ L j) = L[j] := by
  unfold pP pQ
  rw [List.getD_eq_getElem?_getD, List.getElem?_eq_getElem hj]
  rfl
theorem ins_sort {L : List (Int × Int)} {x : Int × Int} {k : Nat} (hs : SortP L) (ha : AtP L x k) (hn : k < L.length → ¬ PLt (pP L k, pQ L k) x ∧ (pP L k, pQ L k) ≠ x) : SortP (L.take k ++ [x] ++ L.drop k) := by
  have h1 : ∀ z, z ∈ L.take k → PLt z x := by
    intro z hz
    obtain ⟨j, hj, rfl⟩ := List.getElem_of_mem hz
    have hj' : j < k ∧ j < L.length := by rw [List.length_take] at hj; omega
    rw [List.getElem_take, ← at_pq hj'.2]
    exact ha.2 j hj'.1
  have h2 : ∀ z, z ∈ L.drop k → PLt x z := by
    intro z hz
    obtain ⟨j, hj, rfl⟩ := List.getElem_of_mem hz
    have hk : k < L.length := by rw [List.length_drop] at hj; omega
    have hx : PLt x L[k] := by
      have := hn hk
      rw [at_pq hk] at this
      rcases PLt.tri L[k] x with q | q | q
      · exact absurd q this.1
      · exact absurd q this.2
      · exact q
    rw [List.getElem_drop]
    rcases Nat.eq_zero_or_pos j with e | e
    · subst e; simpa using hx
    · refine hx.trans ?_
      exact (List.pairwise_iff_getElem.1 hs) k (k + j) hk (by rw [List.length_drop] at hj; omega) (by omega)
  have hp : (L.take k).Pairwise PLt := List.Pairwise.sublist (List.take_sublist _ _) hs
  have hq : (L.drop k).Pairwise PLt := List.Pairwise.sublist (List.drop_sublist _ _) hs
  rw [List.append_assoc]
  refine List.pairwise_append.2 ⟨hp, List.pairwise_cons.2 ⟨h2, hq⟩, fun a hma b hb => ?_⟩
  rcases List.mem_cons.1 hb with rfl | hb
  · exact h1 a hma
  · exact (h1 a hma).trans (h2 b hb)
theorem ins_mem {L : List (Int × Int)} {x z : Int × Int} {k : Nat} : z ∈ L.take k ++ [x] ++ L.drop k ↔ z ∈ L ∨ z = x := by
  have : z ∈ L ↔ z ∈ L.take k ∨ z ∈ L.drop k := by rw [← List.mem_append, List.take_append_drop]
  rw [this]
  simp only [List.mem_append, List.mem_singleton]
  constructor
  · rintro ((h | h) | h)
    · exact Or.inl (Or.inl h)
    · exact Or.inr h
    · exact Or.inl (Or.inr h)
  · rintro ((h | h) | h)
    · exact Or.inl (Or.inl h)
    · exact Or.inr h
    · exact Or.inl (Or.inr h)
theorem ins_len {L : List (Int × Int)} {x : Int × Int} {k : Nat} (hk : k ≤ L.length) : (L.take k ++ [x] ++ L.drop k).length = L.length + 1 := by
  simp [List.length_take, List.length_drop]; omega
theorem here_mem {L : List (Int × Int)} {x : Int × Int} {k : Nat} (hk : k < L.length) (e : (pP L k, pQ L k) = x) : ∀ z, z ∈ L ↔ z ∈ L ∨ z = x := by
  intro z
  constructor
  · exact Or.inl
  · rintro (h | rfl)
    · exact h
    · rw [← e, at_pq hk]; exact List.getElem_mem _

/-- Pairs of lock v: who waits at a place ahead of j, for whom holds, and for whom waits ahead of it. -/
def inH (v : LkV) (j h : Nat) (z : Int × Int) : Prop := z.1 = v.w.t j ∧ ∃ p, p < h ∧ z.2 = v.h.t p ∧ v.h.t p ≠ v.w.t j
def inQ (v : LkV) (j q : Nat) (z : Int × Int) : Prop := z.1 = v.w.t j ∧ ∃ p, p < q ∧ z.2 = v.w.t p
def inJ (v : LkV) (j : Nat) (z : Int × Int) : Prop := ∃ p, p < j ∧ (inH v p v.h.n z ∨ inQ v p p z)
def inW (V : Nat → LkV) (i : Nat) (z : Int × Int) : Prop := ∃ p, p < i ∧ inJ (V p) (V p).w.n z
theorem inW_zero {V : Nat → LkV} {z : Int × Int} : ¬ inW V 0 z := fun ⟨p, hp, _⟩ => absurd hp (by omega)
theorem inJ_zero {v : LkV} {z : Int × Int} : ¬ inJ v 0 z := fun ⟨p, hp, _⟩ => absurd hp (by omega)
theorem inH_zero {v : LkV} {j : Nat} {z : Int × Int} : ¬ inH v j 0 z := fun ⟨_, p, hp, _⟩ => absurd hp (by omega)
theorem inQ_zero {v : LkV} {j : Nat} {z : Int × Int} : ¬ inQ v j 0 z := fun ⟨_, p, hp, _⟩ => absurd hp (by omega)
theorem inW_succ {V : Nat → LkV} {i : Nat} {z : Int × Int} : inW V (i + 1) z ↔ inW V i z ∨ inJ (V i) (V i).w.n z := by
  constructor
  · rintro ⟨p, hp, h⟩
    by_cases e : p = i
    · subst e; exact Or.inr h
    · exact Or.inl ⟨p, by omega, h⟩
  · rintro (⟨p, hp, h⟩ | h)
    · exact ⟨p, by omega, h⟩
    · exact ⟨i, by omega, h⟩
theorem inJ_succ {v : LkV} {j : Nat} {z : Int × Int} : inJ v (j + 1) z ↔ inJ v j z ∨ inH v j v.h.n z ∨ inQ v j j z := by
  constructor
  · rintro ⟨p, hp, h⟩
    by_cases e : p = j
    · subst e; exact Or.inr h
    · exact Or.inl ⟨p, by omega, h⟩
  · rintro (⟨p, hp, h⟩ | h)
    · exact ⟨p, by omega, h⟩
    · exact ⟨j, by omega, h⟩
theorem inH_yes {v : LkV} {j h : Nat} {z : Int × Int} (hn : v.h.t h ≠ v.w.t j) : inH v j (h + 1) z ↔ inH v j h z ∨ z = (v.w.t j, v.h.t h) := by
  constructor
  · rintro ⟨e, p, hp, e2, ne⟩
    by_cases q : p = h
    · subst q; exact Or.inr (Prod.ext e e2)
    · exact Or.inl ⟨e, p, by omega, e2, ne⟩
  · rintro (⟨e, p, hp, e2, ne⟩ | rfl)
    · exact ⟨e, p, by omega, e2, ne⟩
    · exact ⟨rfl, h, by omega, rfl, hn⟩
theorem inH_no {v : LkV} {j h : Nat} {z : Int × Int} (hn : v.h.t h = v.w.t j) : inH v j (h + 1) z ↔ inH v j h z := by
  constructor
  · rintro ⟨e, p, hp, e2, ne⟩
    by_cases q : p = h
    · subst q; exact absurd hn ne
    · exact ⟨e, p, by omega, e2, ne⟩
  · rintro ⟨e, p, hp, e2, ne⟩
    exact ⟨e, p, by omega, e2, ne⟩
theorem inQ_succ {v : LkV} {j q : Nat} {z : Int × Int} : inQ v j (q + 1) z ↔ inQ v j q z ∨ z = (v.w.t j, v.w.t q) := by
  constructor
  · rintro ⟨e, p, hp, e2⟩
    by_cases r : p = q
    · subst r; exact Or.inr (Prod.ext e e2)
    · exact Or.inl ⟨e, p, by omega, e2⟩
  · rintro (⟨e, p, hp, e2⟩ | rfl)
    · exact ⟨e, p, by omega, e2⟩
    · exact ⟨rfl, q, by omega, rfl⟩
/-- What good locks give. -/
theorem good_parts {V : Nat → LkV} {n : Nat} (h : goodL V n = true) : n ≤ 20 ∧ ∀ i, i < n → (V i).w.n ≤ 8 ∧ (V i).h.n ≤ 1000 ∧ ∀ q j, q < j → j < (V i).w.n → (V i).w.t q ≠ (V i).w.t j := by
  simp only [goodL, decide_eq_true_eq] at h
  obtain ⟨hn, hl⟩ := h
  refine ⟨hn, fun i hi => ?_⟩
  obtain ⟨_, hw, hh, hj⟩ := hl i hi
  refine ⟨hw, ?_, fun q j hqj hjn e => ?_⟩
  · have hr : ∀ j, j < (V i).h.n → 1 + (j : Int) ≤ (V i).h.t j := by
      intro j
      induction j with
      | zero =>
        intro h0
        have := (hh.2 0 h0).1
        simp only [hdOk, Bool.and_eq_true, inR, decide_eq_true_eq] at this
        omega
      | succ j ih =>
        intro h0
        have h1 := ih (by omega)
        have h2 := (hh.2 (j + 1) h0).2.1 (by omega)
        simp only [Nat.add_sub_cancel] at h2
        omega
    rcases Nat.eq_zero_or_pos (V i).h.n with e | e
    · omega
    · have h1 := hr ((V i).h.n - 1) (by omega)
      have h2 := (hh.2 ((V i).h.n - 1) (by omega)).1
      simp only [hdOk, Bool.and_eq_true, inR, decide_eq_true_eq] at h2
      omega
  · have hs := (hj j hjn).2
    simp only [seenB, Bool.or_eq_false_iff] at hs
    have : hasN (V i).w.t ((V i).w.t j) j = true := hasN_iff.2 ⟨q, hqj, e⟩
    rw [hs.2] at this
    cases this
end Go.Proofs.Ytnapgnkhajkbkaa
