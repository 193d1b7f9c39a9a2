/- What is locked in two phases has an order (Eswaran, Gray, Lorie, Traiger): the mathematics. No Go text is spoken of here. -/
import Derived.Test.YthbpjmnlgfahmaaSdG
import Derived.Test.YthbpjmnlgfahmaaTpG
namespace Go.Proofs.Ythbpjmnlgfahmaa
open Go.RowKit
set_option linter.unusedVariables false

theorem ho_lt {K T : Nat → Int} {S : Nat → ByteArray} {L : Nat → Int} {t : Int} {s : ByteArray} : ∀ k, (hoN K T S L t s k).1 < (k : Int)
  | 0 => by simp [hoN]
  | k + 1 => by
    have ih := ho_lt (K := K) (T := T) (S := S) (L := L) (t := t) (s := s) k
    cases m : mB T S k t s
    · rw [ho_no m]; omega
    · rw [ho_yes m]
      simp only
      split <;> omega
theorem ho_first {K T : Nat → Int} {S : Nat → ByteArray} {L : Nat → Int} {t : Int} {s : ByteArray} : ∀ k, (hoN K T S L t s k).1 < 0 ∨ ∃ q : Nat, q < k ∧ (hoN K T S L t s k).1 = (q : Int) ∧ mB T S q t s = true
  | 0 => Or.inl (by simp [hoN])
  | k + 1 => by
    have ih := ho_first (K := K) (T := T) (S := S) (L := L) (t := t) (s := s) k
    cases m : mB T S k t s
    · rw [ho_no m]
      rcases ih with h | ⟨q, h1, h2⟩
      · exact Or.inl h
      · exact Or.inr ⟨q, by omega, h2⟩
    · right
      rw [ho_yes m]
      rcases ih with h | ⟨q, h1, h2, h3⟩
      · exact ⟨k, by omega, by simp only [if_pos h], m⟩
      · exact ⟨q, by omega, by simp only [h2]; rw [if_neg (by omega)], h3⟩
theorem ho_in {K T : Nat → Int} {S : Nat → ByteArray} {L : Nat → Int} {t : Int} {s : ByteArray} {q : Nat} (hm : mB T S q t s = true) (hq : (q : Int) ≤ L q) : ∀ k, q < k → 0 ≤ (hoN K T S L t s k).1 ∧ (hoN K T S L t s k).1 ≤ (q : Int) ∧ (q : Int) ≤ (hoN K T S L t s k).2.1 ∧ (K q = 2 → (hoN K T S L t s k).2.2 = true)
  | 0, h => by omega
  | k + 1, h => by
    have hl := ho_lt (K := K) (T := T) (S := S) (L := L) (t := t) (s := s) k
    by_cases e : q = k
    · subst e
      rw [ho_yes hm]
      refine ⟨?_, ?_, ?_, ?_⟩
      · simp only; split <;> omega
      · simp only; split <;> omega
      · simp only; split <;> omega
      · intro h2; simp [h2]
    · obtain ⟨a, b, c, d⟩ := ho_in hm hq k (by omega)
      cases m : mB T S k t s
      · rw [ho_no m]; exact ⟨a, b, c, d⟩
      · rw [ho_yes m]
        refine ⟨?_, ?_, ?_, ?_⟩
        · simp only; split <;> omega
        · simp only; split <;> omega
        · simp only; split <;> omega
        · intro h2; simp [d h2]
theorem mB_self (T : Nat → Int) (S : Nat → ByteArray) (q : Nat) : mB T S q (T q) (S q) = true := mB_iff.2 ⟨rfl, rfl⟩
/-- Along a conflict the second one takes the key behind where the first one gave it back. -/
theorem two_conf {K T : Nat → Int} {S : Nat → ByteArray} {L : Nat → Int} {n n' i j : Nat} (hg : goodP (okO K T S) K T n) (hl : lkP K L n n') (hb : ¬ badP K T S L n) (hij : i < j) (hj : j < n) (hc : clN K T S i j = true) :
    (hoOf K T S L n i).z < (hoOf K T S L n j).f ∧ (S i).toList.isEmpty = false ∧ (S j).toList.isEmpty = false := by
  simp only [clN, clB, Bool.and_eq_true, bne_iff_ne, ne_eq, beq_iff_eq, Bool.or_eq_true] at hc
  obtain ⟨c1, c2, c3⟩ := hc
  have key : (S i).toList.isEmpty = false ∧ (S j).toList.isEmpty = false := by
    rcases c3 with h | h
    · have := (no_commit hg (show i < n by omega)).1 (by omega)
      exact ⟨this, c2 ▸ this⟩
    · have := (no_commit hg hj).1 (by omega)
      exact ⟨c2 ▸ this, this⟩
  have lki : (i : Int) ≤ L i := by
    have := hl.2 i (by omega)
    rw [lkB, if_neg ((no_commit hg (show i < n by omega)).2 key.1)] at this
    exact (inR_iff.1 this).1
  have lkj : (j : Int) ≤ L j := by
    have := hl.2 j hj
    rw [lkB, if_neg ((no_commit hg hj).2 key.2)] at this
    exact (inR_iff.1 this).1
  obtain ⟨i1, i2, i3, i4⟩ := ho_in (K := K) (L := L) (mB_self T S i) lki n (by omega)
  obtain ⟨j1, j2, j3, j4⟩ := ho_in (K := K) (L := L) (mB_self T S j) lkj n hj
  refine ⟨?_, key⟩
  apply Classical.byContradiction
  intro hno
  refine hb ⟨i, j, by omega, hj, key.1, key.2, ?_⟩
  simp only [bdS, hoOf, Bool.or_eq_true, Bool.and_eq_true, bne_iff_ne, ne_eq, beq_iff_eq]
  simp only [hoOf] at hno
  left
  refine ⟨fun e => c1 e.symm, c2.symm, ?_, decide_eq_true (by omega), decide_eq_true (by omega)⟩
  rcases c3 with h | h
  · exact Or.inl (i4 h)
  · exact Or.inr (j4 h)
theorem two_phase {K T : Nat → Int} {S : Nat → ByteArray} {L : Nat → Int} {n n' p r : Nat} (hg : goodP (okO K T S) K T n) (hl : lkP K L n n') (hb : ¬ badP K T S L n) (hp : p < n) (hr : r < n) (kp : (S p).toList.isEmpty = false) (kr : (S r).toList.isEmpty = false) (ht : T p = T r) :
    (hoOf K T S L n r).f ≤ (hoOf K T S L n p).z := by
  have lkp : (p : Int) ≤ L p := by
    have := hl.2 p hp
    rw [lkB, if_neg ((no_commit hg hp).2 kp)] at this
    exact (inR_iff.1 this).1
  obtain ⟨i1, i2, i3, i4⟩ := ho_in (K := K) (L := L) (mB_self T S p) lkp n hp
  rcases ho_first (K := K) (T := T) (S := S) (L := L) (t := T p) (s := S p) n with h | ⟨q, q1, q2, q3⟩
  · omega
  obtain ⟨m1, m2⟩ := mB_iff.1 q3
  have e : hoN K T S L (T q) (S q) n = hoN K T S L (T p) (S p) n := by rw [m1, ho_same m2]
  apply Classical.byContradiction
  intro hno
  refine hb ⟨q, r, q1, hr, by rw [m2]; exact kp, kr, ?_⟩
  simp only [hoOf] at hno
  simp only [bdS, hoOf, Bool.or_eq_true, Bool.and_eq_true, bne_iff_ne, ne_eq, beq_iff_eq, decide_eq_true_eq, e]
  right
  exact ⟨by rw [m1, ht], q2, by omega⟩
theorem no_block {K T : Nat → Int} {S : Nat → ByteArray} {L : Nat → Int} {n n' : Nat} {P : Int → Prop} (hg : goodP (okO K T S) K T n) (hl : lkP K L n n') (hb : ¬ badP K T S L n) (hno : ∀ y, P y → ∃ x, P x ∧ edP K T S n x y) :
    ∀ (N i j : Nat), i < j → j < n → P (T i) → clN K T S i j = true → (hoOf K T S L n j).f < (N : Int) → False
  | 0, i, j, h1, h2, h3, h4, h5 => by
    obtain ⟨c, k1, k2⟩ := two_conf hg hl hb h1 h2 h4
    have lkj : (j : Int) ≤ L j := by
      have := hl.2 j h2
      rw [lkB, if_neg ((no_commit hg h2).2 k2)] at this
      exact (inR_iff.1 this).1
    have := (ho_in (K := K) (L := L) (mB_self T S j) lkj n h2).1
    simp only [hoOf] at h5
    omega
  | N + 1, i, j, h1, h2, h3, h4, h5 => by
    obtain ⟨c, k1, k2⟩ := two_conf hg hl hb h1 h2 h4
    obtain ⟨x, px, i', j', g1, g2, g3, g4, g5⟩ := hno (T i) h3
    obtain ⟨c', k1', k2'⟩ := two_conf hg hl hb g1 g2 g5
    have := two_phase hg hl hb (show i < n by omega) g2 k1 k2' g4.symm
    exact no_block hg hl hb hno N i' j' g1 g2 (g3 ▸ px) g5 (by omega)
theorem order_of {e : Nat → Nat → Bool} {X : List Nat} (hX : X.Nodup) (hno : ∀ l : List Nat, l ≠ [] → (∀ x, x ∈ l → x ∈ X) → ∃ y, y ∈ l ∧ ∀ x, x ∈ l → e x y = false) :
    ∀ (k : Nat) (out : List Nat), out.length + k = X.length → (∀ x, x ∈ out → x ∈ X) → out.Nodup → ∃ l, ordF e X k out = some l
  | 0, out, _, _, _ => ⟨out, rfl⟩
  | k + 1, out, h1, h2, h3 => by
    have hl := lft_len hX h2 h3
    have hne : lftL X out ≠ [] := by
      intro h
      rw [h] at hl; simp at hl; omega
    obtain ⟨y, hy, hf⟩ := hno (lftL X out) hne (fun x hx => (lft_sub.1 hx).1)
    cases hfind : X.find? (rdyB e X out) with
    | none =>
      exfalso
      rw [lft_find, List.find?_eq_none] at hfind
      refine hfind y hy ?_
      simp only [List.all_eq_true, Bool.not_eq_true']
      exact fun x hx => hf x hx
    | some t =>
      have hm := rdy_mem hfind
      rw [ordF, hfind]
      refine order_of hX hno k (out ++ [t]) (by simp; omega) (fun x hx => ?_) ?_
      · rcases List.mem_append.1 hx with g | g
        · exact h2 x g
        · rw [List.mem_singleton.1 g]; exact hm.1
      · rw [List.nodup_append]
        refine ⟨h3, by simp, ?_⟩
        intro a ha b hb e
        rw [List.mem_singleton] at hb
        exact hm.2 (hb ▸ e ▸ ha)
theorem two_order {K T : Nat → Int} {S : Nat → ByteArray} {L : Nat → Int} {n n' : Nat} (h : twV K T S L n n' = true) : sdOk K T S n = true := by
  simp only [twV, twOk, twB, lkO, Bool.and_eq_true, decide_eq_true_eq] at h
  obtain ⟨⟨h1, h2⟩, h3⟩ := h
  have hg := goodO_out h1
  rw [sdOk, sdO, if_pos h1]
  have hord : ∃ l, ordF (edB K T S n) (txL T n 9) (txL T n 9).length [] = some l := by
    refine order_of (e := edB K T S n) (txL_nodup T n 9) (fun l hne hs => ?_) (txL T n 9).length [] (by simp) (by simp) (by simp)
    apply Classical.byContradiction
    intro hc
    have hno : ∀ y : Int, (∃ t, t ∈ l ∧ y = ((t : Nat) : Int)) → ∃ x, (∃ t, t ∈ l ∧ x = ((t : Nat) : Int)) ∧ edP K T S n x y := by
      rintro y ⟨t, ht, rfl⟩
      apply Classical.byContradiction
      intro hk
      refine hc ⟨t, ht, fun x hx => ?_⟩
      cases he : edB K T S n x t
      · rfl
      · exact absurd ⟨(x : Int), ⟨x, hx, rfl⟩, edB_iff.1 he⟩ hk
    obtain ⟨t, ht⟩ := List.exists_mem_of_ne_nil l hne
    obtain ⟨x, px, i, j, g1, g2, g3, g4, g5⟩ := hno t ⟨t, ht, rfl⟩
    exact no_block hg h2 h3 hno ((hoOf K T S L n j).f + 1).toNat i j g1 g2 (g3 ▸ px) g5 (by omega)
  obtain ⟨l, hl⟩ := hord
  rw [ordO, hl]; rfl
end Go.Proofs.Ythbpjmnlgfahmaa
