/- What is strict avoids cascades, what avoids them is recoverable; ops one txn after the other are good, strict and have an order: the mathematics. No Go text is spoken of here. -/
import Derived.Test.YthbpjmnlgfahmaaTwG
import Derived.Test.YthbpjmnlgfahmaaSoI
import Derived.Test.YthbpjmnlgfahmaaRecJ
namespace Go.Proofs.Ythbpjmnlgfahmaa
open Go.RowKit
set_option linter.unusedVariables false

theorem rec_avoid {f : Nat → Int} {c : Int → Int} {K T : Nat → Int} : ∀ {k : Nat}, (recN f c K T k).2.2 = true → (recN f c K T k).2.1 = true
  | 0, _ => rfl
  | k + 1, h => by
    have ih := rec_avoid (f := f) (c := c) (K := K) (T := T) (k := k)
    rw [recN, recStep] at h ⊢
    split
    · rename_i h1
      rw [if_pos h1] at h; exact ih h
    · rename_i h1
      rw [if_neg h1] at h
      split
      · rename_i h2
        rw [if_pos h2] at h
        simp only [Bool.and_eq_true] at h ⊢
        exact ⟨ih h.1, h.2⟩
      · rename_i h2
        rw [if_neg h2] at h
        simp only [Bool.and_eq_true] at h
        exact ih h.1
theorem rec_recov {f : Nat → Int} {c : Int → Int} {K T : Nat → Int} : ∀ {k : Nat}, (∀ i, i < k → K i = 1 → (i : Int) < c (T i)) → (recN f c K T k).2.1 = true → (recN f c K T k).1 = true
  | 0, _, _ => rfl
  | k + 1, hc, h => by
    have ih := rec_recov (f := f) (c := c) (K := K) (T := T) (k := k) (fun i hi => hc i (by omega))
    rw [recN, recStep] at h ⊢
    split
    · rename_i h1
      rw [if_pos h1] at h; exact ih h
    · rename_i h1
      rw [if_neg h1] at h
      split
      · rename_i h2
        rw [if_pos h2] at h
        simp only [Bool.and_eq_true, decide_eq_true_eq] at h ⊢
        have := hc k (by omega) h2
        exact ⟨ih h.1, by omega⟩
      · rename_i h2
        rw [if_neg h2] at h
        exact ih h
theorem com_gt {ok : Nat → Bool} {K T : Nat → Int} {n i : Nat} (h : goodP ok K T n) (hi : i < n) (h3 : K i ≠ 3) : (i : Int) < comP K T n (T i) := by
  obtain ⟨j, g1, g2, g3, g4⟩ := end_done (h.2 i hi).2 h3
  rw [comP_at g4 g3 g2 (fun q h1 h2 e => end_com (h.2 j g2).2 g4 q h1 h2 (by rw [e, g3]))]
  omega
theorem recV_chain (K T : Nat → Int) (S : Nat → ByteArray) (n : Nat) : ((recV K T S n).2.2 = true → (recV K T S n).2.1 = true) ∧ ((recV K T S n).2.1 = true → (recV K T S n).1 = true) := by
  unfold recV
  split
  · rename_i hg
    exact ⟨rec_avoid, rec_recov (fun i hi h1 => com_gt (goodO_out hg) hi (by omega))⟩
  · exact ⟨fun h => h, fun h => h⟩
theorem rec_strict {f : Nat → Int} {c : Int → Int} {K T : Nat → Int} : ∀ {k : Nat}, (∀ i, i < k → f i ≠ 0 → f i ≠ T i → c (f i) < (i : Int)) → (recN f c K T k).2.2 = true
  | 0, _ => rfl
  | k + 1, h => by
    have ih := rec_strict (f := f) (c := c) (K := K) (T := T) (k := k) (fun i hi => h i (by omega))
    rw [recN, recStep]
    split
    · exact ih
    · rename_i h1
      have := h k (by omega) (fun e => h1 (Or.inl e)) (fun e => h1 (Or.inr e))
      split <;> simp [ih, this]

/-- One stands ahead of the other: of an earlier txn, or of the same one and ahead. -/
def Bef (T O : Nat → Int) (n' : Nat) (j j' : Nat) : Prop := ∃ p p', p < n' ∧ p' < n' ∧ T j = O p ∧ T j' = O p' ∧ (p < p' ∨ p = p' ∧ j < j')
theorem soT_mem {T O : Nat → Int} {n p j : Nat} : j ∈ soT T O n p ↔ j < n ∧ ∃ q, q < p ∧ T j = O q := by
  simp only [soT, List.mem_flatMap, List.mem_range, List.mem_filter, beq_iff_eq]
  constructor
  · rintro ⟨q, h1, h2, h3⟩; exact ⟨h2, q, h1, h3⟩
  · rintro ⟨h2, q, h1, h3⟩; exact ⟨q, h1, h2, h3⟩
theorem soT_bef {T O : Nat → Int} {n n' : Nat} : ∀ {p : Nat}, p ≤ n' → (soT T O n p).Pairwise (Bef T O n')
  | 0, _ => by simp [soT]
  | p + 1, hp => by
    rw [← soP_end, soP, List.pairwise_append]
    refine ⟨soT_bef (by omega), ?_, ?_⟩
    · have := List.Pairwise.filter (fun j => T j == O p) (List.pairwise_lt_range (n := n))
      refine List.Pairwise.imp_of_mem ?_ this
      intro a b ha hb h
      rw [List.mem_filter] at ha hb
      exact ⟨p, p, by omega, by omega, by simpa using ha.2, by simpa using hb.2, Or.inr ⟨rfl, h⟩⟩
    · intro a ha b hb
      obtain ⟨_, q, hq, e⟩ := soT_mem.1 ha
      rw [List.mem_filter] at hb
      exact ⟨q, p, by omega, by omega, e, by simpa using hb.2, Or.inl hq⟩
/-- What is known of a list that stands one after the other. -/
structure Ser (K T : Nat → Int) (S : Nat → ByteArray) (O : Nat → Int) (n n' : Nat) (L : List Nat) : Prop where
  good : goodP (okO K T S) K T n
  inj : ∀ i j, i < n' → j < n' → O i = O j → i = j
  mem : ∀ j, j ∈ L ↔ j < n
  bef : ∀ i i', i < i' → i' < L.length → Bef T O n' (atL L i) (atL L i')
  own : ∀ j, j < n → ∃ p, p < n' ∧ T j = O p
theorem atL_mem {L : List Nat} {i : Nat} (h : i < L.length) : atL L i ∈ L := by simp [atL, h]
theorem mem_atL {L : List Nat} {j : Nat} (h : j ∈ L) : ∃ i, i < L.length ∧ atL L i = j := by
  obtain ⟨i, hi, e⟩ := List.mem_iff_getElem.1 h
  exact ⟨i, hi, by simp [atL, hi, e]⟩
theorem ord_inj {T O : Nat → Int} {n n' : Nat} (h : ordP T O n n') : ∀ i j, i < n' → j < n' → O i = O j → i = j := by
  have key : ∀ i j, i < j → j < n' → O i ≠ O j := fun i j hij hj e => by
    have := (h.2 j hj).2
    rw [hasN_iff.2 ⟨i, hij, e⟩] at this; cases this
  intro i j hi hj e
  rcases Nat.lt_trichotomy i j with g | g | g
  · exact absurd e (key i j g hj)
  · exact g
  · exact absurd e.symm (key j i g hi)
theorem ord_all {T O : Nat → Int} {n n' : Nat} (h : ordP T O n n') {t : Nat} (ht : t ∈ txL T n 9) : ∃ p, p < n' ∧ O p = (t : Int) := by
  have he := (each_ord T O n n').2 h
  rw [xF_lst] at he
  have hp : (lstN O n').Perm (txI T n) := by
    simp only [eachB, Bool.and_eq_true, beq_iff_eq] at he
    have := he.2
    rw [show (txL T n 9).map (fun t : Nat => (t : Int)) = txI T n from rfl] at this
    rw [← this]; exact (srt_perm _).symm
  have hm : (t : Int) ∈ txI T n := List.mem_map.2 ⟨t, ht, rfl⟩
  obtain ⟨p, h1, h2⟩ := lstN_mem.1 (hp.mem_iff.2 hm)
  exact ⟨p, h1, h2⟩
theorem ser_of {K T : Nat → Int} {S : Nat → ByteArray} {O : Nat → Int} {n n' : Nat} (hg : goodP (okO K T S) K T n) (ho : ordP T O n n') : Ser K T S O n n' (soT T O n n') := by
  have cov : ∀ j, j < n → ∃ p, p < n' ∧ T j = O p := fun j hj => by
    obtain ⟨q, hq, q1, q9⟩ := op_t (show opB (K j) (T j) (S j) = true from (hg.2 j hj).1)
    obtain ⟨p, p1, p2⟩ := ord_all ho (t := q) (txL_mem.2 ⟨q9, q1, j, hj, hq⟩)
    exact ⟨p, p1, by rw [hq, p2]⟩
  refine ⟨hg, ord_inj ho, fun j => ?_, fun i i' h1 h2 => ?_, cov⟩
  · rw [soT_mem]
    exact ⟨fun h => h.1, fun hj => ⟨hj, cov j hj⟩⟩
  · have := List.pairwise_iff_getElem.1 (soT_bef (T := T) (O := O) (n := n) (Nat.le_refl n')) i i' (by omega) h2 h1
    simpa [atL, h2, show i < (soT T O n n').length by omega] using this
section
variable {K T : Nat → Int} {S : Nat → ByteArray} {O : Nat → Int} {n n' : Nat} {L : List Nat}
theorem Ser.nodup (h : Ser K T S O n n' L) : L.Nodup := by
  rw [List.nodup_iff_pairwise_ne, List.pairwise_iff_getElem]
  intro i j hi hj hij e
  obtain ⟨p, p', h1, h2, h3, h4, h5⟩ := h.bef i j hij hj
  have ei : atL L i = L[i] := by simp [atL, hi]
  have ej : atL L j = L[j] := by simp [atL, hj]
  have ee : atL L i = atL L j := by rw [ei, ej, e]
  have := h.inj p p' h1 h2 (by rw [← h3, ← h4, ee])
  omega
theorem Ser.len (h : Ser K T S O n n' L) : L.length ≤ n := by
  have hp : L.Perm (List.range n) := by
    rw [List.perm_ext_iff_of_nodup h.nodup List.nodup_range]
    intro j; rw [h.mem, List.mem_range]
  have := hp.length_eq
  rw [List.length_range] at this; omega
/-- Two places of one txn stand as their ops stood. -/
theorem Ser.same (h : Ser K T S O n n' L) {i i' : Nat} (hi : i < L.length) (hi' : i' < L.length) (e : T (atL L i) = T (atL L i')) (hlt : atL L i < atL L i') : i < i' := by
  rcases Nat.lt_trichotomy i i' with g | g | g
  · exact g
  · subst g; omega
  · obtain ⟨p, p', h1, h2, h3, h4, h5⟩ := h.bef i' i g hi
    have := h.inj p p' h1 h2 (by rw [← h3, ← h4, e])
    omega
theorem Ser.goodP (h : Ser K T S O n n' L) : goodP (okO (fun i => K (atL L i)) (fun i => T (atL L i)) (fun i => S (atL L i))) (fun i => K (atL L i)) (fun i => T (atL L i)) L.length := by
  refine ⟨Nat.le_trans h.len h.good.1, fun i hi => ⟨?_, end_of (fun h3 i' h1 h2 e => ?_) (fun h3 => ?_)⟩⟩
  · exact (h.good.2 (atL L i) ((h.mem _).1 (atL_mem hi))).1
  · obtain ⟨p, p', q1, q2, q3, q4, q5⟩ := h.bef i i' h1 h2
    have := h.inj p p' q1 q2 (by rw [← q3, ← q4]; exact e.symm)
    have hj := (h.mem _).1 (atL_mem hi)
    have hj' := (h.mem _).1 (atL_mem h2)
    exact end_com (h.good.2 (atL L i) hj).2 h3 (atL L i') (by omega) hj' e
  · have hj := (h.mem _).1 (atL_mem hi)
    obtain ⟨j, g1, g2, g3, g4⟩ := end_done (h.good.2 (atL L i) hj).2 h3
    obtain ⟨i', hi', e⟩ := mem_atL ((h.mem j).2 g2)
    exact ⟨i', h.same hi hi' (by rw [e, g3]) (by rw [e]; exact g1), hi', by rw [e]; exact g3, by rw [e]; exact g4⟩
theorem Ser.strict (h : Ser K T S O n n' L) : (recV (fun i => K (atL L i)) (fun i => T (atL L i)) (fun i => S (atL L i)) L.length).2.2 = true := by
  have hg := h.goodP
  have hgo : goodO (okO (fun i => K (atL L i)) (fun i => T (atL L i)) (fun i => S (atL L i))) (fun i => K (atL L i)) (fun i => T (atL L i)) L.length = true := goodO_yes hg
  rw [recV, if_pos hgo]
  refine rec_strict (fun k hk h0 hne => ?_)
  rcases lastN_cases (wrB (fun i => K (atL L i)) (fun i => S (atL L i)) (S (atL L k))) (fun i => T (atL L i)) k with e0 | ⟨j, hj, _, ej⟩
  · exact absurd e0 h0
  have e : fromN (fun i => K (atL L i)) (fun i => T (atL L i)) (fun i => S (atL L i)) k = T (atL L j) := ej
  rw [e] at hne ⊢
  obtain ⟨c, hc1, hc2, hc3, hc4⟩ : ∃ c, c < L.length ∧ T (atL L c) = T (atL L j) ∧ K (atL L c) = 3 ∧ ∀ q, c < q → q < L.length → T (atL L q) ≠ T (atL L j) := by
    by_cases h3 : K (atL L j) = 3
    · exact ⟨j, by omega, rfl, h3, end_com (hg.2 j (by omega)).2 h3⟩
    · obtain ⟨c, g1, g2, g3, g4⟩ := end_done (hg.2 j (by omega)).2 h3
      exact ⟨c, g2, g3, g4, fun q h1 h2 e => end_com (hg.2 c g2).2 g4 q h1 h2 (by rw [e]; exact g3.symm)⟩
  rw [comP_at (K := fun i => K (atL L i)) (T := fun i => T (atL L i)) hc3 hc2 hc1 hc4]
  have hck : c < k := by
    rcases Nat.lt_trichotomy c k with g | g | g
    · exact g
    · subst g; exact absurd hc2.symm hne
    · obtain ⟨p, p', h1, h2, h3, h4, h5⟩ := h.bef j k hj hk
      obtain ⟨r, r', k1, k2, k3, k4, k5⟩ := h.bef k c g hc1
      have e1 := h.inj p' r h2 k1 (by rw [← h4, ← k3])
      have e2 := h.inj p r' h1 k2 (by rw [← h3, ← k4, hc2])
      have hpp : p ≠ p' := fun e => hne (by rw [h3, h4, e])
      omega
  omega
theorem Ser.order (h : Ser K T S O n n' L) : sdOk (fun i => K (atL L i)) (fun i => T (atL L i)) (fun i => S (atL L i)) L.length = true := by
  have hgo : goodO (okO (fun i => K (atL L i)) (fun i => T (atL L i)) (fun i => S (atL L i))) (fun i => K (atL L i)) (fun i => T (atL L i)) L.length = true := goodO_yes h.goodP
  rw [sdOk, sdO, if_pos hgo]
  have hord : ∃ l, ordF (edB (fun i => K (atL L i)) (fun i => T (atL L i)) (fun i => S (atL L i)) L.length) (txL (fun i => T (atL L i)) L.length 9) (txL (fun i => T (atL L i)) L.length 9).length [] = some l := by
    refine order_of (txL_nodup _ _ 9) (fun l hne hs => ?_) _ [] (by simp) (by simp) (by simp)
    apply Classical.byContradiction
    intro hc
    have desc : ∀ (N : Nat) (y : Nat), y ∈ l → ∀ p, p < n' → O p = (y : Int) → p < N → False := by
      intro N
      induction N with
      | zero => intro y _ p _ _ hp; omega
      | succ N ih =>
        intro y hy p hp ep hpN
        apply hc
        refine ⟨y, hy, fun x hx => ?_⟩
        cases he : edB (fun i => K (atL L i)) (fun i => T (atL L i)) (fun i => S (atL L i)) L.length x y
        · rfl
        · exfalso
          obtain ⟨i, j, g1, g2, g3, g4, g5⟩ := edB_iff.1 he
          obtain ⟨q, q', h1, h2, h3, h4, h5⟩ := h.bef i j g1 g2
          have e1 := h.inj q' p h2 hp (by rw [← h4, ep]; exact g4)
          have hxy : q ≠ q' := by
            intro e
            simp only [clN, clB, Bool.and_eq_true, bne_iff_ne, ne_eq] at g5
            exact g5.1 (by show T (atL L i) = T (atL L j); rw [h3, h4, e])
          exact ih x hx q h1 (by rw [← h3]; exact g3) (by omega)
    obtain ⟨y, hy⟩ := List.exists_mem_of_ne_nil l hne
    obtain ⟨y9, y0, i, hi, ei⟩ := txL_mem.1 (hs y hy)
    obtain ⟨p, hp, ep⟩ := h.own (atL L i) ((h.mem _).1 (atL_mem hi))
    have ep : O p = (y : Int) := by rw [← ep]; exact ei
    exact desc (p + 1) y hy p hp ep (by omega)
  obtain ⟨l, hl⟩ := hord
  rw [ordO, hl]; rfl
end
end Go.Proofs.Ythbpjmnlgfahmaa
