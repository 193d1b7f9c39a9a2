/- The order of the txns: the mathematics. No Go text is spoken of here. -/
import Derived.Test.YthbpjmnlgfahmaaCfS
namespace Go.Proofs.Ythbpjmnlgfahmaa
open Go.RowKit
set_option linter.unusedVariables false

/-- t has not been taken yet, and all that have a conflict to it have been. -/
def rdyB (e : Nat → Nat → Bool) (X out : List Nat) (t : Nat) : Bool := !out.contains t && X.all fun f => out.contains f || !e f t
def ordF (e : Nat → Nat → Bool) (X : List Nat) : Nat → List Nat → Option (List Nat)
  | 0, out => some out
  | k + 1, out => match X.find? (rdyB e X out) with
    | none => none
    | some t => ordF e X k (out ++ [t])
def ordO (e : Nat → Nat → Bool) (X : List Nat) : Option (List Nat) := ordF e X X.length []
/-- What has been taken is on its way to the order. -/
def OnWay (e : Nat → Nat → Bool) (X out : List Nat) : Prop := out.length ≤ X.length ∧ ordF e X (X.length - out.length) out = ordO e X ∧ (∀ x, x ∈ out → x ∈ X) ∧ out.Nodup
theorem OnWay.zero (e : Nat → Nat → Bool) (X : List Nat) : OnWay e X [] := ⟨by simp, rfl, by simp, by simp⟩
theorem rdy_mem {e : Nat → Nat → Bool} {X out : List Nat} {t : Nat} (h : X.find? (rdyB e X out) = some t) : t ∈ X ∧ t ∉ out := by
  have h1 := List.mem_of_find?_eq_some h
  have h2 := List.find?_some h
  simp only [rdyB, Bool.and_eq_true, Bool.not_eq_true', List.contains_eq_mem, decide_eq_false_iff_not] at h2
  exact ⟨h1, h2.1⟩
theorem OnWay.step {e : Nat → Nat → Bool} {X out : List Nat} {t : Nat} (h : OnWay e X out) (hl : out.length < X.length) (ht : X.find? (rdyB e X out) = some t) : OnWay e X (out ++ [t]) := by
  obtain ⟨h1, h2, h3, h4⟩ := h
  have hm := rdy_mem ht
  refine ⟨by simp; omega, ?_, ?_, ?_⟩
  · rw [← h2, show X.length - out.length = (X.length - (out ++ [t]).length) + 1 by simp; omega, ordF, ht]
  · intro x hx
    rcases List.mem_append.1 hx with g | g
    · exact h3 x g
    · rw [List.mem_singleton.1 g]; exact hm.1
  · rw [List.nodup_append]
    refine ⟨h4, by simp, ?_⟩
    intro a ha b hb e
    rw [List.mem_singleton] at hb
    exact hm.2 (hb ▸ e ▸ ha)
theorem OnWay.none {e : Nat → Nat → Bool} {X out : List Nat} (h : OnWay e X out) (hl : out.length < X.length) (ht : X.find? (rdyB e X out) = none) : ordO e X = none := by
  rw [← h.2.1, show X.length - out.length = (X.length - out.length - 1) + 1 by omega, ordF, ht]
theorem OnWay.done {e : Nat → Nat → Bool} {X out : List Nat} (h : OnWay e X out) (hl : ¬ out.length < X.length) : ordO e X = some out := by
  rw [← h.2.1, show X.length - out.length = 0 by omega, ordF]
/-- Those that are left. -/
def lftL (X out : List Nat) : List Nat := X.filter fun t => !out.contains t
theorem lft_nil (X : List Nat) : lftL X [] = X := by simp [lftL]
theorem lft_sub {X out : List Nat} {x : Nat} : x ∈ lftL X out ↔ x ∈ X ∧ x ∉ out := by simp [lftL]
theorem lft_find (e : Nat → Nat → Bool) (X out : List Nat) : X.find? (rdyB e X out) = (lftL X out).find? fun t => (lftL X out).all fun f => !e f t := by
  rw [lftL, List.find?_filter]
  congr 1
  funext t
  unfold rdyB
  rw [← lftL]
  rw [Bool.eq_iff_iff]
  simp only [Bool.and_eq_true, Bool.not_eq_true', List.all_eq_true, Bool.or_eq_true, List.contains_eq_mem, decide_eq_true_eq, decide_eq_false_iff_not, lft_sub]
  constructor
  · rintro ⟨h1, h2⟩
    exact ⟨h1, fun f ⟨hf, ho⟩ => (h2 f hf).resolve_left ho⟩
  · rintro ⟨h1, h2⟩
    refine ⟨h1, fun f hf => ?_⟩
    by_cases ho : f ∈ out
    · exact Or.inl ho
    · exact Or.inr (h2 f ⟨hf, ho⟩)
theorem lft_len {X out : List Nat} (hX : X.Nodup) (h3 : ∀ x, x ∈ out → x ∈ X) (h4 : out.Nodup) : (lftL X out).length + out.length = X.length := by
  have hp : X.Perm ((X.filter fun t => out.contains t) ++ lftL X out) := by
    have := List.filter_append_perm (fun t => out.contains t) X
    exact this.symm
  have h5 : (X.filter fun t => out.contains t).Perm out := by
    rw [List.perm_ext_iff_of_nodup (hX.filter _) h4]
    intro x
    simp only [List.mem_filter, List.contains_eq_mem, decide_eq_true_eq]
    exact ⟨fun h => h.2, fun h => ⟨h3 x h, h⟩⟩
  have a := hp.length_eq
  have b := h5.length_eq
  rw [List.length_append] at a
  omega
theorem erase_at {l : List Nat} (h : l.Nodup) : ∀ (i : Nat) (t : Nat), l[i]? = some t → l.take i ++ l.drop (i + 1) = l.filter fun x => x != t := by
  induction l with
  | nil => intro i t hi; simp at hi
  | cons a l ih =>
    intro i t hi
    have hn := List.nodup_cons.1 h
    cases i with
    | zero =>
      simp only [List.getElem?_cons_zero, Option.some.injEq] at hi
      subst hi
      simp only [List.take_zero, List.nil_append, List.drop_succ_cons, List.drop_zero]
      rw [List.filter_cons_of_neg (by simp)]
      symm
      rw [List.filter_eq_self]
      intro x hx
      have : x ≠ a := fun e => hn.1 (e ▸ hx)
      simpa using this
    | succ i =>
      simp only [List.getElem?_cons_succ] at hi
      have hne : a ≠ t := fun e => hn.1 (e ▸ List.mem_of_getElem? hi)
      rw [List.filter_cons_of_pos (by simpa using hne), ← ih hn.2 i t hi]
      simp
theorem lft_step {X out : List Nat} (hX : X.Nodup) {i t : Nat} (h : (lftL X out)[i]? = some t) : (lftL X out).take i ++ (lftL X out).drop (i + 1) = lftL X (out ++ [t]) := by
  have hn : (lftL X out).Nodup := hX.filter _
  rw [erase_at hn i t h]
  unfold lftL
  rw [List.filter_filter]
  congr 1
  funext x
  rw [Bool.eq_iff_iff]
  simp only [Bool.and_eq_true, bne_iff_ne, ne_eq, Bool.not_eq_true', List.contains_eq_mem, decide_eq_false_iff_not, List.mem_append, List.mem_singleton, not_or]
  exact ⟨fun ⟨h1, h2⟩ => ⟨h2, h1⟩, fun ⟨h1, h2⟩ => ⟨h2, h1⟩⟩
theorem find_at {p : Nat → Bool} {l : List Nat} {i t : Nat} (hi : l[i]? = some t) (hp : p t = true) (hb : ∀ j, j < i → ∀ x, l[j]? = some x → p x = false) : l.find? p = some t := by
  induction l generalizing i with
  | nil => simp at hi
  | cons a l ih =>
    cases i with
    | zero =>
      simp only [List.getElem?_cons_zero, Option.some.injEq] at hi
      subst hi
      simp [hp]
    | succ i =>
      simp only [List.getElem?_cons_succ] at hi
      have ha := hb 0 (by omega) a (by simp)
      rw [List.find?_cons_of_neg (by simp [ha])]
      exact ih hi (fun j hj x hx => hb (j + 1) (by omega) x (by simpa using hx))
theorem find_no {p : Nat → Bool} {l : List Nat} (hb : ∀ j, j < l.length → ∀ x, l[j]? = some x → p x = false) : l.find? p = none := by
  rw [List.find?_eq_none]
  intro x hx
  obtain ⟨j, hj, rfl⟩ := List.mem_iff_getElem.1 hx
  have := hb j hj l[j] (by simp [hj])
  simp [this]
theorem txL_nodup (T : Nat → Int) (n t : Nat) : (txL T n t).Nodup := List.nodup_range.filter _
theorem txL_bd {T : Nat → Int} {n t x : Nat} (h : x ∈ txL T n t) : 0 < x ∧ x < t := by
  simp only [txL, List.mem_filter, List.mem_range, hasT, Bool.and_eq_true, decide_eq_true_eq] at h
  exact ⟨h.2.1, h.1⟩
/-- The order, and whether there is one. -/
noncomputable def sdO (K T : Nat → Int) (S : Nat → ByteArray) (n : Nat) : Option (List Nat) := if goodO (okO K T S) K T n = true then ordO (edB K T S n) (txL T n 9) else none
noncomputable def sdL (K T : Nat → Int) (S : Nat → ByteArray) (n : Nat) : List Nat := (sdO K T S n).getD []
noncomputable def sdOk (K T : Nat → Int) (S : Nat → ByteArray) (n : Nat) : Bool := (sdO K T S n).isSome
def OrdPost (l : List Nat) (g : Bool) (w : World) (r : Ending) (w' : World) : Prop :=
  (∃ a cap, r = .returned (.tuple #[.slice a l.length cap, .bool g]) ∧ SRow w' w.heap.size w'.heap.size a l.length 1 (intF (xF l))) ∧ Below w.heap.size w w'
theorem sd_none {K T : Nat → Int} {S : Nat → ByteArray} {n : Nat} {w w' : World} (h : sdO K T S n = none) (hb : Below w.heap.size w w') : OrdPost (sdL K T S n) (sdOk K T S n) w (.returned (.tuple #[.slice none 0 0, .bool false])) w' := by
  rw [sdL, sdOk, h]
  exact ⟨⟨none, 0, rfl, Or.inl rfl, Nat.le_refl _⟩, hb⟩
theorem ordF_len {e : Nat → Nat → Bool} {X : List Nat} : ∀ {k : Nat} {out l : List Nat}, ordF e X k out = some l → l.length = out.length + k
  | 0, out, l, h => by simp only [ordF, Option.some.injEq] at h; subst h; rfl
  | k + 1, out, l, h => by
    rw [ordF] at h
    split at h
    · cases h
    · rw [ordF_len h]; simp; omega
theorem sdL_len (K T : Nat → Int) (S : Nat → ByteArray) (n : Nat) : (sdL K T S n).length ≤ 9 := by
  unfold sdL sdO
  split
  · cases h : ordO (edB K T S n) (txL T n 9) with
    | none => simp
    | some l =>
      have a := ordF_len h
      have b := txL_len T n 9
      simp at a ⊢; omega
  · simp
end Go.Proofs.Ythbpjmnlgfahmaa
