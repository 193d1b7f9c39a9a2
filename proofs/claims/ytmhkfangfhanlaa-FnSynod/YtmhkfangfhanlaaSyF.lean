/- Synods: what a good synod's acceptor and proposer are, in sizes. Mathematics alone. -/
import Derived.Test.YtmhkfangfhanlaaSyO
namespace Go.Proofs.Ytmhkfangfhanlaa
open Go.RowKit
set_option linter.unusedVariables false
set_option linter.unusedSimpArgs false

theorem valOk_size {v : ByteArray} (h : valOk v = true) : v.size ≤ 20 := by
  unfold valOk at h; rw [Bool.and_eq_true] at h; exact of_decide_eq_true h.1
theorem prs_len : ∀ (l : List (Sh.T shPromise)) (a n : Int), (∀ x ∈ l, a ≤ pnd x ∧ pnd x < n) → l.Pairwise (fun x y => pnd x < pnd y) → a ≤ n → (l.length : Int) ≤ n - a
  | [], a, n, _, _, h => by simp; omega
  | x :: t, a, n, h1, h2, h => by
    have hx := h1 x (List.mem_cons_self ..)
    rw [List.pairwise_cons] at h2
    have := prs_len t (pnd x + 1) n (fun y hy => ⟨by have := h2.1 y hy; omega, (h1 y (List.mem_cons_of_mem _ hy)).2⟩) h2.2 (by omega)
    rw [List.length_cons]; omega
theorem putP_mem {l : List (Sh.T shPromise)} {x y : Sh.T shPromise} (h : y ∈ putP l x) : y = x ∨ y ∈ l := by
  unfold putP at h
  split at h
  · rcases List.mem_or_eq_of_mem_set h with q | q
    · exact Or.inr q
    · exact Or.inl q
  · rcases List.mem_append.1 h with q | q
    · exact Or.inr (List.mem_of_mem_take q)
    · rcases List.mem_cons.1 q with q | q
      · exact Or.inl q
      · exact Or.inr (List.mem_of_mem_drop q)
theorem pms_small {l : List (Sh.T shPromise)} (hl : l.length ≤ 20) (h : ∀ x ∈ l, (pvl x).size ≤ 20) : szD (.list shPromise) l ≤ 1000 := by
  have e1 : szD (.list shPromise) l = l.length + (l.map (szD shPromise)).sum := rfl
  have e2 : ∀ l : List (Sh.T shPromise), (∀ x ∈ l, (pvl x).size ≤ 20) → (l.map (szD shPromise)).sum ≤ l.length * 20 := by
    intro l
    induction l with
    | nil => intro _; simp
    | cons x t ih =>
      intro h
      have h1 := ih (fun y hy => h y (List.mem_cons_of_mem _ hy))
      have h2 := h x (List.mem_cons_self ..)
      have e3 : szD shPromise x = 0 + (0 + ((pvl x).size + 0)) := rfl
      rw [List.map_cons, List.sum_cons, List.length_cons]
      omega
  have := e2 l h
  omega
theorem fixF_size {own : ByteArray} {l : List (Sh.T shPromise)} (ho : own.size ≤ 20) (h : ∀ x ∈ l, (pvl x).size ≤ 20) : (fixV own l).size ≤ 20 := by
  have e : ∀ (l : List (Sh.T shPromise)) (s : Int × ByteArray), s.2.size ≤ 20 → (∀ x ∈ l, (pvl x).size ≤ 20) → (l.foldl fixS s).2.size ≤ 20 := by
    intro l
    induction l with
    | nil => intro s hs _; exact hs
    | cons x t ih =>
      intro s hs h
      refine ih _ ?_ (fun y hy => h y (List.mem_cons_of_mem _ hy))
      unfold fixS
      split
      · exact h x (List.mem_cons_self ..)
      · exact hs
  exact e l (0, own) ho h
theorem gr_low {X : Nat → Int} {m : Int} {n : Nat} (h : grP X m n) : ∀ i, i < n → (i : Int) ≤ X i
  | 0, hi => by have := (h 0 hi).1; omega
  | i + 1, hi => by
    have h1 := gr_low h i (by omega)
    have h2 := (h (i + 1) hi).2 (by omega)
    have e : i + 1 - 1 = i := by omega
    rw [e] at h2
    omega
theorem gr_lt {X : Nat → Int} {m : Int} {n : Nat} (h : grP X m n) (i : Nat) : ∀ d, i + d + 1 < n → X i < X (i + d + 1)
  | 0, hi => by have := (h (i + 1) hi).2 (by omega); simpa using this
  | d + 1, hi => by
    have h1 := gr_lt h i d (by omega)
    have h2 := (h (i + (d + 1) + 1) hi).2 (by omega)
    have e : i + (d + 1) + 1 - 1 = i + d + 1 := by omega
    rw [e] at h2
    omega
theorem ris_len {l : List Int} {m : Int} (h : risP l m) (hm : 0 ≤ m) : (l.length : Int) ≤ m := by
  rcases Nat.eq_zero_or_pos l.length with q | q
  · omega
  · have h1 := gr_low h (l.length - 1) (by omega)
    have h2 := (h (l.length - 1) (by omega)).1
    omega
theorem ris_pair {l : List Int} {m : Int} (h : risP l m) : l.Pairwise (fun a b => a < b) := by
  rw [List.pairwise_iff_getElem]
  intro i j hi hj hij
  have := gr_lt h i (j - i - 1) (by omega)
  rw [show i + (j - i - 1) + 1 = j by omega, atI_lt hi, atI_lt hj] at this
  exact this
theorem ris_mem {l : List Int} {m : Int} (h : risP l m) : ∀ x ∈ l, 0 ≤ x ∧ x ≤ m - 1 := by
  intro x hx
  obtain ⟨i, hi, rfl⟩ := List.getElem_of_mem hx
  have := (h i hi).1
  rw [atI_lt hi] at this
  exact this
/-- All that a step asks of sizes. -/
theorem good_small {ac : List (Sh.T shAcceptor)} {pr : List (Sh.T shProposer)} {i k : Nat} {p b : Int} {v own : ByteArray} {ps : List (Sh.T shPromise)} {fx : Bool} {val : ByteArray} {vt : List (Sh.T .int)} (hg : goodS ac pr) (hi : i < ac.length) (hk : k < pr.length) (hA : ac[i] = (p, b, v, ())) (hP : pr[k] = (own, ps, fx, val, vt, ())) :
    v.size ≤ 20 ∧ ps.length ≤ 12 ∧ ps.Pairwise (fun x y => pnd x < pnd y) ∧ (∀ x ∈ ps, (pvl x).size ≤ 20) ∧ own.size ≤ 20 ∧ val.size ≤ 20 ∧ vt.length ≤ 12 ∧ List.Pairwise (fun a b : Int => a ≤ b) vt ∧ List.Pairwise (fun a b : Int => a < b) vt := by
  have ha := hg.2.2.1 ac[i] (List.getElem_mem hi)
  rw [hA] at ha
  have hp := hg.2.2.2 k hk hk
  rw [hP] at hp
  have hn := hg.1
  have ha : accQ pr.length p b v := ha
  have hp : proQ ((k : Int) + 1) ac.length own ps fx val vt := hp
  have hpw := hp.2.1.2
  have hps : ∀ x ∈ ps, (pvl x).size ≤ 20 := fun x hx => valOk_size (hp.2.1.1 x hx).2.2.1
  have hln := prs_len ps 0 ac.length (fun x hx => by have := (hp.2.1.1 x hx).1; omega) hpw (by omega)
  have hvl := ris_len hp.2.2.2.2.2 (by omega)
  have hvp := ris_pair hp.2.2.2.2.2
  refine ⟨valOk_size ha.2.2.1, by omega, hpw, hps, valOk_size hp.1, ?_, by omega, hvp.imp (fun h => Int.le_of_lt h), hvp⟩
  cases hfx : fx
  · have := (hp.2.2.2.2.1 hfx).1; omega
  · rw [hp.2.2.2.1 hfx]; exact fixF_size (valOk_size hp.1) hps
theorem tk_small {bal node p b : Int} {v own : ByteArray} {ps : List (Sh.T shPromise)} {fx : Bool} (hv : v.size ≤ 20) (hl : ps.length ≤ 12) (hs : ∀ x ∈ ps, (pvl x).size ≤ 20) (ho : own.size ≤ 20) : szD (.list shPromise) (tkL bal node p b v ps fx) ≤ 1073741824 ∧ (fixV own (tkL bal node p b v ps fx)).size ≤ 1073741824 := by
  have hm : ∀ x ∈ tkL bal node p b v ps fx, (pvl x).size ≤ 20 := by
    intro x hx
    unfold tkL at hx
    split at hx
    · rcases putP_mem hx with q | q
      · rw [q]; exact hv
      · exact hs x q
    · exact hs x hx
  have hlen : (tkL bal node p b v ps fx).length ≤ 20 := by
    unfold tkL; split
    · have := putP_len ps (mkPm node b v); omega
    · omega
  have h1 := pms_small hlen hm
  have h2 := fixF_size ho hm
  omega
end Go.Proofs.Ytmhkfangfhanlaa
