/- Synods: what a good one is. Mathematics alone. -/
import Derived.Test.YtmhkfangfhanlaaNtS
import Derived.Test.YtmhkfangfhanlaaNg
namespace Go.Proofs.Ytmhkfangfhanlaa
open Go.RowKit
set_option linter.unusedVariables false

/-- A promise's node, ballot, value. -/
def pnd (x : Sh.T shPromise) : Int := x.1
def pbl (x : Sh.T shPromise) : Int := x.2.1
def pvl (x : Sh.T shPromise) : ByteArray := x.2.2.1
/-- A ballot, or 0 for none, and a value that may have been accepted. -/
def oldP (b g : Int) (v : ByteArray) : Prop := (0 ≤ b ∧ b ≤ g) ∧ valOk v = true ∧ (0 < b ∨ v.size = 0)
def accQ (np p b : Int) (v : ByteArray) : Prop := (0 ≤ p ∧ p ≤ np) ∧ oldP b p v
def accP (np : Int) (a : Sh.T shAcceptor) : Prop := accQ np a.1 a.2.1 a.2.2.1
def prmP (bal nc : Int) (x : Sh.T shPromise) : Prop := (0 ≤ pnd x ∧ pnd x ≤ nc - 1) ∧ oldP (pbl x) (bal - 1) (pvl x)
/-- Promises rise by their nodes. -/
def prsP (bal nc : Int) (l : List (Sh.T shPromise)) : Prop := (∀ x ∈ l, prmP bal nc x) ∧ l.Pairwise (fun x y => pnd x < pnd y)
/-- The value of the greatest ballot that was told of, and that ballot. -/
def fixS (s : Int × ByteArray) (x : Sh.T shPromise) : Int × ByteArray := if s.1 < pbl x then (pbl x, pvl x) else s
def fixF (own : ByteArray) (l : List (Sh.T shPromise)) : Int × ByteArray := l.foldl fixS (0, own)
def fixV (own : ByteArray) (l : List (Sh.T shPromise)) : ByteArray := (fixF own l).2
theorem fix_take {own : ByteArray} {l : List (Sh.T shPromise)} {k : Nat} (h : k < l.length) : fixF own (l.take (k + 1)) = fixS (fixF own (l.take k)) l[k] := by
  unfold fixF; rw [List.take_succ_eq_append_getElem h, List.foldl_append]; rfl
def risP (l : List Int) (m : Int) : Prop := grP (atI l) m l.length
def proQ (bal nc : Int) (own : ByteArray) (ps : List (Sh.T shPromise)) (fx : Bool) (v : ByteArray) (vt : List Int) : Prop :=
  valOk own = true ∧ prsP bal nc ps ∧ fx = decide (nc < 2 * (ps.length : Int)) ∧ (fx = true → v = fixV own ps) ∧ (fx = false → v.size = 0 ∧ vt.length = 0) ∧ risP vt nc
def proP (bal nc : Int) (p : Sh.T shProposer) : Prop := proQ bal nc p.1 p.2.1 p.2.2.1 p.2.2.2.1 p.2.2.2.2.1
/-- The first k proposers are good. -/
def proK (nc : Int) (ps : List (Sh.T shProposer)) (k : Nat) : Prop := ∀ i (h : i < ps.length), i < k → proP ((i : Int) + 1) nc ps[i]
theorem proK_succ {nc : Int} {ps : List (Sh.T shProposer)} {k : Nat} (hk : k < ps.length) (h : proK nc ps k) (h1 : proP ((k : Int) + 1) nc ps[k]) : proK nc ps (k + 1) := by
  intro i hi hik
  by_cases e : i = k
  · subst e; exact h1
  · exact h i hi (by omega)
def goodS (ac : List (Sh.T shAcceptor)) (ps : List (Sh.T shProposer)) : Prop :=
  (1 ≤ ac.length ∧ ac.length ≤ 12) ∧ (1 ≤ ps.length ∧ ps.length ≤ 8) ∧ (∀ a ∈ ac, accP ps.length a) ∧ proK ac.length ps ps.length
theorem goodS_none {ac : List (Sh.T shAcceptor)} {ps : List (Sh.T shProposer)} (h : ¬ goodS ac ps) : Ending.returned (.bool false) = .returned (.bool (tf (goodS ac ps))) := by rw [tf_no h]
theorem goodS_yes {ac : List (Sh.T shAcceptor)} {ps : List (Sh.T shProposer)} (h : goodS ac ps) : Ending.returned (.bool true) = .returned (.bool (tf (goodS ac ps))) := by rw [tf_yes h]
/-- Promises of the first k, as a loop has seen them. -/
theorem prs_zero {bal nc : Int} {l : List (Sh.T shPromise)} : prsP bal nc (l.take 0) := by unfold prsP; simp
theorem prs_succ {bal nc : Int} {l : List (Sh.T shPromise)} {k : Nat} (h : k < l.length) (hp : prsP bal nc (l.take k)) (h1 : prmP bal nc l[k]) (h2 : ∀ x ∈ l.take k, pnd x < pnd l[k]) : prsP bal nc (l.take (k + 1)) :=
  ⟨mem_take_succ h hp.1 h1, pair_take_succ (R := fun (x y : Sh.T shPromise) => pnd x < pnd y) h hp.2 h2⟩
/-- The least node that the next promise may have. -/
def ndsP (l : List (Sh.T shPromise)) : List Int := l.map pnd
theorem nds_at {l : List (Sh.T shPromise)} {i : Nat} (h : i < l.length) : atI (ndsP l) i = pnd l[i] := by
  rw [atI_lt (by unfold ndsP; rw [List.length_map]; exact h)]; unfold ndsP; rw [List.getElem_map]
theorem last_take {α : Type} {l : List α} {k : Nat} (hk : k < l.length) : l.take (k + 1) = l.take k ++ [l[k]] := List.take_succ_eq_append_getElem hk
theorem last_mem {α : Type} {l : List α} {k : Nat} (hk : k < l.length) : l[k] ∈ l.take (k + 1) := by rw [last_take hk]; exact List.mem_append_right _ (List.mem_singleton.2 rfl)
def lstP (l : List (Sh.T shPromise)) : Nat → Int
  | 0 => 0
  | k + 1 => atI (ndsP l) k + 1
theorem lst_succ {l : List (Sh.T shPromise)} {k : Nat} (hk : k < l.length) : lstP l (k + 1) = pnd l[k] + 1 := by
  show atI (ndsP l) k + 1 = _
  rw [nds_at hk]
theorem lst_all {bal nc : Int} {l : List (Sh.T shPromise)} {k : Nat} (hk : k ≤ l.length) (hp : prsP bal nc (l.take k)) : ∀ x ∈ l.take k, pnd x < lstP l k := by
  intro x hx
  cases k with
  | zero => simp at hx
  | succ k =>
    have hk1 : k < l.length := by omega
    have hpw := hp.2
    rw [lst_succ hk1]
    rw [last_take hk1, List.pairwise_append] at hpw
    rw [last_take hk1] at hx
    rcases List.mem_append.1 hx with q | q
    · have := hpw.2.2 x q _ (List.mem_singleton.2 rfl)
      omega
    · rw [List.mem_singleton.1 q]; omega
theorem lst_zero (l : List (Sh.T shPromise)) : lstP l 0 = 0 := rfl
theorem lst_bd {bal nc : Int} {l : List (Sh.T shPromise)} {k : Nat} (hk : k ≤ l.length) (hp : prsP bal nc (l.take k)) (hnc : 0 ≤ nc) : 0 ≤ lstP l k ∧ lstP l k ≤ nc := by
  cases k with
  | zero => rw [lst_zero]; omega
  | succ k =>
    have hk1 : k < l.length := by omega
    rw [lst_succ hk1]
    have := (hp.1 _ (last_mem hk1)).1
    omega
theorem lst_in {bal nc : Int} {l : List (Sh.T shPromise)} {k : Nat} (hk : k < l.length) (hp : prsP bal nc (l.take k)) : (inR (pnd l[k]) (lstP l k) (nc - 1) = true) ↔ ((0 ≤ pnd l[k] ∧ pnd l[k] ≤ nc - 1) ∧ ∀ x ∈ l.take k, pnd x < pnd l[k]) := by
  rw [inR_iff]
  constructor
  · rintro ⟨h1, h2⟩
    refine ⟨⟨?_, h2⟩, fun x hx => ?_⟩
    · have : 0 ≤ lstP l k := by
        cases k with
        | zero => exact Int.le_refl _
        | succ k =>
          have hk1 : k < l.length := by omega
          rw [lst_succ hk1]
          have := (hp.1 _ (last_mem hk1)).1
          omega
      omega
    · have := lst_all (by omega) hp x hx
      omega
  · rintro ⟨⟨h1, h2⟩, h3⟩
    refine ⟨?_, h2⟩
    cases k with
    | zero => exact h1
    | succ k =>
      have hk1 : k < l.length := by omega
      rw [lst_succ hk1]
      have := h3 _ (last_mem hk1)
      omega
theorem prs_pre {bal nc : Int} {l : List (Sh.T shPromise)} (h : prsP bal nc l) (k : Nat) (hk : k < l.length) : prmP bal nc l[k] ∧ ∀ x ∈ l.take k, pnd x < pnd l[k] := by
  refine ⟨h.1 _ (List.getElem_mem hk), fun x hx => ?_⟩
  have hp := h.2.sublist (List.take_sublist (k + 1) l)
  rw [List.take_succ_eq_append_getElem hk, List.pairwise_append] at hp
  exact hp.2.2 x hx _ (List.mem_singleton.2 rfl)
/-- Sizes of what is in a synod. -/
theorem syn_sizes {ac : List (Sh.T shAcceptor)} {ps : List (Sh.T shProposer)} (hz : szD shSynod (ac, ps, ()) ≤ 1073741824) :
    (∀ a ∈ ac, a.2.2.1.size ≤ 1073741824) ∧ (∀ p ∈ ps, p.1.size ≤ 1073741824 ∧ szD (.list shPromise) p.2.1 ≤ 1073741824 ∧ p.2.2.2.1.size ≤ 1073741824 ∧ p.2.2.2.2.1.length ≤ 1073741824) ∧ ac.length ≤ 1073741824 ∧ ps.length ≤ 1073741824 := by
  have e : szD shSynod (ac, ps, ()) = szD (.list shAcceptor) ac + (szD (.list shProposer) ps + 0) := rfl
  have e1 : szD (.list shAcceptor) ac = ac.length + (ac.map (szD shAcceptor)).sum := rfl
  have e2 : szD (.list shProposer) ps = ps.length + (ps.map (szD shProposer)).sum := rfl
  refine ⟨fun c hc => ?_, fun o ho => ?_, by omega, by omega⟩
  · have := sz_mem hc
    have e3 : szD shAcceptor c = 0 + (0 + (c.2.2.1.size + 0)) := rfl
    omega
  · have := sz_mem ho
    have e3 : szD shProposer o = o.1.size + (szD (.list shPromise) o.2.1 + (0 + (o.2.2.2.1.size + (szD (.list .int) o.2.2.2.2.1 + 0)))) := rfl
    have e4 : szD (.list .int) o.2.2.2.2.1 = o.2.2.2.2.1.length + (o.2.2.2.2.1.map (szD .int)).sum := rfl
    omega
theorem pms_sizes {l : List (Sh.T shPromise)} (hz : szD (.list shPromise) l ≤ 1073741824) : (∀ x ∈ l, x.2.2.1.size ≤ 1073741824) ∧ l.length ≤ 1073741824 := by
  have e1 : szD (.list shPromise) l = l.length + (l.map (szD shPromise)).sum := rfl
  refine ⟨fun c hc => ?_, by omega⟩
  have := sz_mem hc
  have e3 : szD shPromise c = 0 + (0 + (c.2.2.1.size + 0)) := rfl
  omega
end Go.Proofs.Ytmhkfangfhanlaa
