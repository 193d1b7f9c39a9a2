/- Synods: how large what is chosen is; ChosenIn as the laws want it. -/
import Derived.Test.YtmhkfangfhanlaaSyD
import Derived.Test.YtmhkfangfhanlaaSyM
namespace Go.Proofs.Ytmhkfangfhanlaa
open Go.RowKit
set_option linter.unusedVariables false

theorem chK_val {nc : Int} {ps : List (Sh.T shProposer)} : ∀ {k : Nat}, k ≤ ps.length → ∀ c ∈ chK nc ps k, ∃ p ∈ ps, c.f0 = p.2.2.2.1
  | 0, _ => by
    have e : chK nc ps 0 = [] := by simp [chK]
    rw [e]; intro c hc; simp at hc
  | k + 1, hk => by
    have ih := chK_val (nc := nc) (ps := ps) (k := k) (by omega)
    rw [chK_succ (by omega)]
    unfold chS
    split
    · intro c hc
      rcases putL_mem hc with q | q
      · exact ⟨ps[k], List.getElem_mem _, by rw [q]; rfl⟩
      · exact ih c q
    · exact ih
theorem sz_strs : ∀ (l : List (Sh.T .str)) (m : Nat), (∀ t ∈ l, t.size ≤ m) → szD (.list .str) l ≤ l.length * (m + 1)
  | [], m, _ => Nat.zero_le _
  | t :: l, m, h => by
    have ih := sz_strs l m (fun q hq => h q (List.mem_cons_of_mem _ hq))
    have h1 : szD (.list .str) (t :: l) = l.length + 1 + (t.size + (l.map (szD .str)).sum) := rfl
    have h2 : szD (.list .str) l = l.length + (l.map (szD .str)).sum := rfl
    have h3 := h t List.mem_cons_self
    have h4 : (l.length + 1) * (m + 1) = l.length * (m + 1) + (m + 1) := Nat.succ_mul _ _
    rw [h1, List.length_cons, h4]
    omega
theorem fix_val {own : ByteArray} (ho : valOk own = true) {bal nc : Int} {l : List (Sh.T shPromise)} (h : ∀ x ∈ l, prmP bal nc x) : valOk (fixV own l) = true := by
  have key : ∀ (l : List (Sh.T shPromise)) (s : Int × ByteArray), valOk s.2 = true → (∀ x ∈ l, prmP bal nc x) → valOk (l.foldl fixS s).2 = true := by
    intro l
    induction l with
    | nil => intro s hs _; exact hs
    | cons x t ih =>
      intro s hs hx
      rw [List.foldl_cons]
      refine ih _ ?_ (fun y hy => hx y (List.mem_cons_of_mem _ hy))
      unfold fixS
      split
      · exact (hx x List.mem_cons_self).2.2.1
      · exact hs
  exact key l (0, own) ho h
theorem emp_val : valOk ⟨#[]⟩ = true := by decide
theorem good_val {ac : List (Sh.T shAcceptor)} {ps : List (Sh.T shProposer)} (h : goodS ac ps) : ∀ p ∈ ps, valOk p.2.2.2.1 = true := by
  intro p hp
  obtain ⟨k, hk, rfl⟩ := List.mem_iff_getElem.1 hp
  have hq := h.2.2.2 k hk hk
  unfold proP at hq
  cases e : ps[k].2.2.1
  · rw [e] at hq
    have := (hq.2.2.2.2.1 rfl).1
    have e2 : ps[k].2.2.2.1 = ⟨#[]⟩ := by
      generalize ps[k].2.2.2.1 = v at *
      cases v with
      | mk d => congr 1; exact Array.eq_empty_of_size_eq_zero this
    rw [e2]; exact emp_val
  · rw [e] at hq
    rw [hq.2.2.2.1 rfl]
    exact fix_val hq.1 hq.2.1.1
theorem sz_chA (ac : List (Sh.T shAcceptor)) (ps : List (Sh.T shProposer)) : szD (.list .str) (chA ac ps) ≤ 1073741824 := by
  by_cases h : goodS ac ps
  · have e : chA ac ps = kyL (chK ac.length ps ps.length) := if_pos (tf_yes h)
    rw [e]
    have h1 := sz_strs (kyL (chK ac.length ps ps.length)) 20 (fun t ht => by
      obtain ⟨c, hc, rfl⟩ := List.mem_map.1 ht
      obtain ⟨p, hp, e⟩ := chK_val (Nat.le_refl _) c hc
      rw [e]; exact val_size (good_val h p hp))
    have h2 := (chK_inv (nc := (ac.length : Int)) (ps := ps) (Nat.le_refl _)).2.2
    have h3 := h.2.1.2
    rw [kyL_len] at h1
    have h4 : (chK (↑ac.length) ps ps.length).length * (20 + 1) ≤ 8 * 21 := Nat.mul_le_mul (by omega) (by omega)
    omega
  · have e : chA ac ps = [] := if_neg (by rw [tf_no h]; simp)
    rw [e]; exact Nat.zero_le _
theorem chosenIn_l (cs : List Value) (ac : List (Sh.T shAcceptor)) (ps : List (Sh.T shProposer)) (w : World) (LL : List (Sh.T .str)) (z : Bool) (hA : chA ac ps = LL ∧ tf (goodS ac ps) = z) (hz : szD shSynod (ac, ps, ()) ≤ 1073741824) (h : Lies w shSynod cs (ac, ps, ())) :
    Calls Try.prog 15 #[.agg cs.toArray] w (LisP .str LL z w) := by
  rw [← hA.1, ← hA.2]; exact chosenIn_n cs ac ps w hz h
theorem specChosenIn_l (cs : List Value) (ac : List (Sh.T shAcceptor)) (ps : List (Sh.T shProposer)) (w : World) (LL : List (Sh.T .str)) (z : Bool) (hA : chA ac ps = LL ∧ tf (goodS ac ps) = z) (hz : szD shSynod (ac, ps, ()) ≤ 1073741824) (h : Lies w shSynod cs (ac, ps, ())) :
    Calls Try.prog 43 #[.agg cs.toArray] w (LisP .str LL z w) := by
  rw [← hA.1, ← hA.2]; exact specChosenIn_n cs ac ps w hz h
end Go.Proofs.Ytmhkfangfhanlaa
