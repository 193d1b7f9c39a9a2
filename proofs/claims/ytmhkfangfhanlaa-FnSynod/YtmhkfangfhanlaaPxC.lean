/- Synods: what ChosenIn tells of a synod that was played. Mathematics alone. -/
import Derived.Test.YtmhkfangfhanlaaMgE
import Derived.Test.YtmhkfangfhanlaaSyE
namespace Go.Proofs.Ytmhkfangfhanlaa
open Go.RowKit
set_option linter.unusedVariables false
set_option linter.unusedSimpArgs false

def chosP (ac : List (Sh.T shAcceptor)) (pr : List (Sh.T shProposer)) (c : Nat) : Prop := (ac.length : Int) < 2 * ((vto pr c).length : Int)
theorem less_irrX (t : List UInt8) : Op.bytesLess t t = false := by
  induction t with
  | nil => rfl
  | cons x s ih => simp [Op.bytesLess, ih]
theorem putL_nil (x : CellV) : putL [] x = [x] := by simp [putL, plN]
theorem putL_one (t : ByteArray) : putL [vCell t] (vCell t) = [vCell t] := by
  apply putL_same
  · have e : plN [vCell t] t.toList = 0 := plN_eq (by simp) (fun q hq => absurd hq (by omega)) (fun _ => less_irrX _)
    unfold hitB
    rw [e]
    exact decide_eq_true ⟨by simp, rfl⟩
  · intro c hc; rw [List.mem_singleton.1 hc]; rfl
theorem ch_form {ac : List (Sh.T shAcceptor)} {pr : List (Sh.T shProposer)} (h : Played ac pr) : ∀ k, k ≤ pr.length → (chK ac.length pr k = [] ∧ ∀ c, c < k → ¬ chosP ac pr c) ∨ (∃ c, c < k ∧ chosP ac pr c ∧ chK ac.length pr k = [vCell (vlo pr c)])
  | 0, _ => Or.inl ⟨by simp [chK], fun c hc => absurd hc (by omega)⟩
  | k + 1, hk => by
    have ih := ch_form h k (by omega)
    have e : pr.getD k pz1 = pr[k] := by rw [List.getD_eq_getElem?_getD, List.getElem?_eq_getElem (by omega)]; rfl
    rw [chK_succ (by omega)]
    unfold chS
    have ev : pr[k].2.2.2.2.1.length = (vto pr k).length := by unfold vto; rw [e]
    have el : pr[k].2.2.2.1 = vlo pr k := by unfold vlo; rw [e]
    rw [ev, el]
    by_cases hc : chosP ac pr k
    · have hb : chB ac.length (vto pr k).length = true := decide_eq_true hc
      rw [hb, if_pos rfl]
      rcases ih with ⟨q, _⟩ | ⟨c, hck, hcc, q⟩
      · right; exact ⟨k, by omega, hc, by rw [q, putL_nil]⟩
      · right
        refine ⟨c, by omega, hcc, ?_⟩
        rw [q, chosen_same h hc hcc, putL_one]
    · have hb : chB ac.length (vto pr k).length = false := decide_eq_false hc
      rw [hb, if_neg (by decide)]
      rcases ih with ⟨q, q2⟩ | ⟨c, hck, hcc, q⟩
      · left
        refine ⟨q, fun c hc2 => ?_⟩
        by_cases e2 : c = k
        · subst e2; exact hc
        · exact q2 c (by omega)
      · right; exact ⟨c, by omega, hcc, q⟩
theorem chA_form {ac : List (Sh.T shAcceptor)} {pr : List (Sh.T shProposer)} (h : Played ac pr) : (chA ac pr = [] ∧ ∀ c, ¬ chosP ac pr c) ∨ (∃ c, c < pr.length ∧ chosP ac pr c ∧ chA ac pr = [vlo pr c]) := by
  unfold chA
  rw [tf_yes h.good, if_pos rfl]
  rcases ch_form h pr.length (Nat.le_refl _) with ⟨q, q2⟩ | ⟨c, hc, hcc, q⟩
  · left
    refine ⟨by rw [q]; rfl, fun c hc => ?_⟩
    rcases Nat.lt_or_ge c pr.length with r | r
    · exact q2 c r hc
    · have e : pr.getD c pz1 = pz1 := by rw [List.getD_eq_getElem?_getD, List.getElem?_eq_none r]; rfl
      unfold chosP vto at hc
      rw [e] at hc
      have : (pz1 : Sh.T shProposer).2.2.2.2.1.length = 0 := rfl
      omega
  · right; exact ⟨c, hc, hcc, by rw [q]; rfl⟩
/-- What is chosen ahead is chosen later, and so is the list of what is chosen. -/
theorem chosen_later {s t : SyD} (hs : Played s.1 s.2) (ht : Played t.1 t.2) (hl : Later s t) {c : Nat} (hc : chosP s.1 s.2 c) : chosP t.1 t.2 c ∧ vlo t.2 c = vlo s.2 c ∧ chA s.1 s.2 = [vlo s.2 c] ∧ chA t.1 t.2 = [vlo s.2 c] ∧ ∀ k, c ≤ k → fxo t.2 k = true → vlo t.2 k = vlo s.2 c := by
  have hct : chosP t.1 t.2 c := by
    unfold chosP at hc ⊢
    have h1 := (hl.2.2 c).1
    have h2 := hl.1
    omega
  have hf : fxo s.2 c = true := by
    cases q : vto s.2 c with
    | nil => unfold chosP at hc; rw [q] at hc; simp at hc; omega
    | cons x l => exact vote_fixed hs.good (x := x) (by rw [q]; exact List.mem_cons_self ..)
  have hv := ((hl.2.2 c).2.1 hf).2
  refine ⟨hct, hv, ?_, ?_, fun k hck hk => (ht.safe hct k hck hk).trans hv⟩
  · rcases chA_form hs with ⟨_, q⟩ | ⟨d, _, hd, q⟩
    · exact absurd hc (q c)
    · rw [q, chosen_same hs hd hc]
  · rcases chA_form ht with ⟨_, q⟩ | ⟨d, _, hd, q⟩
    · exact absurd hct (q c)
    · rw [q, chosen_same ht hd hct, hv]
end Go.Proofs.Ytmhkfangfhanlaa
