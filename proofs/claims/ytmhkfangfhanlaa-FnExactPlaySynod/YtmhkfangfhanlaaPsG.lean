/- Synods: a new one is good, and a step keeps one good. Mathematics alone. -/
import Derived.Test.YtmhkfangfhanlaaSzF
namespace Go.Proofs.Ytmhkfangfhanlaa
open Go.RowKit
set_option linter.unusedVariables false
set_option linter.unusedSimpArgs false

theorem cnt_split {α : Type} (f : α → Int) (x : Int) : ∀ {l : List α}, l.Pairwise (fun a b => f a < f b) → (∀ y ∈ l.take (l.countP (fun a => decide (f a < x))), f y < x) ∧ (∀ y ∈ l.drop (l.countP (fun a => decide (f a < x))), x ≤ f y)
  | [], _ => by simp
  | a :: t, h => by
    rw [List.pairwise_cons] at h
    have ih := cnt_split f x h.2
    by_cases q : f a < x
    · have e : (a :: t).countP (fun a => decide (f a < x)) = t.countP (fun a => decide (f a < x)) + 1 := by rw [List.countP_cons_of_pos (by simpa using q)]
      rw [e, List.take_succ_cons, List.drop_succ_cons]
      refine ⟨fun y hy => ?_, ih.2⟩
      rcases List.mem_cons.1 hy with r | r
      · rw [r]; exact q
      · exact ih.1 y r
    · have e : (a :: t).countP (fun a => decide (f a < x)) = 0 := by
        rw [List.countP_eq_zero]
        intro y hy
        rcases List.mem_cons.1 hy with r | r
        · rw [r]; simpa using q
        · have := h.1 y r; simp only [decide_eq_true_eq]; omega
      rw [e, List.take_zero, List.drop_zero]
      refine ⟨fun y hy => by simp at hy, fun y hy => ?_⟩
      rcases List.mem_cons.1 hy with r | r
      · rw [r]; omega
      · have := h.1 y r; omega
theorem pair_ins {α : Type} (f : α → Int) {l : List α} (h : l.Pairwise (fun a b => f a < f b)) (y : α) (hn : ∀ a ∈ l, f a ≠ f y) : (l.take (l.countP (fun a => decide (f a < f y))) ++ y :: l.drop (l.countP (fun a => decide (f a < f y)))).Pairwise (fun a b => f a < f b) := by
  obtain ⟨h1, h2⟩ := cnt_split f (f y) h
  rw [List.pairwise_append, List.pairwise_cons]
  have h3 : ∀ b ∈ l.drop (l.countP (fun a => decide (f a < f y))), f y < f b := fun b hb => by
    have := h2 b hb; have := hn b (List.mem_of_mem_drop hb); omega
  refine ⟨h.sublist (List.take_sublist ..), ⟨h3, h.sublist (List.drop_sublist ..)⟩, fun a ha b hb => ?_⟩
  have ha := h1 a ha
  rcases List.mem_cons.1 hb with r | r
  · rw [r]; exact ha
  · have := h3 b r; omega
theorem ris_of {l : List Int} {m : Int} (h1 : ∀ x ∈ l, 0 ≤ x ∧ x ≤ m - 1) (h2 : l.Pairwise (fun a b => a < b)) : risP l m := by
  intro i hi
  rw [atI_lt hi]
  refine ⟨h1 _ (List.getElem_mem hi), fun h0 => ?_⟩
  rw [atI_lt (by omega)]
  exact List.pairwise_iff_getElem.1 h2 (i - 1) i (by omega) hi (by omega)
theorem ris_ins {l : List (Sh.T .int)} {m x : Int} (h : risP l m) (hx : 0 ≤ x ∧ x ≤ m - 1) (hn : x ∉ l) : risP (insI l x) m := by
  have hm := ris_mem h
  refine ris_of (fun y hy => ?_) (pair_ins (fun a : Int => a) (ris_pair h) x (fun a ha e => hn (e ▸ ha)))
  unfold insI at hy
  rcases List.mem_append.1 hy with r | r
  · exact hm y (List.mem_of_mem_take r)
  · rcases List.mem_cons.1 r with r | r
    · rw [r]; exact hx
    · exact hm y (List.mem_of_mem_drop r)
theorem fix_ok {own : ByteArray} {l : List (Sh.T shPromise)} (ho : valOk own = true) (h : ∀ x ∈ l, valOk (pvl x) = true) : valOk (fixV own l) = true := by
  have e : ∀ (l : List (Sh.T shPromise)) (s : Int × ByteArray), valOk s.2 = true → (∀ x ∈ l, valOk (pvl x) = true) → valOk (l.foldl fixS s).2 = true := by
    intro l
    induction l with
    | nil => intro s hs _; exact hs
    | cons x t ih =>
      intro s hs h
      refine ih _ ?_ (fun y hy => h y (List.mem_cons_of_mem _ hy))
      unfold fixS
      split
      · exact h x (List.mem_cons_self ..)
      · exact hs
  exact e l (0, own) ho h
theorem put_pair {l : List (Sh.T shPromise)} {y : Sh.T shPromise} (h : l.Pairwise (fun a b => pnd a < pnd b)) : (putP l y).Pairwise (fun a b => pnd a < pnd b) := by
  unfold putP
  split
  · rename_i hs
    obtain ⟨h1, h2⟩ := cnt_split pnd (pnd y) h
    have hc := lsP_lt hs
    obtain ⟨a, ha, hae⟩ := tf_iff.1 hs
    have hkey : pnd l[lsP l (pnd y)] = pnd y := by
      have hge : pnd y ≤ pnd l[lsP l (pnd y)] := h2 _ (by rw [List.mem_iff_getElem]; exact ⟨0, by rw [List.length_drop]; unfold lsP at hc; omega, by rw [List.getElem_drop]; rfl⟩)
      obtain ⟨j, hj, rfl⟩ := List.getElem_of_mem ha
      rcases Nat.lt_or_ge j (lsP l (pnd y)) with q | q
      · have := h1 l[j] (by rw [List.mem_take_iff_getElem]; exact ⟨j, by unfold lsP at q; omega, rfl⟩)
        omega
      · rcases Nat.eq_or_lt_of_le q with q | q
        · have : l[lsP l (pnd y)] = l[j] := by congr 1
          rw [this]; exact hae
        · have := pw_at h q hj
          omega
    rw [← List.pairwise_map (f := pnd) (R := fun a b : Int => a < b)]
    have e : (l.set (lsP l (pnd y)) y).map pnd = l.map pnd := by
      rw [List.map_set]
      apply List.ext_getElem
      · rw [List.length_set]
      · intro j h1 h2
        rw [List.getElem_set]
        split
        · rename_i e; subst e; rw [List.getElem_map]; exact hkey.symm
        · rfl
    rw [← List.pairwise_map (f := pnd) (R := fun a b : Int => a < b)] at h
    rw [e]; exact h
  · rename_i hs
    exact pair_ins pnd h y (fun a ha e => hs (tf_yes ⟨a, ha, e⟩))
theorem good_set {ac : List (Sh.T shAcceptor)} {pr : List (Sh.T shProposer)} {i k : Nat} {a : Sh.T shAcceptor} {q : Sh.T shProposer} (hg : goodS ac pr) (hk : k < pr.length) (ha : accP pr.length a) (hq : proP ((k : Int) + 1) ac.length q) : goodS (ac.set i a) (pr.set k q) := by
  refine ⟨by rw [List.length_set]; exact hg.1, by rw [List.length_set]; exact hg.2.1, fun x hx => ?_, fun j hj _ => ?_⟩
  · rw [List.length_set]
    rcases List.mem_or_eq_of_mem_set hx with r | r
    · exact hg.2.2.1 x r
    · rw [r]; exact ha
  · rw [List.length_set] at hj ⊢
    rw [List.getElem_set]
    split
    · rename_i e; subst e; exact hq
    · exact hg.2.2.2 j hj hj
theorem good_step {ac : List (Sh.T shAcceptor)} {pr : List (Sh.T shProposer)} {acc : Bool} {bal node : Int} {x : List (Sh.T shAcceptor) × List (Sh.T shProposer)} (hg : goodS ac pr) (h : stB ac pr acc bal node = some x) : goodS x.1 x.2 := by
  by_cases hI : stI ac pr bal node
  case neg => rw [stB_no hI] at h; cases h
  obtain ⟨k, rfl⟩ : ∃ k : Nat, bal = (k : Int) + 1 := ⟨(bal - 1).toNat, by have := hI.1; omega⟩
  obtain ⟨i, rfl⟩ : ∃ i : Nat, node = (i : Int) := ⟨node.toNat, by have := hI.2; omega⟩
  have hk : k < pr.length := by have := hI.1; omega
  have hi : i < ac.length := by have := hI.2; omega
  obtain ⟨p, b, v, hA⟩ : ∃ (p b : Int) (v : ByteArray), ac[i] = (p, b, v, ()) := ⟨_, _, _, rfl⟩
  obtain ⟨own, pms, fx, val, vt, hP⟩ : ∃ (own : ByteArray) (pms : List (Sh.T shPromise)) (fx : Bool) (val : ByteArray) (vt : List (Sh.T .int)), pr[k] = (own, pms, fx, val, vt, ()) := ⟨_, _, _, _, _, rfl⟩
  rw [stB_at hi hk hA hP] at h
  have ha : accQ pr.length p b v := by have := hg.2.2.1 ac[i] (List.getElem_mem hi); rw [hA] at this; exact this
  have hp : proQ ((k : Int) + 1) ac.length own pms fx val vt := by have := hg.2.2.2 k hk hk; rw [hP] at this; exact this
  obtain ⟨y, hy, rfl⟩ := Option.map_eq_some_iff.1 h
  unfold stE at hy
  split at hy
  · split at hy
    · rename_i ht
      cases hy
      simp only [tkV, Bool.and_eq_true, decide_eq_true_eq, Bool.not_eq_true'] at ht
      have hni : (i : Int) ∉ vt := fun q => by rw [tf_yes q] at ht; cases ht.2.2
      have hfx : fx = true := ht.1
      have hval : val = fixV own pms := hp.2.2.2.1 hfx
      have hvo : valOk val = true := by rw [hval]; exact fix_ok hp.1 (fun z hz => (hp.2.1.1 z hz).2.2.1)
      have haN : accQ pr.length ((k : Int) + 1) ((k : Int) + 1) val := ⟨⟨by omega, by omega⟩, ⟨by omega, Int.le_refl _⟩, hvo, Or.inl (by omega)⟩
      have hqN : proQ ((k : Int) + 1) ac.length own pms fx val (insI vt i) := ⟨hp.1, hp.2.1, hp.2.2.1, hp.2.2.2.1, (fun e => by rw [hfx] at e; cases e), ris_ins hp.2.2.2.2.2 (by omega) hni⟩
      exact good_set hg hk haN hqN
    · cases hy
  · split at hy
    · rename_i ht
      cases hy
      simp only [tkP, Bool.and_eq_true, decide_eq_true_eq, Bool.not_eq_true'] at ht
      have hpb : p < (k : Int) + 1 := ht.1
      have hfx : fx = false := ht.2
      have hz := hp.2.2.2.2.1 hfx
      have hob := ha.2
      have haN : accQ pr.length ((k : Int) + 1) b v := ⟨⟨by omega, by omega⟩, ⟨hob.1.1, by have := hob.1.2; omega⟩, hob.2⟩
      obtain ⟨L, hL⟩ : ∃ L, L = putP pms (mkPm (i : Int) b v) := ⟨_, rfl⟩
      have hqN : proQ ((k : Int) + 1) ac.length own L (decide ((ac.length : Int) < 2 * (L.length : Int))) (if decide ((ac.length : Int) < 2 * (L.length : Int)) then fixV own L else val) vt := by
        refine ⟨hp.1, ⟨fun z hz => ?_, ?_⟩, rfl, fun e => if_pos e, fun e => ⟨?_, hz.2⟩, hp.2.2.2.2.2⟩
        · rw [hL] at hz
          rcases putP_mem hz with r | r
          · rw [r]
            exact ⟨⟨by show 0 ≤ (i : Int); omega, by show (i : Int) ≤ (ac.length : Int) - 1; omega⟩, ⟨hob.1.1, by have := hob.1.2; show b ≤ (k : Int) + 1 - 1; omega⟩, hob.2⟩
          · exact hp.2.1.1 z r
        · rw [hL]; exact put_pair hp.2.1.2
        · rw [e, if_neg (by decide)]; exact hz.1
      subst hL
      exact good_set hg hk haN hqN
    · cases hy
theorem good_new {m : Int} {vs : List (Sh.T .str)} (h : nwP m vs) : goodS (List.replicate m.toNat z0A) (List.map mkPr vs) := by
  have hv0 : valOk (⟨#[]⟩ : ByteArray) = true := by decide
  refine ⟨by rw [List.length_replicate]; have := h.1; omega, by rw [List.length_map]; exact h.2.1, fun a ha => ?_, fun j hj _ => ?_⟩
  · rw [(List.mem_replicate.1 ha).2]
    exact ⟨⟨Int.le_refl _, Int.natCast_nonneg _⟩, ⟨Int.le_refl _, Int.le_refl _⟩, hv0, Or.inr rfl⟩
  · rw [List.length_map] at hj
    rw [List.getElem_map, List.length_replicate]
    have hm : (1 : Int) ≤ (m.toNat : Int) := by have := h.1; omega
    have hq : proQ ((j : Int) + 1) (m.toNat : Int) vs[j] [] false ⟨#[]⟩ [] := ⟨h.2.2 _ (List.getElem_mem hj), ⟨(fun z hz => by cases hz), List.Pairwise.nil⟩, (decide_eq_false (by simp only [List.length_nil]; omega)).symm, (fun e => by cases e), (fun _ => ⟨rfl, rfl⟩), fun i hi => absurd hi (Nat.not_lt_zero _)⟩
    exact hq
/-- The size of a good synod. -/
theorem good_size {ac : List (Sh.T shAcceptor)} {pr : List (Sh.T shProposer)} (hg : goodS ac pr) : szD shSynod (ac, pr, ()) ≤ 100000 := by
  obtain ⟨h1, h2⟩ := good_sz hg
  have e : szD shSynod (ac, pr, ()) = szD (.list shAcceptor) ac + (szD (.list shProposer) pr + 0) := rfl
  have e1 : szD (.list shAcceptor) ac = ac.length + (ac.map (szD shAcceptor)).sum := rfl
  have e2 : szD (.list shProposer) pr = pr.length + (pr.map (szD shProposer)).sum := rfl
  have s1 := sum_le h1
  have s2 := sum_le h2
  have := hg.1
  have := hg.2.1
  omega
/-- A play: the synod, and what was done. -/
abbrev SyD := List (Sh.T shAcceptor) × List (Sh.T shProposer)
noncomputable def plT (s : SyD × List Bool) (x : Sh.T shSynodStep) : SyD × List Bool := ((stB s.1.1 s.1.2 x.1 x.2.1 x.2.2.1).getD s.1, s.2 ++ [(stB s.1.1 s.1.2 x.1 x.2.1 x.2.2.1).isSome])
noncomputable def plF (s : SyD) (l : List (Sh.T shSynodStep)) : SyD × List Bool := l.foldl plT (s, [])
theorem pl_take {s : SyD} {l : List (Sh.T shSynodStep)} {k : Nat} (h : k < l.length) : plF s (l.take (k + 1)) = plT (plF s (l.take k)) l[k] := by
  unfold plF; rw [List.take_succ_eq_append_getElem h, List.foldl_append]; rfl
theorem pl_len {s : SyD} {l : List (Sh.T shSynodStep)} : ∀ {k : Nat}, k ≤ l.length → (plF s (l.take k)).2.length = k
  | 0, _ => by rw [List.take_zero]; rfl
  | k + 1, h => by rw [pl_take h]; show ((plF s (l.take k)).2 ++ [_]).length = _; rw [List.length_append, pl_len (by omega)]; rfl
theorem pl_good {s : SyD} {l : List (Sh.T shSynodStep)} (hg : goodS s.1 s.2) : ∀ {k : Nat}, k ≤ l.length → goodS (plF s (l.take k)).1.1 (plF s (l.take k)).1.2
  | 0, _ => by rw [List.take_zero]; exact hg
  | k + 1, h => by
    have ih := pl_good hg (k := k) (l := l) (by omega)
    rw [pl_take h]
    generalize plF s (l.take k) = S at ih ⊢
    unfold plT
    cases e : stB S.1.1 S.1.2 l[k].1 l[k].2.1 l[k].2.2.1 with
    | none => exact ih
    | some x => exact good_step ih e
end Go.Proofs.Ytmhkfangfhanlaa
