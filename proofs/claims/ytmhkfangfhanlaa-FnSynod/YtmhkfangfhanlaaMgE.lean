/- Put together of: PsG, PxG, PsP, PxH. -/
import Derived.Test.YtmhkfangfhanlaaSzF
/- Synods: a new one is good, and a step keeps one good. Mathematics alone. -/
namespace Go.Proofs.Ytmhkfangfhanlaa
open Go.RowKit
set_option linter.unusedVariables false
set_option linter.unusedSimpArgs false

theorem cnt_split {α : Type} (f : α → Int) (x : Int) : ∀ {l : List α}, l.Pairwise (fun a b => f a < f b) → (∀ y ∈ l.take (l.countP (fun a => decide (f a < x))), f y < x) ∧ (∀ y ∈ l.drop (l.countP (fun a => decide (f a < x))), x ≤ f y)
  | [], _ => by simp
  | a :: t, h => by
    rw [List.pairwise_cons] at h
    have ih := cnt_split f x h.2
    by_cases q : f a < x
    · have e : (a :: t).countP (fun a => decide (f a < x)) = t.countP (fun a => decide (f a < x)) + 1 := by rw [List.countP_cons_of_pos (by simpa using q)]
      rw [e, List.take_succ_cons, List.drop_succ_cons]
      refine ⟨fun y hy => ?_, ih.2⟩
      rcases List.mem_cons.1 hy with r | r
      · rw [r]; exact q
      · exact ih.1 y r
    · have e : (a :: t).countP (fun a => decide (f a < x)) = 0 := by
        rw [List.countP_eq_zero]
        intro y hy
        rcases List.mem_cons.1 hy with r | r
        · rw [r]; simpa using q
        · have := h.1 y r; simp only [decide_eq_true_eq]; omega
      rw [e, List.take_zero, List.drop_zero]
      refine ⟨fun y hy => by simp at hy, fun y hy => ?_⟩
      rcases List.mem_cons.1 hy with r | r
      · rw [r]; omega
      · have := h.1 y r; omega
theorem pair_ins {α : Type} (f : α → Int) {l : List α} (h : l.Pairwise (fun a b => f a < f b)) (y : α) (hn : ∀ a ∈ l, f a ≠ f y) : (l.take (l.countP (fun a => decide (f a < f y))) ++ y :: l.drop (l.countP (fun a => decide (f a < f y)))).Pairwise (fun a b => f a < f b) := by
  obtain ⟨h1, h2⟩ := cnt_split f (f y) h
  rw [List.pairwise_append, List.pairwise_cons]
  have h3 : ∀ b ∈ l.drop (l.countP (fun a => decide (f a < f y))), f y < f b := fun b hb => by
    have := h2 b hb; have := hn b (List.mem_of_mem_drop hb); omega
  refine ⟨h.sublist (List.take_sublist ..), ⟨h3, h.sublist (List.drop_sublist ..)⟩, fun a ha b hb => ?_⟩
  have ha := h1 a ha
  rcases List.mem_cons.1 hb with r | r
  · rw [r]; exact ha
  · have := h3 b r; omega
theorem ris_of {l : List Int} {m : Int} (h1 : ∀ x ∈ l, 0 ≤ x ∧ x ≤ m - 1) (h2 : l.Pairwise (fun a b => a < b)) : risP l m := by
  intro i hi
  rw [atI_lt hi]
  refine ⟨h1 _ (List.getElem_mem hi), fun h0 => ?_⟩
  rw [atI_lt (by omega)]
  exact List.pairwise_iff_getElem.1 h2 (i - 1) i (by omega) hi (by omega)
theorem ris_ins {l : List (Sh.T .int)} {m x : Int} (h : risP l m) (hx : 0 ≤ x ∧ x ≤ m - 1) (hn : x ∉ l) : risP (insI l x) m := by
  have hm := ris_mem h
  refine ris_of (fun y hy => ?_) (pair_ins (fun a : Int => a) (ris_pair h) x (fun a ha e => hn (e ▸ ha)))
  unfold insI at hy
  rcases List.mem_append.1 hy with r | r
  · exact hm y (List.mem_of_mem_take r)
  · rcases List.mem_cons.1 r with r | r
    · rw [r]; exact hx
    · exact hm y (List.mem_of_mem_drop r)
theorem fix_ok {own : ByteArray} {l : List (Sh.T shPromise)} (ho : valOk own = true) (h : ∀ x ∈ l, valOk (pvl x) = true) : valOk (fixV own l) = true := by
  have e : ∀ (l : List (Sh.T shPromise)) (s : Int × ByteArray), valOk s.2 = true → (∀ x ∈ l, valOk (pvl x) = true) → valOk (l.foldl fixS s).2 = true := by
    intro l
    induction l with
    | nil => intro s hs _; exact hs
    | cons x t ih =>
      intro s hs h
      refine ih _ ?_ (fun y hy => h y (List.mem_cons_of_mem _ hy))
      unfold fixS
      split
      · exact h x (List.mem_cons_self ..)
      · exact hs
  exact e l (0, own) ho h
theorem put_pair {l : List (Sh.T shPromise)} {y : Sh.T shPromise} (h : l.Pairwise (fun a b => pnd a < pnd b)) : (putP l y).Pairwise (fun a b => pnd a < pnd b) := by
  unfold putP
  split
  · rename_i hs
    obtain ⟨h1, h2⟩ := cnt_split pnd (pnd y) h
    have hc := lsP_lt hs
    obtain ⟨a, ha, hae⟩ := tf_iff.1 hs
    have hkey : pnd l[lsP l (pnd y)] = pnd y := by
      have hge : pnd y ≤ pnd l[lsP l (pnd y)] := h2 _ (by rw [List.mem_iff_getElem]; exact ⟨0, by rw [List.length_drop]; unfold lsP at hc; omega, by rw [List.getElem_drop]; rfl⟩)
      obtain ⟨j, hj, rfl⟩ := List.getElem_of_mem ha
      rcases Nat.lt_or_ge j (lsP l (pnd y)) with q | q
      · have := h1 l[j] (by rw [List.mem_take_iff_getElem]; exact ⟨j, by unfold lsP at q; omega, rfl⟩)
        omega
      · rcases Nat.eq_or_lt_of_le q with q | q
        · have : l[lsP l (pnd y)] = l[j] := by congr 1
          rw [this]; exact hae
        · have := pw_at h q hj
          omega
    rw [← List.pairwise_map (f := pnd) (R := fun a b : Int => a < b)]
    have e : (l.set (lsP l (pnd y)) y).map pnd = l.map pnd := by
      rw [List.map_set]
      apply List.ext_getElem
      · rw [List.length_set]
      · intro j h1 h2
        rw [List.getElem_set]
        split
        · rename_i e; subst e; rw [List.getElem_map]; exact hkey.symm
        · rfl
    rw [← List.pairwise_map (f := pnd) (R := fun a b : Int => a < b)] at h
    rw [e]; exact h
  · rename_i hs
    exact pair_ins pnd h y (fun a ha e => hs (tf_yes ⟨a, ha, e⟩))
theorem good_set {ac : List (Sh.T shAcceptor)} {pr : List (Sh.T shProposer)} {i k : Nat} {a : Sh.T shAcceptor} {q : Sh.T shProposer} (hg : goodS ac pr) (hk : k < pr.length) (ha : accP pr.length a) (hq : proP ((k : Int) + 1) ac.length q) : goodS (ac.set i a) (pr.set k q) := by
  refine ⟨by rw [List.length_set]; exact hg.1, by rw [List.length_set]; exact hg.2.1, fun x hx => ?_, fun j hj _ => ?_⟩
  · rw [List.length_set]
    rcases List.mem_or_eq_of_mem_set hx with r | r
    · exact hg.2.2.1 x r
    · rw [r]; exact ha
  · rw [List.length_set] at hj ⊢
    rw [List.getElem_set]
    split
    · rename_i e; subst e; exact hq
    · exact hg.2.2.2 j hj hj
theorem good_step {ac : List (Sh.T shAcceptor)} {pr : List (Sh.T shProposer)} {acc : Bool} {bal node : Int} {x : List (Sh.T shAcceptor) × List (Sh.T shProposer)} (hg : goodS ac pr) (h : stB ac pr acc bal node = some x) : goodS x.1 x.2 := by
  by_cases hI : stI ac pr bal node
  case neg => rw [stB_no hI] at h; cases h
  obtain ⟨k, rfl⟩ : ∃ k : Nat, bal = (k : Int) + 1 := ⟨(bal - 1).toNat, by have := hI.1; omega⟩
  obtain ⟨i, rfl⟩ : ∃ i : Nat, node = (i : Int) := ⟨node.toNat, by have := hI.2; omega⟩
  have hk : k < pr.length := by have := hI.1; omega
  have hi : i < ac.length := by have := hI.2; omega
  obtain ⟨p, b, v, hA⟩ : ∃ (p b : Int) (v : ByteArray), ac[i] = (p, b, v, ()) := ⟨_, _, _, rfl⟩
  obtain ⟨own, pms, fx, val, vt, hP⟩ : ∃ (own : ByteArray) (pms : List (Sh.T shPromise)) (fx : Bool) (val : ByteArray) (vt : List (Sh.T .int)), pr[k] = (own, pms, fx, val, vt, ()) := ⟨_, _, _, _, _, rfl⟩
  rw [stB_at hi hk hA hP] at h
  have ha : accQ pr.length p b v := by have := hg.2.2.1 ac[i] (List.getElem_mem hi); rw [hA] at this; exact this
  have hp : proQ ((k : Int) + 1) ac.length own pms fx val vt := by have := hg.2.2.2 k hk hk; rw [hP] at this; exact this
  obtain ⟨y, hy, rfl⟩ := Option.map_eq_some_iff.1 h
  unfold stE at hy
  split at hy
  · split at hy
    · rename_i ht
      cases hy
      simp only [tkV, Bool.and_eq_true, decide_eq_true_eq, Bool.not_eq_true'] at ht
      have hni : (i : Int) ∉ vt := fun q => by rw [tf_yes q] at ht; cases ht.2.2
      have hfx : fx = true := ht.1
      have hval : val = fixV own pms := hp.2.2.2.1 hfx
      have hvo : valOk val = true := by rw [hval]; exact fix_ok hp.1 (fun z hz => (hp.2.1.1 z hz).2.2.1)
      have haN : accQ pr.length ((k : Int) + 1) ((k : Int) + 1) val := ⟨⟨by omega, by omega⟩, ⟨by omega, Int.le_refl _⟩, hvo, Or.inl (by omega)⟩
      have hqN : proQ ((k : Int) + 1) ac.length own pms fx val (insI vt i) := ⟨hp.1, hp.2.1, hp.2.2.1, hp.2.2.2.1, (fun e => by rw [hfx] at e; cases e), ris_ins hp.2.2.2.2.2 (by omega) hni⟩
      exact good_set hg hk haN hqN
    · cases hy
  · split at hy
    · rename_i ht
      cases hy
      simp only [tkP, Bool.and_eq_true, decide_eq_true_eq, Bool.not_eq_true'] at ht
      have hpb : p < (k : Int) + 1 := ht.1
      have hfx : fx = false := ht.2
      have hz := hp.2.2.2.2.1 hfx
      have hob := ha.2
      have haN : accQ pr.length ((k : Int) + 1) b v := ⟨⟨by omega, by omega⟩, ⟨hob.1.1, by have := hob.1.2; omega⟩, hob.2⟩
      obtain ⟨L, hL⟩ : ∃ L, L = putP pms (mkPm (i : Int) b v) := ⟨_, rfl⟩
      have hqN : proQ ((k : Int) + 1) ac.length own L (decide ((ac.length : Int) < 2 * (L.length : Int))) (if decide ((ac.length : Int) < 2 * (L.length : Int)) then fixV own L else val) vt := by
        refine ⟨hp.1, ⟨fun z hz => ?_, ?_⟩, rfl, fun e => if_pos e, fun e => ⟨?_, hz.2⟩, hp.2.2.2.2.2⟩
        · rw [hL] at hz
          rcases putP_mem hz with r | r
          · rw [r]
            exact ⟨⟨by show 0 ≤ (i : Int); omega, by show (i : Int) ≤ (ac.length : Int) - 1; omega⟩, ⟨hob.1.1, by have := hob.1.2; show b ≤ (k : Int) + 1 - 1; omega⟩, hob.2⟩
          · exact hp.2.1.1 z r
        · rw [hL]; exact put_pair hp.2.1.2
        · rw [e, if_neg (by decide)]; exact hz.1
      subst hL
      exact good_set hg hk haN hqN
    · cases hy
theorem good_new {m : Int} {vs : List (Sh.T .str)} (h : nwP m vs) : goodS (List.replicate m.toNat z0A) (List.map mkPr vs) := by
  have hv0 : valOk (⟨#[]⟩ : ByteArray) = true := by decide
  refine ⟨by rw [List.length_replicate]; have := h.1; omega, by rw [List.length_map]; exact h.2.1, fun a ha => ?_, fun j hj _ => ?_⟩
  · rw [(List.mem_replicate.1 ha).2]
    exact ⟨⟨Int.le_refl _, Int.natCast_nonneg _⟩, ⟨Int.le_refl _, Int.le_refl _⟩, hv0, Or.inr rfl⟩
  · rw [List.length_map] at hj
    rw [List.getElem_map, List.length_replicate]
    have hm : (1 : Int) ≤ (m.toNat : Int) := by have := h.1; omega
    have hq : proQ ((j : Int) + 1) (m.toNat : Int) vs[j] [] false ⟨#[]⟩ [] := ⟨h.2.2 _ (List.getElem_mem hj), ⟨(fun z hz => by cases hz), List.Pairwise.nil⟩, (decide_eq_false (by simp only [List.length_nil]; omega)).symm, (fun e => by cases e), (fun _ => ⟨rfl, rfl⟩), fun i hi => absurd hi (Nat.not_lt_zero _)⟩
    exact hq
/-- The size of a good synod. -/
theorem good_size {ac : List (Sh.T shAcceptor)} {pr : List (Sh.T shProposer)} (hg : goodS ac pr) : szD shSynod (ac, pr, ()) ≤ 100000 := by
  obtain ⟨h1, h2⟩ := good_sz hg
  have e : szD shSynod (ac, pr, ()) = szD (.list shAcceptor) ac + (szD (.list shProposer) pr + 0) := rfl
  have e1 : szD (.list shAcceptor) ac = ac.length + (ac.map (szD shAcceptor)).sum := rfl
  have e2 : szD (.list shProposer) pr = pr.length + (pr.map (szD shProposer)).sum := rfl
  have s1 := sum_le h1
  have s2 := sum_le h2
  have := hg.1
  have := hg.2.1
  omega
/-- A play: the synod, and what was done. -/
abbrev SyD := List (Sh.T shAcceptor) × List (Sh.T shProposer)
noncomputable def plT (s : SyD × List Bool) (x : Sh.T shSynodStep) : SyD × List Bool := ((stB s.1.1 s.1.2 x.1 x.2.1 x.2.2.1).getD s.1, s.2 ++ [(stB s.1.1 s.1.2 x.1 x.2.1 x.2.2.1).isSome])
noncomputable def plF (s : SyD) (l : List (Sh.T shSynodStep)) : SyD × List Bool := l.foldl plT (s, [])
theorem pl_take {s : SyD} {l : List (Sh.T shSynodStep)} {k : Nat} (h : k < l.length) : plF s (l.take (k + 1)) = plT (plF s (l.take k)) l[k] := by
  unfold plF; rw [List.take_succ_eq_append_getElem h, List.foldl_append]; rfl
theorem pl_len {s : SyD} {l : List (Sh.T shSynodStep)} : ∀ {k : Nat}, k ≤ l.length → (plF s (l.take k)).2.length = k
  | 0, _ => by rw [List.take_zero]; rfl
  | k + 1, h => by rw [pl_take h]; show ((plF s (l.take k)).2 ++ [_]).length = _; rw [List.length_append, pl_len (by omega)]; rfl
theorem pl_good {s : SyD} {l : List (Sh.T shSynodStep)} (hg : goodS s.1 s.2) : ∀ {k : Nat}, k ≤ l.length → goodS (plF s (l.take k)).1.1 (plF s (l.take k)).1.2
  | 0, _ => by rw [List.take_zero]; exact hg
  | k + 1, h => by
    have ih := pl_good hg (k := k) (l := l) (by omega)
    rw [pl_take h]
    generalize plF s (l.take k) = S at ih ⊢
    unfold plT
    cases e : stB S.1.1 S.1.2 l[k].1 l[k].2.1 l[k].2.2.1 with
    | none => exact ih
    | some x => exact good_step ih e
end Go.Proofs.Ytmhkfangfhanlaa
/- Synods: at most one value is chosen, and it stays (Lamport). Mathematics alone. -/
namespace Go.Proofs.Ytmhkfangfhanlaa
open Go.RowKit
set_option linter.unusedVariables false
set_option linter.unusedSimpArgs false

theorem ints_len : ∀ (l : List Int) (a n : Int), (∀ x ∈ l, a ≤ x ∧ x < n) → l.Pairwise (fun x y => x < y) → a ≤ n → (l.length : Int) ≤ n - a
  | [], a, n, _, _, h => by simp; omega
  | x :: t, a, n, h1, h2, h => by
    have hx := h1 x (List.mem_cons_self ..)
    rw [List.pairwise_cons] at h2
    have := ints_len t (x + 1) n (fun y hy => ⟨by have := h2.1 y hy; omega, (h1 y (List.mem_cons_of_mem _ hy)).2⟩) h2.2 (by omega)
    rw [List.length_cons]; omega
/-- Two lists that are together more than there are have one in common. -/
theorem meet_lists : ∀ (l1 l2 : List Int) (a n : Int), (∀ x ∈ l1, a ≤ x ∧ x < n) → (∀ x ∈ l2, a ≤ x ∧ x < n) → l1.Pairwise (fun x y => x < y) → l2.Pairwise (fun x y => x < y) → a ≤ n → n - a < (l1.length : Int) + l2.length → ∃ x, x ∈ l1 ∧ x ∈ l2
  | [], l2, a, n, h1, h2, p1, p2, h, hl => by have := ints_len l2 a n h2 p2 h; simp at hl; omega
  | x :: t1, [], a, n, h1, h2, p1, p2, h, hl => by have := ints_len (x :: t1) a n h1 p1 h; simp at hl this; omega
  | x :: t1, y :: t2, a, n, h1, h2, p1, p2, h, hl => by
    have hx := h1 x (List.mem_cons_self ..)
    have hy := h2 y (List.mem_cons_self ..)
    have q1 := List.pairwise_cons.1 p1
    have q2 := List.pairwise_cons.1 p2
    rcases Int.lt_trichotomy x y with e | e | e
    · obtain ⟨z, z1, z2⟩ := meet_lists t1 (y :: t2) (x + 1) n (fun z hz => ⟨by have := q1.1 z hz; omega, (h1 z (List.mem_cons_of_mem _ hz)).2⟩) (fun z hz => ⟨by rcases List.mem_cons.1 hz with r | r; (· rw [r]; omega); (have := q2.1 z r; omega), (h2 z hz).2⟩) q1.2 p2 (by omega) (by simp only [List.length_cons] at hl ⊢; omega)
      exact ⟨z, List.mem_cons_of_mem _ z1, z2⟩
    · exact ⟨x, List.mem_cons_self .., e ▸ List.mem_cons_self ..⟩
    · obtain ⟨z, z1, z2⟩ := meet_lists (x :: t1) t2 (y + 1) n (fun z hz => ⟨by rcases List.mem_cons.1 hz with r | r; (· rw [r]; omega); (have := q1.1 z r; omega), (h1 z hz).2⟩) (fun z hz => ⟨by have := q2.1 z hz; omega, (h2 z (List.mem_cons_of_mem _ hz)).2⟩) p1 q2.2 (by omega) (by simp only [List.length_cons] at hl ⊢; omega)
      exact ⟨z, z1, List.mem_cons_of_mem _ z2⟩
  termination_by l1 l2 => l1.length + l2.length
/-- The greatest ballot that was told of. -/
theorem fix_max (own : ByteArray) (l : List (Sh.T shPromise)) : (∀ x ∈ l, pbl x ≤ (fixF own l).1) ∧ (0 < (fixF own l).1 → ∃ x ∈ l, pbl x = (fixF own l).1 ∧ pvl x = fixV own l) := by
  have key : ∀ (l : List (Sh.T shPromise)) (s : Int × ByteArray), (s.1 ≤ (l.foldl fixS s).1) ∧ (∀ x ∈ l, pbl x ≤ (l.foldl fixS s).1) ∧ (l.foldl fixS s = s ∨ ∃ x ∈ l, pbl x = (l.foldl fixS s).1 ∧ pvl x = (l.foldl fixS s).2) := by
    intro l
    induction l with
    | nil => intro s; exact ⟨Int.le_refl _, (fun x hx => by cases hx), Or.inl rfl⟩
    | cons x t ih =>
      intro s
      obtain ⟨h1, h2, h3⟩ := ih (fixS s x)
      have e : (x :: t).foldl fixS s = t.foldl fixS (fixS s x) := rfl
      rw [e]
      have hs : s.1 ≤ (fixS s x).1 ∧ pbl x ≤ (fixS s x).1 ∧ (fixS s x = s ∨ (pbl x = (fixS s x).1 ∧ pvl x = (fixS s x).2)) := by
        unfold fixS
        split
        · rename_i q; exact ⟨Int.le_of_lt q, Int.le_refl _, Or.inr ⟨rfl, rfl⟩⟩
        · rename_i q; exact ⟨Int.le_refl _, by omega, Or.inl rfl⟩
      refine ⟨by omega, fun y hy => ?_, ?_⟩
      · rcases List.mem_cons.1 hy with r | r
        · rw [r]; omega
        · exact h2 y r
      · rcases h3 with r | ⟨y, hy, r⟩
        · rcases hs.2.2 with q | q
          · exact Or.inl (r.trans q)
          · exact Or.inr ⟨x, List.mem_cons_self .., by rw [r]; exact q.1, by rw [r]; exact q.2⟩
        · exact Or.inr ⟨y, List.mem_cons_of_mem _ hy, r⟩
  obtain ⟨h1, h2, h3⟩ := key l (0, own)
  refine ⟨h2, fun hp => ?_⟩
  rcases h3 with r | r
  · have : (fixF own l).1 = 0 := congrArg Prod.fst r
    omega
  · exact r
/-- A proposer's votes, value, promises; an acceptor's parts. -/
def vto (pr : List (Sh.T shProposer)) (c : Nat) : List (Sh.T .int) := (pr.getD c pz1).2.2.2.2.1
def vlo (pr : List (Sh.T shProposer)) (c : Nat) : ByteArray := (pr.getD c pz1).2.2.2.1
def fxo (pr : List (Sh.T shProposer)) (c : Nat) : Bool := (pr.getD c pz1).2.2.1
def pmo (pr : List (Sh.T shProposer)) (c : Nat) : List (Sh.T shPromise) := (pr.getD c pz1).2.1
def prA (ac : List (Sh.T shAcceptor)) (i : Nat) : Int := (ac.getD i az1).1
def blA (ac : List (Sh.T shAcceptor)) (i : Nat) : Int := (ac.getD i az1).2.1
def vlA (ac : List (Sh.T shAcceptor)) (i : Nat) : ByteArray := (ac.getD i az1).2.2.1
theorem getD_set {α : Type} (l : List α) (k : Nat) (y d : α) (c : Nat) (hk : k < l.length) : (l.set k y).getD c d = if c = k then y else l.getD c d := by
  rw [List.getD_eq_getElem?_getD, List.getD_eq_getElem?_getD, List.getElem?_set]
  by_cases e : k = c
  · subst e; simp [hk]
  · rw [if_neg e, if_neg (Ne.symm e)]
/-- What holds of a synod that was played. -/
structure Played (ac : List (Sh.T shAcceptor)) (pr : List (Sh.T shProposer)) : Prop where
  good : goodS ac pr
  voted : ∀ (i c : Nat), (i : Int) ∈ vto pr c → (c : Int) + 1 ≤ blA ac i
  held : ∀ (i c : Nat), blA ac i = (c : Int) + 1 → (i : Int) ∈ vto pr c ∧ vlA ac i = vlo pr c
  told : ∀ (k i : Nat), ∀ x ∈ pmo pr k, pnd x = (i : Int) → (k : Int) + 1 ≤ prA ac i ∧ (∀ c : Nat, pbl x = (c : Int) + 1 → pvl x = vlo pr c ∧ (i : Int) ∈ vto pr c) ∧ (∀ c : Nat, pbl x < (c : Int) + 1 → c < k → (i : Int) ∉ vto pr c)
theorem pro_at {ac : List (Sh.T shAcceptor)} {pr : List (Sh.T shProposer)} (hg : goodS ac pr) (c : Nat) : (c < pr.length ∧ proQ ((c : Int) + 1) ac.length (pr.getD c pz1).1 (pmo pr c) (fxo pr c) (vlo pr c) (vto pr c)) ∨ (vto pr c = [] ∧ fxo pr c = false ∧ pmo pr c = []) := by
  rcases Nat.lt_or_ge c pr.length with h | h
  · left
    have e : pr.getD c pz1 = pr[c] := by rw [List.getD_eq_getElem?_getD, List.getElem?_eq_getElem h]; rfl
    refine ⟨h, ?_⟩
    unfold pmo fxo vlo vto
    rw [e]
    exact hg.2.2.2 c h h
  · right
    have e : pr.getD c pz1 = pz1 := by rw [List.getD_eq_getElem?_getD, List.getElem?_eq_none h]; rfl
    unfold pmo fxo vto
    rw [e]
    exact ⟨rfl, rfl, rfl⟩
theorem vote_fixed {ac : List (Sh.T shAcceptor)} {pr : List (Sh.T shProposer)} (hg : goodS ac pr) {c : Nat} {x : Int} (h : x ∈ vto pr c) : fxo pr c = true := by
  rcases pro_at hg c with ⟨_, hq⟩ | ⟨e, _⟩
  · cases hf : fxo pr c
    · have := (hq.2.2.2.2.1 hf).2
      rw [List.length_eq_zero_iff.1 this] at h; cases h
    · rfl
  · rw [e] at h; cases h
/-- The promise of Lamport's synod. -/
theorem Played.safe {ac : List (Sh.T shAcceptor)} {pr : List (Sh.T shProposer)} (h : Played ac pr) {c : Nat} (hc : (ac.length : Int) < 2 * ((vto pr c).length : Int)) : ∀ (k : Nat), c ≤ k → fxo pr k = true → vlo pr k = vlo pr c := by
  intro k
  induction k using Nat.strongRecOn with
  | ind k ih =>
    intro hck hf
    rcases Nat.eq_or_lt_of_le hck with e | hlt
    · rw [e]
    · rcases pro_at h.good k with ⟨hk, hq⟩ | ⟨_, e, _⟩
      case inr => rw [e] at hf; cases hf
      rcases pro_at h.good c with ⟨hcl, hcq⟩ | ⟨e, _⟩
      case inr => rw [e] at hc; simp at hc; omega
      have hn := h.good.1
      have hmaj : (ac.length : Int) < 2 * ((pmo pr k).length : Int) := by have := hq.2.2.1; rw [hf] at this; exact of_decide_eq_true this.symm
      obtain ⟨z, z1, z2⟩ := meet_lists (vto pr c) ((pmo pr k).map pnd) 0 ac.length (fun x hx => by have := ris_mem hcq.2.2.2.2.2 x hx; omega) (fun x hx => by
        obtain ⟨y, hy, rfl⟩ := List.mem_map.1 hx
        have := (hq.2.1.1 y hy).1; omega) (ris_pair hcq.2.2.2.2.2) (by rw [List.pairwise_map]; exact hq.2.1.2) (by omega) (by rw [List.length_map]; omega)
      obtain ⟨x, hx, hxz⟩ := List.mem_map.1 z2
      have hz0 := (ris_mem hcq.2.2.2.2.2 z z1).1
      obtain ⟨i, rfl⟩ : ∃ i : Nat, z = (i : Int) := ⟨z.toNat, by omega⟩
      have hge : (c : Int) + 1 ≤ pbl x := by
        rcases Int.lt_or_le (pbl x) ((c : Int) + 1) with q | q
        · exact absurd z1 ((h.told k i x hx hxz).2.2 c q hlt)
        · exact q
      obtain ⟨m1, m2⟩ := fix_max (pr.getD k pz1).1 (pmo pr k)
      have hm := m1 x hx
      obtain ⟨y, hy, hyb, hyv⟩ := m2 (by omega)
      have hyl := (hq.2.1.1 y hy).2.1.2
      have hyn := (hq.2.1.1 y hy).1.1
      obtain ⟨j, hj⟩ : ∃ j : Nat, pnd y = (j : Int) := ⟨(pnd y).toNat, by omega⟩
      obtain ⟨d, hd⟩ : ∃ d : Nat, pbl y = (d : Int) + 1 := ⟨(pbl y - 1).toNat, by omega⟩
      have ht := (h.told k j y hy hj).2.1 d hd
      have hv : vlo pr k = vlo pr d := by
        have := hq.2.2.2.1 hf
        rw [this, ← hyv]; exact ht.1
      rw [hv]
      exact ih d (by omega) (by omega) (vote_fixed h.good ht.2)
end Go.Proofs.Ytmhkfangfhanlaa
/- Synods: what holds between the steps of a play. -/
namespace Go.Proofs.Ytmhkfangfhanlaa
open Go.RowKit
set_option linter.unusedVariables false
set_option linter.unusedSimpArgs false

theorem inf_bool : (Try.prog.info? 4).map (fun i => (i.zero, i.size, i.bytes)) = some (some (.bool false), 1, 1) := by kernel_rfl
abbrev blC (l : List Bool) : List Value := List.flatMap (valC .bool) l
/-- Between the steps: the answer's cell, the synod in box b, what was done. -/
def PlS (w : World) (b : Nat) (wr : World) (S : SyD) (c0 c1 v : Value) (D : List Bool) : Prop :=
  Bx wr w.heap.size [.slice none 0 0, .slice none 0 0] ∧ Bx wr b [c0, c1] ∧ (∃ So Sd : Nat → Prop, Own wr shSynod [c0, c1] (S.1, S.2, ()) So ∧ OwnX wr (w.heap.size + 1) (.list .bool 4) [v] D Sd ∧ (∀ k, So k → w.heap.size + 1 ≤ k ∧ k < wr.heap.size ∧ k ≠ b ∧ ¬ Sd k) ∧ (∀ k, Sd k → w.heap.size + 1 ≤ k ∧ k < wr.heap.size ∧ k ≠ b)) ∧ Below w.heap.size w wr ∧ w.heap.size < b
section
variable {w wr W : World} {b : Nat} {S S' : SyD} {c0 c1 v : Value} {D : List Bool}
theorem PlS.next (h : PlS w b wr S c0 c1 v D) (hb : Below wr.heap.size wr W) : PlS w b W S c0 c1 v D := by
  obtain ⟨h1, h2, ⟨So, Sd, h3, h4, h5, h6⟩, h7, h8⟩ := h
  have hz := hb.size
  exact ⟨h1.next hb, h2.next hb, ⟨So, Sd, h3.next hb, h4.next hb, fun k hk => ⟨(h5 k hk).1, Nat.lt_of_lt_of_le (h5 k hk).2.1 hz, (h5 k hk).2.2⟩, fun k hk => ⟨(h6 k hk).1, Nat.lt_of_lt_of_le (h6 k hk).2.1 hz, (h6 k hk).2.2⟩⟩, below_next h7 hb, h8⟩
/-- The synod is replaced by a newer one. -/
theorem PlS.put {u0 u1 : Value} {lo hi : Nat} (h : PlS w b wr S c0 c1 v D) (hb : Below wr.heap.size wr W) (hO : Own W shSynod [u0, u1] (S'.1, S'.2, ()) (Btw lo hi)) (hlo : wr.heap.size ≤ lo) (hhi : hi ≤ W.heap.size) : PlS w b ((W.setCell ⟨b, 0, none⟩ u0).setCell ⟨b, 1, none⟩ u1) S' u0 u1 v D := by
  obtain ⟨h1, h2, ⟨So, Sd, h3, h4, h5, h6⟩, h7, h8⟩ := h
  have hz := hb.size
  have hbz := h2.2
  have nd : ¬ Sd b := fun q => (h6 b q).2.2 rfl
  refine ⟨((h1.next hb).other (by omega)).other (by omega), ((h2.next hb).set (k := 0) (by simp) u0).set (k := 1) (by simp) u1, ⟨Btw lo hi, Sd, (hO.set (p := ⟨b, 0, none⟩) (by simp only [Btw]; omega) u0).set (p := ⟨b, 1, none⟩) (by simp only [Btw]; omega) u1, ((h4.next hb).set (p := ⟨b, 0, none⟩) nd u0).set (p := ⟨b, 1, none⟩) nd u1, fun k hk => ?_, fun k hk => ?_⟩, ((below_next h7 hb).setCell (p := ⟨b, 0, none⟩) (by simp; omega) u0).setCell (p := ⟨b, 1, none⟩) (by simp; omega) u1, h8⟩
  · have hw := h7.size
    simp only [Btw] at hk
    simp only [World.size_setCell]
    exact ⟨by omega, by omega, by omega, fun q => by have := (h6 k q).2.1; omega⟩
  · have := h6 k hk
    simp only [World.size_setCell]
    exact ⟨this.1, by omega, this.2.2⟩
theorem blC_set : ∀ (D : List Bool) (k : Nat) (u : Bool), (blC D).set k (.bool u) = blC (D.set k u)
  | [], _, _ => rfl
  | x :: t, 0, u => rfl
  | x :: t, k + 1, u => by
    have := blC_set t k u
    show (Value.bool x :: blC t).set (k + 1) (.bool u) = Value.bool x :: blC (t.set k u)
    rw [List.set_cons_succ, this]
theorem blC_at : ∀ (D : List Bool) (k : Nat) (h : k < D.length), (blC D)[k]? = some (.bool D[k])
  | [], _, h => absurd h (Nat.not_lt_zero _)
  | x :: t, 0, _ => rfl
  | x :: t, k + 1, h => by
    have := blC_at t k (by simpa using h)
    show (Value.bool x :: blC t)[k + 1]? = _
    rw [List.getElem?_cons_succ, this]; rfl
/-- That a step was done is written. -/
theorem PlS.did {g cap n k : Nat} (h : PlS w b W S c0 c1 (.slice (some ⟨g, 0, none⟩) n cap) D) (hn : n = D.length) (hk : k < n) : (∃ u, W.cell? ⟨g, k, none⟩ = some (.bool u)) ∧ W.frozen? ⟨g, k, none⟩ = false ∧ g < W.heap.size ∧ PlS w b (W.setCell ⟨g, k, none⟩ (.bool true)) S c0 c1 (.slice (some ⟨g, 0, none⟩) n cap) (D.set k true) := by
  subst hn
  obtain ⟨h1, h2, ⟨So, Sd, h3, h4, h5, h6⟩, h7, h8⟩ := h
  obtain ⟨row, hrS⟩ := h4.flat rfl
  have hg : Sd g := hrS g rfl
  have hg6 := h6 g hg
  have row : W.ownsRow (w.heap.size + 1) 4 1 (.slice (some ⟨g, 0, none⟩) D.length cap) D.length (blC D) := row
  have hst := (row.stored k (.bool true)).1
  rw [blC_set] at hst
  have hst : (W.setCell ⟨g, k, none⟩ (.bool true)).ownsRow (w.heap.size + 1) 4 1 (.slice (some ⟨g, 0, none⟩) D.length cap) (D.set k true).length (blC (D.set k true)) := by rw [List.length_set]; exact hst
  refine ⟨⟨D[k], by rw [row.cellAt k (by omega), blC_at D k hk]⟩, row.frozenAt k, hg6.2.1, h1.other (by omega), h2.other (Ne.symm hg6.2.2), ⟨So, Sd, h3.set (p := ⟨g, k, none⟩) (fun q => (h5 g q).2.2.2 hg) _, OwnX.of_flat (e := .bool) rfl hst (fun j hj => by cases hj; exact hg), fun j hj => ?_, fun j hj => ?_⟩, h7.setCell (p := ⟨g, k, none⟩) (by show w.heap.size ≤ g; omega) _, h8⟩
  · have := h5 j hj; simp only [World.size_setCell]; exact this
  · have := h6 j hj; simp only [World.size_setCell]; exact this
/-- What was done is appended. -/
theorem PlS.app {W9 : World} {v9 : Value} {u : Bool} {S9 : Nat → Prop} (h : PlS w b W S c0 c1 v D) (hO : OwnX W9 (w.heap.size + 1) (.list .bool 4) [v9] (D ++ [u]) S9) (hg : W.grownBy W9 v.ownBlock) (hwh : v9.ownBlock = v.ownBlock ∨ v9.ownBlock = some W.heap.size) : PlS w b W9 S c0 c1 v9 (D ++ [u]) := by
  obtain ⟨h1, h2, ⟨So, Sd, h3, h4, h5, h6⟩, h7, h8⟩ := h
  have hz := hg.size
  obtain ⟨row, hrS⟩ := h4.flat rfl
  obtain ⟨row9, _⟩ := hO.flat rfl
  have hl : ∀ k, v.ownBlock = some k → w.heap.size + 1 ≤ k ∧ k < W.heap.size ∧ k ≠ b := fun k hk => h6 k (hrS k hk)
  have h9 : ∀ k, v9.ownBlock = some k → k = W.heap.size ∨ v.ownBlock = some k := fun k hk => by
    rcases hwh with q | q
    · exact Or.inr (q ▸ hk)
    · rw [q] at hk; cases hk; exact Or.inl rfl
  have hbz := h2.2
  refine ⟨h1.grow hg (fun q => by have := (hl _ q.symm).1; omega), h2.grow hg (fun q => (hl _ q.symm).2.2 rfl), ⟨So, fun k => v9.ownBlock = some k, h3.keep hg.size (fun k hk hs => hg.block k hk (fun q => (h5 k hs).2.2.2 (hrS k q.symm))), OwnX.of_flat (e := .bool) rfl row9 (fun k hk => hk), fun k hk => ?_, fun k hk => ?_⟩, h7.grown hg h7.size (fun k hk => by have := (hl k hk).1; omega), h8⟩
  · have := h5 k hk
    refine ⟨this.1, by omega, this.2.2.1, fun q => ?_⟩
    rcases h9 k q with r | r
    · omega
    · exact this.2.2.2 (hrS k r)
  · have := row9.lt k hk
    refine ⟨this.1, this.2, fun e => ?_⟩
    rcases h9 k hk with r | r
    · omega
    · exact (hl k r).2.2 e
end
/-- A synod, what was done, and a Bool are answered. -/
def PlP (A : List (Sh.T shAcceptor)) (P : List (Sh.T shProposer)) (D : List Bool) (ok : Bool) (w : World) (r : Ending) (w' : World) : Prop :=
  ∃ (c0 c1 v : Value) (S1 S2 : Nat → Prop), r = .returned (.tuple #[.agg #[c0, c1], v, .bool ok]) ∧ Own w' shSynod [c0, c1] (A, P, ()) S1 ∧ Own w' (.list .bool) [v] D S2 ∧ (∀ k, S1 k → Btw w.heap.size w'.heap.size k ∧ ¬ S2 k) ∧ (∀ k, S2 k → Btw w.heap.size w'.heap.size k) ∧ Below w.heap.size w w'
theorem PlP.zero {w w' : World} (hb : Below w.heap.size w w') : PlP [] [] [] false w (.returned (.tuple #[.agg #[.slice none 0 0, .slice none 0 0], .slice none 0 0, .bool false])) w' :=
  ⟨_, _, _, fun _ => False, fun _ => False, rfl, mkown_Synod (Own.none (S := fun _ => False) (Nat.zero_le _)) (Own.none (S := fun _ => False) (Nat.zero_le _)) (fun k e => e.elim) (fun k e => e.elim) (fun k e => e.elim), Own.none (S := fun _ => False) (Nat.zero_le _), fun k q => q.elim, fun k q => q.elim, hb⟩
theorem PlS.done {w W : World} {b : Nat} {S : SyD} {c0 c1 v : Value} {D : List Bool} (h : PlS w b W S c0 c1 v D) : PlP S.1 S.2 D true w (.returned (.tuple #[.agg #[c0, c1], v, .bool true])) ((W.setCell ⟨w.heap.size, 0, none⟩ c0).setCell ⟨w.heap.size, 1, none⟩ c1) := by
  obtain ⟨h1, h2, ⟨So, Sd, h3, h4, h5, h6⟩, h7, h8⟩ := h
  have n1 : ¬ So w.heap.size := fun q => by have := (h5 _ q).1; omega
  have n2 : ¬ Sd w.heap.size := fun q => by have := (h6 _ q).1; omega
  refine ⟨c0, c1, v, So, Sd, rfl, (h3.set (p := ⟨w.heap.size, 0, none⟩) n1 _).set (p := ⟨w.heap.size, 1, none⟩) n1 _, ((h4.set (p := ⟨w.heap.size, 0, none⟩) n2 _).set (p := ⟨w.heap.size, 1, none⟩) n2 _).own, fun k hk => ?_, fun k hk => ?_, (h7.setCell (p := ⟨w.heap.size, 0, none⟩) (Nat.le_refl _) _).setCell (p := ⟨w.heap.size, 1, none⟩) (Nat.le_refl _) _⟩
  · have := h5 k hk; simp only [Btw, World.size_setCell]; exact ⟨by omega, this.2.2.2⟩
  · have := h6 k hk; simp only [Btw, World.size_setCell]; omega
/-- What PlaySynod answers. -/
def plOk (m : Int) (vs : List (Sh.T .str)) (l : List (Sh.T shSynodStep)) : Prop := nwP m vs ∧ l.length ≤ 120
noncomputable def pl0 (m : Int) (vs : List (Sh.T .str)) : SyD := (List.replicate m.toNat z0A, List.map mkPr vs)
noncomputable def plA (m : Int) (vs : List (Sh.T .str)) (l : List (Sh.T shSynodStep)) : SyD × List Bool := if tf (plOk m vs l) then plF (pl0 m vs) l else (([], []), [])
theorem pl_no {m : Int} {vs : List (Sh.T .str)} {l : List (Sh.T shSynodStep)} (h : ¬ plOk m vs l) : plA m vs l = (([], []), []) ∧ tf (plOk m vs l) = false := by unfold plA; rw [tf_no h]; exact ⟨rfl, rfl⟩
theorem pl_yes {m : Int} {vs : List (Sh.T .str)} {l : List (Sh.T shSynodStep)} (h : plOk m vs l) : plA m vs l = plF (pl0 m vs) l ∧ tf (plOk m vs l) = true := by unfold plA; rw [tf_yes h]; exact ⟨rfl, rfl⟩
def PlR (m : Int) (vs : List (Sh.T .str)) (l : List (Sh.T shSynodStep)) (w : World) (r : Ending) (w' : World) : Prop := PlP (plA m vs l).1.1 (plA m vs l).1.2 (plA m vs l).2 (tf (plOk m vs l)) w r w'
theorem PlR.no {m : Int} {vs : List (Sh.T .str)} {l : List (Sh.T shSynodStep)} {w w' : World} (h : ¬ plOk m vs l) (hb : Below w.heap.size w w') : PlR m vs l w (.returned (.tuple #[.agg #[.slice none 0 0, .slice none 0 0], .slice none 0 0, .bool false])) w' := by
  obtain ⟨e1, e2⟩ := pl_no h
  unfold PlR; rw [e1, e2]; exact PlP.zero hb
/-- One step of a play. -/
theorem pl_done {s : SyD} {l : List (Sh.T shSynodStep)} {k : Nat} (h : k < l.length) {acc : Bool} {bal node : Int} (hX : l[k] = (acc, bal, node, ())) (E : Option SyD) (hE : stB (plF s (l.take k)).1.1 (plF s (l.take k)).1.2 acc bal node = E) : plF s (l.take (k + 1)) = (E.getD (plF s (l.take k)).1, (plF s (l.take k)).2 ++ [E.isSome]) := by
  rw [pl_take h, hX, ← hE]; rfl
theorem pl_rest {D : List Bool} {k n : Nat} (hD : D.length = k) (h : k < n) : D ++ List.replicate (n - k) false = (D ++ [false]) ++ List.replicate (n - (k + 1)) false := by
  have e : n - k = (n - (k + 1)) + 1 := by omega
  rw [e, List.replicate_succ, List.append_assoc]; rfl
theorem pl_set {D : List Bool} {k n : Nat} (hD : D.length = k) (h : k < n) : (D ++ List.replicate (n - k) false).set k true = (D ++ [true]) ++ List.replicate (n - (k + 1)) false := by
  have e : n - k = (n - (k + 1)) + 1 := by omega
  rw [e, List.replicate_succ, List.set_append_right _ _ (by omega), hD, Nat.sub_self, List.append_assoc]; rfl
end Go.Proofs.Ytmhkfangfhanlaa
/- Synods: what was played stays played, and what is chosen stays chosen. Mathematics alone. -/
namespace Go.Proofs.Ytmhkfangfhanlaa
open Go.RowKit
set_option linter.unusedVariables false
set_option linter.unusedSimpArgs false

theorem ins_mem {l : List (Sh.T .int)} {x y : Int} : y ∈ insI l x ↔ y = x ∨ y ∈ l := by
  have e : ∀ k, y ∈ l ↔ y ∈ l.take k ∨ y ∈ l.drop k := fun k => by rw [← List.mem_append, List.take_append_drop]
  unfold insI
  rw [List.mem_append, List.mem_cons, e (cntI l x)]
  constructor
  · rintro (q | q | q)
    · exact Or.inr (Or.inl q)
    · exact Or.inl q
    · exact Or.inr (Or.inr q)
  · rintro (q | q | q)
    · exact Or.inr (Or.inl q)
    · exact Or.inl q
    · exact Or.inr (Or.inr q)
/-- What may change from one synod to a later one. -/
def Later (s t : SyD) : Prop := s.1.length = t.1.length ∧ s.2.length = t.2.length ∧ ∀ c, (vto s.2 c).length ≤ (vto t.2 c).length ∧ (fxo s.2 c = true → fxo t.2 c = true ∧ vlo t.2 c = vlo s.2 c) ∧ (s.2.getD c pz1).1 = (t.2.getD c pz1).1
theorem Later.refl (s : SyD) : Later s s := ⟨rfl, rfl, fun c => ⟨Nat.le_refl _, fun h => ⟨h, rfl⟩, rfl⟩⟩
theorem Later.trans {s t u : SyD} (h : Later s t) (k : Later t u) : Later s u :=
  ⟨h.1.trans k.1, h.2.1.trans k.2.1, fun c => ⟨Nat.le_trans (h.2.2 c).1 (k.2.2 c).1, fun q => by
    obtain ⟨a, b⟩ := (h.2.2 c).2.1 q
    obtain ⟨a', b'⟩ := (k.2.2 c).2.1 a
    exact ⟨a', b'.trans b⟩, (h.2.2 c).2.2.trans (k.2.2 c).2.2⟩⟩
theorem played_step {ac : List (Sh.T shAcceptor)} {pr : List (Sh.T shProposer)} {acc : Bool} {bal node : Int} {x : SyD} (hp : Played ac pr) (h : stB ac pr acc bal node = some x) : Played x.1 x.2 ∧ Later (ac, pr) x := by
  have hgx := good_step hp.good h
  by_cases hI : stI ac pr bal node
  case neg => rw [stB_no hI] at h; cases h
  obtain ⟨k, rfl⟩ : ∃ k : Nat, bal = (k : Int) + 1 := ⟨(bal - 1).toNat, by have := hI.1; omega⟩
  obtain ⟨i, rfl⟩ : ∃ i : Nat, node = (i : Int) := ⟨node.toNat, by have := hI.2; omega⟩
  have hk : k < pr.length := by have := hI.1; omega
  have hi : i < ac.length := by have := hI.2; omega
  obtain ⟨p, b, v, hA⟩ : ∃ (p b : Int) (v : ByteArray), ac[i] = (p, b, v, ()) := ⟨_, _, _, rfl⟩
  obtain ⟨own, pms, fx, val, vt, hP⟩ : ∃ (own : ByteArray) (pms : List (Sh.T shPromise)) (fx : Bool) (val : ByteArray) (vt : List (Sh.T .int)), pr[k] = (own, pms, fx, val, vt, ()) := ⟨_, _, _, _, _, rfl⟩
  rw [stB_at hi hk hA hP] at h
  have ha : accQ pr.length p b v := by have := hp.good.2.2.1 ac[i] (List.getElem_mem hi); rw [hA] at this; exact this
  have eA : ac.getD i az1 = (p, b, v, ()) := by rw [List.getD_eq_getElem?_getD, List.getElem?_eq_getElem hi, hA]; rfl
  have eP : pr.getD k pz1 = (own, pms, fx, val, vt, ()) := by rw [List.getD_eq_getElem?_getD, List.getElem?_eq_getElem hk, hP]; rfl
  have e1 : prA ac i = p := by unfold prA; rw [eA]
  have e2 : blA ac i = b := by unfold blA; rw [eA]
  have e3 : vlA ac i = v := by unfold vlA; rw [eA]
  have f1 : vto pr k = vt := by unfold vto; rw [eP]
  have f2 : vlo pr k = val := by unfold vlo; rw [eP]
  have f3 : fxo pr k = fx := by unfold fxo; rw [eP]
  have f4 : pmo pr k = pms := by unfold pmo; rw [eP]
  obtain ⟨y, hy, rfl⟩ := Option.map_eq_some_iff.1 h
  have sA : ∀ j, (ac.set i y.1).getD j az1 = if j = i then y.1 else ac.getD j az1 := fun j => getD_set ac i y.1 az1 j hi
  have sP : ∀ c, (pr.set k y.2).getD c pz1 = if c = k then y.2 else pr.getD c pz1 := fun c => getD_set pr k y.2 pz1 c hk
  unfold stE at hy
  split at hy
  · split at hy
    · rename_i ht
      cases hy
      simp only [tkV, Bool.and_eq_true, decide_eq_true_eq, Bool.not_eq_true'] at ht
      have hfx : fx = true := ht.1
      have hpk : p ≤ (k : Int) + 1 := ht.2.1
      have vN : ∀ c, vto (pr.set k (own, pms, fx, val, insI vt i, ())) c = if c = k then insI vt i else vto pr c := fun c => by unfold vto; rw [sP c]; split <;> rfl
      have lN : ∀ c, vlo (pr.set k (own, pms, fx, val, insI vt i, ())) c = vlo pr c := fun c => by
        unfold vlo; rw [sP c]; split
        · rename_i e; rw [e, eP]
        · rfl
      have xN : ∀ c, fxo (pr.set k (own, pms, fx, val, insI vt i, ())) c = fxo pr c := fun c => by
        unfold fxo; rw [sP c]; split
        · rename_i e; rw [e, eP]
        · rfl
      have mN : ∀ c, pmo (pr.set k (own, pms, fx, val, insI vt i, ())) c = pmo pr c := fun c => by
        unfold pmo; rw [sP c]; split
        · rename_i e; rw [e, eP]
        · rfl
      have up : ∀ (c : Nat) (z : Int), z ∈ vto pr c → z ∈ vto (pr.set k (own, pms, fx, val, insI vt i, ())) c := fun c z hz => by
        rw [vN]; split
        · rename_i e; subst e; rw [f1] at hz; exact ins_mem.2 (Or.inr hz)
        · exact hz
      have dn : ∀ (c : Nat) (z : Int), z ∈ vto (pr.set k (own, pms, fx, val, insI vt i, ())) c → (c = k ∧ z = (i : Int)) ∨ z ∈ vto pr c := fun c z hz => by
        rw [vN] at hz; split at hz
        · rename_i e; subst e
          rcases ins_mem.1 hz with q | q
          · exact Or.inl ⟨rfl, q⟩
          · rw [f1]; exact Or.inr q
        · exact Or.inr hz
      refine ⟨⟨hgx, fun j c hj => ?_, fun j c hj => ?_, fun m j z hz hzj => ?_⟩, ⟨List.length_set.symm, List.length_set.symm, fun c => ⟨?_, fun hf => ⟨(xN c).trans hf, lN c⟩, ?_⟩⟩⟩
      · show (c : Int) + 1 ≤ blA (ac.set i _) j
        unfold blA; rw [sA]
        rcases dn c j hj with ⟨rfl, q⟩ | q
        · have : j = i := by omega
          rw [if_pos this]; exact Int.le_refl _
        · split
          · rename_i e; subst e
            have h1 := hp.voted j c q
            rw [e2] at h1
            have h2 := ha.2.1.2
            show (c : Int) + 1 ≤ (k : Int) + 1
            omega
          · exact hp.voted j c q
      · have hj : blA (ac.set i ((k : Int) + 1, (k : Int) + 1, val, ())) j = (c : Int) + 1 := hj
        show (j : Int) ∈ vto (pr.set k _) c ∧ vlA (ac.set i _) j = vlo (pr.set k _) c
        rw [lN]
        unfold blA at hj; unfold vlA
        rw [sA] at hj ⊢
        split at hj
        · rename_i e; subst e
          have hck : c = k := by have hj : (k : Int) + 1 = (c : Int) + 1 := hj; omega
          subst hck
          rw [vN, if_pos rfl, if_pos rfl]
          exact ⟨ins_mem.2 (Or.inl rfl), f2.symm⟩
        · rename_i e
          rw [if_neg e]
          obtain ⟨q1, q2⟩ := hp.held j c hj
          exact ⟨up c j q1, q2⟩
      · have hz : z ∈ pmo (pr.set k (own, pms, fx, val, insI vt i, ())) m := hz
        rw [mN] at hz
        obtain ⟨q1, q2, q3⟩ := hp.told m j z hz hzj
        refine ⟨?_, fun c hc => ?_, fun c hc hcm hv => ?_⟩
        · show (m : Int) + 1 ≤ prA (ac.set i _) j
          unfold prA; rw [sA]
          split
          · rename_i e; subst e; rw [e1] at q1; show (m : Int) + 1 ≤ (k : Int) + 1; omega
          · exact q1
        · obtain ⟨r1, r2⟩ := q2 c hc
          exact ⟨r1.trans (lN c).symm, up c j r2⟩
        · rcases dn c j hv with ⟨rfl, e⟩ | q
          · have : j = i := by omega
            subst this
            rw [e1] at q1
            omega
          · exact q3 c hc hcm q
      · show (vto pr c).length ≤ (vto (pr.set k _) c).length
        rw [vN]; split
        · rename_i e; subst e; rw [f1, insI_len]; omega
        · exact Nat.le_refl _
      · show (pr.getD c pz1).1 = ((pr.set k _).getD c pz1).1
        rw [sP]; split
        · rename_i e; rw [e, eP]
        · rfl
    · cases hy
  · split at hy
    · rename_i ht
      cases hy
      simp only [tkP, Bool.and_eq_true, decide_eq_true_eq, Bool.not_eq_true'] at ht
      have hpk : p < (k : Int) + 1 := ht.1
      have hfx : fx = false := ht.2
      obtain ⟨L, hL⟩ : ∃ L, putP pms (mkPm (i : Int) b v) = L := ⟨_, rfl⟩
      have hLm : ∀ z ∈ L, z = mkPm (i : Int) b v ∨ z ∈ pms := fun z hz => putP_mem (hL ▸ hz)
      have hvt : vt = [] := by
        have hq : proQ ((k : Int) + 1) ac.length own pms fx val vt := by have := hp.good.2.2.2 k hk hk; rw [hP] at this; exact this
        exact List.length_eq_zero_iff.1 (hq.2.2.2.2.1 hfx).2
      simp only [hL] at hgx sP ⊢
      obtain ⟨Q, hQ⟩ : ∃ Q : Sh.T shProposer, Q = (own, L, decide ((ac.length : Int) < 2 * (L.length : Int)), (if decide ((ac.length : Int) < 2 * (L.length : Int)) then fixV own L else val), vt, ()) := ⟨_, rfl⟩
      rw [← hQ] at hgx sP ⊢
      have vN : ∀ c, vto (pr.set k Q) c = vto pr c := fun c => by
        unfold vto; rw [sP c]; split
        · rename_i e; rw [e, eP, hQ]
        · rfl
      have ne : ∀ (c : Nat) (z : Int), z ∈ vto pr c → c ≠ k := fun c z hz e => by rw [e, f1, hvt] at hz; cases hz
      have lN : ∀ c, c ≠ k → vlo (pr.set k Q) c = vlo pr c := fun c hc => by unfold vlo; rw [sP c, if_neg hc]
      have mN : ∀ c, pmo (pr.set k Q) c = if c = k then L else pmo pr c := fun c => by
        unfold pmo; rw [sP c]; split
        · rw [hQ]
        · rfl
      have bN : ∀ j, blA (ac.set i ((k : Int) + 1, b, v, ())) j = blA ac j := fun j => by
        unfold blA; rw [sA]; split
        · rename_i e; rw [e, eA]
        · rfl
      have wN : ∀ j, vlA (ac.set i ((k : Int) + 1, b, v, ())) j = vlA ac j := fun j => by
        unfold vlA; rw [sA]; split
        · rename_i e; rw [e, eA]
        · rfl
      have pN : ∀ j, prA ac j ≤ prA (ac.set i ((k : Int) + 1, b, v, ())) j := fun j => by
        unfold prA; rw [sA]; split
        · rename_i e; rw [e, eA]; show p ≤ (k : Int) + 1; omega
        · exact Int.le_refl _
      refine ⟨⟨hgx, fun j c hj => ?_, fun j c hj => ?_, fun m j z hz hzj => ?_⟩, ⟨List.length_set.symm, List.length_set.symm, fun c => ⟨?_, fun hf => ?_, ?_⟩⟩⟩
      · have hj : (j : Int) ∈ vto (pr.set k Q) c := hj
        rw [vN] at hj
        show (c : Int) + 1 ≤ blA (ac.set i _) j
        rw [bN]; exact hp.voted j c hj
      · have hj : blA (ac.set i ((k : Int) + 1, b, v, ())) j = (c : Int) + 1 := hj
        rw [bN] at hj
        obtain ⟨q1, q2⟩ := hp.held j c hj
        show (j : Int) ∈ vto (pr.set k Q) c ∧ vlA (ac.set i _) j = vlo (pr.set k Q) c
        rw [vN, wN, lN c (ne c _ q1)]
        exact ⟨q1, q2⟩
      · have hz : z ∈ pmo (pr.set k Q) m := hz
        show (m : Int) + 1 ≤ prA (ac.set i _) j ∧ (∀ c : Nat, pbl z = (c : Int) + 1 → pvl z = vlo (pr.set k Q) c ∧ (j : Int) ∈ vto (pr.set k Q) c) ∧ (∀ c : Nat, pbl z < (c : Int) + 1 → c < m → (j : Int) ∉ vto (pr.set k Q) c)
        have old : z ∈ pmo pr m → (m : Int) + 1 ≤ prA (ac.set i ((k : Int) + 1, b, v, ())) j ∧ (∀ c : Nat, pbl z = (c : Int) + 1 → pvl z = vlo (pr.set k Q) c ∧ (j : Int) ∈ vto (pr.set k Q) c) ∧ (∀ c : Nat, pbl z < (c : Int) + 1 → c < m → (j : Int) ∉ vto (pr.set k Q) c) := fun hz => by
          obtain ⟨q1, q2, q3⟩ := hp.told m j z hz hzj
          refine ⟨Int.le_trans q1 (pN j), fun c hc => ?_, fun c hc hcm => by rw [vN]; exact q3 c hc hcm⟩
          obtain ⟨r1, r2⟩ := q2 c hc
          rw [vN, lN c (ne c _ r2)]
          exact ⟨r1, r2⟩
        by_cases e : m = k
        · subst e
          rw [mN, if_pos rfl] at hz
          rcases hLm z hz with r | r
          · have hji : j = i := by have : pnd z = (i : Int) := by rw [r]; rfl
                                   omega
            subst hji
            have rb : pbl z = b := by rw [r]; rfl
            have rv : pvl z = v := by rw [r]; rfl
            refine ⟨?_, fun c hc => ?_, fun c hc hcm hv => ?_⟩
            · unfold prA; rw [sA, if_pos rfl]; exact Int.le_refl _
            · obtain ⟨q1, q2⟩ := hp.held j c (by rw [e2, ← rb]; exact hc)
              rw [vN, lN c (ne c _ q1), rv, ← q2, e3]
              exact ⟨rfl, q1⟩
            · rw [vN] at hv
              have := hp.voted j c hv
              rw [e2] at this
              rw [rb] at hc
              omega
          · exact old (f4 ▸ r)
        · rw [mN, if_neg e] at hz
          exact old hz
      · show (vto pr c).length ≤ (vto (pr.set k Q) c).length
        rw [vN]; exact Nat.le_refl _
      · have hf : fxo pr c = true := hf
        have hck : c ≠ k := fun e => by rw [e, f3, hfx] at hf; cases hf
        show fxo (pr.set k Q) c = true ∧ vlo (pr.set k Q) c = vlo pr c
        refine ⟨?_, lN c hck⟩
        unfold fxo; rw [sP c, if_neg hck]; exact hf
      · show (pr.getD c pz1).1 = ((pr.set k Q).getD c pz1).1
        rw [sP]; split
        · rename_i e; rw [e, eP, hQ]
        · rfl
    · cases hy
theorem played_new {m : Int} {vs : List (Sh.T .str)} (h : nwP m vs) : Played (pl0 m vs).1 (pl0 m vs).2 := by
  have hP : ∀ c, vto (pl0 m vs).2 c = [] ∧ pmo (pl0 m vs).2 c = [] := fun c => by
    unfold vto pmo pl0
    rw [List.getD_eq_getElem?_getD]
    show ((List.map mkPr vs)[c]?.getD pz1).2.2.2.2.1 = [] ∧ ((List.map mkPr vs)[c]?.getD pz1).2.1 = []
    rw [List.getElem?_map]
    cases vs[c]? <;> exact ⟨rfl, rfl⟩
  have hA : ∀ i, blA (pl0 m vs).1 i = 0 := fun i => by
    unfold blA pl0
    rw [List.getD_eq_getElem?_getD]
    show ((List.replicate m.toNat z0A)[i]?.getD az1).2.1 = 0
    rw [List.getElem?_replicate]
    split <;> rfl
  refine ⟨good_new h, fun i c hi => ?_, fun i c hi => ?_, fun k i x hx => ?_⟩
  · rw [(hP c).1] at hi; cases hi
  · rw [hA] at hi; omega
  · rw [(hP k).2] at hx; cases hx
theorem pl_stepT {S : SyD × List Bool} {x : Sh.T shSynodStep} (hS : Played S.1.1 S.1.2) : Played (plT S x).1.1 (plT S x).1.2 ∧ Later S.1 (plT S x).1 := by
  unfold plT
  cases e : stB S.1.1 S.1.2 x.1 x.2.1 x.2.2.1 with
  | none => exact ⟨hS, Later.refl _⟩
  | some y => exact played_step hS e
theorem played_k {s : SyD} {l : List (Sh.T shSynodStep)} (hp : Played s.1 s.2) : ∀ k, k ≤ l.length → Played (plF s (l.take k)).1.1 (plF s (l.take k)).1.2
  | 0, _ => by rw [List.take_zero]; exact hp
  | k + 1, h => by rw [pl_take h]; exact (pl_stepT (played_k hp k (by omega))).1
theorem later_k {s : SyD} {l : List (Sh.T shSynodStep)} (hp : Played s.1 s.2) (j : Nat) : ∀ d, j + d ≤ l.length → Later (plF s (l.take j)).1 (plF s (l.take (j + d))).1
  | 0, _ => Later.refl _
  | d + 1, h => by
    have h1 := later_k (l := l) hp j d (by omega)
    have h2 := (pl_stepT (x := l[j + d]) (played_k (l := l) hp (j + d) (by omega))).2
    rw [← pl_take (by omega)] at h2
    exact h1.trans h2
/-- All that is chosen, and whatever is fixed at or behind it, is the same. -/
theorem chosen_same {ac : List (Sh.T shAcceptor)} {pr : List (Sh.T shProposer)} (h : Played ac pr) {c d : Nat} (hc : (ac.length : Int) < 2 * ((vto pr c).length : Int)) (hd : (ac.length : Int) < 2 * ((vto pr d).length : Int)) : vlo pr c = vlo pr d := by
  have hf : ∀ e : Nat, (ac.length : Int) < 2 * ((vto pr e).length : Int) → fxo pr e = true := fun e he => by
    cases q : vto pr e with
    | nil => rw [q] at he; simp at he; omega
    | cons x t => exact vote_fixed h.good (x := x) (by rw [q]; exact List.mem_cons_self ..)
  rcases Nat.le_total c d with q | q
  · exact (h.safe hc d q (hf d hd)).symm
  · exact h.safe hd c q (hf c hc)
end Go.Proofs.Ytmhkfangfhanlaa
