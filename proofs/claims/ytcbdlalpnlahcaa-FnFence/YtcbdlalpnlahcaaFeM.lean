/- Fences: what a step makes of a good fence. Mathematics alone. -/
import Derived.Test.YtcbdlalpnlahcaaFeP
import Derived.Test.YtcbdlalpnlahcaaFeU
namespace Go.Proofs.Ytcbdlalpnlahcaa
open Go.RowKit
set_option linter.unusedVariables false
set_option linter.unusedSimpArgs false

def runT (ms : List (Sh.T shMember)) : Nat := (ms.map (fun m => (mru m).length)).sum
theorem runT_eq (ms : List (Sh.T shMember)) : runN ms ms.length = runT ms := by unfold runN runT; rw [List.take_length]
theorem runT_set : ∀ (ms : List (Sh.T shMember)) (i : Nat) (h : i < ms.length) (m : Sh.T shMember), runT (ms.set i m) + (mru ms[i]).length = runT ms + (mru m).length
  | [], i, h, m => by simp at h
  | x :: t, 0, h, m => by simp [runT]; omega
  | x :: t, i + 1, h, m => by
    have := runT_set t i (by simpa using h) m
    simp only [List.set_cons_succ, runT, List.map_cons, List.sum_cons, List.getElem_cons_succ] at this ⊢
    omega
theorem runT_erase : ∀ (ms : List (Sh.T shMember)) (i : Nat) (h : i < ms.length), runT (ms.eraseIdx i) + (mru ms[i]).length = runT ms
  | [], i, h => by simp at h
  | x :: t, 0, h => by simp [runT]; omega
  | x :: t, i + 1, h => by
    have := runT_erase t i (by simpa using h)
    simp only [List.eraseIdx_cons_succ, runT, List.map_cons, List.sum_cons, List.getElem_cons_succ] at this ⊢
    omega
theorem atI_app {l : List (Sh.T .int)} {e : Int} {j : Nat} : atI (l ++ [e]) j = if j < l.length then atI l j else if j = l.length then e else 0 := by
  simp only [atI, List.getD_eq_getElem?_getD, List.getElem?_append]
  split
  · rfl
  · split
    · rename_i h; subst h; simp
    · rw [List.getElem?_eq_none (by simp; omega)]; rfl
theorem atI_erase {l : List (Sh.T .int)} {n j : Nat} : atI (l.eraseIdx n) j = if j < n then atI l j else atI l (j + 1) := by
  simp only [atI, List.getD_eq_getElem?_getD, List.getElem?_eraseIdx]
  split <;> rfl
theorem runP_mono {ac ep : Int} {l : List (Sh.T .int)} {n : Nat} (h : runP ac ep l n) : ∀ {i j : Nat}, i ≤ j → j < n → atI l i ≤ atI l j := by
  intro i j hij hj
  induction j with
  | zero => have : i = 0 := by omega
            subst this; exact Int.le_refl _
  | succ j ih =>
    by_cases e : i = j + 1
    · subst e; exact Int.le_refl _
    · have h1 := ih (by omega) (by omega)
      have h2 := (h (j + 1) hj).2 (by omega)
      rw [show j + 1 - 1 = j by omega] at h2
      omega
theorem runP_app {ac ep e : Int} {l : List (Sh.T .int)} (h : runP ac ep l l.length) (h1 : ac + 1 ≤ e) (h2 : e ≤ ep) (h3 : ∀ j, j < l.length → atI l j ≤ e) : runP ac ep (l ++ [e]) (l ++ [e]).length := by
  intro j hj
  rw [List.length_append, List.length_singleton] at hj
  rw [atI_app, atI_app]
  by_cases q : j < l.length
  · rw [if_pos q, if_pos (by omega)]; exact h j q
  · have q2 : j = l.length := by omega
    subst q2
    rw [if_neg q, if_pos rfl]
    refine ⟨⟨h1, h2⟩, fun h0 => ?_⟩
    rw [if_pos (by omega)]
    exact h3 _ (by omega)
theorem runP_erase {ac ep : Int} {l : List (Sh.T .int)} {n : Nat} (h : runP ac ep l l.length) (hn : n < l.length) : runP ac ep (l.eraseIdx n) (l.eraseIdx n).length := by
  intro j hj
  rw [List.length_eraseIdx_of_lt hn] at hj
  have hm := @runP_mono ac ep l l.length h
  rw [atI_erase, atI_erase]
  constructor
  · split
    · exact (h j (by omega)).1
    · exact (h (j + 1) (by omega)).1
  · intro h0
    split <;> split <;> exact hm (by omega) (by omega)
theorem memsP_set {ep du : Int} {ms : List (Sh.T shMember)} {i : Nat} {m : Sh.T shMember} (h : memsP ep du ms ms.length) (hi : i < ms.length) (hm : memP ep du m) (hid : mid m = mid ms[i]) : memsP ep du (ms.set i m) (ms.set i m).length := by
  intro j hj _
  have hj' : j < ms.length := by rwa [List.length_set] at hj
  have hE : ∀ q (hq : q < (ms.set i m).length) (hq' : q < ms.length), mid (ms.set i m)[q] = mid ms[q] := fun q hq hq' => by
    rw [List.getElem_set]; split
    · rename_i e; subst e; exact hid
    · rfl
  refine ⟨?_, fun h0 => ?_⟩
  · rw [List.getElem_set]; split
    · exact hm
    · exact (h j hj' hj').1
  · have := (h j hj' hj').2 h0
    rw [hE j hj hj', hE (j - 1) (by omega) (by omega)]; exact this
theorem mid_mono {ep du : Int} {ms : List (Sh.T shMember)} (h : memsP ep du ms ms.length) : ∀ (j i : Nat) (hj : j < ms.length) (hi : i < ms.length), i < j → mid ms[i] < mid ms[j] := by
  intro j
  induction j with
  | zero => intro i _ _ q; omega
  | succ j ih =>
    intro i hj hi q
    have h2 := (h (j + 1) hj hj).2 (by omega)
    simp only [Nat.add_sub_cancel] at h2
    by_cases e : i = j
    · subst e; exact h2
    · have := ih i (by omega) hi (by omega); omega
theorem memsP_erase {ep du : Int} {ms : List (Sh.T shMember)} {i : Nat} (h : memsP ep du ms ms.length) (hi : i < ms.length) : memsP ep du (ms.eraseIdx i) (ms.eraseIdx i).length := by
  intro j hj _
  have hl := List.length_eraseIdx_of_lt hi
  have hm := mid_mono h
  refine ⟨?_, fun h0 => ?_⟩
  · rw [List.getElem_eraseIdx]; split
    · exact (h j (by omega) (by omega)).1
    · exact (h (j + 1) (by omega) (by omega)).1
  · rw [List.getElem_eraseIdx, List.getElem_eraseIdx]
    split <;> split
    all_goals first | exact hm _ _ _ _ (by omega) | omega
theorem endP_app {ep e : Int} {en : List (Sh.T .int)} (h : endP ep en en.length) (h1 : 1 ≤ e ∧ e ≤ ep) : endP ep (en ++ [e]) (en ++ [e]).length := by
  intro j hj
  rw [List.length_append, List.length_singleton] at hj
  rw [atI_app]
  split
  · exact h j (by omega)
  · rw [if_pos (by omega)]; exact h1
theorem good_set {ep du : Int} {ms : List (Sh.T shMember)} {en en' : List (Sh.T .int)} {i : Nat} {m : Sh.T shMember} (h : goodF ep du ms en) (hi : i < ms.length) (hm : memP ep du m) (hid : mid m = mid ms[i]) (hen : endP ep en' en'.length) (ht : en'.length + runT (ms.set i m) ≤ 200) : goodF ep du (ms.set i m) en' := by
  refine ⟨h.1, h.2.1, by rw [List.length_set]; exact h.2.2.1, by rw [runT_eq]; exact ht, memsP_set h.2.2.2.2.1 hi hm hid, hen⟩
def goodT (x : Sh.T shFence) : Prop := goodF x.1 x.2.1 x.2.2.1 x.2.2.2.1
theorem memP_mk {ep du x0 x1 x3 : Int} {x2 : List (Sh.T .int)} (h : (0 ≤ x0 ∧ x0 ≤ 99) ∧ (du + 1 ≤ x1 ∧ x1 ≤ ep) ∧ x2.length ≤ 20 ∧ (du ≤ x3 ∧ x3 ≤ ep - 1) ∧ runP x3 x1 x2 x2.length ∧ x3 < x1) : memP ep du (mkMb x0 x1 x2 x3) := h
theorem good_mk {ep du x1 x3 : Int} {x2 : List (Sh.T .int)} {ms : List (Sh.T shMember)} {en en' : List (Sh.T .int)} {i : Nat} (h : goodF ep du ms en) (hi : i < ms.length) (h1 : du + 1 ≤ x1 ∧ x1 ≤ ep) (h2 : x2.length ≤ 20) (h3 : du ≤ x3 ∧ x3 ≤ ep - 1) (h4 : runP x3 x1 x2 x2.length) (h5 : x3 < x1) (hen : endP ep en' en'.length) (ht : en'.length + x2.length + runT ms ≤ 200 + (mru ms[i]).length) : goodT (mkFe ep du (ms.set i (mkMb (mid ms[i]) x1 x2 x3)) en') := by
  have hS := runT_set ms i hi (mkMb (mid ms[i]) x1 x2 x3)
  have e2 : (mru (mkMb (mid ms[i]) x1 x2 x3)).length = x2.length := rfl
  show goodF ep du (ms.set i (mkMb (mid ms[i]) x1 x2 x3)) en'
  exact good_set h hi (memP_mk ⟨(h.2.2.2.2.1 i hi hi).1.1, h1, h2, h3, h4, h5⟩) rfl hen (by omega)
/-- A step that is no advance, at the member that stands at i. -/
noncomputable def memF (ep du : Int) (ms : List (Sh.T shMember)) (en : List (Sh.T .int)) (a n : Int) (i : Nat) (m : Sh.T shMember) : Option (Sh.T shFence) :=
  if a = 1 then if (mru m).length = 20 ∨ en.length + runT ms = 200 then none else some (mkFe ep du (ms.set i (mkMb (mid m) (mep m) (mru m ++ [mep m]) (mac m))) en)
  else if a = 2 then if 0 ≤ n ∧ n ≤ ((mru m).length : Int) - 1 then some (mkFe ep du (ms.set i (mkMb (mid m) (mep m) ((mru m).eraseIdx n.toNat) (mac m))) (en ++ [atI (mru m) n.toNat])) else none
  else if a = 3 then if mep m ≠ ep ∨ mac m = ep - 1 ∨ 0 < (mru m).length ∧ atI (mru m) 0 ≤ ep - 1 then none else some (mkFe ep du (ms.set i (mkMb (mid m) (mep m) (mru m) (ep - 1))) en)
  else if a = 6 then if mep m = ep then none else some (mkFe ep du (ms.set i (mkMb (mid m) ep (mru m) (mac m))) en)
  else if a = 5 then if ms.length = 1 then none else some (mkFe ep du (ms.eraseIdx i) en)
  else none
/-- A step. -/
noncomputable def stF (ep du : Int) (ms : List (Sh.T shMember)) (en : List (Sh.T .int)) (a b n : Int) : Option (Sh.T shFence) :=
  if a = 4 then advF ep du ms en else match ms.findIdx? (fun m => decide (mid m = b)) with
    | none => none
    | some i => match ms[i]? with
      | none => none
      | some m => memF ep du ms en a n i m
theorem adv_good {ep du : Int} {ms : List (Sh.T shMember)} {en : List (Sh.T .int)} (h : goodF ep du ms en) {y : Sh.T shFence} (e : advF ep du ms en = some y) : goodT y := by
  by_cases c : ep ≠ 1000 ∧ ¬ (du = ep - 1 ∧ 1 < ep) ∧ ackP ep ms ms.length
  · rw [adv_yes c] at e
    cases e
    show goodF (ep + 1) (ep - 1) ms en
    obtain ⟨h1, h2, h3, h4, h5, h6⟩ := h
    have c1 := c.1
    refine ⟨by omega, by omega, h3, h4, fun i hi hk => ?_, fun j hj => ?_⟩
    · obtain ⟨q1, q2⟩ := h5 i hi hk
      obtain ⟨m1, m2, m3, m4, m5, m6⟩ := q1
      have q3 := c.2.2 i hi hk
      exact ⟨⟨m1, ⟨by omega, by omega⟩, m3, ⟨by omega, by omega⟩, m5, m6⟩, q2⟩
    · have := h6 j hj
      exact ⟨this.1, by have h7 := this.2; omega⟩
  · rw [adv_no c] at e; cases e
theorem mem_good {ep du : Int} {ms : List (Sh.T shMember)} {en : List (Sh.T .int)} {a n : Int} {i : Nat} (h : goodF ep du ms en) (hi : i < ms.length) {y : Sh.T shFence} (e : memF ep du ms en a n i ms[i] = some y) : goodT y := by
  have hm := (h.2.2.2.2.1 i hi hi).1
  obtain ⟨m1, m2, m3, m4, m5, m6⟩ := hm
  have hT := h.2.2.2.1
  rw [runT_eq] at hT
  have hed := h.2.2.2.2.2
  have hep := h.1
  have hdu := h.2.1
  unfold memF at e
  split at e
  · split at e
    · cases e
    · rename_i c
      cases e
      have hl : (mru ms[i] ++ [mep ms[i]]).length = (mru ms[i]).length + 1 := by rw [List.length_append]; rfl
      have c1 : (mru ms[i]).length ≠ 20 := fun q => c (Or.inl q)
      have c2 : en.length + runT ms ≠ 200 := fun q => c (Or.inr q)
      exact good_mk h hi m2 (by rw [hl]; omega) m4 (runP_app m5 (by omega) (Int.le_refl _) (fun j hj => (m5 j hj).1.2)) m6 hed (by rw [hl]; omega)
  · split at e
    · split at e
      · rename_i c
        cases e
        have hn : n.toNat < (mru ms[i]).length := by omega
        have hl : ((mru ms[i]).eraseIdx n.toNat).length = (mru ms[i]).length - 1 := List.length_eraseIdx_of_lt hn
        have hq := (m5 _ hn).1
        exact good_mk h hi m2 (by rw [hl]; omega) m4 (runP_erase m5 hn) m6 (endP_app hed ⟨by omega, by omega⟩) (by rw [hl, List.length_append, List.length_singleton]; omega)
      · cases e
    · split at e
      · split at e
        · cases e
        · rename_i c
          cases e
          have c1 : mep ms[i] = ep := by false_or_by_contra; rename_i q; exact c (Or.inl q)
          have c3 : ∀ j, j < (mru ms[i]).length → ep ≤ atI (mru ms[i]) j := fun j hj => by
            have := @runP_mono _ _ _ _ m5 0 j (Nat.zero_le _) hj
            false_or_by_contra
            exact c (Or.inr (Or.inr ⟨by omega, by omega⟩))
          exact good_mk h hi m2 m3 ⟨by omega, by omega⟩ (fun j hj => ⟨⟨by have := c3 j hj; omega, (m5 j hj).1.2⟩, (m5 j hj).2⟩) (by omega) hed (by omega)
      · split at e
        · split at e
          · cases e
          · rename_i c
            cases e
            exact good_mk h hi ⟨by omega, Int.le_refl _⟩ m3 m4 (fun j hj => ⟨⟨(m5 j hj).1.1, by have := (m5 j hj).1.2; omega⟩, (m5 j hj).2⟩) (by omega) hed (by omega)
        · split at e
          · split at e
            · cases e
            · rename_i c
              cases e
              have hl := List.length_eraseIdx_of_lt hi
              have := runT_erase ms i hi
              have h8 := h.2.2.1
              show goodF ep du (ms.eraseIdx i) en
              exact ⟨h.1, h.2.1, by rw [hl]; omega, by rw [runT_eq]; omega, memsP_erase h.2.2.2.2.1 hi, hed⟩
          · cases e
/-- A step of a good fence is good. -/
theorem st_good {ep du : Int} {ms : List (Sh.T shMember)} {en : List (Sh.T .int)} {a b n : Int} (h : goodF ep du ms en) {y : Sh.T shFence} (e : stF ep du ms en a b n = some y) : goodT y := by
  unfold stF at e
  split at e
  · exact adv_good h e
  · split at e
    · cases e
    · split at e
      · cases e
      · rename_i hm
        obtain ⟨hi, rfl⟩ := List.getElem?_eq_some_iff.1 hm
        exact mem_good h hi e

/-- How the play's fences stand: durable is two behind, or at the start. -/
def playP (ep du : Int) : Prop := du + 2 = ep ∨ (ep = 1 ∧ du = 0)
theorem mem_same {ep du : Int} {ms : List (Sh.T shMember)} {en : List (Sh.T .int)} {a n : Int} {i : Nat} {m : Sh.T shMember} {y : Sh.T shFence} (e : memF ep du ms en a n i m = some y) : y.1 = ep ∧ y.2.1 = du := by
  unfold memF at e
  repeat' (split at e)
  all_goals (cases e <;> exact ⟨rfl, rfl⟩)
theorem st_play {ep du : Int} {ms : List (Sh.T shMember)} {en : List (Sh.T .int)} {a b n : Int} (hp : playP ep du) {y : Sh.T shFence} (e : stF ep du ms en a b n = some y) : playP y.1 y.2.1 ∧ du ≤ y.2.1 ∧ y.2.1 ≤ du + 1 := by
  unfold stF at e
  split at e
  · by_cases c : ep ≠ 1000 ∧ ¬ (du = ep - 1 ∧ 1 < ep) ∧ ackP ep ms ms.length
    · rw [adv_yes c] at e
      cases e
      show playP (ep + 1) (ep - 1) ∧ du ≤ ep - 1 ∧ ep - 1 ≤ du + 1
      unfold playP at hp ⊢
      omega
    · rw [adv_no c] at e; cases e
  · split at e
    · cases e
    · split at e
      · cases e
      · have h := mem_same e
        rw [h.1, h.2]
        exact ⟨hp, Int.le_refl du, Int.le_add_one (Int.le_refl du)⟩
theorem lastN_mono {du du' : Int} (h : du ≤ du') (en : List (Sh.T .int)) : ∀ k, lastN du en k ≤ lastN du' en k
  | 0 => Nat.le_refl _
  | k + 1 => by
    have := lastN_mono h en k
    rw [lastN, lastN]
    split <;> split <;> omega
theorem lastN_app {du e : Int} {en : List (Sh.T .int)} (h : du < e) : ∀ k, k ≤ en.length → lastN du (en ++ [e]) k = lastN du en k
  | 0, _ => rfl
  | k + 1, hk => by
    have e1 : atI (en ++ [e]) k = atI en k := by rw [atI_app, if_pos (by omega)]
    rw [lastN, lastN, lastN_app h k (by omega), e1]
theorem lastN_snoc {du e : Int} {en : List (Sh.T .int)} (h : du < e) : lastN du (en ++ [e]) (en ++ [e]).length = lastN du en en.length := by
  have e1 : atI (en ++ [e]) en.length = e := by rw [atI_app, if_neg (by omega), if_pos rfl]
  rw [List.length_append, List.length_singleton, lastN, lastN_app h _ (Nat.le_refl _), e1, if_neg (by omega)]; rfl
theorem mem_lasts {ep du : Int} {ms : List (Sh.T shMember)} {en : List (Sh.T .int)} {a n : Int} {i : Nat} (h : goodF ep du ms en) (hi : i < ms.length) {y : Sh.T shFence} (e : memF ep du ms en a n i ms[i] = some y) : lastN du y.2.2.2.1 y.2.2.2.1.length = lastN du en en.length ∧ en.length ≤ y.2.2.2.1.length := by
  have hm := (h.2.2.2.2.1 i hi hi).1
  obtain ⟨m1, m2, m3, m4, m5, m6⟩ := hm
  unfold memF at e
  split at e
  · split at e <;> cases e
    exact ⟨rfl, Nat.le_refl _⟩
  · split at e
    · split at e
      · rename_i c
        cases e
        have hn : n.toNat < (mru ms[i]).length := by omega
        have hq := (m5 _ hn).1
        exact ⟨lastN_snoc (by omega), by show en.length ≤ (en ++ [atI (mru ms[i]) n.toNat]).length; rw [List.length_append]; omega⟩
      · cases e
    · repeat' (split at e)
      all_goals (cases e <;> exact ⟨rfl, Nat.le_refl _⟩)
/-- What lasts: of any good fence and any step that is done. -/
theorem st_lasts {ep du : Int} {ms : List (Sh.T shMember)} {en : List (Sh.T .int)} {a b n : Int} (h : goodF ep du ms en) {y : Sh.T shFence} (e : stF ep du ms en a b n = some y) : lastN du en en.length ≤ lastN y.2.1 y.2.2.2.1 y.2.2.2.1.length ∧ ep ≤ y.1 ∧ du ≤ y.2.1 ∧ en.length ≤ y.2.2.2.1.length ∧ (a ≠ 4 → lastN du en en.length = lastN y.2.1 y.2.2.2.1 y.2.2.2.1.length) := by
  unfold stF at e
  split at e
  · rename_i ha
    by_cases c : ep ≠ 1000 ∧ ¬ (du = ep - 1 ∧ 1 < ep) ∧ ackP ep ms ms.length
    · rw [adv_yes c] at e
      cases e
      have := h.2.1
      exact ⟨lastN_mono (by show du ≤ ep - 1; omega) en _, Int.le_add_one (Int.le_refl ep), this.2, Nat.le_refl _, fun q => absurd ha q⟩
    · rw [adv_no c] at e; cases e
  · split at e
    · cases e
    · split at e
      · cases e
      · rename_i hm
        obtain ⟨hi, rfl⟩ := List.getElem?_eq_some_iff.1 hm
        have h1 := mem_same e
        have h2 := mem_lasts h hi e
        rw [h1.1, h1.2, h2.1]
        exact ⟨Nat.le_refl _, Int.le_refl ep, Int.le_refl du, h2.2, fun _ => rfl⟩
/-- No member of a good fence runs what is durable, and the least epoch is above it. -/
theorem good_runs {ep du : Int} {ms : List (Sh.T shMember)} {en : List (Sh.T .int)} (h : goodF ep du ms en) : (∀ i (hi : i < ms.length) j, j < (mru ms[i]).length → du < atI (mru ms[i]) j) ∧ ∀ i (hi : i < ms.length), du < mep ms[i] := by
  refine ⟨fun i hi j hj => ?_, fun i hi => ?_⟩
  · have hm := (h.2.2.2.2.1 i hi hi).1
    have h1 := (hm.2.2.2.2.1 j hj).1.1
    have h2 := hm.2.2.2.1.1
    omega
  · have hm := (h.2.2.2.2.1 i hi hi).1
    have := hm.2.1.1
    omega
theorem least_above {ep du : Int} {ms : List (Sh.T shMember)} {en : List (Sh.T .int)} (h : goodF ep du ms en) : ∀ k, k ≤ ms.length → du < leastE ms k
  | 0, _ => by
    have h0 : 0 < ms.length := by have := h.2.2.1.1; omega
    rw [leastE, epAt_lt h0]; exact (good_runs h).2 0 h0
  | k + 1, hk => by
    have := least_above h k (by omega)
    rw [leastE]
    split
    · rw [epAt_lt (by omega)]; exact (good_runs h).2 k (by omega)
    · exact this

end Go.Proofs.Ytcbdlalpnlahcaa
