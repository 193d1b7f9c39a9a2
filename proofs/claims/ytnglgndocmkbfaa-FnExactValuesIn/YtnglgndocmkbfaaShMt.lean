/- Maps of a call's own as functions from keys to data: what a look-up, a store, a walk over one tell. No Go text is spoken of here. -/
import Derived.Test.YtnglgndocmkbfaaShMg
namespace Go.Proofs.Ytnglgndocmkbfaa
open Go.RowKit
set_option linter.unusedVariables false
set_option linter.unusedSimpArgs false

section
variable {α β : Type} {kv : α → Value} {ev : β → Value}
def encL (ev : β → Value) (l : List (α × β)) : List (α × Value) := l.map (fun p => (p.1, ev p.2))
theorem encL_len (l : List (α × β)) : (encL ev l).length = l.length := by simp [encL]
theorem encL_erase (l : List (α × β)) (i : Nat) : (encL ev l).eraseIdx i = encL ev (l.eraseIdx i) := by
  unfold encL; rw [List.eraseIdx_eq_take_drop_succ, List.eraseIdx_eq_take_drop_succ, List.map_append, List.map_take, List.map_drop]
theorem encL_put [DecidableEq α] {k : α} {v : β} : ∀ l : List (α × β), putK k (ev v) (encL ev l) = encL ev (putK k v l)
  | [] => rfl
  | p :: t => by
    have ih := encL_put (k := k) (v := v) t
    show putK k (ev v) ((p.1, ev p.2) :: encL ev t) = _
    unfold putK
    by_cases q : p.1 = k
    · rw [if_pos (show (p.1, ev p.2).1 = k from q), if_pos q]; rfl
    · rw [if_neg (show ¬ (p.1, ev p.2).1 = k from q), if_neg q, ih]; rfl
def getK [DecidableEq α] (k : α) : List (α × β) → Option β
  | [] => none
  | p :: t => if p.1 = k then some p.2 else getK k t
def KeysN (l : List (α × β)) : Prop := (l.map (·.1)).Nodup
theorem getK_none [DecidableEq α] {k : α} : ∀ {l : List (α × β)}, getK k l = none ↔ ∀ p ∈ l, p.1 ≠ k
  | [] => by simp [getK]
  | p :: t => by
    unfold getK
    by_cases q : p.1 = k
    · rw [if_pos q]; simp [q]
    · rw [if_neg q, getK_none (l := t)]; simp [q]
theorem getK_mem [DecidableEq α] {k : α} {v : β} : ∀ {l : List (α × β)}, getK k l = some v → (k, v) ∈ l
  | [], h => by cases h
  | p :: t, h => by
    unfold getK at h
    by_cases q : p.1 = k
    · rw [if_pos q] at h; cases h; subst q; simp
    · rw [if_neg q] at h; exact List.mem_cons_of_mem _ (getK_mem h)
theorem getK_of [DecidableEq α] {k : α} {v : β} : ∀ {l : List (α × β)}, KeysN l → (k, v) ∈ l → getK k l = some v
  | [], _, h => by simp at h
  | p :: t, hn, h => by
    unfold KeysN at hn
    rw [List.map_cons, List.nodup_cons] at hn
    unfold getK
    rcases List.mem_cons.1 h with e | e
    · subst e; rw [if_pos rfl]
    · have q : ¬ p.1 = k := fun q => hn.1 (by rw [q]; exact List.mem_map.2 ⟨_, e, rfl⟩)
      rw [if_neg q]; exact getK_of hn.2 e
theorem getK_put [DecidableEq α] {k k' : α} {v : β} : ∀ {l : List (α × β)}, getK k' (putK k v l) = if k = k' then some v else getK k' l
  | [] => by unfold putK getK; rfl
  | p :: t => by
    unfold putK
    by_cases q : p.1 = k
    · rw [if_pos q]
      unfold getK
      by_cases e : k = k'
      · rw [if_pos e, if_pos e]
      · rw [if_neg e, if_neg e]; simp only [q, if_neg e]
    · rw [if_neg q]
      unfold getK
      rw [getK_put (l := t)]
      by_cases e : k = k'
      · subst e; simp [q]
      · simp only [if_neg e]
theorem mem_put [DecidableEq α] {k : α} {v : β} {p : α × β} : ∀ {l : List (α × β)}, p ∈ putK k v l → p = (k, v) ∨ p ∈ l
  | [], h => by unfold putK at h; exact Or.inl (List.mem_singleton.1 h)
  | q :: t, h => by
    unfold putK at h
    by_cases e : q.1 = k
    · rw [if_pos e] at h
      rcases List.mem_cons.1 h with r | r
      · exact Or.inl r
      · exact Or.inr (List.mem_cons_of_mem _ r)
    · rw [if_neg e] at h
      rcases List.mem_cons.1 h with r | r
      · exact Or.inr (by rw [r]; simp)
      · rcases mem_put r with s | s
        · exact Or.inl s
        · exact Or.inr (List.mem_cons_of_mem _ s)
theorem keysN_put [DecidableEq α] {k : α} {v : β} : ∀ {l : List (α × β)}, KeysN l → KeysN (putK k v l)
  | [], _ => by unfold putK KeysN; simp
  | q :: t, h => by
    unfold KeysN at h ⊢
    rw [List.map_cons, List.nodup_cons] at h
    unfold putK
    by_cases e : q.1 = k
    · rw [if_pos e, List.map_cons, List.nodup_cons]; exact ⟨by rw [← e]; exact h.1, h.2⟩
    · rw [if_neg e, List.map_cons, List.nodup_cons]
      refine ⟨fun hm => ?_, keysN_put (l := t) h.2⟩
      obtain ⟨p, hp, hpe⟩ := List.mem_map.1 hm
      rcases mem_put hp with s | s
      · subst s; exact e hpe.symm
      · exact h.1 (List.mem_map.2 ⟨p, s, hpe⟩)
theorem keysN_erase {l : List (α × β)} (h : KeysN l) (i : Nat) : KeysN (l.eraseIdx i) := (List.Sublist.map _ (List.eraseIdx_sublist _ _)).nodup h
/-- What is left when one is taken out. -/
theorem mem_erase {l : List (α × β)} (h : KeysN l) {i : Nat} (hi : i < l.length) {p : α × β} : p ∈ l.eraseIdx i ↔ p ∈ l ∧ p.1 ≠ l[i].1 := by
  have hs : l = l.take i ++ l[i] :: l.drop (i + 1) := by rw [List.getElem_cons_drop, List.take_append_drop]
  rw [List.eraseIdx_eq_take_drop_succ]
  unfold KeysN at h
  generalize l[i] = q at hs
  rw [hs] at h
  rw [List.map_append, List.map_cons, List.nodup_append, List.nodup_cons] at h
  obtain ⟨_, ⟨h2, _⟩, h3⟩ := h
  constructor
  · intro hp
    rcases List.mem_append.1 hp with e | e
    · exact ⟨by rw [hs]; simp [e], h3 p.1 (List.mem_map.2 ⟨p, e, rfl⟩) q.1 (by simp)⟩
    · exact ⟨by rw [hs]; simp [e], fun k => h2 (by rw [← k]; exact List.mem_map.2 ⟨p, e, rfl⟩)⟩
  · rintro ⟨hp, hne⟩
    rw [hs] at hp
    rcases List.mem_append.1 hp with e | e
    · exact List.mem_append.2 (Or.inl e)
    · rcases List.mem_cons.1 e with r | r
      · subst r; exact absurd rfl hne
      · exact List.mem_append.2 (Or.inr r)
theorem perm_of_get [DecidableEq α] : ∀ {l l' : List (α × β)}, KeysN l → KeysN l' → (∀ k, getK k l = getK k l') → l.Perm l'
  | [], [], _, _, _ => List.Perm.refl _
  | [], p :: t, _, _, h => by have := h p.1; unfold getK at this; rw [if_pos rfl] at this; cases this
  | p :: t, l', hn, hn', h => by
    have hn2 : p.1 ∉ t.map (·.1) ∧ KeysN t := by unfold KeysN at hn; rwa [List.map_cons, List.nodup_cons] at hn
    have hp : (p.1, p.2) ∈ l' := getK_mem (by rw [← h]; unfold getK; rw [if_pos rfl])
    obtain ⟨i, hi, he⟩ := List.getElem_of_mem hp
    have he : l'[i] = p := he
    have hs : l' = l'.take i ++ l'[i] :: l'.drop (i + 1) := by rw [List.getElem_cons_drop, List.take_append_drop]
    have ht : t.Perm (l'.eraseIdx i) := by
      refine perm_of_get hn2.2 (keysN_erase hn' i) (fun k => ?_)
      have hk := h k
      by_cases q : p.1 = k
      · have e1 : getK k t = none := getK_none.2 (fun r hr e => hn2.1 (by rw [q, ← e]; exact List.mem_map.2 ⟨r, hr, rfl⟩))
        have e2 : getK k (l'.eraseIdx i) = none := getK_none.2 (fun r hr e => by have := ((mem_erase hn' hi).1 hr).2; rw [he] at this; exact this (e.trans q.symm))
        rw [e1, e2]
      · rw [show getK k (p :: t) = getK k t from if_neg q] at hk
        rw [hk]
        cases hg : getK k l' with
        | none => exact (getK_none.2 (fun r hr e => getK_none.1 hg r ((mem_erase hn' hi).1 hr).1 e)).symm
        | some v => exact (getK_of (keysN_erase hn' i) ((mem_erase hn' hi).2 ⟨getK_mem hg, by rw [he]; exact fun e => q e.symm⟩)).symm
    rw [List.eraseIdx_eq_take_drop_succ] at ht
    rw [he] at hs
    rw [hs]
    exact (List.Perm.cons p ht).trans List.perm_middle.symm
theorem fnd_getK [DecidableEq α] {k : α} : ∀ (l : List (α × β)) (i : Nat), (fnd k (encL ev l) i).map (·.2) = (getK k l).map ev
  | [], _ => rfl
  | p :: t, i => by
    have ih := fnd_getK (k := k) t (i + 1)
    show (fnd k ((p.1, ev p.2) :: encL ev t) i).map (·.2) = _
    unfold fnd getK
    by_cases q : p.1 = k
    · rw [if_pos (show (p.1, ev p.2).1 = k from q), if_pos q]; rfl
    · rw [if_neg (show ¬ (p.1, ev p.2).1 = k from q), if_neg q]; exact ih
end
/-- A map in block b that tells f. -/
def MpT {α β : Type} [DecidableEq α] (kv : α → Value) (ev : β → Value) (w : World) (b : Nat) (f : α → Option β) : Prop := ∃ l : List (α × β), MpX kv w b (encL ev l) ∧ KeysN l ∧ ∀ k, getK k l = f k
section
variable {α β : Type} [DecidableEq α] {kv : α → Value} {ev : β → Value} {P : Program} {w w' : World} {o : Oper} {a : Act} {K : Act → World → Prop} {Q : Exit → Act → World → Prop} {ops : Array Oper} {rest : List Oper} {b r : Nat} {f : α → Option β} {t kt vt : TypeId}
theorem MpT.lt (h : MpT kv ev w b f) : b < w.heap.size := by obtain ⟨l, h1, _⟩ := h; exact h1.lt
theorem MpT.keep (h : MpT kv ev w b f) (e : w'.heap[b]? = w.heap[b]?) : MpT kv ev w' b f := by obtain ⟨l, h1, h2⟩ := h; exact ⟨l, h1.keep e, h2⟩
theorem MpT.next (h : MpT kv ev w b f) (hb : Below w.heap.size w w') : MpT kv ev w' b f := h.keep (hb.block b h.lt)
theorem MpT.grown (h : MpT kv ev w b f) {row : Option Nat} (hg : w.grownBy w' row) (hr : some b ≠ row) : MpT kv ev w' b f := h.keep (hg.block b h.lt hr)
theorem MpT.turn {S : Nat → Prop} (h : MpT kv ev w b f) (ht : ∀ k, k < w.heap.size → ¬ S k → w'.heap[k]? = w.heap[k]?) (hS : ¬ S b) : MpT kv ev w' b f := h.keep (ht b h.lt hS)
theorem MpT.ext {g : α → Option β} (h : MpT kv ev w b f) (e : ∀ k, f k = g k) : MpT kv ev w b g := by obtain ⟨l, h1, h2, h3⟩ := h; exact ⟨l, h1, h2, fun k => (h3 k).trans (e k)⟩
theorem MpT.made (w : World) : MpT kv ev (w.alloc (.map #[] 0)) w.heap.size (fun _ => none) := ⟨[], MpX.made w, by simp [KeysN], fun _ => rfl⟩
/-- What a store makes of f. -/
def updF (f : α → Option β) (k : α) (v : β) : α → Option β := fun k' => if k = k' then some v else f k'
theorem MpT.put {k : α} {v : β} {l : List (α × β)} (h : MpX kv w b (encL ev (putK k v l))) (hn : KeysN l) (hf : ∀ k, getK k l = f k) : MpT kv ev w b (updF f k v) := ⟨_, h, keysN_put hn, fun k' => by rw [getK_put, hf]; rfl⟩
theorem wp_storeT (m x v : Operand) (hop : o.op = Op.mapUpdate t m x v) (ht : P.underlying t = some (.map kt vt)) (hk : KeyL P kt kv) (h : MpT kv ev w b f) (hm : a.eval m = .map (some b)) {k : α} (hx : a.eval x = kv k) {val : β} (hv : a.eval v = ev val)
    (hK : ∀ w', MpT kv ev w' b (updF f k val) → w.grownBy w' (some b) → w'.heap.size = w.heap.size → K (a.put o.dst undef) w') : o.wp P a w K Q := by
  obtain ⟨l, h1, h2, h3⟩ := h
  exact wp_store m x v hop ht hk h1 hm hx hv (fun w' r1 r2 r3 => hK w' (MpT.put (by rw [← encL_put]; exact r1) h2 h3) r2 r3)
theorem wpList_storeT (hg : o.guard = none) (m x v : Operand) (hop : o.op = Op.mapUpdate t m x v) (ht : P.underlying t = some (.map kt vt)) (hk : KeyL P kt kv) (h : MpT kv ev w b f) (hm : a.eval m = .map (some b)) {k : α} (hx : a.eval x = kv k) {val : β} (hv : a.eval v = ev val)
    (hK : ∀ w', MpT kv ev w' b (updF f k val) → w.grownBy w' (some b) → w'.heap.size = w.heap.size → wpList P ops Q rest (a.put o.dst undef) w') : wpList P ops Q (o :: rest) a w := by
  refine wpList_plain hg fun K' hK' => ?_
  exact wp_storeT m x v hop ht hk h hm hx hv (fun w' r1 r2 r3 => hK' _ _ (hK w' r1 r2 r3))
theorem wp_lookT (m x : Operand) (hop : o.op = Op.lookup t m x true) (ht : P.underlying t = some (.map kt vt)) (hk : KeyL P kt kv) {z : Value} (hz : (zeroValue vt).run P w = .ok z w) (h : MpT kv ev w b f) (hm : a.eval m = .map (some b)) {k : α} (hx : a.eval x = kv k)
    (hK : K (a.put o.dst (match f k with | some v => .tuple #[ev v, .bool true] | none => .tuple #[z, .bool false])) w) : o.wp P a w K Q := by
  obtain ⟨l, h1, h2, h3⟩ := h
  have hrun := h1.lookup ht hk hz k
  have q := fnd_getK (ev := ev) (k := k) l 0
  rw [h3 k] at q
  cases h5 : f k with
  | none =>
    rw [h5] at hK q
    cases h4 : fnd k (encL ev l) 0 with
    | none =>
      rw [h4] at hrun
      unfold Oper.wp
      simp [execOp, hop, hm, hx, hrun, Result.andThen]
      exact hK
    | some p => rw [h4] at q; cases q
  | some v =>
    rw [h5] at hK q
    cases h4 : fnd k (encL ev l) 0 with
    | none => rw [h4] at q; cases q
    | some p =>
      obtain ⟨i, u⟩ := p
      rw [h4] at q hrun
      have q : u = ev v := by simpa using q
      subst q
      unfold Oper.wp
      simp [execOp, hop, hm, hx, hrun, Result.andThen]
      exact hK
theorem wpList_lookT (hg : o.guard = none) (m x : Operand) (hop : o.op = Op.lookup t m x true) (ht : P.underlying t = some (.map kt vt)) (hk : KeyL P kt kv) {z : Value} (hz : (zeroValue vt).run P w = .ok z w) (h : MpT kv ev w b f) (hm : a.eval m = .map (some b)) {k : α} (hx : a.eval x = kv k)
    (hK : wpList P ops Q rest (a.put o.dst (match f k with | some v => .tuple #[ev v, .bool true] | none => .tuple #[z, .bool false])) w) : wpList P ops Q (o :: rest) a w := by
  refine wpList_plain hg fun K' hK' => ?_
  exact wp_lookT m x hop ht hk hz h hm hx (hK' _ _ hK)
end
section
variable {α β : Type} {kv : α → Value} {ev : β → Value} {P : Program} {w w' : World} {o : Oper} {a : Act} {K : Act → World → Prop} {Q : Exit → Act → World → Prop} {ops : Array Oper} {rest : List Oper} {b r : Nat} {f : α → Option β} {t kt vt : TypeId}
theorem wp_lenT (m : Operand) (hop : o.op = Op.call { callee := Callee.builtin Builtin.len, args := #[m], argTypes := #[t] }) (ht : P.underlying t = some (.map kt vt)) {l : List (α × β)} (h : MpX kv w b (encL ev l)) (hm : a.eval m = .map (some b)) (hK : K (a.put o.dst (.int .i64 (l.length : Int))) w) : o.wp P a w K Q := by
  have hl := h.len ht o.type
  rw [encL_len] at hl
  unfold Oper.wp
  simp [execOp, hop, resolve, invoke, builtin, hm, hl, Result.andThen]
  exact hK
/-- A map that is being gone through: f is what it tells, lf is still to come. -/
def RgT (kv : α → Value) (ev : β → Value) (w : World) (b r : Nat) (f : α → Option β) (lf : List (α × β)) : Prop := RgX kv w b r (encL ev lf) ∧ KeysN lf ∧ ∀ p ∈ lf, f p.1 = some p.2
theorem RgT.keep {lf : List (α × β)} (h : RgT kv ev w b r f lf) (e1 : w'.heap[b]? = w.heap[b]?) (e2 : w'.heap[r]? = w.heap[r]?) : RgT kv ev w' b r f lf := ⟨h.1.keep e1 e2, h.2⟩
theorem RgT.next {lf : List (α × β)} (h : RgT kv ev w b r f lf) (hb : Below w.heap.size w w') : RgT kv ev w' b r f lf := h.keep (hb.block b h.1.lt.1) (hb.block r h.1.lt.2.1)
theorem RgT.grown {lf : List (α × β)} (h : RgT kv ev w b r f lf) {row : Option Nat} (hg : w.grownBy w' row) (h1 : some b ≠ row) (h2 : some r ≠ row) : RgT kv ev w' b r f lf := h.keep (hg.block b h.1.lt.1 h1) (hg.block r h.1.lt.2.1 h2)
theorem RgT.left {lf : List (α × β)} (h : RgT kv ev w b r f lf) : w.rangeLeft b r = lf.length := by rw [h.1.left, encL_len]
theorem wpList_rangeT [DecidableEq α] (hg : o.guard = none) (m : Operand) (hop : o.op = Op.range t m) (ht : P.underlying t = some (.map kt vt)) (hm : a.eval m = .map (some b)) (h : MpT kv ev w b f)
    (hK : ∀ w' lf, RgT kv ev w' b w.heap.size f lf → (∀ k v, f k = some v → (k, v) ∈ lf) → Below w.heap.size w w' → w'.heap.size = w.heap.size + 1 → wpList P ops Q rest (a.put o.dst (.pointer (some ⟨w.heap.size, 0, none⟩))) w') : wpList P ops Q (o :: rest) a w := by
  obtain ⟨l, h1, h2, h3⟩ := h
  exact wpList_range_x hg m hop ht hm h1 (fun w' r1 r2 r3 => hK w' l ⟨r1, h2, fun p hp => by rw [← h3]; exact getK_of h2 hp⟩ (fun k v e => getK_mem (by rw [h3]; exact e)) r2 r3)
theorem wpList_nextT (hg : o.guard = none) (it : Operand) (hop : o.op = Op.next it false) (hit : a.eval it = .pointer (some ⟨r, 0, none⟩)) {lf : List (α × β)} (h : RgT kv ev w b r f lf)
    (hDone : lf = [] → wpList P ops Q rest (a.put o.dst (.tuple #[.bool false])) w)
    (hMore : ∀ (i : Nat) (hi : i < lf.length) (w' : World), RgT kv ev w' b r f (lf.eraseIdx i) → w.grownBy w' (some r) → w'.heap.size = w.heap.size → (Instr.entry (.pointer (some ⟨r, 0, none⟩))).run P w' = .ok (.tuple #[kv lf[i].1, ev lf[i].2]) w' → wpList P ops Q rest (a.put o.dst (.tuple #[.bool true, kv lf[i].1, ev lf[i].2])) w') : wpList P ops Q (o :: rest) a w := by
  refine wpList_next_x hg it hop hit h.1 (fun e => hDone (by cases lf with | nil => rfl | cons p t => cases e)) (fun i hi w' r1 r2 r3 r4 => ?_)
  have hi' : i < lf.length := by rw [encL_len] at hi; exact hi
  have e1 : (encL ev lf)[i].1 = lf[i].1 := by simp [encL]
  have e2 : (encL ev lf)[i].2 = ev lf[i].2 := by simp [encL]
  rw [e1, e2] at r4 ⊢
  rw [encL_erase] at r1
  exact hMore i hi' w' ⟨r1, keysN_erase h.2.1 i, fun p hp => h.2.2 p ((mem_erase h.2.1 hi').1 hp).1⟩ r2 r3 r4
end
end Go.Proofs.Ytnglgndocmkbfaa
