/- Maps of a call's own with keys of any kind that the machine compares as they are (KeyL), their entries known exactly: looked up, stored into, deleted from, gone through. No Go text is spoken of here. -/
import Derived.Test.YtnglgndocmkbfaaNg
import Derived.Test.YtnglgndocmkbfaaBx
import Derived.Maps.RangeWalk
import Derived.Maps.OwnSet
namespace Go.Proofs.Ytnglgndocmkbfaa
open Go.RowKit
open Go.ChangeMaps (setBlock heap_setBlock_same heap_setBlock_other)
set_option linter.unusedVariables false
set_option linter.unusedSimpArgs false

variable {α : Type} {kv : α → Value}
/-- What a map's entries are, key by key. -/
def EsL (kv : α → Value) (es : List MapEntry) (l : List (α × Value)) : Prop := es.map (fun e => (e.key, e.val)) = l.map (fun p => (kv p.1, p.2))
def MpX (kv : α → Value) (w : World) (b : Nat) (l : List (α × Value)) : Prop := ∃ (es : Array MapEntry) (clock : Nat), w.heap[b]? = some (.map es clock) ∧ EsL kv es.toList l ∧ (es.toList.map (·.born)).Nodup ∧ ∀ e ∈ es.toList, e.born < clock
theorem EsL.len {es : List MapEntry} {l : List (α × Value)} (h : EsL kv es l) : es.length = l.length := by have := congrArg List.length h; simpa using this
theorem EsL.cons {e : MapEntry} {es : List MapEntry} {p : α × Value} {l : List (α × Value)} (h : EsL kv (e :: es) (p :: l)) : e.key = kv p.1 ∧ e.val = p.2 ∧ EsL kv es l := by
  unfold EsL at h ⊢
  simp only [List.map_cons, List.cons.injEq, Prod.mk.injEq] at h
  exact ⟨h.1.1, h.1.2, h.2⟩
theorem MpX.made (w : World) : MpX kv (w.alloc (.map #[] 0)) w.heap.size [] := ⟨#[], 0, (MapKept.heap_alloc w _).1, rfl, by simp, by simp⟩
theorem MpX.keep {w w' : World} {b : Nat} {l : List (α × Value)} (h : MpX kv w b l) (e : w'.heap[b]? = w.heap[b]?) : MpX kv w' b l := by
  obtain ⟨es, clock, h1, h2⟩ := h
  exact ⟨es, clock, e.trans h1, h2⟩
theorem MpX.lt {w : World} {b : Nat} {l : List (α × Value)} (h : MpX kv w b l) : b < w.heap.size := by
  obtain ⟨es, clock, h1, _⟩ := h
  exact (Array.getElem?_eq_some_iff.1 h1).1
/-- Where a key stands, and its value. -/
def fnd [DecidableEq α] (k : α) : List (α × Value) → Nat → Option (Nat × Value)
  | [], _ => none
  | p :: t, i => if p.1 = k then some (i, p.2) else fnd k t (i + 1)
/-- Keys that the machine compares as they are. -/
structure KeyL [DecidableEq α] (P : Program) (kt : TypeId) (kv : α → Value) : Prop where
  check : ∀ (c : Bool) (k : α) (w : World), (Instr.checkKey c 10000 kt (kv k)).run P w = .ok () w
  find : ∀ (k : α) (es : List MapEntry) (l : List (α × Value)) (w : World), EsL kv es l → (Instr.findKey kt (kv k) es).run P w = .ok (fnd k l 0) w
  same : ∀ k : α, Instr.sameBits 10000 (kv k) (kv k) = true
theorem fnd_none [DecidableEq α] {k : α} : ∀ {l : List (α × Value)} {i : Nat}, (∀ p ∈ l, p.1 ≠ k) → fnd k l i = none
  | [], _, _ => rfl
  | p :: t, i, h => by unfold fnd; rw [if_neg (h p (by simp))]; exact fnd_none (fun q hq => h q (by simp [hq]))
theorem fnd_some [DecidableEq α] {k : α} : ∀ {l : List (α × Value)} {j : Nat} (hj : j < l.length) (i : Nat), l[j].1 = k → (∀ z (hz : z < l.length), z < j → l[z].1 ≠ k) → fnd k l i = some (i + j, l[j].2)
  | [], j, hj, _, _, _ => by simp at hj
  | p :: t, 0, hj, i, h, _ => by
    have h : p.1 = k := h
    unfold fnd; rw [if_pos h]; rfl
  | p :: t, j + 1, hj, i, h, hn => by
    have h0 : p.1 ≠ k := hn 0 (by simp) (by omega)
    unfold fnd; rw [if_neg h0]
    have := fnd_some (l := t) (j := j) (by simpa using hj) (i + 1) h (fun z hz q => hn (z + 1) (by simpa using hz) (by omega))
    rw [this]
    simp only [List.getElem_cons_succ]
    congr 2; omega
section
variable {P : Program} {w : World} {b : Nat} {l : List (α × Value)} {t kt vt : TypeId}
theorem MpX.lookup (h : MpX kv w b l) (ht : P.underlying t = some (.map kt vt)) [DecidableEq α] (hk : KeyL P kt kv) {z : Value} (hz : (zeroValue vt).run P w = .ok z w) (k : α) : (Instr.lookup t (.map (some b)) (kv k) true).run P w = .ok (match fnd k l 0 with | some (_, v) => .tuple #[v, .bool true] | none => .tuple #[z, .bool false]) w := by
  obtain ⟨es, clock, hb, hl, _, _⟩ := h
  unfold Instr.lookup
  cases hf : fnd k l 0 with
  | none => simp [run_underlying ht, MapKept.run_getObj_map hb, hk.check, hk.find _ _ _ _ hl, hf, hz, Result.andThen]
  | some p => obtain ⟨i, v⟩ := p; simp [run_underlying ht, MapKept.run_getObj_map hb, hk.check, hk.find _ _ _ _ hl, hf, Result.andThen]
theorem MpX.len (h : MpX kv w b l) (ht : P.underlying t = some (.map kt vt)) (ty : TypeId) : (Builtin.len_ #[t] ty #[.map (some b)]).run P w = .ok (.int .i64 (l.length : Int)) w := by
  obtain ⟨es, clock, hb, hl, _, _⟩ := h
  have := hl.len
  have e : es.size = l.length := by simpa using this
  simp [Builtin.len_, run_underlying ht, MapKept.run_getObj_map hb, goInt, Result.andThen, e]
theorem run_setObj_map {es : Array MapEntry} {clock : Nat} (hb : w.heap[b]? = some (.map es clock)) (o : Obj) : (setObj b o).run P w = .ok () (setBlock w b o) := by
  simp [setObj, Sem.run, hb, setBlock]
theorem MpX.store_new (h : MpX kv w b l) (ht : P.underlying t = some (.map kt vt)) [DecidableEq α] (hk : KeyL P kt kv) {k : α} (hn : ∀ p ∈ l, p.1 ≠ k) (v : Value) : ∃ w', (Instr.mapUpdate t (.map (some b)) (kv k) v).run P w = .ok () w' ∧ MpX kv w' b (l ++ [(k, v)]) ∧ w.grownBy w' (some b) ∧ w'.heap.size = w.heap.size := by
  obtain ⟨es, clock, hb, hl, hd, hlt⟩ := h
  refine ⟨setBlock w b (.map (es.push ⟨kv k, v, clock⟩) (clock + 1)), ?_, ⟨_, _, heap_setBlock_same hb _, ?_, ?_, ?_⟩, ⟨rfl, rfl, rfl, by simp [setBlock], fun i _ hi => heap_setBlock_other hb _ (fun e => hi (by rw [e]))⟩, by simp [setBlock]⟩
  · unfold Instr.mapUpdate
    simp [run_underlying ht, MapKept.run_getObj_map hb, hk.check, hk.find _ _ _ _ hl, fnd_none hn, run_setObj_map hb, Result.andThen]
  · unfold EsL at hl ⊢
    rw [Array.toList_push, List.map_append, List.map_append, hl]; rfl
  · rw [Array.toList_push, List.map_append, List.nodup_append]
    refine ⟨hd, by simp, ?_⟩
    intro a ha c hc q
    simp at hc
    obtain ⟨e, he, rfl⟩ := List.mem_map.1 ha
    have := hlt e he
    omega
  · intro e he
    rw [Array.toList_push] at he
    rcases List.mem_append.1 he with q | q
    · have := hlt e q; omega
    · simp at q; subst q; exact Nat.lt_succ_self _
theorem MpX.store_old (h : MpX kv w b l) (ht : P.underlying t = some (.map kt vt)) [DecidableEq α] (hk : KeyL P kt kv) {k : α} {j : Nat} (hj : j < l.length) (hkj : l[j].1 = k) (hn : ∀ z (hz : z < l.length), z < j → l[z].1 ≠ k) (v : Value) : ∃ w', (Instr.mapUpdate t (.map (some b)) (kv k) v).run P w = .ok () w' ∧ MpX kv w' b (l.set j (k, v)) ∧ w.grownBy w' (some b) ∧ w'.heap.size = w.heap.size := by
  obtain ⟨es, clock, hb, hl, hd, hlt⟩ := h
  have hln : es.size = l.length := by have := hl.len; simpa using this
  have hje : j < es.size := by omega
  have hkey : es[j].key = kv k := by
    have e1 : (es.toList.map (fun e => (e.key, e.val)))[j]? = (l.map (fun p => (kv p.1, p.2)))[j]? := by rw [hl]
    rw [List.getElem?_map, List.getElem?_map, List.getElem?_eq_getElem (by simpa using hje), List.getElem?_eq_getElem hj] at e1
    simp at e1
    rw [e1.1, hkj]
  have hmod : (es.modify j fun e => { e with key := kv k, val := v }).toList = es.toList.set j { es[j] with key := kv k, val := v } := by
    apply List.ext_getElem?
    intro z
    rw [Array.getElem?_toList, Array.getElem?_modify, List.getElem?_set, Array.getElem?_toList]
    by_cases q : j = z
    · subst q; simp [hje]
    · simp [q]
  refine ⟨setBlock w b (.map (es.modify j fun e => { e with key := kv k, val := v }) clock), ?_, ⟨_, _, heap_setBlock_same hb _, ?_, ?_, ?_⟩, ⟨rfl, rfl, rfl, by simp [setBlock], fun i _ hi => heap_setBlock_other hb _ (fun e => hi (by rw [e]))⟩, by simp [setBlock]⟩
  · have hf := fnd_some hj 0 hkj hn
    rw [Nat.zero_add] at hf
    unfold Instr.mapUpdate
    simp [run_underlying ht, MapKept.run_getObj_map hb, hk.check, hk.find _ _ _ _ hl, hf, run_setObj_map hb, Result.andThen, hje, hkey, Instr.keyThatStays, hk.same]
  · rw [hmod]
    unfold EsL at hl ⊢
    rw [List.map_set, List.map_set, hl]
  · rw [hmod, List.map_set]
    have : (es.toList.map (·.born)).set j es[j].born = es.toList.map (·.born) := by
      apply List.ext_getElem?
      intro z
      rw [List.getElem?_set]
      split
      · rename_i q; subst q
        simp [hje]
      · rfl
    rw [this]; exact hd
  · rw [hmod]
    intro e he
    rcases List.mem_or_eq_of_mem_set he with q | q
    · exact hlt e q
    · subst q; exact hlt es[j] (by simp)
theorem MpX.drop (h : MpX kv w b l) (ht : P.underlying t = some (.map kt vt)) [DecidableEq α] (hk : KeyL P kt kv) {k : α} {j : Nat} (hj : j < l.length) (hkj : l[j].1 = k) (hn : ∀ z (hz : z < l.length), z < j → l[z].1 ≠ k) (ty : TypeId) : ∃ w', (Builtin.delete_ #[t, kt] ty #[.map (some b), kv k]).run P w = .ok (.tuple #[]) w' ∧ MpX kv w' b (l.eraseIdx j) ∧ w.grownBy w' (some b) ∧ w'.heap.size = w.heap.size := by
  obtain ⟨es, clock, hb, hl, hd, hlt⟩ := h
  have hln : es.size = l.length := by have := hl.len; simpa using this
  have hje : j < es.size := by omega
  have her : (es.eraseIdxIfInBounds j).toList = es.toList.eraseIdx j := by
    unfold Array.eraseIdxIfInBounds
    rw [dif_pos hje]
    simp
  refine ⟨setBlock w b (.map (es.eraseIdxIfInBounds j) clock), ?_, ⟨_, _, heap_setBlock_same hb _, ?_, ?_, ?_⟩, ⟨rfl, rfl, rfl, by simp [setBlock], fun i _ hi => heap_setBlock_other hb _ (fun e => hi (by rw [e]))⟩, by simp [setBlock]⟩
  · have hf := fnd_some hj 0 hkj hn
    rw [Nat.zero_add] at hf
    simp [Builtin.delete_, run_underlying ht, MapKept.run_getObj_map hb, hk.check, hk.find _ _ _ _ hl, hf, run_setObj_map hb, Result.andThen]
  · rw [her]
    unfold EsL at hl ⊢
    rw [List.eraseIdx_eq_take_drop_succ, List.eraseIdx_eq_take_drop_succ, List.map_append, List.map_append, List.map_take, List.map_drop, List.map_take, List.map_drop, hl]
  · rw [her]
    exact (List.Sublist.map _ (List.eraseIdx_sublist _ _)).nodup hd
  · rw [her]
    intro e he
    exact hlt e (List.mem_of_mem_eraseIdx he)
end
section
variable {P : Program} {w : World} {o : Oper} {a : Act} {K : Act → World → Prop} {Q : Exit → Act → World → Prop} {b : Nat} {l : List (α × Value)} {t kt vt : TypeId}
theorem wp_lookup_yes (m x : Operand) (hop : o.op = Op.lookup t m x true) (ht : P.underlying t = some (.map kt vt)) [DecidableEq α] (hk : KeyL P kt kv) {z : Value} (hz : (zeroValue vt).run P w = .ok z w) (h : MpX kv w b l) (hm : a.eval m = .map (some b)) {k : α} (hx : a.eval x = kv k) {j : Nat} (hj : j < l.length) (hkj : l[j].1 = k) (hn : ∀ z (hz : z < l.length), z < j → l[z].1 ≠ k) (hK : K (a.put o.dst (.tuple #[l[j].2, .bool true])) w) : o.wp P a w K Q := by
  have hrun := h.lookup ht hk hz k
  rw [fnd_some hj 0 hkj hn] at hrun
  unfold Oper.wp
  simp [execOp, hop, hm, hx, hrun, Result.andThen]
  exact hK
theorem wp_lookup_no (m x : Operand) (hop : o.op = Op.lookup t m x true) (ht : P.underlying t = some (.map kt vt)) [DecidableEq α] (hk : KeyL P kt kv) {z : Value} (hz : (zeroValue vt).run P w = .ok z w) (h : MpX kv w b l) (hm : a.eval m = .map (some b)) {k : α} (hx : a.eval x = kv k) (hn : ∀ p ∈ l, p.1 ≠ k) (hK : K (a.put o.dst (.tuple #[z, .bool false])) w) : o.wp P a w K Q := by
  have hrun := h.lookup ht hk hz k
  rw [fnd_none hn] at hrun
  unfold Oper.wp
  simp [execOp, hop, hm, hx, hrun, Result.andThen]
  exact hK
theorem wp_store_new (m x v : Operand) (hop : o.op = Op.mapUpdate t m x v) (ht : P.underlying t = some (.map kt vt)) [DecidableEq α] (hk : KeyL P kt kv) (h : MpX kv w b l) (hm : a.eval m = .map (some b)) {k : α} (hx : a.eval x = kv k) {val : Value} (hv : a.eval v = val) (hn : ∀ p ∈ l, p.1 ≠ k) (hK : ∀ w', MpX kv w' b (l ++ [(k, val)]) → w.grownBy w' (some b) → w'.heap.size = w.heap.size → K (a.put o.dst undef) w') : o.wp P a w K Q := by
  obtain ⟨w', hrun, r1, r2, r3⟩ := h.store_new ht hk hn val
  unfold Oper.wp
  simp [execOp, hop, hm, hx, hv, hrun, Result.andThen]
  exact hK w' r1 r2 r3
theorem wp_store_old (m x v : Operand) (hop : o.op = Op.mapUpdate t m x v) (ht : P.underlying t = some (.map kt vt)) [DecidableEq α] (hk : KeyL P kt kv) (h : MpX kv w b l) (hm : a.eval m = .map (some b)) {k : α} (hx : a.eval x = kv k) {val : Value} (hv : a.eval v = val) {j : Nat} (hj : j < l.length) (hkj : l[j].1 = k) (hn : ∀ z (hz : z < l.length), z < j → l[z].1 ≠ k) (hK : ∀ w', MpX kv w' b (l.set j (k, val)) → w.grownBy w' (some b) → w'.heap.size = w.heap.size → K (a.put o.dst undef) w') : o.wp P a w K Q := by
  obtain ⟨w', hrun, r1, r2, r3⟩ := h.store_old ht hk hj hkj hn val
  unfold Oper.wp
  simp [execOp, hop, hm, hx, hv, hrun, Result.andThen]
  exact hK w' r1 r2 r3
theorem wp_delete_x (m x : Operand) (hop : o.op = Op.call { callee := Callee.builtin Builtin.delete, args := #[m, x], argTypes := #[t, kt] }) (ht : P.underlying t = some (.map kt vt)) [DecidableEq α] (hk : KeyL P kt kv) (h : MpX kv w b l) (hm : a.eval m = .map (some b)) {k : α} (hx : a.eval x = kv k) {j : Nat} (hj : j < l.length) (hkj : l[j].1 = k) (hn : ∀ z (hz : z < l.length), z < j → l[z].1 ≠ k) (hK : ∀ w', MpX kv w' b (l.eraseIdx j) → w.grownBy w' (some b) → w'.heap.size = w.heap.size → K (a.put o.dst (.tuple #[])) w') : o.wp P a w K Q := by
  obtain ⟨w', hrun, r1, r2, r3⟩ := h.drop ht hk hj hkj hn o.type
  unfold Oper.wp
  simp [execOp, hop, resolve, invoke, builtin, hm, hx, hrun, Result.andThen]
  exact hK w' r1 r2 r3
theorem wp_makeMap (hop : o.op = Op.makeMap t none) (hK : K (a.put o.dst (.map (some w.heap.size))) (w.alloc (.map #[] 0))) : o.wp P a w K Q := by
  have hrun : (Instr.makeMap t none).run P w = .ok (.map (some w.heap.size)) (w.alloc (.map #[] 0)) := by kernel_rfl
  unfold Oper.wp
  simp [execOp, hop, hrun, Result.andThen]
  exact hK
variable {ops : Array Oper} {rest : List Oper}
theorem wpList_len_x (hg : o.guard = none) (m : Operand) (hop : o.op = Op.call { callee := Callee.builtin Builtin.len, args := #[m], argTypes := #[t] }) (ht : P.underlying t = some (.map kt vt)) (h : MpX kv w b l) (hm : a.eval m = .map (some b)) (hK : wpList P ops Q rest (a.put o.dst (.int .i64 (l.length : Int))) w) : wpList P ops Q (o :: rest) a w := by
  refine wpList_plain hg fun K' hK' => ?_
  unfold Oper.wp
  simp [execOp, hop, resolve, invoke, builtin, hm, h.len ht o.type, Result.andThen]
  exact hK' _ _ hK
end
/-- What a store leaves. -/
def putK {β : Type} [DecidableEq α] (k : α) (v : β) : List (α × β) → List (α × β)
  | [] => [(k, v)]
  | p :: t => if p.1 = k then (k, v) :: t else p :: putK k v t
theorem putK_new {β : Type} [DecidableEq α] {k : α} {v : β} : ∀ {l : List (α × β)}, (∀ p ∈ l, p.1 ≠ k) → putK k v l = l ++ [(k, v)]
  | [], _ => rfl
  | p :: t, h => by unfold putK; rw [if_neg (h p (by simp)), putK_new (fun q hq => h q (by simp [hq]))]; rfl
theorem putK_old {β : Type} [DecidableEq α] {k : α} {v : β} : ∀ {l : List (α × β)}, (∃ p ∈ l, p.1 = k) → ∃ (j : Nat) (hj : j < l.length), l[j].1 = k ∧ (∀ z (hz : z < l.length), z < j → l[z].1 ≠ k) ∧ putK k v l = l.set j (k, v)
  | [], h => by obtain ⟨p, hp, _⟩ := h; simp at hp
  | p :: t, h => by
    by_cases q : p.1 = k
    · exact ⟨0, by simp, q, fun z _ hz => absurd hz (Nat.not_lt_zero z), by unfold putK; rw [if_pos q]; rfl⟩
    · obtain ⟨j, hj, h1, h2, h3⟩ := putK_old (k := k) (v := v) (l := t) (by obtain ⟨r, hr, e⟩ := h; rcases List.mem_cons.1 hr with e2 | e2; (· subst e2; exact absurd e q); (· exact ⟨r, e2, e⟩))
      refine ⟨j + 1, by simp; omega, h1, ?_, by unfold putK; rw [if_neg q, h3]; rfl⟩
      intro z hz hlt
      cases z with
      | zero => exact q
      | succ z => exact h2 z (by simpa using hz) (by omega)
theorem MpX.store [DecidableEq α] {P : Program} {w : World} {b : Nat} {l : List (α × Value)} {t kt vt : TypeId} (h : MpX kv w b l) (ht : P.underlying t = some (.map kt vt)) (hk : KeyL P kt kv) (k : α) (v : Value) : ∃ w', (Instr.mapUpdate t (.map (some b)) (kv k) v).run P w = .ok () w' ∧ MpX kv w' b (putK k v l) ∧ w.grownBy w' (some b) ∧ w'.heap.size = w.heap.size := by
  by_cases q : ∃ p ∈ l, p.1 = k
  · obtain ⟨j, hj, h1, h2, h3⟩ := putK_old (v := v) q
    rw [h3]
    exact h.store_old ht hk hj h1 h2 v
  · rw [putK_new (fun p hp e => q ⟨p, hp, e⟩)]
    exact h.store_new ht hk (fun p hp e => q ⟨p, hp, e⟩) v
theorem wp_store [DecidableEq α] {P : Program} {w : World} {o : Oper} {a : Act} {K : Act → World → Prop} {Q : Exit → Act → World → Prop} {b : Nat} {l : List (α × Value)} {t kt vt : TypeId} (m x v : Operand) (hop : o.op = Op.mapUpdate t m x v) (ht : P.underlying t = some (.map kt vt)) (hk : KeyL P kt kv) (h : MpX kv w b l) (hm : a.eval m = .map (some b)) {k : α} (hx : a.eval x = kv k) {val : Value} (hv : a.eval v = val)
    (hK : ∀ w', MpX kv w' b (putK k val l) → w.grownBy w' (some b) → w'.heap.size = w.heap.size → K (a.put o.dst undef) w') : o.wp P a w K Q := by
  obtain ⟨w', hrun, r1, r2, r3⟩ := h.store ht hk k val
  unfold Oper.wp
  simp [execOp, hop, hm, hx, hv, hrun, Result.andThen]
  exact hK w' r1 r2 r3
theorem wpList_store [DecidableEq α] {P : Program} {w : World} {o : Oper} {a : Act} {Q : Exit → Act → World → Prop} {ops : Array Oper} {rest : List Oper} {b : Nat} {l : List (α × Value)} {t kt vt : TypeId} (hg : o.guard = none) (m x v : Operand) (hop : o.op = Op.mapUpdate t m x v) (ht : P.underlying t = some (.map kt vt)) (hk : KeyL P kt kv) (h : MpX kv w b l) (hm : a.eval m = .map (some b)) {k : α} (hx : a.eval x = kv k) {val : Value} (hv : a.eval v = val)
    (hK : ∀ w', MpX kv w' b (putK k val l) → w.grownBy w' (some b) → w'.heap.size = w.heap.size → wpList P ops Q rest (a.put o.dst undef) w') : wpList P ops Q (o :: rest) a w := by
  refine wpList_plain hg fun K' hK' => ?_
  exact wp_store m x v hop ht hk h hm hx hv (fun w' r1 r2 r3 => hK' _ _ (hK w' r1 r2 r3))
/-- A map that is being gone through: what is still to come. -/
def RgX (kv : α → Value) (w : World) (b r : Nat) (lf : List (α × Value)) : Prop := ∃ (es : Array MapEntry) (clock : Nat) (seen : Array Nat), w.heap[b]? = some (.map es clock) ∧ w.heap[r]? = some (.mapIter (some b) clock seen clock) ∧ (es.toList.map (·.born)).Nodup ∧ (∀ e ∈ es.toList, e.born < clock) ∧ EsL kv (leftOf es seen).toList lf
theorem RgX.left {w : World} {b r : Nat} {lf : List (α × Value)} (h : RgX kv w b r lf) : w.rangeLeft b r = lf.length := by
  obtain ⟨es, clock, seen, h1, h2, _, _, h5⟩ := h
  have := h5.len
  simp only [World.rangeLeft, h1, h2]
  simpa using this
theorem RgX.keep {w w' : World} {b r : Nat} {lf : List (α × Value)} (h : RgX kv w b r lf) (e1 : w'.heap[b]? = w.heap[b]?) (e2 : w'.heap[r]? = w.heap[r]?) : RgX kv w' b r lf := by
  obtain ⟨es, clock, seen, h1, h2, h3⟩ := h
  exact ⟨es, clock, seen, e1.trans h1, e2.trans h2, h3⟩
theorem RgX.lt {w : World} {b r : Nat} {lf : List (α × Value)} (h : RgX kv w b r lf) : b < w.heap.size ∧ r < w.heap.size ∧ r ≠ b := by
  obtain ⟨es, clock, seen, h1, h2, _⟩ := h
  refine ⟨(Array.getElem?_eq_some_iff.1 h1).1, (Array.getElem?_eq_some_iff.1 h2).1, fun e => ?_⟩
  rw [e, h1] at h2; cases h2
theorem filter_born : ∀ (L : List MapEntry) (i : Nat) (hi : i < L.length), (L.map (·.born)).Nodup → L.filter (fun x => x.born != L[i].born) = L.eraseIdx i
  | [], i, hi, _ => by simp at hi
  | e :: t, 0, hi, h => by
    simp only [List.map_cons, List.nodup_cons, List.mem_map, not_exists, not_and] at h
    simp only [List.getElem_cons_zero, List.eraseIdx_cons_zero]
    rw [List.filter_cons_of_neg (by simp)]
    exact List.filter_eq_self.2 (fun x hx => by simpa using fun q => h.1 x hx q)
  | e :: t, i + 1, hi, h => by
    simp only [List.map_cons, List.nodup_cons, List.mem_map, not_exists, not_and] at h
    have hi' : i < t.length := by simpa using hi
    simp only [List.getElem_cons_succ, List.eraseIdx_cons_succ]
    rw [List.filter_cons_of_pos (by simpa using fun q => h.1 t[i] (List.getElem_mem hi') q.symm), filter_born t i hi' h.2]
theorem left_push (es : Array MapEntry) (seen : Array Nat) (e : MapEntry) : (leftOf es (seen.push e.born)).toList = (leftOf es seen).toList.filter (fun x => x.born != e.born) := by
  unfold leftOf
  rw [Array.toList_filter, Array.toList_filter, List.filter_filter]
  congr 1
  funext x
  rw [Array.contains_push]
  cases h1 : seen.contains x.born <;> cases h2 : (x.born == e.born) <;> simp_all [bne]
theorem esl_erase {L : List MapEntry} {l : List (α × Value)} (h : EsL kv L l) (i : Nat) : EsL kv (L.eraseIdx i) (l.eraseIdx i) := by
  unfold EsL at h ⊢
  rw [List.eraseIdx_eq_take_drop_succ, List.eraseIdx_eq_take_drop_succ, List.map_append, List.map_append, List.map_take, List.map_drop, List.map_take, List.map_drop, h]
theorem mem_left {es : Array MapEntry} {seen : Array Nat} {e : MapEntry} (h : e ∈ (leftOf es seen).toList) : e ∈ es.toList := by
  unfold leftOf at h
  rw [Array.toList_filter] at h
  exact (List.mem_filter.1 h).1
theorem setB_same {w : World} {b : Nat} {o : Obj} (h : w.heap[b]? = some o) (o' : Obj) : (setBlock w b o').heap[b]? = some o' := by
  have hlt := (Array.getElem?_eq_some_iff.1 h).1
  simp [setBlock, hlt]
theorem setB_size (w : World) (b : Nat) (o : Obj) : (setBlock w b o).heap.size = w.heap.size := by simp [setBlock]
theorem setB_other {w : World} {b i : Nat} (o' : Obj) (hi : i ≠ b) : (setBlock w b o').heap[i]? = w.heap[i]? := by
  simp only [setBlock]
  rw [Array.getElem?_setIfInBounds]
  rw [if_neg (fun q => hi q.symm)]
section
variable {P : Program} {w : World} {o : Oper} {a : Act} {Q : Exit → Act → World → Prop} {b r : Nat} {l : List (α × Value)} {t kt vt : TypeId} {ops : Array Oper} {rest : List Oper}
theorem wpList_range_x (hg : o.guard = none) (m : Operand) (hop : o.op = Op.range t m) (ht : P.underlying t = some (.map kt vt)) (hm : a.eval m = .map (some b)) (h : MpX kv w b l)
    (hK : ∀ w', RgX kv w' b w.heap.size l → Below w.heap.size w w' → w'.heap.size = w.heap.size + 1 → wpList P ops Q rest (a.put o.dst (.pointer (some ⟨w.heap.size, 0, none⟩))) w') : wpList P ops Q (o :: rest) a w := by
  refine wpList_plain hg fun K' hK' => ?_
  have hlt := h.lt
  obtain ⟨es, clock, hb, hl, hd, hbo⟩ := h
  have hrun := run_range_map (P := P) w t kt vt b es clock ht hb
  unfold Oper.wp
  simp [execOp, hop, hm, hrun, Result.andThen]
  refine hK' _ _ (hK _ ⟨es, clock, #[], ((MapKept.heap_alloc w _).2 b hlt).trans hb, (MapKept.heap_alloc w _).1, hd, hbo, ?_⟩ (Go.Joins.below_alloc1 _ _) (by simp))
  have e : (leftOf es #[]).toList = es.toList := by simp [leftOf]
  rw [e]; exact hl
theorem wpList_next_x (hg : o.guard = none) (it : Operand) (hop : o.op = Op.next it false) (hit : a.eval it = .pointer (some ⟨r, 0, none⟩)) (h : RgX kv w b r l)
    (hDone : l = [] → wpList P ops Q rest (a.put o.dst (.tuple #[.bool false])) w)
    (hMore : ∀ (i : Nat) (hi : i < l.length) (w' : World), RgX kv w' b r (l.eraseIdx i) → w.grownBy w' (some r) → w'.heap.size = w.heap.size → (Instr.entry (.pointer (some ⟨r, 0, none⟩))).run P w' = .ok (.tuple #[kv l[i].1, l[i].2]) w' → wpList P ops Q rest (a.put o.dst (.tuple #[.bool true, kv l[i].1, l[i].2])) w') : wpList P ops Q (o :: rest) a w := by
  refine wpList_plain hg fun K' hK' => ?_
  have hne := h.lt.2.2
  obtain ⟨es, clock, seen, hb, hr, hd, hbo, hl⟩ := h
  unfold Oper.wp
  rcases run_next_at (P := P) w o.type r b clock clock seen es clock hr hb hbo (Nat.le_refl _) with ⟨h0, hrun⟩ | ⟨e, he, w1, hw1, hrun⟩
  · have hl0 : l = [] := List.eq_nil_of_length_eq_zero (by rw [← hl.len]; simpa using h0)
    simp [execOp, hop, hit, hrun, Result.andThen]
    exact hK' _ _ (hDone hl0)
  · obtain ⟨i, hi, rfl⟩ := List.getElem_of_mem he
    have hil : i < l.length := by rw [← hl.len]; exact hi
    have hkv : (leftOf es seen).toList[i].key = kv l[i].1 ∧ (leftOf es seen).toList[i].val = l[i].2 := by
      have e1 : ((leftOf es seen).toList.map (fun e => (e.key, e.val)))[i]? = (l.map (fun p => (kv p.1, p.2)))[i]? := by rw [hl]
      rw [List.getElem?_map, List.getElem?_map, List.getElem?_eq_getElem hi, List.getElem?_eq_getElem hil] at e1
      simpa using e1
    have hr1 : w1.heap[r]? = some (.mapIter (some b) clock seen clock) := by rcases hw1 with rfl | rfl <;> exact hr
    have hb1 : w1.heap[b]? = some (.map es clock) := by rcases hw1 with rfl | rfl <;> exact hb
    have hmem : (leftOf es seen).toList[i] ∈ es.toList := mem_left he
    have hnd : ((leftOf es seen).toList.map (·.born)).Nodup := by
      unfold leftOf
      rw [Array.toList_filter]
      exact (List.Sublist.map _ List.filter_sublist).nodup hd
    generalize hE : (leftOf es seen).toList[i] = E at hkv hrun hmem
    have hR : RgX kv (setBlock w1 r (.mapIter (some b) clock (seen.push E.born) clock)) b r (l.eraseIdx i) := by
      refine ⟨es, clock, seen.push E.born, (setB_other _ (fun q => hne q.symm)).trans hb1, setB_same hr1 _, hd, hbo, ?_⟩
      rw [left_push, ← hE, filter_born _ i hi hnd]
      exact esl_erase hl i
    have hent := run_entry_at (P := P) (setBlock w1 r (.mapIter (some b) clock (seen.push E.born) clock)) r b clock seen es clock E (setB_same hr1 _) ((setB_other _ (fun q => hne q.symm)).trans hb1) hmem hd
    rw [hkv.1, hkv.2] at hrun hent
    simp [execOp, hop, hit, hrun, Result.andThen]
    refine hK' _ _ (hMore i hil _ hR ?_ ?_ hent)
    · rcases hw1 with rfl | rfl
      · exact ⟨rfl, rfl, rfl, by simp [setBlock], fun j _ hj => setB_other _ (fun q => hj (by rw [q]))⟩
      · exact ⟨rfl, rfl, rfl, Nat.le_of_eq (setB_size w.drew _ _).symm, fun j _ hj => (setB_other (w := w.drew) _ (fun q => hj (by rw [q]))).trans rfl⟩
    · rcases hw1 with rfl | rfl
      · simp [setBlock]
      · exact setB_size w.drew _ _
end
end Go.Proofs.Ytnglgndocmkbfaa
