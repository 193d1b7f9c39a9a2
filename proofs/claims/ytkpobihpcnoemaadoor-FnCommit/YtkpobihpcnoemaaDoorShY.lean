/- Rows that are known exactly: one element turned in place, flat elements, one put between others. No Go text is spoken of here. -/
import Derived.Test.YtkpobihpcnoemaaDoorShX
import Derived.Test.YtkpobihpcnoemaaDoorInG
namespace Go.Proofs.YtkpobihpcnoemaaDoor
open Go.RowKit
set_option linter.unusedVariables false

theorem heap_set_same {W : World} {g j : Nat} {cur : Array Value} {t : TypeId} {fr : Nat × Nat} (h : W.heap[g]? = some (.cells cur t fr)) (v : Value) : (W.setCell ⟨g, j, none⟩ v).heap[g]? = some (.cells (cur.setIfInBounds j v) t fr) := by
  have hlt : g < W.heap.size := by
    rcases Nat.lt_or_ge g W.heap.size with q | q
    · exact q
    · rw [Array.getElem?_eq_none q] at h; cases h
  simp only [World.setCell, Array.getElem?_modify, if_true, h, Option.map_some]
  rfl
/-- In block g the cells from o on are these now, all others as they were. -/
def Chunk (W W' : World) (t : TypeId) (g o : Nat) (ec : List Value) : Prop := ∃ cur cur' : Array Value, W.heap[g]? = some (.cells cur t (0, 0)) ∧ W'.heap[g]? = some (.cells cur' t (0, 0)) ∧ cur'.size = cur.size ∧ ∀ j, cur'[j]? = if o ≤ j ∧ j < o + ec.length then ec[j - o]? else cur[j]?
theorem Chunk.start {W : World} {t : TypeId} {g cap n c : Nat} {xs : List Value} (h : XRow W t g cap n c xs) {k : Nat} (hk : k < n) : Chunk W W t g (k * c) ((xs.drop (k * c)).take c) := by
  have hl := h.len
  obtain ⟨cur, h0, h1, h2, h3, h4⟩ := h
  have hm := mul_step (c := c) hk
  have hm2 := Nat.mul_le_mul_right c h1
  have hel : ((xs.drop (k * c)).take c).length = c := by rw [List.length_take, List.length_drop, hl]; omega
  refine ⟨cur, cur, h0, h0, rfl, fun j => ?_⟩
  by_cases hj : k * c ≤ j ∧ j < k * c + ((xs.drop (k * c)).take c).length
  · rw [if_pos hj]
    rw [hel] at hj
    rw [List.getElem?_take, if_pos (by omega), List.getElem?_drop, ← h4, List.getElem?_take, if_pos (by omega), show k * c + (j - k * c) = j by omega]
    simp
  · rw [if_neg hj]
theorem Chunk.keep {W W' W'' : World} {t : TypeId} {g o : Nat} {ec : List Value} (h : Chunk W W' t g o ec) (e : W''.heap[g]? = W'.heap[g]?) : Chunk W W'' t g o ec := by
  obtain ⟨cur, cur', h0, h1, r⟩ := h
  exact ⟨cur, cur', h0, e.trans h1, r⟩
theorem Chunk.set {W W' : World} {t : TypeId} {g o : Nat} {ec : List Value} (h : Chunk W W' t g o ec) {j : Nat} (hj : j < ec.length) (v : Value) : Chunk W (W'.setCell ⟨g, o + j, none⟩ v) t g o (ec.set j v) := by
  obtain ⟨cur, cur', h0, h1, h2, h3⟩ := h
  refine ⟨cur, _, h0, heap_set_same h1 v, by rw [Array.size_setIfInBounds]; exact h2, fun i => ?_⟩
  rw [Array.getElem?_setIfInBounds, List.length_set, List.getElem?_set]
  have h4 := h3 i
  have h5 := h3 (o + j)
  rw [if_pos (by omega)] at h5
  have h6 : o + j < cur'.size := by
    rcases Nat.lt_or_ge (o + j) cur'.size with q | q
    · exact q
    · rw [Array.getElem?_eq_none q, show o + j - o = j by omega, List.getElem?_eq_getElem hj] at h5; cases h5
  by_cases e : o + j = i
  · subst e
    rw [if_pos rfl, if_pos h6, if_pos (by omega), if_pos (by omega), if_pos (by omega)]
  · rw [if_neg e, h4]
    by_cases q : o ≤ i ∧ i < o + ec.length
    · rw [if_pos q, if_pos q, if_neg (by omega)]
    · rw [if_neg q, if_neg q]
/-- The row behind such a turn. -/
theorem Chunk.row {W W' : World} {t : TypeId} {g cap n c : Nat} {xs ec : List Value} (h : XRow W t g cap n c xs) {k : Nat} (hk : k < n) (hec : ec.length = c) (hc : Chunk W W' t g (k * c) ec) : XRow W' t g cap n c (xs.take (k * c) ++ ec ++ xs.drop (k * c + c)) := by
  have hl := h.len
  obtain ⟨cur0, h0, h1, h2, h3, h4⟩ := h
  obtain ⟨cur, cur', g0, g1, g2, g3⟩ := hc
  rw [h0] at g0
  simp only [Option.some.injEq, Obj.cells.injEq, and_true] at g0
  obtain ⟨rfl, _⟩ := g0
  have hm := mul_step (c := c) hk
  have hm2 := Nat.mul_le_mul_right c h1
  refine ⟨cur', g1, h1, h2, g2.trans h3, ?_⟩
  apply List.ext_getElem?
  intro j
  rw [List.getElem?_take, List.append_assoc, List.getElem?_append, List.getElem?_append, List.length_take, hl, Nat.min_eq_left (by omega), List.getElem?_take, List.getElem?_drop, hec]
  have g3j := g3 j
  rw [hec] at g3j
  have e1 : ∀ q, xs[q]? = if q < n * c then cur0[q]? else none := by
    intro q; rw [← h4, List.getElem?_take]; simp
  by_cases hj : j < n * c
  · rw [if_pos hj]
    have ej : cur'.toList[j]? = cur'[j]? := by simp
    rw [ej, g3j]
    by_cases q1 : j < k * c
    · rw [if_neg (by omega), if_pos q1, if_pos q1, e1 j, if_pos hj]
    · by_cases q2 : j < k * c + c
      · rw [if_pos (by omega), if_neg q1, if_pos (by omega)]
      · rw [if_neg (by omega), if_neg q1, if_neg (by omega), e1, if_pos (by omega), show k * c + c + (j - k * c - c) = j by omega]
  · rw [if_neg hj, if_neg (by omega), if_neg (by omega), e1, if_neg (by omega)]
theorem chunk_at {xs ec : List Value} {n c k i : Nat} (hx : xs.length = n * c) (hec : ec.length = c) (hk : k < n) (hi : i < n) : (((xs.take (k * c) ++ ec ++ xs.drop (k * c + c)).drop (i * c)).take c) = if i = k then ec else (xs.drop (i * c)).take c := by
  have hm := mul_step (c := c) hk
  have hm2 := mul_step (c := c) hi
  have hlt : (xs.take (k * c)).length = k * c := by rw [List.length_take, hx]; omega
  by_cases e : i = k
  · subst e
    rw [if_pos rfl, List.append_assoc, List.drop_left' hlt, List.take_left' hec]
  · rw [if_neg e]
    apply List.ext_getElem?
    intro j
    rw [List.getElem?_take, List.getElem?_take, List.getElem?_drop, List.getElem?_drop, List.append_assoc, List.getElem?_append, List.getElem?_append, hlt, hec, List.getElem?_take, List.getElem?_drop]
    by_cases hj : j < c
    · rw [if_pos hj, if_pos hj]
      rcases Nat.lt_or_ge i k with q | q
      · have := mul_step (c := c) q
        rw [if_pos (by omega), if_pos (by omega)]
      · have := mul_step (c := c) (show k < i by omega)
        rw [if_neg (by omega), if_neg (by omega)]
        congr 1; omega
    · rw [if_neg hj, if_neg hj]
/-- One element, and how the list is put together again when it has turned. -/
theorem OwnX.lens {W : World} {lo : Nat} {e : Ty} {t : TypeId} {v : Value} {l : List e.T} {S : Nat → Prop} (h : OwnX W lo (.list e t) [v] l S) {k : Nat} (hk : k < l.length) :
    ∃ g cap ec, ∃ Bk : Nat → Prop, v = .slice (some ⟨g, 0, none⟩) l.length cap ∧ g < W.heap.size ∧ lo ≤ g ∧ S g ∧ (∀ b, Bk b → S b ∧ b ≠ g) ∧ ec.length = e.c ∧ Cells W g (k * e.c) ec ∧ Room W g (l.length * e.c) ∧ OwnX W lo e ec l[k] Bk ∧ Chunk W W t g (k * e.c) ec ∧
      ∀ (W' : World) (ec' : List Value) (y : e.T) (B' F : Nat → Prop), (∀ b, b < W.heap.size → S b → b ≠ g → ¬ Bk b → W'.heap[b]? = W.heap[b]?) → Chunk W W' t g (k * e.c) ec' → OwnX W' lo e ec' y B' → (∀ b, B' b → Bk b ∨ F b) → (∀ b, F b → ¬ S b) → OwnX W' lo (.list e t) [v] (l.set k y) (fun b => S b ∨ F b) := by
  rcases h with ⟨hl, _⟩ | ⟨g, cap, xs, B, e1, hr, hlg, hg, h3, h4, h5⟩
  · rw [hl] at hk; exact absurd hk (Nat.not_lt_zero k)
  have hv : v = .slice (some ⟨g, 0, none⟩) l.length cap := by simpa using e1
  have hlen := hr.len
  refine ⟨g, cap, (xs.drop (k * e.c)).take e.c, B k, hv, hr.lt, hlg, hg, h3 k hk, (h5 k hk).len, fun j hj => ?_, hr.room, h5 k hk, Chunk.start hr hk, fun W' ec' y B' F hw hc hy hB hF => ?_⟩
  · have hm := mul_step (c := e.c) hk
    have hj' : j < e.c := by rw [(h5 k hk).len] at hj; exact hj
    rw [cells_of_take hj']
    exact hr.cell (by omega)
  · have hel := hy.len
    have hr' := hc.row hr hk hel
    refine Or.inr ⟨g, cap, _, fun i => if i = k then B' else B i, by rw [hv, List.length_set], by rw [List.length_set]; exact hr', hlg, Or.inl hg, fun i hi b hb => ?_, fun i j hij hj b hb => ?_, fun i hi => ?_⟩
    · rw [List.length_set] at hi
      by_cases ei : i = k
      · simp only [if_pos ei] at hb
        rcases hB b hb with q | q
        · exact ⟨Or.inl (h3 k hk b q).1, (h3 k hk b q).2⟩
        · exact ⟨Or.inr q, fun q2 => hF b q (q2 ▸ hg)⟩
      · simp only [if_neg ei] at hb
        exact ⟨Or.inl (h3 i hi b hb).1, (h3 i hi b hb).2⟩
    · rw [List.length_set] at hj
      by_cases ei : i = k
      · simp only [if_pos ei] at hb
        simp only [if_neg (show ¬ j = k by omega)]
        rcases hB b hb with q | q
        · exact h4 k j (by omega) hj b q
        · exact fun q2 => hF b q (h3 j hj b q2).1
      · simp only [if_neg ei] at hb
        by_cases ej : j = k
        · simp only [if_pos ej]
          intro q
          rcases hB b q with q2 | q2
          · exact h4 i k (by omega) hk b hb q2
          · exact hF b q2 (h3 i (by omega) b hb).1
        · simp only [if_neg ej]
          exact h4 i j hij hj b hb
    · rw [List.length_set] at hi
      have hch := chunk_at (xs := xs) (ec := ec') hlen hel hk hi
      rw [show (List.drop (i * e.c) (xs.take (k * e.c) ++ ec' ++ xs.drop (k * e.c + e.c))).take e.c = _ from hch]
      by_cases ei : i = k
      · subst ei
        simp only [if_true, List.getElem_set_self]; exact hy
      · simp only [if_neg ei]
        rw [List.getElem_set_ne (fun q => ei q.symm)]
        refine (h5 i hi).keep (fun b hb hBi => hw b hb (h3 i hi b hBi).1 (h3 i hi b hBi).2 (fun q => ?_))
        rcases Nat.lt_or_ge i k with q2 | q2
        · exact h4 i k q2 hk b hBi q
        · exact h4 k i (by omega) hi b q hBi

/-- Data without lists, and their cells. -/
def Ty.flatB : Ty → Bool
  | .pair a b => a.flatB && b.flatB
  | .list _ _ => false
  | _ => true
def valC : (s : Ty) → s.T → List Value
  | .int, n => [.int .i64 n]
  | .str, b => [.string b]
  | .bool, b => [.bool b]
  | .nil, _ => []
  | .pair a b, x => valC a x.1 ++ valC b x.2
  | .list _ _, _ => []
theorem ownx_flat {W : World} {lo : Nat} : ∀ {s : Ty} {cs : List Value} {x : s.T} {S : Nat → Prop}, s.flatB = true → (OwnX W lo s cs x S ↔ cs = valC s x)
  | .int, cs, x, S, _ => Iff.rfl
  | .str, cs, x, S, _ => Iff.rfl
  | .bool, cs, x, S, _ => Iff.rfl
  | .nil, cs, x, S, _ => Iff.rfl
  | .pair a b, cs, x, S, h => by
    simp only [Ty.flatB, Bool.and_eq_true] at h
    constructor
    · rintro ⟨c1, c2, S1, S2, rfl, h1, h2, _⟩
      rw [(ownx_flat h.1).1 h1, (ownx_flat h.2).1 h2]; rfl
    · intro e
      exact ⟨_, _, fun _ => False, fun _ => False, e, (ownx_flat h.1).2 rfl, (ownx_flat h.2).2 rfl, fun k q => q.elim, fun k q => q.elim id id |>.elim⟩
  | .list e t, cs, x, S, h => by simp [Ty.flatB] at h
theorem valC_len : ∀ {s : Ty} (x : s.T), s.flatB = true → (valC s x).length = s.c
  | .int, _, _ => rfl
  | .str, _, _ => rfl
  | .bool, _, _ => rfl
  | .nil, _, _ => rfl
  | .pair a b, x, h => by
    simp only [Ty.flatB, Bool.and_eq_true] at h
    show (valC a x.1 ++ valC b x.2).length = _
    rw [List.length_append, valC_len x.1 h.1, valC_len x.2 h.2]; rfl
  | .list e t, x, h => by simp [Ty.flatB] at h
theorem flat_chunk {α : Type} {f : α → List Value} {c : Nat} (hf : ∀ x, (f x).length = c) : ∀ (l : List α) (i : Nat) (h : i < l.length), ((l.flatMap f).drop (i * c)).take c = f l[i]
  | [], i, h => absurd h (Nat.not_lt_zero i)
  | x :: t, 0, h => by
    rw [Nat.zero_mul, List.drop_zero, List.flatMap_cons, ← hf x, List.take_left]; rfl
  | x :: t, i + 1, h => by
    rw [List.flatMap_cons, show (i + 1) * c = (f x).length + i * c by rw [hf x, Nat.add_mul, Nat.one_mul, Nat.add_comm], ← List.drop_drop, List.drop_left]
    exact flat_chunk hf t i (by simpa using h)
theorem flat_len {α : Type} {f : α → List Value} {c : Nat} (hf : ∀ x, (f x).length = c) : ∀ l : List α, (l.flatMap f).length = l.length * c
  | [] => by simp
  | x :: t => by rw [List.flatMap_cons, List.length_append, hf x, flat_len hf t, List.length_cons, Nat.add_mul, Nat.one_mul, Nat.add_comm]
theorem flat_of {α : Type} {f : α → List Value} {c : Nat} (hf : ∀ x, (f x).length = c) : ∀ (l : List α) (xs : List Value), xs.length = l.length * c → (∀ i (h : i < l.length), (xs.drop (i * c)).take c = f l[i]) → xs = l.flatMap f
  | [], xs, hl, _ => by simp at hl; rw [hl]; rfl
  | x :: t, xs, hl, h => by
    have h0 : xs.take c = f x := by have := h 0 (Nat.zero_lt_succ _); rwa [Nat.zero_mul, List.drop_zero] at this
    have h1 : xs.drop c = t.flatMap f := by
      refine flat_of hf t (xs.drop c) ?_ (fun i hi => ?_)
      · rw [List.length_drop, hl, List.length_cons, Nat.add_mul, Nat.one_mul]; omega
      · have := h (i + 1) (Nat.succ_lt_succ hi)
        rw [List.drop_drop, show c + i * c = (i + 1) * c by rw [Nat.add_mul, Nat.one_mul, Nat.add_comm]]
        exact this
    rw [List.flatMap_cons, ← h0, ← h1, List.take_append_drop]
theorem flat_put {α : Type} {f : α → List Value} {c : Nat} (hf : ∀ x, (f x).length = c) {l : List α} {x : α} {p : Nat} (hp : p ≤ l.length) : putAt (l.flatMap f) (f x) (p * c) = (l.take p ++ x :: l.drop p).flatMap f := by
  have e : l.flatMap f = (l.take p).flatMap f ++ (l.drop p).flatMap f := by rw [← List.flatMap_append, List.take_append_drop]
  have hl : ((l.take p).flatMap f).length = p * c := by rw [flat_len hf, List.length_take, Nat.min_eq_left hp]
  rw [putAt, e, List.take_left' hl, List.drop_left' hl, List.flatMap_append, List.flatMap_cons, List.append_assoc]
/-- A list of such data is a row of their cells. -/
theorem OwnX.flat {W : World} {lo : Nat} {e : Ty} {t : TypeId} {v : Value} {l : List e.T} {S : Nat → Prop} (he : e.flatB = true) (h : OwnX W lo (.list e t) [v] l S) : W.ownsRow lo t e.c v l.length (l.flatMap (valC e)) ∧ ∀ k, v.ownBlock = some k → S k := by
  obtain ⟨xs, h1, h2, B, h3, h4, h5⟩ := h.row
  have hx : xs = l.flatMap (valC e) := flat_of (fun x => valC_len x he) l xs h1.1 (fun i hi => (ownx_flat he).1 (h5 i hi))
  rw [← hx]; exact ⟨h1, h2⟩
theorem OwnX.of_flat {W : World} {lo : Nat} {e : Ty} {t : TypeId} {v : Value} {l : List e.T} {S : Nat → Prop} (he : e.flatB = true) (h : W.ownsRow lo t e.c v l.length (l.flatMap (valC e))) (hS : ∀ k, v.ownBlock = some k → S k) : OwnX W lo (.list e t) [v] l S :=
  OwnX.of_row (B := fun _ _ => False) h hS (fun i hi k q => q.elim) (fun i j _ _ k q => q.elim) (fun i hi => (ownx_flat he).2 (flat_chunk (fun x => valC_len x he) l i hi))
theorem valC_one : ∀ {s : Ty} (x : s.T), ∀ u ∈ valC s x, u.oneCell' = true
  | .int, n, u, hu => by rw [List.mem_singleton.1 hu]; rfl
  | .str, n, u, hu => by rw [List.mem_singleton.1 hu]; rfl
  | .bool, n, u, hu => by rw [List.mem_singleton.1 hu]; rfl
  | .nil, n, u, hu => by cases hu
  | .pair a b, x, u, hu => by
    rcases List.mem_append.1 hu with q | q
    · exact valC_one x.1 u q
    · exact valC_one x.2 u q
  | .list e t, x, u, hu => by cases hu
theorem flat_one {s : Ty} (l : List s.T) : ∀ u ∈ l.flatMap (valC s), u.oneCell' = true := by
  intro u hu
  obtain ⟨x, _, hx⟩ := List.mem_flatMap.1 hu
  exact valC_one x u hx
end Go.Proofs.YtkpobihpcnoemaaDoor
