/- Shapes whose lists' rows are known exactly (their blocks' types and sizes too), so that they may be appended to, inserted into and written in place. No Go text is spoken of here. -/
import Derived.Test.YtkpobihpcnoemaaDoorShB
namespace Go.Proofs.YtkpobihpcnoemaaDoor
open Go.RowKit
set_option linter.unusedVariables false

inductive Ty where
  | int | str | bool | nil
  | pair (a b : Ty)
  | list (e : Ty) (t : TypeId)
@[reducible] def Ty.sh : Ty → Sh
  | .int => .int
  | .str => .str
  | .bool => .bool
  | .nil => .nil
  | .pair a b => .pair a.sh b.sh
  | .list e _ => .list e.sh
@[reducible] def Ty.T (s : Ty) : Type := s.sh.T
def Ty.c (s : Ty) : Nat := s.sh.c
/-- A block that is a row of so many elements of c cells, the first n of which are these. -/
def XRow (W : World) (t : TypeId) (g cap n c : Nat) (xs : List Value) : Prop := ∃ cur : Array Value, W.heap[g]? = some (.cells cur t (0, 0)) ∧ n ≤ cap ∧ cap ≤ maxLen ∧ cur.size = cap * c ∧ cur.toList.take (n * c) = xs
theorem XRow.lt {W : World} {t : TypeId} {g cap n c : Nat} {xs : List Value} (h : XRow W t g cap n c xs) : g < W.heap.size := by
  obtain ⟨cur, h, _⟩ := h
  rcases Nat.lt_or_ge g W.heap.size with q | q
  · exact q
  · rw [Array.getElem?_eq_none q] at h; cases h
theorem XRow.same {W W' : World} {t : TypeId} {g cap n c : Nat} {xs : List Value} (h : XRow W t g cap n c xs) (e : W'.heap[g]? = W.heap[g]?) : XRow W' t g cap n c xs := by
  obtain ⟨cur, h, r⟩ := h
  exact ⟨cur, e.trans h, r⟩
theorem XRow.len {W : World} {t : TypeId} {g cap n c : Nat} {xs : List Value} (h : XRow W t g cap n c xs) : xs.length = n * c := by
  obtain ⟨cur, _, h1, _, h3, h4⟩ := h
  rw [← h4, List.length_take, Array.length_toList, h3]
  exact Nat.min_eq_left (Nat.mul_le_mul_right c h1)
theorem XRow.row {W : World} {t : TypeId} {lo g cap n c : Nat} {xs : List Value} (h : XRow W t g cap n c xs) (hl : lo ≤ g) : W.ownsRow lo t c (.slice (some ⟨g, 0, none⟩) n cap) n xs := by
  have hlen := h.len
  obtain ⟨cur, h0, h1, h2, h3, h4⟩ := h
  exact ⟨hlen, Or.inr ⟨g, cap, cur, rfl, hl, h0, h1, h2, h3, h4⟩⟩
theorem XRow.of {W : World} {t : TypeId} {lo g cap n c : Nat} {xs : List Value} (h : W.ownsRow lo t c (.slice (some ⟨g, 0, none⟩) n cap) n xs) : XRow W t g cap n c xs ∧ lo ≤ g := by
  obtain ⟨_, h | ⟨g', cap', cur, hv, hl, h0, h1, h2, h3, h4⟩⟩ := h
  · exact absurd h.1 (by simp)
  · simp only [Value.slice.injEq, Option.some.injEq, Addr.mk.injEq, and_true, true_and] at hv
    obtain ⟨rfl, rfl⟩ := hv
    exact ⟨⟨cur, h0, h1, h2, h3, h4⟩, hl⟩
theorem XRow.cell {W : World} {t : TypeId} {g cap n c : Nat} {xs : List Value} (h : XRow W t g cap n c xs) {j : Nat} (hj : j < n * c) : W.cell? ⟨g, j, none⟩ = xs[j]? := (h.row (Nat.zero_le _)).cellAt j hj
theorem XRow.room {W : World} {t : TypeId} {g cap n c : Nat} {xs : List Value} (h : XRow W t g cap n c xs) : Room W g (n * c) := by
  obtain ⟨cur, h0, h1, h2, h3, h4⟩ := h
  intro q hq
  have hq' : q < cur.size := by rw [h3]; exact Nat.lt_of_lt_of_le hq (Nat.mul_le_mul_right _ h1)
  exact ⟨⟨cur[q], by rw [Go.Joins.cell_of_block h0]; simp [hq']⟩, Go.Joins.unfrozen_of_block h0 q⟩

def OwnX (W : World) (lo : Nat) : (s : Ty) → List Value → s.T → (Nat → Prop) → Prop
  | .int, cs, n, _ => cs = [.int .i64 n]
  | .str, cs, b, _ => cs = [.string b]
  | .bool, cs, b, _ => cs = [.bool b]
  | .nil, cs, _, _ => cs = []
  | .pair a b, cs, x, S => ∃ c1 c2 S1 S2, cs = c1 ++ c2 ∧ OwnX W lo a c1 x.1 S1 ∧ OwnX W lo b c2 x.2 S2 ∧ (∀ k, S1 k → ¬ S2 k) ∧ ∀ k, S1 k ∨ S2 k → S k
  | .list e t, cs, l, S => (l = [] ∧ cs = [.slice none 0 0]) ∨
      ∃ g cap xs, ∃ B : Nat → Nat → Prop, cs = [.slice (some ⟨g, 0, none⟩) l.length cap] ∧ XRow W t g cap l.length e.c xs ∧ lo ≤ g ∧ S g ∧ (∀ i, i < l.length → ∀ k, B i k → S k ∧ k ≠ g) ∧ (∀ i j, i < j → j < l.length → ∀ k, B i k → ¬ B j k) ∧
        ∀ i (h : i < l.length), OwnX W lo e ((xs.drop (i * e.c)).take e.c) l[i] (B i)
theorem OwnX.len {W : World} {lo : Nat} : ∀ {s : Ty} {cs : List Value} {x : s.T} {S : Nat → Prop}, OwnX W lo s cs x S → cs.length = s.c
  | .int, cs, x, S, h => by rw [show cs = _ from h]; rfl
  | .str, cs, x, S, h => by rw [show cs = _ from h]; rfl
  | .bool, cs, x, S, h => by rw [show cs = _ from h]; rfl
  | .nil, cs, x, S, h => by rw [show cs = _ from h]; rfl
  | .pair a b, cs, x, S, h => by
    obtain ⟨c1, c2, S1, S2, rfl, h1, h2, _⟩ := h
    rw [List.length_append, h1.len, h2.len]; rfl
  | .list e t, cs, x, S, h => by
    rcases h with ⟨_, rfl⟩ | ⟨g, cap, xs, B, rfl, _⟩ <;> rfl
theorem OwnX.mono {W : World} {lo : Nat} : ∀ {s : Ty} {cs : List Value} {x : s.T} {S S' : Nat → Prop}, OwnX W lo s cs x S → (∀ k, S k → S' k) → OwnX W lo s cs x S'
  | .int, cs, x, S, S', h, _ => h
  | .str, cs, x, S, S', h, _ => h
  | .bool, cs, x, S, S', h, _ => h
  | .nil, cs, x, S, S', h, _ => h
  | .pair a b, cs, x, S, S', h, hS => by
    obtain ⟨c1, c2, S1, S2, e, h1, h2, h3, h4⟩ := h
    exact ⟨c1, c2, S1, S2, e, h1, h2, h3, fun k hk => hS k (h4 k hk)⟩
  | .list e t, cs, x, S, S', h, hS => by
    rcases h with h | ⟨g, cap, xs, B, e1, hr, hl, hg, h3, h4, h5⟩
    · exact Or.inl h
    · exact Or.inr ⟨g, cap, xs, B, e1, hr, hl, hS g hg, fun i hi k hk => ⟨hS k (h3 i hi k hk).1, (h3 i hi k hk).2⟩, h4, h5⟩
/-- What has not turned in its blocks is as it was. -/
theorem OwnX.keep {W W' : World} {lo : Nat} : ∀ {s : Ty} {cs : List Value} {x : s.T} {S : Nat → Prop}, (∀ k, k < W.heap.size → S k → W'.heap[k]? = W.heap[k]?) → OwnX W lo s cs x S → OwnX W' lo s cs x S
  | .int, cs, x, S, _, h => h
  | .str, cs, x, S, _, h => h
  | .bool, cs, x, S, _, h => h
  | .nil, cs, x, S, _, h => h
  | .pair a b, cs, x, S, hw, h => by
    obtain ⟨c1, c2, S1, S2, e, h1, h2, h3, h4⟩ := h
    exact ⟨c1, c2, S1, S2, e, h1.keep (fun k hl hk => hw k hl (h4 k (Or.inl hk))), h2.keep (fun k hl hk => hw k hl (h4 k (Or.inr hk))), h3, h4⟩
  | .list e t, cs, x, S, hw, h => by
    rcases h with h | ⟨g, cap, xs, B, e1, hr, hl, hg, h3, h4, h5⟩
    · exact Or.inl h
    · exact Or.inr ⟨g, cap, xs, B, e1, hr.same (hw g hr.lt hg), hl, hg, h3, h4, fun i hi => (h5 i hi).keep (fun k hk hB => hw k hk (h3 i hi k hB).1)⟩
theorem OwnX.next {W W' : World} {lo : Nat} {s : Ty} {cs : List Value} {x : s.T} {S : Nat → Prop} (h : OwnX W lo s cs x S) (hb : Below W.heap.size W W') : OwnX W' lo s cs x S := h.keep (fun k hk _ => hb.block k hk)
theorem OwnX.turn {W W' : World} {lo : Nat} {s : Ty} {cs : List Value} {x : s.T} {S S' : Nat → Prop} (h : OwnX W lo s cs x S) (ht : TurnS S' W W') (ha : ∀ k, S k → ¬ S' k) : OwnX W' lo s cs x S := h.keep (fun k hk hs => ht.block hk (ha k hs))
theorem OwnX.set {W : World} {lo : Nat} {s : Ty} {cs : List Value} {x : s.T} {S : Nat → Prop} (h : OwnX W lo s cs x S) {p : Addr} (hp : ¬ S p.block) (v : Value) : OwnX (W.setCell p v) lo s cs x S :=
  h.keep (fun k _ hk => Below.heap_setCell _ _ _ _ (fun e => hp (e ▸ hk)))
theorem OwnX.grow {W W' : World} {lo : Nat} {row : Option Nat} {s : Ty} {cs : List Value} {x : s.T} {S : Nat → Prop} (h : OwnX W lo s cs x S) (hg : W.grownBy W' row) (hr : ∀ k, row = some k → ¬ S k) : OwnX W' lo s cs x S :=
  h.keep (fun k hk hs => hg.block k hk (fun q => hr k q.symm hs))
theorem OwnX.lower {W : World} {lo lo' : Nat} (hl : lo' ≤ lo) : ∀ {s : Ty} {cs : List Value} {x : s.T} {S : Nat → Prop}, OwnX W lo s cs x S → OwnX W lo' s cs x S
  | .int, cs, x, S, h => h
  | .str, cs, x, S, h => h
  | .bool, cs, x, S, h => h
  | .nil, cs, x, S, h => h
  | .pair a b, cs, x, S, h => by
    obtain ⟨c1, c2, S1, S2, e, h1, h2, h3, h4⟩ := h
    exact ⟨c1, c2, S1, S2, e, h1.lower hl, h2.lower hl, h3, h4⟩
  | .list e t, cs, x, S, h => by
    rcases h with h | ⟨g, cap, xs, B, e1, hr, hlg, hg, h3, h4, h5⟩
    · exact Or.inl h
    · exact Or.inr ⟨g, cap, xs, B, e1, hr, Nat.le_trans hl hlg, hg, h3, h4, fun i hi => (h5 i hi).lower hl⟩
/-- Such data are owned as the laws want it. -/
theorem OwnX.own {W : World} {lo : Nat} : ∀ {s : Ty} {cs : List Value} {x : s.T} {S : Nat → Prop}, OwnX W lo s cs x S → Own W s.sh cs x S
  | .int, cs, x, S, h => h
  | .str, cs, x, S, h => h
  | .bool, cs, x, S, h => h
  | .nil, cs, x, S, h => h
  | .pair a b, cs, x, S, h => by
    obtain ⟨c1, c2, S1, S2, e, h1, h2, h3, h4⟩ := h
    exact ⟨c1, c2, S1, S2, e, h1.own, h2.own, h3, h4⟩
  | .list e t, cs, x, S, h => by
    rcases h with ⟨h, e1⟩ | ⟨g, cap, xs, B, e1, hr, hl, hg, h3, h4, h5⟩
    · exact Or.inl ⟨h, none, 0, e1, Nat.zero_le _⟩
    · refine Or.inr ⟨g, cap, B, e1, ?_, hr.lt, hg, h3, h4, hr.room, fun i hi => ⟨_, (h5 i hi).len, fun j hj => ?_, (h5 i hi).own⟩⟩
      · obtain ⟨cur, _, h1, h2, _⟩ := hr; exact ⟨h1, h2⟩
      · have hm := mul_step (c := e.c) hi
        have hj' : j < e.c := by rw [(h5 i hi).len] at hj; exact hj
        rw [cells_of_take hj']
        exact hr.cell (show i * e.c + j < List.length x * e.c by omega)
theorem OwnX.lies {W : World} {lo : Nat} {s : Ty} {cs : List Value} {x : s.T} {S : Nat → Prop} (h : OwnX W lo s cs x S) : Lies W s.sh cs x := h.own.lies
/-- The list as a row. -/
theorem OwnX.row {W : World} {lo : Nat} {e : Ty} {t : TypeId} {v : Value} {l : List e.T} {S : Nat → Prop} (h : OwnX W lo (.list e t) [v] l S) :
    ∃ xs, W.ownsRow lo t e.c v l.length xs ∧ (∀ k, v.ownBlock = some k → S k) ∧ ∃ B : Nat → Nat → Prop, (∀ i, i < l.length → ∀ k, B i k → S k ∧ v.ownBlock ≠ some k) ∧ (∀ i j, i < j → j < l.length → ∀ k, B i k → ¬ B j k) ∧ ∀ i (h : i < l.length), OwnX W lo e ((xs.drop (i * e.c)).take e.c) l[i] (B i) := by
  rcases h with ⟨hl, e1⟩ | ⟨g, cap, xs, B, e1, hr, hl, hg, h3, h4, h5⟩
  · subst hl
    have hv : v = .slice none 0 0 := by simpa using e1
    subst hv
    exact ⟨[], World.ownsRow_nil _ _ _ _, (fun k hk => by cases hk), fun _ _ => False, (fun i hi => absurd hi (Nat.not_lt_zero i)), (fun i j _ hj => absurd hj (Nat.not_lt_zero j)), (fun i hi => absurd hi (Nat.not_lt_zero i))⟩
  · have hv : v = .slice (some ⟨g, 0, none⟩) l.length cap := by simpa using e1
    subst hv
    refine ⟨xs, hr.row hl, fun k hk => by cases hk; exact hg, B, fun i hi k hk => ⟨(h3 i hi k hk).1, fun q => (h3 i hi k hk).2 (by cases q; rfl)⟩, h4, h5⟩
theorem OwnX.of_row {W : World} {lo : Nat} {e : Ty} {t : TypeId} {v : Value} {l : List e.T} {S : Nat → Prop} {xs : List Value} {B : Nat → Nat → Prop} (h : W.ownsRow lo t e.c v l.length xs) (hS : ∀ k, v.ownBlock = some k → S k) (h3 : ∀ i, i < l.length → ∀ k, B i k → S k ∧ v.ownBlock ≠ some k)
    (h4 : ∀ i j, i < j → j < l.length → ∀ k, B i k → ¬ B j k) (h5 : ∀ i (h : i < l.length), OwnX W lo e ((xs.drop (i * e.c)).take e.c) l[i] (B i)) : OwnX W lo (.list e t) [v] l S := by
  rcases Go.Joins.ownsRow_forms h with ⟨hv, h0⟩ | ⟨g, cap, hv⟩
  · exact Or.inl ⟨List.eq_nil_of_length_eq_zero h0, by rw [hv]⟩
  · subst hv
    obtain ⟨hr, hl⟩ := XRow.of h
    exact Or.inr ⟨g, cap, xs, B, rfl, hr, hl, hS g rfl, fun i hi k hk => ⟨(h3 i hi k hk).1, fun q => (h3 i hi k hk).2 (by rw [q]; rfl)⟩, h4, h5⟩
theorem OwnX.nil' {W : World} {lo : Nat} {e : Ty} {t : TypeId} {S : Nat → Prop} : OwnX W lo (.list e t) [.slice none 0 0] [] S := Or.inl ⟨rfl, rfl⟩
/-- What was appended. -/
theorem take_at_last {xs ec : List Value} {n c : Nat} (hx : xs.length = n * c) (he : ec.length = c) : ((xs ++ ec).drop (n * c)).take c = ec := by rw [← hx, List.drop_left, ← he, List.take_length]
theorem take_at_old {xs ec : List Value} {n c i : Nat} (hx : xs.length = n * c) (hi : i < n) : ((xs ++ ec).drop (i * c)).take c = (xs.drop (i * c)).take c := by
  have := mul_step (c := c) hi
  rw [List.drop_append_of_le_length (by omega), List.take_append_of_le_length (by rw [List.length_drop]; omega)]
/-- One element more: W0 the world with the list, W that of the append (the element's blocks of E are no others' there). -/
theorem OwnX.app {W W' : World} {lo : Nat} {e : Ty} {t : TypeId} {v v' : Value} {l : List e.T} {S E : Nat → Prop} {xs ec : List Value} {B : Nat → Nat → Prop} {x : e.T} (ho : W.ownsRow lo t e.c v l.length xs) (hS : ∀ k, v.ownBlock = some k → S k)
    (h3 : ∀ i, i < l.length → ∀ k, B i k → S k ∧ v.ownBlock ≠ some k) (h4 : ∀ i j, i < j → j < l.length → ∀ k, B i k → ¬ B j k) (h5 : ∀ i (h : i < l.length), OwnX W lo e ((xs.drop (i * e.c)).take e.c) l[i] (B i)) (hz : ∀ k, S k → k < W.heap.size)
    (hx : OwnX W lo e ec x E) (hE : ∀ k, E k → k < W.heap.size ∧ ¬ S k) (h2 : W'.ownsRow lo t e.c v' (l.length + 1) (xs ++ ec)) (hg : W.grownBy W' v.ownBlock) (hwh : v'.ownBlock = v.ownBlock ∨ v'.ownBlock = some W.heap.size) :
    OwnX W' lo (.list e t) [v'] (l ++ [x]) (fun k => S k ∨ E k ∨ v'.ownBlock = some k) := by
  have hxl : xs.length = l.length * e.c := ho.1
  have hel := hx.len
  refine OwnX.of_row (xs := xs ++ ec) (B := fun i => if i = l.length then E else B i) (by rw [List.length_append]; exact h2) (fun k hk => ?_) (fun i hi k hk => ?_) (fun i j hij hj k hk => ?_) (fun i hi => ?_)
  · exact Or.inr (Or.inr hk)
  · rw [List.length_append, List.length_singleton] at hi
    by_cases ei : i = l.length
    · simp only [if_pos ei] at hk
      refine ⟨Or.inr (Or.inl hk), fun q => ?_⟩
      rcases hwh with q2 | q2
      · rw [q2] at q; exact (hE k hk).2 (hS k q)
      · rw [q2] at q; have := (hE k hk).1; cases q; omega
    · simp only [if_neg ei] at hk
      have h := h3 i (by omega) k hk
      refine ⟨Or.inl h.1, fun q => ?_⟩
      rcases hwh with q2 | q2
      · rw [q2] at q; exact h.2 q
      · rw [q2] at q; have := hz k h.1; cases q; omega
  · rw [List.length_append, List.length_singleton] at hj
    simp only [if_neg (show ¬ i = l.length by omega)] at hk
    by_cases ej : j = l.length
    · simp only [if_pos ej]
      exact fun q => (hE k q).2 (h3 i (by omega) k hk).1
    · simp only [if_neg ej]
      exact h4 i j hij (by omega) k hk
  · rw [List.length_append, List.length_singleton] at hi
    by_cases ei : i = l.length
    · subst ei
      rw [take_at_last hxl hel]
      simp only [if_true, List.getElem_concat_length]
      exact hx.grow hg (fun k hk q => (hE k q).2 (hS k hk))
    · have hil : i < l.length := by omega
      rw [take_at_old hxl hil]
      simp only [if_neg ei]
      rw [List.getElem_append_left hil]
      exact (h5 i hil).grow hg (fun k hk q => (h3 i hil k q).2 hk)
end Go.Proofs.YtkpobihpcnoemaaDoor
