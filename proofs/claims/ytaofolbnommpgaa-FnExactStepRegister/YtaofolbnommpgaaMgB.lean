/- Put together of: ShB, ShX, InG, ShY, NtX, ShW, ShS. -/
import Derived.Test.YtaofolbnommpgaaMgA
import Derived.Shelf.Spec.SlicesInsertGrow
import Derived.Laws.CopyRow
import Derived.Deep.AppendLies
import Derived.Maps.AppendAt
import Derived.Laws.OwnMore
/- A list of any shape that is being built by appends beside variables' boxes. -/
namespace Go.Proofs.Ytaofolbnommpgaa
open Go.RowKit
set_option linter.unusedVariables false

/-- A struct and a bool are answered; the struct's lists are new. -/
def AnsP (s : Sh) (x : s.T) (ok : Bool) (w : World) (r : Ending) (w' : World) : Prop := ∃ cs : List Value, r = .returned (.tuple #[.agg cs.toArray, .bool ok]) ∧ Own w' s cs x (Btw w.heap.size w'.heap.size) ∧ Below w.heap.size w w'
/-- A list and a bool are answered; the list is new. -/
def LisP (e : Sh) (l : List e.T) (ok : Bool) (w : World) (r : Ending) (w' : World) : Prop := ∃ a cap, r = .returned (.tuple #[.slice a l.length cap, .bool ok]) ∧ Own w' (.list e) [.slice a l.length cap] l (Btw w.heap.size w'.heap.size) ∧ Below w.heap.size w w'
theorem turn_set (w : World) (p : Addr) (x : Value) : TurnS (fun k => k = p.block) w (w.setCell p x) := TurnS.set (S := fun k => k = p.block) (TurnS.refl _ w) (p := p) rfl x
theorem AppB.turn {W W' : World} {S : Nat → Prop} {lo : Nat} {ty : TypeId} {e : Sh} {v : Value} {l : List e.T} (h : AppB W lo ty e v l) (ht : TurnS S W W') (hS : ∀ k, S k → k < lo) : AppB W' lo ty e v l := by
  obtain ⟨xs, B, h1, h2⟩ := h
  refine ⟨xs, B, ownsRow_turn h1 ht (fun k hk q => ?_), fun i hi => (h2.1 i hi).turn ht (fun k hB q => ?_), fun i hi b q => ⟨(h2.2.1 i hi b q).1, Nat.lt_of_lt_of_le (h2.2.1 i hi b q).2.1 ht.size, (h2.2.1 i hi b q).2.2⟩, h2.2.2⟩
  · have := (h1.lt k hk).1; have := hS k q; omega
  · have := (h2.2.1 i hi k hB).1; have := hS k q; omega
theorem AppB.other {W : World} {lo : Nat} {ty : TypeId} {e : Sh} {v : Value} {l : List e.T} (h : AppB W lo ty e v l) {p : Addr} (hp : p.block < lo) (x : Value) : AppB (W.setCell p x) lo ty e v l :=
  h.turn (turn_set W p x) (fun k q => by omega)
theorem made_take (z : Array Value) (n i : Nat) (h0 : 0 < z.size) (hi : i < n) : (((madeCells z (n * z.size)).toList.drop (i * z.size)).take z.size) = z.toList := by
  have hm := mul_step (c := z.size) hi
  apply List.ext_getElem?
  intro j
  by_cases hj : j < z.size
  · rw [cells_of_take hj]
    have hlt : i * z.size + j < n * z.size := by omega
    have e1 : (i * z.size + j) % z.size = j := by rw [Nat.mul_comm, Nat.mul_add_mod]; exact Nat.mod_eq_of_lt hj
    simp only [madeCells, Array.toList_map, Array.toList_range, List.getElem?_map, List.getElem?_range hlt, Option.map_some, e1]
    simp [hj]
  · rw [List.getElem?_eq_none (by rw [List.length_take]; omega), List.getElem?_eq_none (by simp; omega)]
theorem wp_append_at {P : Program} (w : World) {o : Oper} {a : Act} {K : Act → World → Prop} {Q : Exit → Act → World → Prop} (s x : Operand) (t : TypeId)
    (ho : o.op = .call { callee := .builtin .append, args := #[s, x], argTypes := #[t, t] })
    (base : Nat) (e : TypeId) (i : TypeInfo) (z : Value) (size bytes : Nat) (ht : P.underlying t = some (.slice e)) (hi : P.info? e = some i) (hz : i.zero = some z)
    (hsize : i.size = size) (hby : i.bytes = bytes) (hzs : z.cells.size = size) (hsz : 0 < size)
    (v : Value) (n : Nat) (xs : List Value) (hs : a.eval s = v) (hown : w.ownsRow base e size v n xs)
    (ad : Addr) (m c : Nat) (news : List Value) (hx : a.eval x = .slice (some ad) m c) (hl : news.length = m * size) (hnews : ∀ j u, news[j]? = some u → w.cell? (ad.add j) = some u) (h1 : ∀ u ∈ news, u.oneCell' = true)
    (h63 : n + m ≤ maxLen) (hbytes : (n + m) * bytes ≤ 140737488355328) (hbase : base ≤ w.heap.size)
    (h : ∀ v' w', w'.ownsRow base e size v' (n + m) (xs ++ news) → w.grownBy w' v.ownBlock → (v'.ownBlock = v.ownBlock ∨ v'.ownBlock = some w.heap.size) → K (a.put o.dst v') w') : o.wp P a w K Q := by
  obtain ⟨v', w', hr, h2, h3, _, h5⟩ := run_append_own_at (P := P) w base t o.type e i z size bytes ht hi hz hsize hby hzs hsz v n xs hown ad m c news hl hnews h1 h63 hbytes hbase
  unfold Oper.wp execOp
  simp only [ho, resolve, invoke, builtin, Sem.run_bind, Sem.run_pure, Result.andThen_ok, List.map_toArray, List.map_cons, List.map_nil, hs, hx, hr]
  exact h v' w' h2 h3 h5
end Go.Proofs.Ytaofolbnommpgaa
/- Shapes whose lists' rows are known exactly (their blocks' types and sizes too), so that they may be appended to, inserted into and written in place. No Go text is spoken of here. -/
namespace Go.Proofs.Ytaofolbnommpgaa
open Go.RowKit
set_option linter.unusedVariables false

inductive Ty where
  | int | str | bool | nil
  | pair (a b : Ty)
  | list (e : Ty) (t : TypeId)
@[reducible] def Ty.sh : Ty → Sh
  | .int => .int
  | .str => .str
  | .bool => .bool
  | .nil => .nil
  | .pair a b => .pair a.sh b.sh
  | .list e _ => .list e.sh
@[reducible] def Ty.T (s : Ty) : Type := s.sh.T
def Ty.c (s : Ty) : Nat := s.sh.c
/-- A block that is a row of so many elements of c cells, the first n of which are these. -/
def XRow (W : World) (t : TypeId) (g cap n c : Nat) (xs : List Value) : Prop := ∃ cur : Array Value, W.heap[g]? = some (.cells cur t (0, 0)) ∧ n ≤ cap ∧ cap ≤ maxLen ∧ cur.size = cap * c ∧ cur.toList.take (n * c) = xs
theorem XRow.lt {W : World} {t : TypeId} {g cap n c : Nat} {xs : List Value} (h : XRow W t g cap n c xs) : g < W.heap.size := by
  obtain ⟨cur, h, _⟩ := h
  rcases Nat.lt_or_ge g W.heap.size with q | q
  · exact q
  · rw [Array.getElem?_eq_none q] at h; cases h
theorem XRow.same {W W' : World} {t : TypeId} {g cap n c : Nat} {xs : List Value} (h : XRow W t g cap n c xs) (e : W'.heap[g]? = W.heap[g]?) : XRow W' t g cap n c xs := by
  obtain ⟨cur, h, r⟩ := h
  exact ⟨cur, e.trans h, r⟩
theorem XRow.len {W : World} {t : TypeId} {g cap n c : Nat} {xs : List Value} (h : XRow W t g cap n c xs) : xs.length = n * c := by
  obtain ⟨cur, _, h1, _, h3, h4⟩ := h
  rw [← h4, List.length_take, Array.length_toList, h3]
  exact Nat.min_eq_left (Nat.mul_le_mul_right c h1)
theorem XRow.row {W : World} {t : TypeId} {lo g cap n c : Nat} {xs : List Value} (h : XRow W t g cap n c xs) (hl : lo ≤ g) : W.ownsRow lo t c (.slice (some ⟨g, 0, none⟩) n cap) n xs := by
  have hlen := h.len
  obtain ⟨cur, h0, h1, h2, h3, h4⟩ := h
  exact ⟨hlen, Or.inr ⟨g, cap, cur, rfl, hl, h0, h1, h2, h3, h4⟩⟩
theorem XRow.of {W : World} {t : TypeId} {lo g cap n c : Nat} {xs : List Value} (h : W.ownsRow lo t c (.slice (some ⟨g, 0, none⟩) n cap) n xs) : XRow W t g cap n c xs ∧ lo ≤ g := by
  obtain ⟨_, h | ⟨g', cap', cur, hv, hl, h0, h1, h2, h3, h4⟩⟩ := h
  · exact absurd h.1 (by simp)
  · simp only [Value.slice.injEq, Option.some.injEq, Addr.mk.injEq, and_true, true_and] at hv
    obtain ⟨rfl, rfl⟩ := hv
    exact ⟨⟨cur, h0, h1, h2, h3, h4⟩, hl⟩
theorem XRow.cell {W : World} {t : TypeId} {g cap n c : Nat} {xs : List Value} (h : XRow W t g cap n c xs) {j : Nat} (hj : j < n * c) : W.cell? ⟨g, j, none⟩ = xs[j]? := (h.row (Nat.zero_le _)).cellAt j hj
theorem XRow.room {W : World} {t : TypeId} {g cap n c : Nat} {xs : List Value} (h : XRow W t g cap n c xs) : Room W g (n * c) := by
  obtain ⟨cur, h0, h1, h2, h3, h4⟩ := h
  intro q hq
  have hq' : q < cur.size := by rw [h3]; exact Nat.lt_of_lt_of_le hq (Nat.mul_le_mul_right _ h1)
  exact ⟨⟨cur[q], by rw [Go.Joins.cell_of_block h0]; simp [hq']⟩, Go.Joins.unfrozen_of_block h0 q⟩

def OwnX (W : World) (lo : Nat) : (s : Ty) → List Value → s.T → (Nat → Prop) → Prop
  | .int, cs, n, _ => cs = [.int .i64 n]
  | .str, cs, b, _ => cs = [.string b]
  | .bool, cs, b, _ => cs = [.bool b]
  | .nil, cs, _, _ => cs = []
  | .pair a b, cs, x, S => ∃ c1 c2 S1 S2, cs = c1 ++ c2 ∧ OwnX W lo a c1 x.1 S1 ∧ OwnX W lo b c2 x.2 S2 ∧ (∀ k, S1 k → ¬ S2 k) ∧ ∀ k, S1 k ∨ S2 k → S k
  | .list e t, cs, l, S => (l = [] ∧ cs = [.slice none 0 0]) ∨
      ∃ g cap xs, ∃ B : Nat → Nat → Prop, cs = [.slice (some ⟨g, 0, none⟩) l.length cap] ∧ XRow W t g cap l.length e.c xs ∧ lo ≤ g ∧ S g ∧ (∀ i, i < l.length → ∀ k, B i k → S k ∧ k ≠ g) ∧ (∀ i j, i < j → j < l.length → ∀ k, B i k → ¬ B j k) ∧
        ∀ i (h : i < l.length), OwnX W lo e ((xs.drop (i * e.c)).take e.c) l[i] (B i)
theorem OwnX.len {W : World} {lo : Nat} : ∀ {s : Ty} {cs : List Value} {x : s.T} {S : Nat → Prop}, OwnX W lo s cs x S → cs.length = s.c
  | .int, cs, x, S, h => by rw [show cs = _ from h]; rfl
  | .str, cs, x, S, h => by rw [show cs = _ from h]; rfl
  | .bool, cs, x, S, h => by rw [show cs = _ from h]; rfl
  | .nil, cs, x, S, h => by rw [show cs = _ from h]; rfl
  | .pair a b, cs, x, S, h => by
    obtain ⟨c1, c2, S1, S2, rfl, h1, h2, _⟩ := h
    rw [List.length_append, h1.len, h2.len]; rfl
  | .list e t, cs, x, S, h => by
    rcases h with ⟨_, rfl⟩ | ⟨g, cap, xs, B, rfl, _⟩ <;> rfl
theorem OwnX.mono {W : World} {lo : Nat} : ∀ {s : Ty} {cs : List Value} {x : s.T} {S S' : Nat → Prop}, OwnX W lo s cs x S → (∀ k, S k → S' k) → OwnX W lo s cs x S'
  | .int, cs, x, S, S', h, _ => h
  | .str, cs, x, S, S', h, _ => h
  | .bool, cs, x, S, S', h, _ => h
  | .nil, cs, x, S, S', h, _ => h
  | .pair a b, cs, x, S, S', h, hS => by
    obtain ⟨c1, c2, S1, S2, e, h1, h2, h3, h4⟩ := h
    exact ⟨c1, c2, S1, S2, e, h1, h2, h3, fun k hk => hS k (h4 k hk)⟩
  | .list e t, cs, x, S, S', h, hS => by
    rcases h with h | ⟨g, cap, xs, B, e1, hr, hl, hg, h3, h4, h5⟩
    · exact Or.inl h
    · exact Or.inr ⟨g, cap, xs, B, e1, hr, hl, hS g hg, fun i hi k hk => ⟨hS k (h3 i hi k hk).1, (h3 i hi k hk).2⟩, h4, h5⟩
/-- What has not turned in its blocks is as it was. -/
theorem OwnX.keep {W W' : World} {lo : Nat} : ∀ {s : Ty} {cs : List Value} {x : s.T} {S : Nat → Prop}, (∀ k, k < W.heap.size → S k → W'.heap[k]? = W.heap[k]?) → OwnX W lo s cs x S → OwnX W' lo s cs x S
  | .int, cs, x, S, _, h => h
  | .str, cs, x, S, _, h => h
  | .bool, cs, x, S, _, h => h
  | .nil, cs, x, S, _, h => h
  | .pair a b, cs, x, S, hw, h => by
    obtain ⟨c1, c2, S1, S2, e, h1, h2, h3, h4⟩ := h
    exact ⟨c1, c2, S1, S2, e, h1.keep (fun k hl hk => hw k hl (h4 k (Or.inl hk))), h2.keep (fun k hl hk => hw k hl (h4 k (Or.inr hk))), h3, h4⟩
  | .list e t, cs, x, S, hw, h => by
    rcases h with h | ⟨g, cap, xs, B, e1, hr, hl, hg, h3, h4, h5⟩
    · exact Or.inl h
    · exact Or.inr ⟨g, cap, xs, B, e1, hr.same (hw g hr.lt hg), hl, hg, h3, h4, fun i hi => (h5 i hi).keep (fun k hk hB => hw k hk (h3 i hi k hB).1)⟩
theorem OwnX.next {W W' : World} {lo : Nat} {s : Ty} {cs : List Value} {x : s.T} {S : Nat → Prop} (h : OwnX W lo s cs x S) (hb : Below W.heap.size W W') : OwnX W' lo s cs x S := h.keep (fun k hk _ => hb.block k hk)
theorem OwnX.turn {W W' : World} {lo : Nat} {s : Ty} {cs : List Value} {x : s.T} {S S' : Nat → Prop} (h : OwnX W lo s cs x S) (ht : TurnS S' W W') (ha : ∀ k, S k → ¬ S' k) : OwnX W' lo s cs x S := h.keep (fun k hk hs => ht.block hk (ha k hs))
theorem OwnX.set {W : World} {lo : Nat} {s : Ty} {cs : List Value} {x : s.T} {S : Nat → Prop} (h : OwnX W lo s cs x S) {p : Addr} (hp : ¬ S p.block) (v : Value) : OwnX (W.setCell p v) lo s cs x S :=
  h.keep (fun k _ hk => Below.heap_setCell _ _ _ _ (fun e => hp (e ▸ hk)))
theorem OwnX.grow {W W' : World} {lo : Nat} {row : Option Nat} {s : Ty} {cs : List Value} {x : s.T} {S : Nat → Prop} (h : OwnX W lo s cs x S) (hg : W.grownBy W' row) (hr : ∀ k, row = some k → ¬ S k) : OwnX W' lo s cs x S :=
  h.keep (fun k hk hs => hg.block k hk (fun q => hr k q.symm hs))
theorem OwnX.lower {W : World} {lo lo' : Nat} (hl : lo' ≤ lo) : ∀ {s : Ty} {cs : List Value} {x : s.T} {S : Nat → Prop}, OwnX W lo s cs x S → OwnX W lo' s cs x S
  | .int, cs, x, S, h => h
  | .str, cs, x, S, h => h
  | .bool, cs, x, S, h => h
  | .nil, cs, x, S, h => h
  | .pair a b, cs, x, S, h => by
    obtain ⟨c1, c2, S1, S2, e, h1, h2, h3, h4⟩ := h
    exact ⟨c1, c2, S1, S2, e, h1.lower hl, h2.lower hl, h3, h4⟩
  | .list e t, cs, x, S, h => by
    rcases h with h | ⟨g, cap, xs, B, e1, hr, hlg, hg, h3, h4, h5⟩
    · exact Or.inl h
    · exact Or.inr ⟨g, cap, xs, B, e1, hr, Nat.le_trans hl hlg, hg, h3, h4, fun i hi => (h5 i hi).lower hl⟩
/-- Such data are owned as the laws want it. -/
theorem OwnX.own {W : World} {lo : Nat} : ∀ {s : Ty} {cs : List Value} {x : s.T} {S : Nat → Prop}, OwnX W lo s cs x S → Own W s.sh cs x S
  | .int, cs, x, S, h => h
  | .str, cs, x, S, h => h
  | .bool, cs, x, S, h => h
  | .nil, cs, x, S, h => h
  | .pair a b, cs, x, S, h => by
    obtain ⟨c1, c2, S1, S2, e, h1, h2, h3, h4⟩ := h
    exact ⟨c1, c2, S1, S2, e, h1.own, h2.own, h3, h4⟩
  | .list e t, cs, x, S, h => by
    rcases h with ⟨h, e1⟩ | ⟨g, cap, xs, B, e1, hr, hl, hg, h3, h4, h5⟩
    · exact Or.inl ⟨h, none, 0, e1, Nat.zero_le _⟩
    · refine Or.inr ⟨g, cap, B, e1, ?_, hr.lt, hg, h3, h4, hr.room, fun i hi => ⟨_, (h5 i hi).len, fun j hj => ?_, (h5 i hi).own⟩⟩
      · obtain ⟨cur, _, h1, h2, _⟩ := hr; exact ⟨h1, h2⟩
      · have hm := mul_step (c := e.c) hi
        have hj' : j < e.c := by rw [(h5 i hi).len] at hj; exact hj
        rw [cells_of_take hj']
        exact hr.cell (show i * e.c + j < List.length x * e.c by omega)
theorem OwnX.lies {W : World} {lo : Nat} {s : Ty} {cs : List Value} {x : s.T} {S : Nat → Prop} (h : OwnX W lo s cs x S) : Lies W s.sh cs x := h.own.lies
/-- The list as a row. -/
theorem OwnX.row {W : World} {lo : Nat} {e : Ty} {t : TypeId} {v : Value} {l : List e.T} {S : Nat → Prop} (h : OwnX W lo (.list e t) [v] l S) :
    ∃ xs, W.ownsRow lo t e.c v l.length xs ∧ (∀ k, v.ownBlock = some k → S k) ∧ ∃ B : Nat → Nat → Prop, (∀ i, i < l.length → ∀ k, B i k → S k ∧ v.ownBlock ≠ some k) ∧ (∀ i j, i < j → j < l.length → ∀ k, B i k → ¬ B j k) ∧ ∀ i (h : i < l.length), OwnX W lo e ((xs.drop (i * e.c)).take e.c) l[i] (B i) := by
  rcases h with ⟨hl, e1⟩ | ⟨g, cap, xs, B, e1, hr, hl, hg, h3, h4, h5⟩
  · subst hl
    have hv : v = .slice none 0 0 := by simpa using e1
    subst hv
    exact ⟨[], World.ownsRow_nil _ _ _ _, (fun k hk => by cases hk), fun _ _ => False, (fun i hi => absurd hi (Nat.not_lt_zero i)), (fun i j _ hj => absurd hj (Nat.not_lt_zero j)), (fun i hi => absurd hi (Nat.not_lt_zero i))⟩
  · have hv : v = .slice (some ⟨g, 0, none⟩) l.length cap := by simpa using e1
    subst hv
    refine ⟨xs, hr.row hl, fun k hk => by cases hk; exact hg, B, fun i hi k hk => ⟨(h3 i hi k hk).1, fun q => (h3 i hi k hk).2 (by cases q; rfl)⟩, h4, h5⟩
theorem OwnX.of_row {W : World} {lo : Nat} {e : Ty} {t : TypeId} {v : Value} {l : List e.T} {S : Nat → Prop} {xs : List Value} {B : Nat → Nat → Prop} (h : W.ownsRow lo t e.c v l.length xs) (hS : ∀ k, v.ownBlock = some k → S k) (h3 : ∀ i, i < l.length → ∀ k, B i k → S k ∧ v.ownBlock ≠ some k)
    (h4 : ∀ i j, i < j → j < l.length → ∀ k, B i k → ¬ B j k) (h5 : ∀ i (h : i < l.length), OwnX W lo e ((xs.drop (i * e.c)).take e.c) l[i] (B i)) : OwnX W lo (.list e t) [v] l S := by
  rcases Go.Joins.ownsRow_forms h with ⟨hv, h0⟩ | ⟨g, cap, hv⟩
  · exact Or.inl ⟨List.eq_nil_of_length_eq_zero h0, by rw [hv]⟩
  · subst hv
    obtain ⟨hr, hl⟩ := XRow.of h
    exact Or.inr ⟨g, cap, xs, B, rfl, hr, hl, hS g rfl, fun i hi k hk => ⟨(h3 i hi k hk).1, fun q => (h3 i hi k hk).2 (by rw [q]; rfl)⟩, h4, h5⟩
theorem OwnX.nil' {W : World} {lo : Nat} {e : Ty} {t : TypeId} {S : Nat → Prop} : OwnX W lo (.list e t) [.slice none 0 0] [] S := Or.inl ⟨rfl, rfl⟩
/-- What was appended. -/
theorem take_at_last {xs ec : List Value} {n c : Nat} (hx : xs.length = n * c) (he : ec.length = c) : ((xs ++ ec).drop (n * c)).take c = ec := by rw [← hx, List.drop_left, ← he, List.take_length]
theorem take_at_old {xs ec : List Value} {n c i : Nat} (hx : xs.length = n * c) (hi : i < n) : ((xs ++ ec).drop (i * c)).take c = (xs.drop (i * c)).take c := by
  have := mul_step (c := c) hi
  rw [List.drop_append_of_le_length (by omega), List.take_append_of_le_length (by rw [List.length_drop]; omega)]
/-- One element more: W0 the world with the list, W that of the append (the element's blocks of E are no others' there). -/
theorem OwnX.app {W W' : World} {lo : Nat} {e : Ty} {t : TypeId} {v v' : Value} {l : List e.T} {S E : Nat → Prop} {xs ec : List Value} {B : Nat → Nat → Prop} {x : e.T} (ho : W.ownsRow lo t e.c v l.length xs) (hS : ∀ k, v.ownBlock = some k → S k)
    (h3 : ∀ i, i < l.length → ∀ k, B i k → S k ∧ v.ownBlock ≠ some k) (h4 : ∀ i j, i < j → j < l.length → ∀ k, B i k → ¬ B j k) (h5 : ∀ i (h : i < l.length), OwnX W lo e ((xs.drop (i * e.c)).take e.c) l[i] (B i)) (hz : ∀ k, S k → k < W.heap.size)
    (hx : OwnX W lo e ec x E) (hE : ∀ k, E k → k < W.heap.size ∧ ¬ S k) (h2 : W'.ownsRow lo t e.c v' (l.length + 1) (xs ++ ec)) (hg : W.grownBy W' v.ownBlock) (hwh : v'.ownBlock = v.ownBlock ∨ v'.ownBlock = some W.heap.size) :
    OwnX W' lo (.list e t) [v'] (l ++ [x]) (fun k => S k ∨ E k ∨ v'.ownBlock = some k) := by
  have hxl : xs.length = l.length * e.c := ho.1
  have hel := hx.len
  refine OwnX.of_row (xs := xs ++ ec) (B := fun i => if i = l.length then E else B i) (by rw [List.length_append]; exact h2) (fun k hk => ?_) (fun i hi k hk => ?_) (fun i j hij hj k hk => ?_) (fun i hi => ?_)
  · exact Or.inr (Or.inr hk)
  · rw [List.length_append, List.length_singleton] at hi
    by_cases ei : i = l.length
    · simp only [if_pos ei] at hk
      refine ⟨Or.inr (Or.inl hk), fun q => ?_⟩
      rcases hwh with q2 | q2
      · rw [q2] at q; exact (hE k hk).2 (hS k q)
      · rw [q2] at q; have := (hE k hk).1; cases q; omega
    · simp only [if_neg ei] at hk
      have h := h3 i (by omega) k hk
      refine ⟨Or.inl h.1, fun q => ?_⟩
      rcases hwh with q2 | q2
      · rw [q2] at q; exact h.2 q
      · rw [q2] at q; have := hz k h.1; cases q; omega
  · rw [List.length_append, List.length_singleton] at hj
    simp only [if_neg (show ¬ i = l.length by omega)] at hk
    by_cases ej : j = l.length
    · simp only [if_pos ej]
      exact fun q => (hE k q).2 (h3 i (by omega) k hk).1
    · simp only [if_neg ej]
      exact h4 i j hij (by omega) k hk
  · rw [List.length_append, List.length_singleton] at hi
    by_cases ei : i = l.length
    · subst ei
      rw [take_at_last hxl hel]
      simp only [if_true, List.getElem_concat_length]
      exact hx.grow hg (fun k hk q => (hE k q).2 (hS k hk))
    · have hil : i < l.length := by omega
      rw [take_at_old hxl hil]
      simp only [if_neg ei]
      rw [List.getElem_append_left hil]
      exact (h5 i hil).grow hg (fun k hk q => (h3 i hil k q).2 hk)
end Go.Proofs.Ytaofolbnommpgaa
/- Rows of structs of k cells: copy, and one element put between others. No Go text is spoken of here. -/
namespace Go.Proofs.Ytaofolbnommpgaa
open Go.RowKit
set_option linter.unusedVariables false

theorem run_copyK {P : Program} (w : World) (dT sT ty elem : TypeId) (k g o dLen dCap : Nat) (a : Addr) (sLen sCap : Nat) (cur : Array Value) (t : TypeId) (cs : List Value)
    (hu : P.underlying dT = some (.slice elem)) (hs : (P.info? elem).map (·.size) = some k)
    (hg : w.heap[g]? = some (.cells cur t (0, 0))) (hn : cs.length = Nat.min sLen dLen * k)
    (hsrc : ∀ j v, cs[j]? = some v → w.cell? (a.add j) = some v) (hfit : o + cs.length ≤ cur.size) (h1 : ∀ v ∈ cs, v.oneCell' = true) :
    (Builtin.copy_ #[dT, sT] ty #[.slice (some ⟨g, o, none⟩) dLen dCap, .slice (some a) sLen sCap]).run P w =
      .ok (goInt (Nat.min sLen dLen)) (w.setRow g (cur.toList.take o ++ cs ++ cur.toList.drop (o + cs.length)).toArray) := by
  have hl := run_loadCells_list (P := P) w a cs hsrc
  have hst := run_storeCells_at P g o t cs 0 cur w hg (by simpa using hfit) h1
  cases hq : P.info? elem with
  | none => simp [hq] at hs
  | some i =>
    have hi : i.size = k := by simpa [hq] using hs
    simp [Builtin.copy_, run_underlying hu, Builtin.lenOf, Builtin.firstCells, sizeOf, typeInfo, hq, hi, ← hn, hl, hst]

theorem add0 (g o j : Nat) : (⟨g, o, none⟩ : Addr).add j = ⟨g, o + j, none⟩ := by unfold Addr.add; split <;> simp_all
theorem cell_row {w : World} {g j : Nat} {cur : Array Value} {t : TypeId} {fr : Nat × Nat} (h : w.heap[g]? = some (.cells cur t fr)) : w.cell? ⟨g, j, none⟩ = cur[j]? := by
  simp [World.cell?, h]
theorem setRow_os (w : World) (g : Nat) (c : Array Value) : (w.setRow g c).os = w.os ∧ (w.setRow g c).tape = w.tape ∧ (w.setRow g c).output = w.output ∧ (w.setRow g c).heap.size = w.heap.size := by
  unfold World.setRow
  simp
theorem setRow_other (w : World) (g : Nat) (c : Array Value) (k : Nat) (h : k ≠ g) : (w.setRow g c).heap[k]? = w.heap[k]? := by
  unfold World.setRow
  simp [Array.getElem?_modify, Ne.symm h]
/-- xs with vs put at a place. -/
def putAt (xs vs : List Value) (o : Nat) : List Value := xs.take o ++ vs ++ xs.drop o
/-- What the two copies of an insertion in place leave. -/
def shift1 (cur : List Value) (k n i : Nat) : List Value := cur.take ((i + 1) * k) ++ (cur.drop (i * k)).take ((n - i) * k) ++ cur.drop ((i + 1) * k + (n - i) * k)
def shift2 (cur : List Value) (k i : Nat) (vs : List Value) : List Value := cur.take (i * k) ++ vs ++ cur.drop (i * k + vs.length)
theorem shift_len {cur vs : List Value} {k n i c : Nat} (hi : i < n) (hc : n + 1 ≤ c) (hl : cur.length = c * k) : (shift1 cur k n i).length = c * k := by
  have a1 : (i + 1) * k + (n - i) * k = (n + 1) * k := by rw [← Nat.add_mul]; congr 1; omega
  have a2 : (n + 1) * k ≤ c * k := Nat.mul_le_mul_right k hc
  have a3 : i * k + (n - i) * k = n * k := by rw [← Nat.add_mul]; congr 1; omega
  have a4 : (i + 1) * k ≤ (n + 1) * k := Nat.mul_le_mul_right k (by omega)
  have a5 : n * k ≤ c * k := Nat.mul_le_mul_right k (by omega)
  simp only [shift1, List.length_append, List.length_take, List.length_drop, hl, Nat.min_def]
  split <;> split <;> omega
theorem shift_is {cur vs : List Value} {k n i c : Nat} (hi : i < n) (hc : n + 1 ≤ c) (hl : cur.length = c * k) (hv : vs.length = k) :
    (shift2 (shift1 cur k n i) k i vs).take ((n + 1) * k) = putAt (cur.take (n * k)) vs (i * k) := by
  have a1 : (i + 1) * k + (n - i) * k = (n + 1) * k := by rw [← Nat.add_mul]; congr 1; omega
  have a2 : (n + 1) * k ≤ c * k := Nat.mul_le_mul_right k hc
  have a3 : i * k + (n - i) * k = n * k := by rw [← Nat.add_mul]; congr 1; omega
  have a4 : (i + 1) * k = i * k + k := by rw [Nat.add_mul, Nat.one_mul]
  have a5 : (n + 1) * k = n * k + k := by rw [Nat.add_mul, Nat.one_mul]
  have sl := shift_len (vs := vs) hi hc hl
  generalize hA : i * k = A at *
  generalize hN : n * k = M at *
  generalize hD : (n - i) * k = D at *
  generalize hC : c * k = Z at *
  apply List.ext_getElem?
  intro j
  simp only [shift2, putAt, hv, hA]
  have hs1 : ∀ q, (shift1 cur k n i)[q]? = if q < A + k then cur[q]? else if q < M + k then cur[q - k]? else cur[q]? := by
    intro q
    simp only [shift1, a4, hA, hD]
    rw [List.getElem?_append, List.getElem?_append]
    simp only [List.length_append, List.length_take, List.length_drop, hl, List.getElem?_take, List.getElem?_drop]
    by_cases h1 : q < A + k
    · rw [if_pos (by omega), if_pos (by omega), if_pos (by omega), if_pos h1]
    · by_cases h2 : q < M + k
      · rw [if_pos (by omega), if_neg (by omega), if_neg h1, if_pos h2, if_pos (by omega)]
        congr 1; omega
      · rw [if_neg (by omega), if_neg h1, if_neg h2]
        congr 1; omega
  rw [List.getElem?_take]
  rw [List.getElem?_append, List.getElem?_append, List.getElem?_append, List.getElem?_append]
  simp only [List.length_append, List.length_take, sl, hl, hv, List.getElem?_take, List.getElem?_drop, hs1, a5]
  by_cases h1 : j < A
  · rw [if_pos (by omega), if_pos (by omega), if_pos (by omega), if_pos h1, if_pos (by omega), if_pos (by omega), if_pos (by omega), if_pos h1, if_pos (by omega)]
  · by_cases h2 : j < A + k
    · rw [if_pos (by omega), if_pos (by omega), if_neg (by omega), if_pos (by omega), if_neg (by omega)]
      congr 1; omega
    · by_cases h3 : j < M + k
      · rw [if_pos h3, if_neg (by omega), if_neg (by omega), if_pos (by omega), if_neg (by omega), if_pos (by omega)]
        congr 1; omega
      · rw [if_neg h3, if_neg (by omega), if_neg (by omega)]
/-- What the insertion into a new row leaves. -/
theorem grow_is {xs vs Z : List Value} {k n i : Nat} (hi : i < n) (hl : xs.length = n * k) (hv : vs.length = k) {cur c1 : List Value} (hc : cur = xs.take (i * k) ++ Z) (hz : (n + 1 - i) * k ≤ Z.length)
    (h1 : c1 = cur.take (i * k) ++ vs ++ cur.drop (i * k + k)) :
    (c1.take ((i + 1) * k) ++ xs.drop (i * k) ++ c1.drop ((i + 1) * k + (n - i) * k)).take ((n + 1) * k) = putAt xs vs (i * k) := by
  have a1 : (i + 1) * k + (n - i) * k = (n + 1) * k := by rw [← Nat.add_mul]; congr 1; omega
  have a2 : i * k ≤ n * k := Nat.mul_le_mul_right k (by omega)
  have a3 : i * k + (n - i) * k = n * k := by rw [← Nat.add_mul]; congr 1; omega
  have a4 : (i + 1) * k = i * k + k := by rw [Nat.add_mul, Nat.one_mul]
  have a6 : i * k + (n + 1 - i) * k = (n + 1) * k := by rw [← Nat.add_mul]; congr 1; omega
  have a5 : (n + 1) * k = n * k + k := by rw [Nat.add_mul, Nat.one_mul]
  have lx : (xs.take (i * k)).length = i * k := by rw [List.length_take, hl]; omega
  have e0 : cur.take (i * k) = xs.take (i * k) := by rw [hc]; exact List.take_left' lx
  have e1 : c1.take ((i + 1) * k) = xs.take (i * k) ++ vs := by
    rw [h1, e0, a4]
    exact List.take_left' (by rw [List.length_append, lx, hv])
  rw [e1, putAt]
  exact List.take_left' (by rw [List.length_append, List.length_append, lx, hv, List.length_drop, hl]; omega)
theorem putAt_end {xs vs : List Value} {o : Nat} (h : xs.length = o) : putAt xs vs o = xs ++ vs := by subst h; simp [putAt]
end Go.Proofs.Ytaofolbnommpgaa
/- Rows that are known exactly: one element turned in place, flat elements, one put between others. No Go text is spoken of here. -/
namespace Go.Proofs.Ytaofolbnommpgaa
open Go.RowKit
set_option linter.unusedVariables false

theorem heap_set_same {W : World} {g j : Nat} {cur : Array Value} {t : TypeId} {fr : Nat × Nat} (h : W.heap[g]? = some (.cells cur t fr)) (v : Value) : (W.setCell ⟨g, j, none⟩ v).heap[g]? = some (.cells (cur.setIfInBounds j v) t fr) := by
  have hlt : g < W.heap.size := by
    rcases Nat.lt_or_ge g W.heap.size with q | q
    · exact q
    · rw [Array.getElem?_eq_none q] at h; cases h
  simp only [World.setCell, Array.getElem?_modify, if_true, h, Option.map_some]
  rfl
/-- In block g the cells from o on are these now, all others as they were. -/
def Chunk (W W' : World) (t : TypeId) (g o : Nat) (ec : List Value) : Prop := ∃ cur cur' : Array Value, W.heap[g]? = some (.cells cur t (0, 0)) ∧ W'.heap[g]? = some (.cells cur' t (0, 0)) ∧ cur'.size = cur.size ∧ ∀ j, cur'[j]? = if o ≤ j ∧ j < o + ec.length then ec[j - o]? else cur[j]?
theorem Chunk.start {W : World} {t : TypeId} {g cap n c : Nat} {xs : List Value} (h : XRow W t g cap n c xs) {k : Nat} (hk : k < n) : Chunk W W t g (k * c) ((xs.drop (k * c)).take c) := by
  have hl := h.len
  obtain ⟨cur, h0, h1, h2, h3, h4⟩ := h
  have hm := mul_step (c := c) hk
  have hm2 := Nat.mul_le_mul_right c h1
  have hel : ((xs.drop (k * c)).take c).length = c := by rw [List.length_take, List.length_drop, hl]; omega
  refine ⟨cur, cur, h0, h0, rfl, fun j => ?_⟩
  by_cases hj : k * c ≤ j ∧ j < k * c + ((xs.drop (k * c)).take c).length
  · rw [if_pos hj]
    rw [hel] at hj
    rw [List.getElem?_take, if_pos (by omega), List.getElem?_drop, ← h4, List.getElem?_take, if_pos (by omega), show k * c + (j - k * c) = j by omega]
    simp
  · rw [if_neg hj]
theorem Chunk.keep {W W' W'' : World} {t : TypeId} {g o : Nat} {ec : List Value} (h : Chunk W W' t g o ec) (e : W''.heap[g]? = W'.heap[g]?) : Chunk W W'' t g o ec := by
  obtain ⟨cur, cur', h0, h1, r⟩ := h
  exact ⟨cur, cur', h0, e.trans h1, r⟩
theorem Chunk.set {W W' : World} {t : TypeId} {g o : Nat} {ec : List Value} (h : Chunk W W' t g o ec) {j : Nat} (hj : j < ec.length) (v : Value) : Chunk W (W'.setCell ⟨g, o + j, none⟩ v) t g o (ec.set j v) := by
  obtain ⟨cur, cur', h0, h1, h2, h3⟩ := h
  refine ⟨cur, _, h0, heap_set_same h1 v, by rw [Array.size_setIfInBounds]; exact h2, fun i => ?_⟩
  rw [Array.getElem?_setIfInBounds, List.length_set, List.getElem?_set]
  have h4 := h3 i
  have h5 := h3 (o + j)
  rw [if_pos (by omega)] at h5
  have h6 : o + j < cur'.size := by
    rcases Nat.lt_or_ge (o + j) cur'.size with q | q
    · exact q
    · rw [Array.getElem?_eq_none q, show o + j - o = j by omega, List.getElem?_eq_getElem hj] at h5; cases h5
  by_cases e : o + j = i
  · subst e
    rw [if_pos rfl, if_pos h6, if_pos (by omega), if_pos (by omega), if_pos (by omega)]
  · rw [if_neg e, h4]
    by_cases q : o ≤ i ∧ i < o + ec.length
    · rw [if_pos q, if_pos q, if_neg (by omega)]
    · rw [if_neg q, if_neg q]
/-- The row behind such a turn. -/
theorem Chunk.row {W W' : World} {t : TypeId} {g cap n c : Nat} {xs ec : List Value} (h : XRow W t g cap n c xs) {k : Nat} (hk : k < n) (hec : ec.length = c) (hc : Chunk W W' t g (k * c) ec) : XRow W' t g cap n c (xs.take (k * c) ++ ec ++ xs.drop (k * c + c)) := by
  have hl := h.len
  obtain ⟨cur0, h0, h1, h2, h3, h4⟩ := h
  obtain ⟨cur, cur', g0, g1, g2, g3⟩ := hc
  rw [h0] at g0
  simp only [Option.some.injEq, Obj.cells.injEq, and_true] at g0
  obtain ⟨rfl, _⟩ := g0
  have hm := mul_step (c := c) hk
  have hm2 := Nat.mul_le_mul_right c h1
  refine ⟨cur', g1, h1, h2, g2.trans h3, ?_⟩
  apply List.ext_getElem?
  intro j
  rw [List.getElem?_take, List.append_assoc, List.getElem?_append, List.getElem?_append, List.length_take, hl, Nat.min_eq_left (by omega), List.getElem?_take, List.getElem?_drop, hec]
  have g3j := g3 j
  rw [hec] at g3j
  have e1 : ∀ q, xs[q]? = if q < n * c then cur0[q]? else none := by
    intro q; rw [← h4, List.getElem?_take]; simp
  by_cases hj : j < n * c
  · rw [if_pos hj]
    have ej : cur'.toList[j]? = cur'[j]? := by simp
    rw [ej, g3j]
    by_cases q1 : j < k * c
    · rw [if_neg (by omega), if_pos q1, if_pos q1, e1 j, if_pos hj]
    · by_cases q2 : j < k * c + c
      · rw [if_pos (by omega), if_neg q1, if_pos (by omega)]
      · rw [if_neg (by omega), if_neg q1, if_neg (by omega), e1, if_pos (by omega), show k * c + c + (j - k * c - c) = j by omega]
  · rw [if_neg hj, if_neg (by omega), if_neg (by omega), e1, if_neg (by omega)]
theorem chunk_at {xs ec : List Value} {n c k i : Nat} (hx : xs.length = n * c) (hec : ec.length = c) (hk : k < n) (hi : i < n) : (((xs.take (k * c) ++ ec ++ xs.drop (k * c + c)).drop (i * c)).take c) = if i = k then ec else (xs.drop (i * c)).take c := by
  have hm := mul_step (c := c) hk
  have hm2 := mul_step (c := c) hi
  have hlt : (xs.take (k * c)).length = k * c := by rw [List.length_take, hx]; omega
  by_cases e : i = k
  · subst e
    rw [if_pos rfl, List.append_assoc, List.drop_left' hlt, List.take_left' hec]
  · rw [if_neg e]
    apply List.ext_getElem?
    intro j
    rw [List.getElem?_take, List.getElem?_take, List.getElem?_drop, List.getElem?_drop, List.append_assoc, List.getElem?_append, List.getElem?_append, hlt, hec, List.getElem?_take, List.getElem?_drop]
    by_cases hj : j < c
    · rw [if_pos hj, if_pos hj]
      rcases Nat.lt_or_ge i k with q | q
      · have := mul_step (c := c) q
        rw [if_pos (by omega), if_pos (by omega)]
      · have := mul_step (c := c) (show k < i by omega)
        rw [if_neg (by omega), if_neg (by omega)]
        congr 1; omega
    · rw [if_neg hj, if_neg hj]
/-- One element, and how the list is put together again when it has turned. -/
theorem OwnX.lens {W : World} {lo : Nat} {e : Ty} {t : TypeId} {v : Value} {l : List e.T} {S : Nat → Prop} (h : OwnX W lo (.list e t) [v] l S) {k : Nat} (hk : k < l.length) :
    ∃ g cap ec, ∃ Bk : Nat → Prop, v = .slice (some ⟨g, 0, none⟩) l.length cap ∧ g < W.heap.size ∧ lo ≤ g ∧ S g ∧ (∀ b, Bk b → S b ∧ b ≠ g) ∧ ec.length = e.c ∧ Cells W g (k * e.c) ec ∧ Room W g (l.length * e.c) ∧ OwnX W lo e ec l[k] Bk ∧ Chunk W W t g (k * e.c) ec ∧
      ∀ (W' : World) (ec' : List Value) (y : e.T) (B' F : Nat → Prop), (∀ b, b < W.heap.size → S b → b ≠ g → ¬ Bk b → W'.heap[b]? = W.heap[b]?) → Chunk W W' t g (k * e.c) ec' → OwnX W' lo e ec' y B' → (∀ b, B' b → Bk b ∨ F b) → (∀ b, F b → ¬ S b) → OwnX W' lo (.list e t) [v] (l.set k y) (fun b => S b ∨ F b) := by
  rcases h with ⟨hl, _⟩ | ⟨g, cap, xs, B, e1, hr, hlg, hg, h3, h4, h5⟩
  · rw [hl] at hk; exact absurd hk (Nat.not_lt_zero k)
  have hv : v = .slice (some ⟨g, 0, none⟩) l.length cap := by simpa using e1
  have hlen := hr.len
  refine ⟨g, cap, (xs.drop (k * e.c)).take e.c, B k, hv, hr.lt, hlg, hg, h3 k hk, (h5 k hk).len, fun j hj => ?_, hr.room, h5 k hk, Chunk.start hr hk, fun W' ec' y B' F hw hc hy hB hF => ?_⟩
  · have hm := mul_step (c := e.c) hk
    have hj' : j < e.c := by rw [(h5 k hk).len] at hj; exact hj
    rw [cells_of_take hj']
    exact hr.cell (by omega)
  · have hel := hy.len
    have hr' := hc.row hr hk hel
    refine Or.inr ⟨g, cap, _, fun i => if i = k then B' else B i, by rw [hv, List.length_set], by rw [List.length_set]; exact hr', hlg, Or.inl hg, fun i hi b hb => ?_, fun i j hij hj b hb => ?_, fun i hi => ?_⟩
    · rw [List.length_set] at hi
      by_cases ei : i = k
      · simp only [if_pos ei] at hb
        rcases hB b hb with q | q
        · exact ⟨Or.inl (h3 k hk b q).1, (h3 k hk b q).2⟩
        · exact ⟨Or.inr q, fun q2 => hF b q (q2 ▸ hg)⟩
      · simp only [if_neg ei] at hb
        exact ⟨Or.inl (h3 i hi b hb).1, (h3 i hi b hb).2⟩
    · rw [List.length_set] at hj
      by_cases ei : i = k
      · simp only [if_pos ei] at hb
        simp only [if_neg (show ¬ j = k by omega)]
        rcases hB b hb with q | q
        · exact h4 k j (by omega) hj b q
        · exact fun q2 => hF b q (h3 j hj b q2).1
      · simp only [if_neg ei] at hb
        by_cases ej : j = k
        · simp only [if_pos ej]
          intro q
          rcases hB b q with q2 | q2
          · exact h4 i k (by omega) hk b hb q2
          · exact hF b q2 (h3 i (by omega) b hb).1
        · simp only [if_neg ej]
          exact h4 i j hij hj b hb
    · rw [List.length_set] at hi
      have hch := chunk_at (xs := xs) (ec := ec') hlen hel hk hi
      rw [show (List.drop (i * e.c) (xs.take (k * e.c) ++ ec' ++ xs.drop (k * e.c + e.c))).take e.c = _ from hch]
      by_cases ei : i = k
      · subst ei
        simp only [if_true, List.getElem_set_self]; exact hy
      · simp only [if_neg ei]
        rw [List.getElem_set_ne (fun q => ei q.symm)]
        refine (h5 i hi).keep (fun b hb hBi => hw b hb (h3 i hi b hBi).1 (h3 i hi b hBi).2 (fun q => ?_))
        rcases Nat.lt_or_ge i k with q2 | q2
        · exact h4 i k q2 hk b hBi q
        · exact h4 k i (by omega) hi b q hBi

/-- Data without lists, and their cells. -/
def Ty.flatB : Ty → Bool
  | .pair a b => a.flatB && b.flatB
  | .list _ _ => false
  | _ => true
def valC : (s : Ty) → s.T → List Value
  | .int, n => [.int .i64 n]
  | .str, b => [.string b]
  | .bool, b => [.bool b]
  | .nil, _ => []
  | .pair a b, x => valC a x.1 ++ valC b x.2
  | .list _ _, _ => []
theorem ownx_flat {W : World} {lo : Nat} : ∀ {s : Ty} {cs : List Value} {x : s.T} {S : Nat → Prop}, s.flatB = true → (OwnX W lo s cs x S ↔ cs = valC s x)
  | .int, cs, x, S, _ => Iff.rfl
  | .str, cs, x, S, _ => Iff.rfl
  | .bool, cs, x, S, _ => Iff.rfl
  | .nil, cs, x, S, _ => Iff.rfl
  | .pair a b, cs, x, S, h => by
    simp only [Ty.flatB, Bool.and_eq_true] at h
    constructor
    · rintro ⟨c1, c2, S1, S2, rfl, h1, h2, _⟩
      rw [(ownx_flat h.1).1 h1, (ownx_flat h.2).1 h2]; rfl
    · intro e
      exact ⟨_, _, fun _ => False, fun _ => False, e, (ownx_flat h.1).2 rfl, (ownx_flat h.2).2 rfl, fun k q => q.elim, fun k q => q.elim id id |>.elim⟩
  | .list e t, cs, x, S, h => by simp [Ty.flatB] at h
theorem valC_len : ∀ {s : Ty} (x : s.T), s.flatB = true → (valC s x).length = s.c
  | .int, _, _ => rfl
  | .str, _, _ => rfl
  | .bool, _, _ => rfl
  | .nil, _, _ => rfl
  | .pair a b, x, h => by
    simp only [Ty.flatB, Bool.and_eq_true] at h
    show (valC a x.1 ++ valC b x.2).length = _
    rw [List.length_append, valC_len x.1 h.1, valC_len x.2 h.2]; rfl
  | .list e t, x, h => by simp [Ty.flatB] at h
theorem flat_chunk {α : Type} {f : α → List Value} {c : Nat} (hf : ∀ x, (f x).length = c) : ∀ (l : List α) (i : Nat) (h : i < l.length), ((l.flatMap f).drop (i * c)).take c = f l[i]
  | [], i, h => absurd h (Nat.not_lt_zero i)
  | x :: t, 0, h => by
    rw [Nat.zero_mul, List.drop_zero, List.flatMap_cons, ← hf x, List.take_left]; rfl
  | x :: t, i + 1, h => by
    rw [List.flatMap_cons, show (i + 1) * c = (f x).length + i * c by rw [hf x, Nat.add_mul, Nat.one_mul, Nat.add_comm], ← List.drop_drop, List.drop_left]
    exact flat_chunk hf t i (by simpa using h)
theorem flat_len {α : Type} {f : α → List Value} {c : Nat} (hf : ∀ x, (f x).length = c) : ∀ l : List α, (l.flatMap f).length = l.length * c
  | [] => by simp
  | x :: t => by rw [List.flatMap_cons, List.length_append, hf x, flat_len hf t, List.length_cons, Nat.add_mul, Nat.one_mul, Nat.add_comm]
theorem flat_of {α : Type} {f : α → List Value} {c : Nat} (hf : ∀ x, (f x).length = c) : ∀ (l : List α) (xs : List Value), xs.length = l.length * c → (∀ i (h : i < l.length), (xs.drop (i * c)).take c = f l[i]) → xs = l.flatMap f
  | [], xs, hl, _ => by simp at hl; rw [hl]; rfl
  | x :: t, xs, hl, h => by
    have h0 : xs.take c = f x := by have := h 0 (Nat.zero_lt_succ _); rwa [Nat.zero_mul, List.drop_zero] at this
    have h1 : xs.drop c = t.flatMap f := by
      refine flat_of hf t (xs.drop c) ?_ (fun i hi => ?_)
      · rw [List.length_drop, hl, List.length_cons, Nat.add_mul, Nat.one_mul]; omega
      · have := h (i + 1) (Nat.succ_lt_succ hi)
        rw [List.drop_drop, show c + i * c = (i + 1) * c by rw [Nat.add_mul, Nat.one_mul, Nat.add_comm]]
        exact this
    rw [List.flatMap_cons, ← h0, ← h1, List.take_append_drop]
theorem flat_put {α : Type} {f : α → List Value} {c : Nat} (hf : ∀ x, (f x).length = c) {l : List α} {x : α} {p : Nat} (hp : p ≤ l.length) : putAt (l.flatMap f) (f x) (p * c) = (l.take p ++ x :: l.drop p).flatMap f := by
  have e : l.flatMap f = (l.take p).flatMap f ++ (l.drop p).flatMap f := by rw [← List.flatMap_append, List.take_append_drop]
  have hl : ((l.take p).flatMap f).length = p * c := by rw [flat_len hf, List.length_take, Nat.min_eq_left hp]
  rw [putAt, e, List.take_left' hl, List.drop_left' hl, List.flatMap_append, List.flatMap_cons, List.append_assoc]
/-- A list of such data is a row of their cells. -/
theorem OwnX.flat {W : World} {lo : Nat} {e : Ty} {t : TypeId} {v : Value} {l : List e.T} {S : Nat → Prop} (he : e.flatB = true) (h : OwnX W lo (.list e t) [v] l S) : W.ownsRow lo t e.c v l.length (l.flatMap (valC e)) ∧ ∀ k, v.ownBlock = some k → S k := by
  obtain ⟨xs, h1, h2, B, h3, h4, h5⟩ := h.row
  have hx : xs = l.flatMap (valC e) := flat_of (fun x => valC_len x he) l xs h1.1 (fun i hi => (ownx_flat he).1 (h5 i hi))
  rw [← hx]; exact ⟨h1, h2⟩
theorem OwnX.of_flat {W : World} {lo : Nat} {e : Ty} {t : TypeId} {v : Value} {l : List e.T} {S : Nat → Prop} (he : e.flatB = true) (h : W.ownsRow lo t e.c v l.length (l.flatMap (valC e))) (hS : ∀ k, v.ownBlock = some k → S k) : OwnX W lo (.list e t) [v] l S :=
  OwnX.of_row (B := fun _ _ => False) h hS (fun i hi k q => q.elim) (fun i j _ _ k q => q.elim) (fun i hi => (ownx_flat he).2 (flat_chunk (fun x => valC_len x he) l i hi))
theorem valC_one : ∀ {s : Ty} (x : s.T), ∀ u ∈ valC s x, u.oneCell' = true
  | .int, n, u, hu => by rw [List.mem_singleton.1 hu]; rfl
  | .str, n, u, hu => by rw [List.mem_singleton.1 hu]; rfl
  | .bool, n, u, hu => by rw [List.mem_singleton.1 hu]; rfl
  | .nil, n, u, hu => by cases hu
  | .pair a b, x, u, hu => by
    rcases List.mem_append.1 hu with q | q
    · exact valC_one x.1 u q
    · exact valC_one x.2 u q
  | .list e t, x, u, hu => by cases hu
theorem flat_one {s : Ty} (l : List s.T) : ∀ u ∈ l.flatMap (valC s), u.oneCell' = true := by
  intro u hu
  obtain ⟨x, _, hx⟩ := List.mem_flatMap.1 hu
  exact valC_one x u hx
end Go.Proofs.Ytaofolbnommpgaa
/- This chapter's types, their rows known exactly. Written by tools/nest.py. -/
namespace Go.Proofs.Ytaofolbnommpgaa
open Go.RowKit
set_option linter.unusedVariables false
set_option linter.unusedSimpArgs false

theorem ownx_form {w : World} {lo : Nat} {e : Ty} {t : TypeId} {cs : List Value} {l : List e.T} {S : Nat → Prop} (h : OwnX w lo (.list e t) cs l S) : ∃ v, cs = [v] := by
  rcases h with ⟨_, rfl⟩ | ⟨g, cap, xs, B, rfl, _⟩ <;> exact ⟨_, rfl⟩
def tyCopy : Ty := .pair .int (.pair .int (.pair .str .nil))
theorem ownx_Copy {w : World} {lo : Nat} {cs : List Value} {x0 : Int} {x1 : Int} {x2 : ByteArray} {S : Nat → Prop} (h : OwnX w lo tyCopy cs (x0, x1, x2, ()) S) : cs = [.int .i64 x0, .int .i64 x1, .string x2] := by
  obtain ⟨_, _, s1, t1, rfl, rfl, ⟨_, _, s2, t2, rfl, rfl, ⟨_, _, s3, t3, rfl, rfl, rfl, d3, u3⟩, d2, u2⟩, d1, u1⟩ := h
  exact rfl
theorem mkownx_Copy {w : World} {lo : Nat} {x0 : Int} {x1 : Int} {x2 : ByteArray} {S : Nat → Prop} : OwnX w lo tyCopy [.int .i64 x0, .int .i64 x1, .string x2] (x0, x1, x2, ()) S := ⟨_, _, fun k => False, fun k => False ∨ False ∨ False, rfl, rfl, ⟨_, _, fun k => False, fun k => False ∨ False, rfl, rfl, ⟨_, _, fun k => False, fun k => False, rfl, rfl, rfl, fun k g _ => g.elim, fun _ h => h⟩, fun k g _ => g.elim, fun _ h => h⟩, fun k g _ => g.elim, (by intro k h; (repeat' (rcases h with h | h)) <;> (first | exact h.elim))⟩
def tyRegOp : Ty := .pair .int (.pair .bool (.pair .str (.pair .int (.pair (.list .int 3) (.pair tyCopy (.pair .int (.pair .int .nil)))))))
theorem ownx_RegOp {w : World} {lo : Nat} {cs : List Value} {x0 : Int} {x1 : Bool} {x2 : ByteArray} {x3 : Int} {x4 : List (Sh.T .int)} {x5 : Int} {x6 : Int} {x7 : ByteArray} {x8 : Int} {x9 : Int} {S : Nat → Prop} (h : OwnX w lo tyRegOp cs (x0, x1, x2, x3, x4, (x5, x6, x7, ()), x8, x9, ()) S) : ∃ (v1 : Value) (S1 : Nat → Prop), cs = [.int .i64 x0, .bool x1, .string x2, .int .i64 x3, v1, .int .i64 x5, .int .i64 x6, .string x7, .int .i64 x8, .int .i64 x9] ∧ OwnX w lo (.list .int 3) [v1] x4 S1 ∧ (∀ k, S1 k → S k) := by
  obtain ⟨_, _, s1, t1, rfl, rfl, ⟨_, _, s2, t2, rfl, rfl, ⟨_, _, s3, t3, rfl, rfl, ⟨_, _, s4, t4, rfl, rfl, ⟨_, _, s5, t5, rfl, H5, ⟨_, _, s6, t6, rfl, ⟨_, _, s9, t9, rfl, rfl, ⟨_, _, s10, t10, rfl, rfl, ⟨_, _, s11, t11, rfl, rfl, rfl, d11, u11⟩, d10, u10⟩, d9, u9⟩, ⟨_, _, s7, t7, rfl, rfl, ⟨_, _, s8, t8, rfl, rfl, rfl, d8, u8⟩, d7, u7⟩, d6, u6⟩, d5, u5⟩, d4, u4⟩, d3, u3⟩, d2, u2⟩, d1, u1⟩ := h
  obtain ⟨v1, rfl⟩ := ownx_form H5
  exact ⟨v1, s5, rfl, H5, fun k e => (u1 _ (Or.inr (u2 _ (Or.inr (u3 _ (Or.inr (u4 _ (Or.inr (u5 _ (Or.inl e))))))))))⟩
theorem mkownx_RegOp {w : World} {lo : Nat} {v1 : Value} {S1 : Nat → Prop} {x0 : Int} {x1 : Bool} {x2 : ByteArray} {x3 : Int} {x4 : List (Sh.T .int)} {x5 : Int} {x6 : Int} {x7 : ByteArray} {x8 : Int} {x9 : Int} {S : Nat → Prop} (h1 : OwnX w lo (.list .int 3) [v1] x4 S1) (e1 : ∀ k, S1 k → S k) : OwnX w lo tyRegOp [.int .i64 x0, .bool x1, .string x2, .int .i64 x3, v1, .int .i64 x5, .int .i64 x6, .string x7, .int .i64 x8, .int .i64 x9] (x0, x1, x2, x3, x4, (x5, x6, x7, ()), x8, x9, ()) S := ⟨_, _, fun k => False, fun k => False ∨ False ∨ False ∨ S1 k ∨ (False ∨ False ∨ False ∨ False) ∨ False ∨ False ∨ False, rfl, rfl, ⟨_, _, fun k => False, fun k => False ∨ False ∨ S1 k ∨ (False ∨ False ∨ False ∨ False) ∨ False ∨ False ∨ False, rfl, rfl, ⟨_, _, fun k => False, fun k => False ∨ S1 k ∨ (False ∨ False ∨ False ∨ False) ∨ False ∨ False ∨ False, rfl, rfl, ⟨_, _, fun k => False, fun k => S1 k ∨ (False ∨ False ∨ False ∨ False) ∨ False ∨ False ∨ False, rfl, rfl, ⟨_, _, S1, fun k => (False ∨ False ∨ False ∨ False) ∨ False ∨ False ∨ False, rfl, h1, ⟨_, _, fun k => (False ∨ False ∨ False ∨ False), fun k => False ∨ False ∨ False, rfl, ⟨_, _, fun k => False, fun k => False ∨ False ∨ False, rfl, rfl, ⟨_, _, fun k => False, fun k => False ∨ False, rfl, rfl, ⟨_, _, fun k => False, fun k => False, rfl, rfl, rfl, fun k g _ => g.elim, fun _ h => h⟩, fun k g _ => g.elim, fun _ h => h⟩, fun k g _ => g.elim, fun _ h => h⟩, ⟨_, _, fun k => False, fun k => False ∨ False, rfl, rfl, ⟨_, _, fun k => False, fun k => False, rfl, rfl, rfl, fun k g _ => g.elim, fun _ h => h⟩, fun k g _ => g.elim, fun _ h => h⟩, (by intro k g h; simp at g h), fun _ h => h⟩, (by intro k g h; (repeat' (rcases h with h | h)) <;> (first | exact h.elim)), fun _ h => h⟩, fun k g _ => g.elim, fun _ h => h⟩, fun k g _ => g.elim, fun _ h => h⟩, fun k g _ => g.elim, fun _ h => h⟩, fun k g _ => g.elim, (by intro k h; (repeat' (rcases h with h | h)) <;> (first | exact h.elim | exact e1 k h))⟩
def tyRegister : Ty := .pair .int (.pair (.list tyCopy 48) (.pair (.list tyRegOp 53) .nil))
theorem ownx_Register {w : World} {lo : Nat} {cs : List Value} {x0 : Int} {x1 : List (Sh.T shCopy)} {x2 : List (Sh.T shRegOp)} {S : Nat → Prop} (h : OwnX w lo tyRegister cs (x0, x1, x2, ()) S) : ∃ (v1 : Value) (S1 : Nat → Prop), ∃ (v2 : Value) (S2 : Nat → Prop), cs = [.int .i64 x0, v1, v2] ∧ OwnX w lo (.list tyCopy 48) [v1] x1 S1 ∧ OwnX w lo (.list tyRegOp 53) [v2] x2 S2 ∧ (∀ k, S1 k → S k) ∧ (∀ k, S2 k → S k) ∧ (∀ k, S1 k → ¬ S2 k) := by
  obtain ⟨_, _, s1, t1, rfl, rfl, ⟨_, _, s2, t2, rfl, H2, ⟨_, _, s3, t3, rfl, H3, rfl, d3, u3⟩, d2, u2⟩, d1, u1⟩ := h
  obtain ⟨v1, rfl⟩ := ownx_form H2
  obtain ⟨v2, rfl⟩ := ownx_form H3
  exact ⟨v1, s2, v2, s3, rfl, H2, H3, fun k e => (u1 _ (Or.inr (u2 _ (Or.inl e)))), fun k e => (u1 _ (Or.inr (u2 _ (Or.inr (u3 _ (Or.inl e)))))), fun k e f => d2 k e (u3 _ (Or.inl f))⟩
theorem mkownx_Register {w : World} {lo : Nat} {v1 : Value} {S1 : Nat → Prop} {v2 : Value} {S2 : Nat → Prop} {x0 : Int} {x1 : List (Sh.T shCopy)} {x2 : List (Sh.T shRegOp)} {S : Nat → Prop} (h1 : OwnX w lo (.list tyCopy 48) [v1] x1 S1) (h2 : OwnX w lo (.list tyRegOp 53) [v2] x2 S2) (e1 : ∀ k, S1 k → S k) (e2 : ∀ k, S2 k → S k) (d1_2 : ∀ k, S1 k → ¬ S2 k) : OwnX w lo tyRegister [.int .i64 x0, v1, v2] (x0, x1, x2, ()) S := ⟨_, _, fun k => False, fun k => S1 k ∨ S2 k ∨ False, rfl, rfl, ⟨_, _, S1, fun k => S2 k ∨ False, rfl, h1, ⟨_, _, S2, fun k => False, rfl, h2, rfl, (by intro k g h; (repeat' (rcases h with h | h)) <;> (first | exact h.elim | exact d1_2 k g h)), fun _ h => h⟩, (by intro k g h; (repeat' (rcases h with h | h)) <;> (first | exact h.elim | exact d1_2 k g h)), fun _ h => h⟩, fun k g _ => g.elim, (by intro k h; (repeat' (rcases h with h | h)) <;> (first | exact h.elim | exact e1 k h | exact e2 k h))⟩
end Go.Proofs.Ytaofolbnommpgaa
/- Appends of flat data to lists whose rows are known exactly. No Go text is spoken of here. -/
namespace Go.Proofs.Ytaofolbnommpgaa
open Go.RowKit
set_option linter.unusedVariables false

theorem lies_flat {W : World} {e : Ty} (he : e.flatB = true) : ∀ {cs : List Value} {x : e.T}, Lies W e.sh cs x → cs = valC e x := by
  induction e with
  | int => intro cs x h; exact h
  | str => intro cs x h; exact h
  | bool => intro cs x h; exact h
  | nil => intro cs x h; exact h
  | pair a b iha ihb =>
    intro cs x h
    simp only [Ty.flatB, Bool.and_eq_true] at he
    obtain ⟨c1, c2, rfl, h1, h2⟩ := h
    rw [iha he.1 h1, ihb he.2 h2]; rfl
  | list e t ih => simp [Ty.flatB] at he
theorem lies_news {W : World} {e : Ty} (he : e.flatB = true) {ad : Addr} {n cap : Nat} {l : List e.T} (h : Lies W (.list e.sh) [.slice (some ad) n cap] l) (hl : l ≠ []) : ∀ j u, (l.flatMap (valC e))[j]? = some u → W.cell? (ad.add j) = some u := by
  obtain ⟨a, c, e1, _, _, h⟩ := h
  simp only [List.cons.injEq, Value.slice.injEq, and_true] at e1
  obtain ⟨rfl, _, _⟩ := e1
  rcases h with h | ⟨g, off, e2, hg, hE⟩
  · exact absurd h hl
  · have e2 : ad = ⟨g, off, none⟩ := by simpa using e2
    subst e2
    intro j u hu
    have hlen := flat_len (fun x => valC_len (s := e) x he) l
    have hjl : j < l.length * e.c := by
      rcases Nat.lt_or_ge j (l.flatMap (valC e)).length with q | q
      · rwa [hlen] at q
      · rw [List.getElem?_eq_none q] at hu; cases hu
    have hc : 0 < e.c := by
      rcases Nat.eq_zero_or_pos e.c with q | q
      · rw [q] at hjl; omega
      · exact q
    have hi : j / e.c < l.length := by rw [Nat.div_lt_iff_lt_mul hc]; exact hjl
    obtain ⟨ec, h1, h2, h3⟩ := hE (j / e.c) hi
    have hev := lies_flat he h3
    have hm : j % e.c < e.c := Nat.mod_lt _ hc
    have hd : j / e.c * e.c + j % e.c = j := by rw [Nat.mul_comm]; exact Nat.div_add_mod j e.c
    have hcell := h2 (j % e.c) (by rw [h1]; exact hm)
    have hch := flat_chunk (fun x => valC_len (s := e) x he) l (j / e.c) hi
    have h4 : (l.flatMap (valC e))[j]? = ec[j % e.c]? := by
      rw [hev, ← hch, cells_of_take hm, hd]
    have ha : (⟨g, off, none⟩ : Addr).add j = ⟨g, off + j / e.c * e.c + j % e.c, none⟩ := by
      rw [add0, Nat.add_assoc, hd]
    rw [ha]
    have hcell' : W.cell? ⟨g, off + j / e.c * e.c + j % e.c, none⟩ = ec[j % e.c]? := hcell
    rw [hcell', ← h4]; exact hu
theorem run_append_nil {P : Program} {w : World} (base : Nat) (t ty e : TypeId) (i : TypeInfo) (size c : Nat) (ht : P.underlying t = some (.slice e)) (hi : P.info? e = some i)
    (v : Value) (n : Nat) (xs : List Value) (hown : w.ownsRow base e size v n xs) : (Builtin.append_ #[t, t] ty #[v, .slice none 0 c]).run P w = .ok v w := by
  rcases hown.2 with ⟨rfl, rfl⟩ | ⟨g, cap, cur, rfl, _, _, hnc, _⟩
  · simp [Builtin.append_, run_underlying ht, sizeOf, typeInfo, hi, Builtin.lenOf, Builtin.firstCells]
  · simp [Builtin.append_, run_underlying ht, sizeOf, typeInfo, hi, Builtin.lenOf, Builtin.firstCells, hnc, storeCells]
/-- append(s, x...) of flat data. -/
theorem run_appx {P : Program} {w : World} (t ty et : TypeId) (i : TypeInfo) (z : Value) (bytes lo : Nat) (e : Ty) (he : e.flatB = true) (ht : P.underlying t = some (.slice et)) (hi : P.info? et = some i) (hz : i.zero = some z) (hsize : i.size = e.c) (hby : i.bytes = bytes) (hzs : z.cells.size = e.c) (hsz : 0 < e.c)
    (v : Value) (l l2 : List e.T) (S : Nat → Prop) (hO : OwnX w lo (.list e et) [v] l S) (ad : Option Addr) (cap : Nat) (hL : Lies w (.list e.sh) [.slice ad l2.length cap] l2) (h63 : l.length + l2.length ≤ maxLen) (hbytes : (l.length + l2.length) * bytes ≤ 140737488355328) (hbase : lo ≤ w.heap.size) :
    ∃ v' w', (Builtin.append_ #[t, t] ty #[v, .slice ad l2.length cap]).run P w = .ok v' w' ∧ OwnX w' lo (.list e et) [v'] (l ++ l2) (fun k => S k ∨ k = w.heap.size) ∧ w.grownBy w' v.ownBlock ∧ (v'.ownBlock = v.ownBlock ∨ v'.ownBlock = some w.heap.size) := by
  obtain ⟨hrow, hS⟩ := hO.flat he
  have hin : ∀ v' w', w'.ownsRow lo et e.c v' (l.length + l2.length) (l.flatMap (valC e) ++ l2.flatMap (valC e)) → (v'.ownBlock = v.ownBlock ∨ v'.ownBlock = some w.heap.size) → OwnX w' lo (.list e et) [v'] (l ++ l2) (fun k => S k ∨ k = w.heap.size) := by
    intro v' w' h2 h5
    refine OwnX.of_flat he (by rw [List.length_append, List.flatMap_append]; exact h2) (fun k hk => ?_)
    rcases h5 with q | q
    · exact Or.inl (hS k (q ▸ hk))
    · rw [q] at hk; cases hk; exact Or.inr rfl
  cases ad with
  | none =>
    have h0 : l2 = [] := by
      obtain ⟨a, c, e1, _, _, h⟩ := hL
      rcases h with h | ⟨g, off, e2, _⟩
      · exact h
      · simp only [List.cons.injEq, Value.slice.injEq, and_true] at e1
        rw [← e1.1] at e2; cases e2
    subst h0
    refine ⟨v, w, run_append_nil lo t ty et i e.c cap ht hi v l.length _ hrow, hin v w ?_ (Or.inl rfl), ⟨rfl, rfl, rfl, Nat.le_refl _, fun _ _ _ => rfl⟩, Or.inl rfl⟩
    simpa using hrow
  | some a =>
    obtain ⟨v', w', hr, h2, h3, _, h5⟩ := run_append_own_at (P := P) w lo t ty et i z e.c bytes ht hi hz hsize hby hzs hsz v l.length _ hrow a l2.length cap (l2.flatMap (valC e)) (flat_len (fun x => valC_len x he) l2) (by
      by_cases hl : l2 = []
      · subst hl; intro j u hu; simp at hu
      · exact lies_news he hL hl) (flat_one l2) h63 hbytes hbase
    exact ⟨v', w', hr, hin v' w' h2 h5, h3, h5⟩
theorem wp_appx {P : Program} {w : World} {o : Oper} {a : Act} {K : Act → World → Prop} {Q : Exit → Act → World → Prop} (s x : Operand) (t et : TypeId)
    (ho : o.op = .call { callee := .builtin .append, args := #[s, x], argTypes := #[t, t] }) (i : TypeInfo) (z : Value) (bytes lo : Nat) (e : Ty) (he : e.flatB = true) (ht : P.underlying t = some (.slice et)) (hi : P.info? et = some i) (hz : i.zero = some z) (hsize : i.size = e.c) (hby : i.bytes = bytes) (hzs : z.cells.size = e.c) (hsz : 0 < e.c)
    (v : Value) (l l2 : List e.T) (S : Nat → Prop) (hs : a.eval s = v) (hO : OwnX w lo (.list e et) [v] l S) (ad : Option Addr) (cap : Nat) (hx : a.eval x = .slice ad l2.length cap) (hL : Lies w (.list e.sh) [.slice ad l2.length cap] l2) (h63 : l.length + l2.length ≤ maxLen) (hbytes : (l.length + l2.length) * bytes ≤ 140737488355328) (hbase : lo ≤ w.heap.size)
    (h : ∀ v' w', OwnX w' lo (.list e et) [v'] (l ++ l2) (fun k => S k ∨ k = w.heap.size) → w.grownBy w' v.ownBlock → (v'.ownBlock = v.ownBlock ∨ v'.ownBlock = some w.heap.size) → K (a.put o.dst v') w') : o.wp P a w K Q := by
  obtain ⟨v', w', hr, h2, h3, h5⟩ := run_appx (P := P) (w := w) t o.type et i z bytes lo e he ht hi hz hsize hby hzs hsz v l l2 S hO ad cap hL h63 hbytes hbase
  unfold Oper.wp execOp
  simp only [ho, resolve, invoke, builtin, Sem.run_bind, Sem.run_pure, Result.andThen_ok, List.map_toArray, List.map_cons, List.map_nil, hs, hx, hr]
  exact h v' w' h2 h3 h5
theorem wpList_appx {P : Program} {w : World} {ops : Array Oper} {rest : List Oper} {o : Oper} {a : Act} {Q : Exit → Act → World → Prop} (hgd : o.guard = none) (s x : Operand) (t et : TypeId)
    (ho : o.op = .call { callee := .builtin .append, args := #[s, x], argTypes := #[t, t] }) (i : TypeInfo) (z : Value) (bytes lo : Nat) (e : Ty) (he : e.flatB = true) (ht : P.underlying t = some (.slice et)) (hi : P.info? et = some i) (hz : i.zero = some z) (hsize : i.size = e.c) (hby : i.bytes = bytes) (hzs : z.cells.size = e.c) (hsz : 0 < e.c)
    (v : Value) (l l2 : List e.T) (S : Nat → Prop) (hs : a.eval s = v) (hO : OwnX w lo (.list e et) [v] l S) (ad : Option Addr) (cap : Nat) (hx : a.eval x = .slice ad l2.length cap) (hL : Lies w (.list e.sh) [.slice ad l2.length cap] l2) (h63 : l.length + l2.length ≤ maxLen) (hbytes : (l.length + l2.length) * bytes ≤ 140737488355328) (hbase : lo ≤ w.heap.size)
    (h : ∀ v' w', OwnX w' lo (.list e et) [v'] (l ++ l2) (fun k => S k ∨ k = w.heap.size) → w.grownBy w' v.ownBlock → (v'.ownBlock = v.ownBlock ∨ v'.ownBlock = some w.heap.size) → wpList P ops Q rest (a.put o.dst v') w') : wpList P ops Q (o :: rest) a w := by
  refine wpList_plain hgd fun K hK => ?_
  exact wp_appx s x t et ho i z bytes lo e he ht hi hz hsize hby hzs hsz v l l2 S hs hO ad cap hx hL h63 hbytes hbase (fun v' w' h1 h2 h3 => hK _ _ (h v' w' h1 h2 h3))
/-- A struct is made anew, its rows known exactly. -/
def ToX (s : Ty) (x : s.T) (w : World) (r : Ending) (w' : World) : Prop := ∃ cs : List Value, r = .returned (.agg cs.toArray) ∧ OwnX w' w.heap.size s cs x (Btw w.heap.size w'.heap.size) ∧ Below w.heap.size w w'
theorem OwnX.vform {W : World} {lo : Nat} {e : Ty} {t : TypeId} {v : Value} {l : List e.T} {S : Nat → Prop} (h : OwnX W lo (.list e t) [v] l S) : ∃ a c, v = .slice a l.length c := by
  rcases h with ⟨hl, e1⟩ | ⟨g, cap, xs, B, e1, _⟩
  · exact ⟨none, 0, by rw [hl]; simpa using e1⟩
  · exact ⟨_, cap, by simpa using e1⟩
end Go.Proofs.Ytaofolbnommpgaa
/- Lists built anew whose rows are known exactly; one number of such a list set in place. No Go text is spoken of here. -/
namespace Go.Proofs.Ytaofolbnommpgaa
open Go.RowKit
set_option linter.unusedVariables false
set_option linter.unusedSimpArgs false

theorem lies_drop {w : World} {e : Sh} {g off n cap : Nat} {l : List e.T} (h : Lies w (.list e) [.slice (some ⟨g, off, none⟩) n cap] l) (k : Nat) (hk : k ≤ l.length) : Lies w (.list e) [.slice (some ⟨g, off + k * e.c, none⟩) (n - k) (cap - k)] (l.drop k) := by
  obtain ⟨ad, c, e1, c1, c2, h⟩ := h
  simp only [List.cons.injEq, Value.slice.injEq, and_true] at e1
  obtain ⟨e0, rfl, rfl⟩ := e1
  have hl : (l.drop k).length = l.length - k := by rw [List.length_drop]
  refine ⟨_, _, by rw [hl], by omega, by omega, ?_⟩
  rcases h with h | ⟨g', off', e2, hg, hE⟩
  · left; rw [h]; simp
  · rw [← e0] at e2
    have e2 : g = g' ∧ off = off' := by simpa using e2
    obtain ⟨rfl, rfl⟩ := e2
    right
    refine ⟨g, off + k * e.c, rfl, hg, fun i hi => ?_⟩
    obtain ⟨ec, h1, h2, h3⟩ := hE (k + i) (by omega)
    refine ⟨ec, h1, fun j hj => ?_, by rw [List.getElem_drop]; exact h3⟩
    have := h2 j hj
    rw [Nat.add_mul] at this
    rw [← this]
    congr 2
    omega
theorem lies_one {w : World} {e : Sh} {cs : List Value} {x : e.T} (t : TypeId) (hl : cs.length = e.c) (h : Lies (w.alloc (.cells cs.toArray t)) e cs x) : Lies (w.alloc (.cells cs.toArray t)) (.list e) [.slice (some ⟨w.heap.size, 0, none⟩) 1 1] [x] := by
  refine ⟨_, 1, rfl, by simp, by unfold maxLen; omega, Or.inr ⟨w.heap.size, 0, rfl, by simp, fun i hi => ⟨cs, hl, fun j hj => ?_, ?_⟩⟩⟩
  · have hi0 : i = 0 := by simpa using hi
    subst hi0
    have hj' : j < cs.length := by omega
    rw [List.getElem?_eq_getElem hj']
    have := cells_new w cs t j cs[j] (List.getElem?_eq_getElem hj')
    simp
  · have hi0 : i = 0 := by simpa using hi
    subst hi0; exact h
/-- A list that is being built, since w. -/
def ApS (e : Ty) (t : TypeId) (w W : World) (v : Value) (l : List e.T) : Prop := OwnX W w.heap.size (.list e t) [v] l (Btw w.heap.size W.heap.size) ∧ Below w.heap.size w W
theorem ApS.nil {e : Ty} {t : TypeId} {w : World} : ApS e t w w (.slice none 0 0) [] := ⟨OwnX.nil', Below.refl _ _⟩
theorem ApS.next {e : Ty} {t : TypeId} {w W W' : World} {v : Value} {l : List e.T} (he : e.flatB = true) (h : ApS e t w W v l) (hb : Below W.heap.size W W') : ApS e t w W' v l := by
  obtain ⟨row, _⟩ := (h.1.next hb).flat he
  exact ⟨OwnX.of_flat he row (fun k hk => row.lt k hk), below_next h.2 hb⟩
theorem ApS.app {e : Ty} {t : TypeId} {w W W' : World} {v v' : Value} {l l2 : List e.T} {S : Nat → Prop} (he : e.flatB = true) (h : ApS e t w W v l) (hO : OwnX W' w.heap.size (.list e t) [v'] (l ++ l2) S) (hg : W.grownBy W' v.ownBlock) : ApS e t w W' v' (l ++ l2) := by
  obtain ⟨row, _⟩ := hO.flat he
  obtain ⟨row0, _⟩ := h.1.flat he
  exact ⟨OwnX.of_flat he row (fun k hk => row.lt k hk), h.2.grown hg h.2.size (fun k hk => (row0.lt k hk).1)⟩
/-- A new list is answered. -/
def NewX (e : Ty) (t : TypeId) (l : List e.T) (w : World) (r : Ending) (w' : World) : Prop := ∃ v, r = .returned v ∧ ApS e t w w' v l
theorem OwnX.form {W : World} {lo : Nat} {e : Ty} {t : TypeId} {v : Value} {l : List e.T} {S : Nat → Prop} (h : OwnX W lo (.list e t) [v] l S) : (l = [] ∧ v = .slice none 0 0) ∨ ∃ g cap, v = .slice (some ⟨g, 0, none⟩) l.length cap ∧ g < W.heap.size := by
  rcases h with ⟨hl, e1⟩ | ⟨g, cap, xs, B, e1, hr, _⟩
  · exact Or.inl ⟨hl, by simpa using e1⟩
  · have e1 : v = .slice (some ⟨g, 0, none⟩) l.length cap := by simpa using e1
    exact Or.inr ⟨g, cap, e1, by subst e1; exact hr.lt⟩
theorem ApS.made {e : Ty} {t : TypeId} {w : World} (he : e.flatB = true) : ApS e t w (w.alloc (.cells #[] t)) (.slice (some ⟨w.heap.size, 0, none⟩) 0 0) [] := by
  refine ⟨OwnX.of_flat he (World.ownsRow_made w #[] 0 (Nat.le_refl _) (Nat.zero_le _) (by simp)) (fun k hk => ?_), Go.Joins.below_alloc1 _ _⟩
  cases hk
  simp [Btw]
/-- One number of a list is set in place. -/
theorem OwnX.seti {W : World} {lo : Nat} {t : TypeId} {g n cap : Nat} {l : List (Sh.T .int)} {S : Nat → Prop} (h : OwnX W lo (.list .int t) [.slice (some ⟨g, 0, none⟩) n cap] l S) {k : Nat} (hk : k < l.length) (x : Int) : OwnX (W.setCell ⟨g, k, none⟩ (.int .i64 x)) lo (.list .int t) [.slice (some ⟨g, 0, none⟩) n cap] (l.set k x) S := by
  obtain ⟨g', cap', ec, Bk, hv, hg, hlo, hS, hB, hec, hcells, hroom, hO, hch, hback⟩ := OwnX.lens (e := .int) h hk
  simp only [Value.slice.injEq, Option.some.injEq, Addr.mk.injEq, and_true] at hv
  obtain ⟨rfl, _, _⟩ := hv
  have e : k * Ty.c .int = k := Nat.mul_one k
  have hO : ec = [.int .i64 l[k]] := hO
  subst hO
  have h2 := hch.set (j := 0) (by simp) (.int .i64 x)
  rw [e] at h2 hback
  exact (hback (W.setCell ⟨g, k, none⟩ (.int .i64 x)) [.int .i64 x] x Bk (fun _ => False) (fun b _ _ hb _ => Below.heap_setCell _ _ _ _ hb) h2 rfl (fun b hb => Or.inl hb) (fun b q => q.elim)).mono (fun b q => q.elim id False.elim)
theorem OwnX.inti {W : World} {lo : Nat} {t : TypeId} {g n cap : Nat} {l : List (Sh.T .int)} {S : Nat → Prop} (h : OwnX W lo (.list .int t) [.slice (some ⟨g, 0, none⟩) n cap] l S) {k : Nat} (hk : k < l.length) : W.cell? ⟨g, k, none⟩ = some (.int .i64 (atI l k)) ∧ W.frozen? ⟨g, k, none⟩ = false ∧ g < W.heap.size := by
  obtain ⟨g', cap', ec, Bk, hv, hg, hlo, hS, hB, hec, hcells, hroom, hO, hch, hback⟩ := OwnX.lens (e := .int) h hk
  simp only [Value.slice.injEq, Option.some.injEq, Addr.mk.injEq, and_true] at hv
  obtain ⟨rfl, _, _⟩ := hv
  have e : k * Ty.c .int = k := Nat.mul_one k
  have hO : ec = [.int .i64 l[k]] := hO
  subst hO
  have h1 := hcells 0 (by simp)
  rw [e] at h1
  have hr : k < l.length * Ty.c .int := Nat.lt_of_lt_of_le hk (Nat.le_of_eq (Nat.mul_one _).symm)
  exact ⟨by rw [atI_lt hk]; exact h1, (hroom k hr).2, hg⟩

/-- A list of numbers in a row of its own, block g. -/
def Rw (t : TypeId) (W : World) (lo g c : Nat) (l : List (Sh.T .int)) (m : Nat) : Prop := OwnX W lo (.list .int t) [.slice (some ⟨g, 0, none⟩) m c] l (fun k => k = g) ∧ l.length = m
theorem Rw.keep {t : TypeId} {W W' : World} {lo g c m : Nat} {l : List (Sh.T .int)} (h : Rw t W lo g c l m) (e : W'.heap[g]? = W.heap[g]?) : Rw t W' lo g c l m := ⟨h.1.keep (fun k _ hk => by have hk : k = g := hk; subst hk; exact e), h.2⟩
theorem Rw.lt {t : TypeId} {W : World} {lo g c m : Nat} {l : List (Sh.T .int)} (h : Rw t W lo g c l m) : g < W.heap.size ∧ lo ≤ g := by
  rcases h.1 with ⟨_, q⟩ | ⟨g', cap, xs, B, e1, hr, hlo, _⟩
  · simp at q
  · simp only [List.cons.injEq, Value.slice.injEq, Option.some.injEq, Addr.mk.injEq, and_true] at e1
    obtain ⟨rfl, _⟩ := e1
    exact ⟨hr.lt, hlo⟩
theorem Rw.next {t : TypeId} {W W' : World} {lo g c m : Nat} {l : List (Sh.T .int)} (h : Rw t W lo g c l m) (hb : Below W.heap.size W W') : Rw t W' lo g c l m := h.keep (hb.block g h.lt.1)
theorem Rw.turn {t : TypeId} {S : Nat → Prop} {W W' : World} {lo g c m : Nat} {l : List (Sh.T .int)} (h : Rw t W lo g c l m) (ht : TurnS S W W') (hg : ¬ S g) : Rw t W' lo g c l m := h.keep (ht.block h.lt.1 hg)
theorem Rw.other {t : TypeId} {W : World} {lo g c m : Nat} {l : List (Sh.T .int)} (h : Rw t W lo g c l m) {p : Addr} (hg : g ≠ p.block) (v : Value) : Rw t (W.setCell p v) lo g c l m := h.keep (Below.heap_setCell _ _ _ _ hg)
theorem Rw.set {t : TypeId} {W : World} {lo g c m : Nat} {l : List (Sh.T .int)} (h : Rw t W lo g c l m) {k : Nat} (hk : k < m) (x : Int) : Rw t (W.setCell ⟨g, k, none⟩ (.int .i64 x)) lo g c (l.set k x) m := ⟨h.1.seti (by rw [h.2]; exact hk) x, by rw [List.length_set]; exact h.2⟩
theorem Rw.at {t : TypeId} {W : World} {lo g c m : Nat} {l : List (Sh.T .int)} (h : Rw t W lo g c l m) {k : Nat} (hk : k < m) : W.cell? ⟨g, k, none⟩ = some (.int .i64 (atI l k)) ∧ W.frozen? ⟨g, k, none⟩ = false ∧ g < W.heap.size := h.1.inti (by rw [h.2]; exact hk)
theorem Rw.lies {t : TypeId} {W : World} {lo g c m : Nat} {l : List (Sh.T .int)} (h : Rw t W lo g c l m) : Lies W (.list .int) [.slice (some ⟨g, 0, none⟩) l.length c] l := by have := OwnX.lies h.1; rw [h.2]; exact this
theorem Rw.lower {t : TypeId} {W : World} {lo lo' g c m : Nat} {l : List (Sh.T .int)} (h : Rw t W lo g c l m) (hl : lo' ≤ lo) : Rw t W lo' g c l m := ⟨h.1.lower hl, h.2⟩
/-- A list that is not empty lies so. -/
theorem Rw.of {t : TypeId} {W : World} {lo : Nat} {v : Value} {l : List (Sh.T .int)} {S : Nat → Prop} (h : OwnX W lo (.list .int t) [v] l S) (hl : l ≠ []) : ∃ g c, v = .slice (some ⟨g, 0, none⟩) l.length c ∧ S g ∧ Rw t W lo g c l l.length := by
  obtain ⟨row, hS⟩ := OwnX.flat (e := .int) rfl h
  rcases h.form with ⟨q, _⟩ | ⟨g, c, rfl, _⟩
  · exact absurd q hl
  · exact ⟨g, c, rfl, hS g rfl, OwnX.of_flat (e := .int) rfl row (fun k hk => by cases hk; rfl), rfl⟩
end Go.Proofs.Ytaofolbnommpgaa
