/- A list of any shape that is being built by appends beside variables' boxes. -/
import Derived.Test.YtkpobihpcnoemaaDoorGaD
namespace Go.Proofs.YtkpobihpcnoemaaDoor
open Go.RowKit
set_option linter.unusedVariables false

/-- A struct and a bool are answered; the struct's lists are new. -/
def AnsP (s : Sh) (x : s.T) (ok : Bool) (w : World) (r : Ending) (w' : World) : Prop := ∃ cs : List Value, r = .returned (.tuple #[.agg cs.toArray, .bool ok]) ∧ Own w' s cs x (Btw w.heap.size w'.heap.size) ∧ Below w.heap.size w w'
/-- A list and a bool are answered; the list is new. -/
def LisP (e : Sh) (l : List e.T) (ok : Bool) (w : World) (r : Ending) (w' : World) : Prop := ∃ a cap, r = .returned (.tuple #[.slice a l.length cap, .bool ok]) ∧ Own w' (.list e) [.slice a l.length cap] l (Btw w.heap.size w'.heap.size) ∧ Below w.heap.size w w'
theorem turn_set (w : World) (p : Addr) (x : Value) : TurnS (fun k => k = p.block) w (w.setCell p x) := TurnS.set (S := fun k => k = p.block) (TurnS.refl _ w) (p := p) rfl x
theorem AppB.turn {W W' : World} {S : Nat → Prop} {lo : Nat} {ty : TypeId} {e : Sh} {v : Value} {l : List e.T} (h : AppB W lo ty e v l) (ht : TurnS S W W') (hS : ∀ k, S k → k < lo) : AppB W' lo ty e v l := by
  obtain ⟨xs, B, h1, h2⟩ := h
  refine ⟨xs, B, ownsRow_turn h1 ht (fun k hk q => ?_), fun i hi => (h2.1 i hi).turn ht (fun k hB q => ?_), fun i hi b q => ⟨(h2.2.1 i hi b q).1, Nat.lt_of_lt_of_le (h2.2.1 i hi b q).2.1 ht.size, (h2.2.1 i hi b q).2.2⟩, h2.2.2⟩
  · have := (h1.lt k hk).1; have := hS k q; omega
  · have := (h2.2.1 i hi k hB).1; have := hS k q; omega
theorem AppB.other {W : World} {lo : Nat} {ty : TypeId} {e : Sh} {v : Value} {l : List e.T} (h : AppB W lo ty e v l) {p : Addr} (hp : p.block < lo) (x : Value) : AppB (W.setCell p x) lo ty e v l :=
  h.turn (turn_set W p x) (fun k q => by omega)
theorem made_take (z : Array Value) (n i : Nat) (h0 : 0 < z.size) (hi : i < n) : (((madeCells z (n * z.size)).toList.drop (i * z.size)).take z.size) = z.toList := by
  have hm := mul_step (c := z.size) hi
  apply List.ext_getElem?
  intro j
  by_cases hj : j < z.size
  · rw [cells_of_take hj]
    have hlt : i * z.size + j < n * z.size := by omega
    have e1 : (i * z.size + j) % z.size = j := by rw [Nat.mul_comm, Nat.mul_add_mod]; exact Nat.mod_eq_of_lt hj
    simp only [madeCells, Array.toList_map, Array.toList_range, List.getElem?_map, List.getElem?_range hlt, Option.map_some, e1]
    simp [hj]
  · rw [List.getElem?_eq_none (by rw [List.length_take]; omega), List.getElem?_eq_none (by simp; omega)]
theorem wp_append_at {P : Program} (w : World) {o : Oper} {a : Act} {K : Act → World → Prop} {Q : Exit → Act → World → Prop} (s x : Operand) (t : TypeId)
    (ho : o.op = .call { callee := .builtin .append, args := #[s, x], argTypes := #[t, t] })
    (base : Nat) (e : TypeId) (i : TypeInfo) (z : Value) (size bytes : Nat) (ht : P.underlying t = some (.slice e)) (hi : P.info? e = some i) (hz : i.zero = some z)
    (hsize : i.size = size) (hby : i.bytes = bytes) (hzs : z.cells.size = size) (hsz : 0 < size)
    (v : Value) (n : Nat) (xs : List Value) (hs : a.eval s = v) (hown : w.ownsRow base e size v n xs)
    (ad : Addr) (m c : Nat) (news : List Value) (hx : a.eval x = .slice (some ad) m c) (hl : news.length = m * size) (hnews : ∀ j u, news[j]? = some u → w.cell? (ad.add j) = some u) (h1 : ∀ u ∈ news, u.oneCell' = true)
    (h63 : n + m ≤ maxLen) (hbytes : (n + m) * bytes ≤ 140737488355328) (hbase : base ≤ w.heap.size)
    (h : ∀ v' w', w'.ownsRow base e size v' (n + m) (xs ++ news) → w.grownBy w' v.ownBlock → (v'.ownBlock = v.ownBlock ∨ v'.ownBlock = some w.heap.size) → K (a.put o.dst v') w') : o.wp P a w K Q := by
  obtain ⟨v', w', hr, h2, h3, _, h5⟩ := run_append_own_at (P := P) w base t o.type e i z size bytes ht hi hz hsize hby hzs hsz v n xs hown ad m c news hl hnews h1 h63 hbytes hbase
  unfold Oper.wp execOp
  simp only [ho, resolve, invoke, builtin, Sem.run_bind, Sem.run_pure, Result.andThen_ok, List.map_toArray, List.map_cons, List.map_nil, hs, hx, hr]
  exact h v' w' h2 h3 h5
end Go.Proofs.YtkpobihpcnoemaaDoor
