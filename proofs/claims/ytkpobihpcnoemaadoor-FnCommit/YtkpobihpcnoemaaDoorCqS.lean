/- Commits: what lies between the regions of spec.l15Step. Written by tools/mkCqS.py. -/
import Derived.Test.YtkpobihpcnoemaaDoorCqO
import Derived.Test.YtkpobihpcnoemaaDoorCqB
import Derived.Test.YtkpobihpcnoemaaDoorCqA
import Derived.Test.YtkpobihpcnoemaaDoorCpD
namespace Go.Proofs.YtkpobihpcnoemaaDoor
open Go.RowKit
set_option linter.unusedVariables false
set_option linter.unusedSimpArgs false

theorem turn_far {S : Nat → Prop} {w W : World} (h : TurnS S w W) {g : Nat} (hg : w.heap.size ≤ g) (o : Nat) (u : Value) : TurnS S w (W.setCell ⟨g, o, none⟩ u) :=
  ⟨h.1, h.2.1, h.2.2.1, by rw [World.size_setCell]; exact h.size, fun k hk hx => (Below.heap_setCell _ _ _ _ (by show k ≠ g; omega)).trans (h.block hk hx)⟩
theorem turn_far3 {S : Nat → Prop} {w W : World} (h : TurnS S w W) {g : Nat} (hg : w.heap.size ≤ g) (u0 u1 u2 : Value) : TurnS S w (((W.setCell ⟨g, 0, none⟩ u0).setCell ⟨g, 1, none⟩ u1).setCell ⟨g, 2, none⟩ u2) := turn_far (turn_far (turn_far h hg _ _) hg _ _) hg _ _
/-- A list of shards whose rows are known, in blocks between lo and up. -/
def LsU (W : World) (lo up : Nat) (v : Value) (l : List Shd) : Prop := (∃ S : Nat → Prop, OwnX W lo (.list tyShard 42) [v] l S ∧ ∀ k, S k → lo ≤ k ∧ k < up) ∧ up ≤ W.heap.size
theorem LsU.next {W W' : World} {lo up : Nat} {v : Value} {l : List Shd} (h : LsU W lo up v l) (hb : Below W.heap.size W W') : LsU W' lo up v l := by
  obtain ⟨⟨S, h1, h2⟩, h3⟩ := h
  exact ⟨⟨S, h1.next hb, h2⟩, Nat.le_trans h3 hb.size⟩
theorem LsU.turn {W W' : World} {lo up : Nat} {v : Value} {l : List Shd} {S' : Nat → Prop} (h : LsU W lo up v l) (ht : TurnS S' W W') (hS : ∀ k, S' k → k < lo ∨ up ≤ k) : LsU W' lo up v l := by
  obtain ⟨⟨S, h1, h2⟩, h3⟩ := h
  exact ⟨⟨S, h1.turn ht (fun k hk q => by have := hS k q; have := h2 k hk; omega), h2⟩, Nat.le_trans h3 ht.size⟩
theorem LsU.form {W : World} {lo up : Nat} {v : Value} {l : List Shd} (h : LsU W lo up v l) : ∃ a c, v = .slice a l.length c := by
  obtain ⟨⟨S, h1, _⟩, _⟩ := h; exact h1.vform
theorem LsU.commit {W : World} {lo up : Nat} {v : Value} {l : List Shd} (h : LsU W lo up v l) (dr rc : Int) : OwnX W lo tyCommit [v, .int .i64 dr, .int .i64 rc] (l, dr, rc, ()) (Btw lo up) := by
  obtain ⟨⟨S, h1, h2⟩, h3⟩ := h
  exact mkownx_Commit h1 (fun k hk => h2 k hk)
theorem LsU.of {W : World} {lo up : Nat} {cs : List Value} {ss : List Shd} {dr rc : Int} (h : OwnX W lo tyCommit cs (ss, dr, rc, ()) (Btw lo up)) (hu : up ≤ W.heap.size) : ∃ v, cs = [v, .int .i64 dr, .int .i64 rc] ∧ LsU W lo up v ss := by
  obtain ⟨v, S1, e, h1, h2⟩ := ownx_Commit h
  exact ⟨v, e, ⟨S1, h1, fun k hk => h2 k hk⟩, hu⟩
theorem CmX.boxU {W : World} {lo up : Nat} {v : Value} {ss : List Shd} {dr rc : Int} (h : LsU W lo up v ss) (t : TypeId) : CmX (W.alloc (.cells #[v, .int .i64 dr, .int .i64 rc] t)) W.heap.size lo up v ss dr rc := by
  obtain ⟨⟨S, h2, h3⟩, h4⟩ := h
  have hb := Go.Joins.below_alloc1 W (.cells #[v, .int .i64 dr, .int .i64 rc] t)
  exact ⟨⟨Bx.new W [_, _, _] t, Nat.le_trans h4 hb.size⟩, S, h2.next hb, fun k hk => ⟨(h3 k hk).1, (h3 k hk).2, by have := (h3 k hk).2; omega⟩⟩
theorem CmX.lsu {W : World} {b lo up : Nat} {v : Value} {ss : List Shd} {dr rc : Int} (h : CmX W b lo up v ss dr rc) : LsU W lo up v ss := by
  obtain ⟨h1, S, h2, h3⟩ := h; exact ⟨⟨S, h2, fun k hk => ⟨(h3 k hk).1, (h3 k hk).2.1⟩⟩, h1.2⟩
theorem CmX.far {W : World} {b lo up : Nat} {v : Value} {ss : List Shd} {dr rc : Int} (h : CmX W b lo up v ss dr rc) {g : Nat} (hg : up ≤ g ∧ g ≠ b) (o : Nat) (u : Value) : CmX (W.setCell ⟨g, o, none⟩ u) b lo up v ss dr rc := by
  obtain ⟨h1, S, h2, h3⟩ := h
  exact ⟨⟨h1.1.other (Ne.symm hg.2), by rw [World.size_setCell]; exact h1.2⟩, S, h2.set (p := ⟨g, o, none⟩) (fun q => by have q : S g := q; have := (h3 _ q).2.1; omega) _, h3⟩
theorem RpX.same {W W' : World} {b lo up : Nat} {v : Value} {ss : List Shd} {dr rc : Int} {i j q c g c2 : Nat} {l : List Rpl} {r : Rpl} (h : RpX W b lo up v ss dr rc i j q c g c2 l r) (hc : CmX W' b lo up v ss dr rc) (hs : W'.cell? ⟨q, i, none⟩ = W.cell? ⟨q, i, none⟩) : RpX W' b lo up v ss dr rc i j q c g c2 l r := by
  obtain ⟨q', c', g', c2', h'⟩ := hc.rep h.di h.dl h.dj h.dr'
  have e1 := h'.hv
  rw [h.hv] at e1
  simp only [Value.slice.injEq, Option.some.injEq, Addr.mk.injEq, and_true, true_and] at e1
  obtain ⟨rfl, rfl⟩ := e1
  have e2 := h'.hs
  rw [hs, h.hs] at e2
  simp only [Option.some.injEq, Value.slice.injEq, Addr.mk.injEq, and_true, true_and] at e2
  obtain ⟨rfl, rfl⟩ := e2
  exact h'
/-- What a step answers. -/
def L5P (lo up : Nat) (v : Value) (E : Option Cmt) (w : World) (r : Ending) (w' : World) : Prop :=
  (∀ x, E = some x → r = .returned (.tuple #[.agg #[v, .int .i64 x.2.1, .int .i64 x.2.2], .bool true]) ∧ LsU w' lo up v x.1) ∧
  (E = none → ∃ d e, r = .returned (.tuple #[.agg #[v, .int .i64 d, .int .i64 e], .bool false])) ∧ TurnS (Btw lo up) w w'
theorem L5P.no {lo up : Nat} {v : Value} {E : Option Cmt} {w W : World} {g : Nat} {d e : Int} {u0 u1 u2 : Value} (h : E = none) (ht : TurnS (Btw lo up) w W) (hg : w.heap.size ≤ g) : L5P lo up v E w (.returned (.tuple #[.agg #[v, .int .i64 d, .int .i64 e], .bool false])) (((W.setCell ⟨g, 0, none⟩ u0).setCell ⟨g, 1, none⟩ u1).setCell ⟨g, 2, none⟩ u2) :=
  ⟨fun x q => (by rw [h] at q; cases q), fun _ => ⟨d, e, rfl⟩, turn_far3 ht hg _ _ _⟩
theorem L5P.yes {lo up b : Nat} {v : Value} {E : Option Cmt} {w W : World} {g : Nat} {ss : List Shd} {dr rc : Int} {u0 u1 u2 : Value} (h : E = some (ss, dr, rc)) (hc : CmX W b lo up v ss dr rc) (ht : TurnS (Btw lo up) w W) (hg : w.heap.size ≤ g) (hu : up ≤ w.heap.size) : L5P lo up v E w (.returned (.tuple #[.agg #[v, .int .i64 dr, .int .i64 rc], .bool true])) (((W.setCell ⟨g, 0, none⟩ u0).setCell ⟨g, 1, none⟩ u1).setCell ⟨g, 2, none⟩ u2) :=
  ⟨fun x q => (by rw [h] at q; cases q; exact ⟨rfl, hc.lsu.turn (set3 W g u0 u1 u2) (fun k e => by have e : k = g := e; omega)⟩), fun q => (by rw [h] at q; cases q), turn_far3 ht hg _ _ _⟩
/-- Between the regions: the commit, the step, the answer. -/
def L5S (w : World) (lo up : Nat) (v : Value) (ss : List Shd) (dr rc k i j : Int) (W : World) : Prop :=
  CmX W w.heap.size lo up v ss dr rc ∧ Bx W (w.heap.size + 1) [.int .i64 k, .int .i64 i, .int .i64 j] ∧ Bx W (w.heap.size + 1 + 1) [.slice none 0 0, .int .i64 0, .int .i64 0] ∧ TurnS (Btw lo up) w W ∧ up ≤ w.heap.size ∧ w.heap.size + 3 ≤ W.heap.size
theorem L5S.next {w W W' : World} {lo up : Nat} {v : Value} {ss : List Shd} {dr rc k i j : Int} (h : L5S w lo up v ss dr rc k i j W) (hb : Below W.heap.size W W') : L5S w lo up v ss dr rc k i j W' := ⟨h.1.next hb, h.2.1.next hb, h.2.2.1.next hb, h.2.2.2.1.next hb, h.2.2.2.2.1, Nat.le_trans h.2.2.2.2.2 hb.size⟩
theorem L5S.start {w : World} {lo up : Nat} {v : Value} {ss : List Shd} {dr rc : Int} (h : LsU w lo up v ss) (k i j : Int) : L5S w lo up v ss dr rc k i j (((w.alloc (.cells #[v, .int .i64 dr, .int .i64 rc] 29)).alloc (.cells #[.int .i64 k, .int .i64 i, .int .i64 j] 48)).alloc (.cells #[.slice none 0 0, .int .i64 0, .int .i64 0] 29)) := by
  have hb0 : Below w.heap.size w (((w.alloc (.cells #[v, .int .i64 dr, .int .i64 rc] 29)).alloc (.cells #[.int .i64 k, .int .i64 i, .int .i64 j] 48)).alloc (.cells #[.slice none 0 0, .int .i64 0, .int .i64 0] 29)) := (((Below.refl _ _).alloc (Nat.le_refl _) _).alloc (by simp) _).alloc (by simp; omega) _
  exact ⟨((CmX.boxU h _).next (Go.Joins.below_alloc1 _ _)).next (Go.Joins.below_alloc1 _ _), (Bx.newAt (by simp)).alloc _, Bx.newAt (by simp), TurnS.of_below hb0, h.2, by simp⟩
theorem L5S.far {w W : World} {lo up : Nat} {v : Value} {ss : List Shd} {dr rc k i j : Int} (h : L5S w lo up v ss dr rc k i j W) {g : Nat} (hg : w.heap.size + 3 ≤ g) (o : Nat) (u : Value) : L5S w lo up v ss dr rc k i j (W.setCell ⟨g, o, none⟩ u) :=
  ⟨h.1.far ⟨by have := h.2.2.2.2.1; omega, by omega⟩ o u, h.2.1.other (by omega), h.2.2.1.other (by omega), turn_far h.2.2.2.1 (by omega) o u, h.2.2.2.2.1, by rw [World.size_setCell]; exact h.2.2.2.2.2⟩
/-- With the shard and the replica at hand. -/
def L5L (w : World) (lo up : Nat) (v : Value) (ss : List Shd) (dr rc k : Int) (i j B q c g c2 : Nat) (l : List Rpl) (y : Rpl) (d : Bool) (n : Int) (W : World) : Prop :=
  L5S w lo up v ss dr rc k i j W ∧ RpX W w.heap.size lo up v ss dr rc i j q c g c2 l y ∧ Bx W B [.slice (some ⟨g, 0, none⟩) l.length c2] ∧ Bx W (B + 1) [.bool d, .int .i64 n] ∧ w.heap.size + 3 ≤ B ∧ q < B
theorem L5L.next {w W : World} {lo up : Nat} {v : Value} {ss : List Shd} {dr rc k : Int} {i j B q c g c2 : Nat} {l : List Rpl} {y : Rpl} {d : Bool} {n : Int} (h : L5L w lo up v ss dr rc k i j B q c g c2 l y d n W) {W' : World} (hb : Below W.heap.size W W') : L5L w lo up v ss dr rc k i j B q c g c2 l y d n W' := ⟨h.1.next hb, h.2.1.carry h.1.1 hb, h.2.2.1.next hb, h.2.2.2.1.next hb, h.2.2.2.2⟩
theorem L5L.has {w W : World} {lo up : Nat} {v : Value} {ss : List Shd} {dr rc k : Int} {i j B q c g c2 : Nat} {l : List Rpl} {y : Rpl} {d : Bool} {n : Int} (h : L5L w lo up v ss dr rc k i j B q c g c2 l y d n W) (m : Int) : L5L w lo up v ss dr rc k i j B q c g c2 l y d m (W.setCell ⟨B + 1, 1, none⟩ (.int .i64 m)) := by
  have h1 := h.1.far (g := B + 1) (by have := h.2.2.2.2.1; omega) 1 (.int .i64 m)
  exact ⟨h1, h.2.1.same h1.1 (World.cell?_of_block (a := ⟨q, i, none⟩) (Below.heap_setCell _ _ _ _ (by have := h.2.2.2.2.2; show q ≠ B + 1; omega))), h.2.2.1.other (by omega), h.2.2.2.1.set (k := 1) (by simp) _, h.2.2.2.2⟩
theorem L5L.down {w W : World} {lo up : Nat} {v : Value} {ss : List Shd} {dr rc k : Int} {i j B q c g c2 : Nat} {l : List Rpl} {y : Rpl} {d : Bool} {n : Int} (h : L5L w lo up v ss dr rc k i j B q c g c2 l y d n W) (e : Bool) : L5L w lo up v ss dr rc k i j B q c g c2 l y e n (W.setCell ⟨B + 1, 0, none⟩ (.bool e)) := by
  have h1 := h.1.far (g := B + 1) (by have := h.2.2.2.2.1; omega) 0 (.bool e)
  exact ⟨h1, h.2.1.same h1.1 (World.cell?_of_block (a := ⟨q, i, none⟩) (Below.heap_setCell _ _ _ _ (by have := h.2.2.2.2.2; show q ≠ B + 1; omega))), h.2.2.1.other (by omega), h.2.2.2.1.set (k := 0) (by simp) _, h.2.2.2.2⟩
/-- The replica is put back. -/
theorem L5L.put {w W : World} {lo up : Nat} {v : Value} {ss : List Shd} {dr rc k : Int} {i j B q c g c2 : Nat} {l : List Rpl} {y : Rpl} {d : Bool} {n : Int} (h : L5L w lo up v ss dr rc k i j B q c g c2 l y d n W) : CmX ((W.setCell ⟨g, j * 2, none⟩ (.bool d)).setCell ⟨g, j * 2 + 1, none⟩ (.int .i64 n)) w.heap.size lo up v (ss.set i (mkS (l.set j (mkR d n)))) dr rc ∧ Bx ((W.setCell ⟨g, j * 2, none⟩ (.bool d)).setCell ⟨g, j * 2 + 1, none⟩ (.int .i64 n)) (w.heap.size + 1 + 1) [.slice none 0 0, .int .i64 0, .int .i64 0] ∧ TurnS (Btw lo up) w ((W.setCell ⟨g, j * 2, none⟩ (.bool d)).setCell ⟨g, j * 2 + 1, none⟩ (.int .i64 n)) := by
  have h1 := h.2.1.hhi
  have h2 := h.1.2.2.2.2.1
  exact ⟨h.2.1.set d n, (h.1.2.2.1.other (by omega)).other (by omega), (h.1.2.2.2.1.set (p := ⟨g, j * 2, none⟩) ⟨h.2.1.hlo, h1⟩ _).set (p := ⟨g, j * 2 + 1, none⟩) ⟨h.2.1.hlo, h1⟩ _⟩
theorem L5L.start {w W : World} {lo up : Nat} {v : Value} {ss : List Shd} {dr rc k : Int} {i j q c g c2 : Nat} {l : List Rpl} {y : Rpl} (h : L5S w lo up v ss dr rc k i j W) (hr : RpX W w.heap.size lo up v ss dr rc i j q c g c2 l y) (d : Bool) (n : Int) : L5L w lo up v ss dr rc k i j W.heap.size q c g c2 l y d n ((W.alloc (.cells #[.slice (some ⟨g, 0, none⟩) l.length c2] 42)).alloc (.cells #[.bool d, .int .i64 n] 44)) := by
  have hb : Below W.heap.size W ((W.alloc (.cells #[.slice (some ⟨g, 0, none⟩) l.length c2] 42)).alloc (.cells #[.bool d, .int .i64 n] 44)) := ((Below.refl _ _).alloc (Nat.le_refl _) _).alloc (by simp) _
  exact ⟨h.next hb, hr.carry h.1 hb, (Bx.new W [_] _).alloc _, Bx.newAt (by simp), h.2.2.2.2.2, hr.hq⟩
/-- How many are up, and whether another one is. -/
theorem ups_other {l : List Rpl} {j : Nat} (hj : j < l.length) (hu : rdn l[j] = false) : (l.set j (mkR true 0)).any upB = !decide (l.countP upB = 1) := by
  have h1 := List.countP_set (p := upB) (a := mkR true 0) hj
  have h2 : upB l[j] = true := by unfold upB; rw [hu]; rfl
  have h3 : upB (mkR true 0) = false := rfl
  rw [h2, h3] at h1
  simp only [if_true, Bool.false_eq_true, if_false, Nat.add_zero] at h1
  have h4 : 0 < l.countP upB := List.countP_pos_iff.2 ⟨l[j], List.getElem_mem hj, h2⟩
  by_cases c : l.countP upB = 1
  · rw [decide_eq_true c]
    refine any_none (fun o ho => ?_)
    have : (l.set j (mkR true 0)).countP upB = 0 := by omega
    have := List.countP_eq_zero.1 this o ho
    simpa using this
  · rw [decide_eq_false c]
    have : 0 < (l.set j (mkR true 0)).countP upB := by omega
    obtain ⟨a, ha, hp⟩ := List.countP_pos_iff.1 this
    exact List.any_eq_true.2 ⟨a, ha, hp⟩
theorem ups_take {l : List Rpl} {n : Nat} (h : n < l.length) : (l.take (n + 1)).countP upB = (l.take n).countP upB + if rdn l[n] = false then 1 else 0 := by
  rw [List.take_succ_eq_append_getElem h, List.countP_append, List.countP_singleton]
  congr 1
  unfold upB
  cases rdn l[n] <;> rfl

end Go.Proofs.YtkpobihpcnoemaaDoor
