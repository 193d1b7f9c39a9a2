/- Put together of: ShP, ShA, Ng. -/
import Derived.Test.YtkpobihpcnoemaaDoorSh
import Derived.Test.YtkpobihpcnoemaaDoorBx
import Derived.Test.YtkpobihpcnoemaaDoorGaB
import Derived.Lib.OwnBridge
import Derived.Maps.AppendAt
/- What the law's own functions on shapes answer. -/
namespace Go.Proofs.YtkpobihpcnoemaaDoor
open Go.RowKit
set_option linter.unusedVariables false

theorem Bx.newAt {w : World} {g : Nat} {vs : List Value} {t : TypeId} (h : w.heap.size = g) : Bx (w.alloc (.cells vs.toArray t)) g vs := h ▸ Bx.new w vs t
/-- A struct is made anew. -/
def ToP (s : Sh) (x : s.T) (w : World) (r : Ending) (w' : World) : Prop := ∃ cs : List Value, r = .returned (.agg cs.toArray) ∧ Own w' s cs x (Btw w.heap.size w'.heap.size) ∧ Below w.heap.size w w'
/-- A list is made anew. -/
def ToL (e : Sh) (l : List e.T) (w : World) (r : Ending) (w' : World) : Prop :=
  ∃ g, r = .returned (.slice (some ⟨g, 0, none⟩) l.length l.length) ∧ Own w' (.list e) [.slice (some ⟨g, 0, none⟩) l.length l.length] l (Btw w.heap.size w'.heap.size) ∧ Below w.heap.size w w'
end Go.Proofs.YtkpobihpcnoemaaDoor
/- A list of any shape that is being built by appends: each element's own lists lie in blocks of their own. -/
namespace Go.Proofs.YtkpobihpcnoemaaDoor
open Go.RowKit
set_option linter.unusedVariables false

theorem ownsRow_next {w w' : World} {base : Nat} {e : TypeId} {size : Nat} {v : Value} {n : Nat} {xs : List Value} (h : w.ownsRow base e size v n xs) (hb : Below w.heap.size w w') : w'.ownsRow base e size v n xs := by
  obtain ⟨h1, h2⟩ := h
  refine ⟨h1, ?_⟩
  rcases h2 with h2 | ⟨g, cap, cur, hv, hgb, hh, r⟩
  · exact Or.inl h2
  · refine Or.inr ⟨g, cap, cur, hv, hgb, ?_, r⟩
    rw [hb.block g (by rcases Nat.lt_or_ge g w.heap.size with q | q; (· exact q); rw [Array.getElem?_eq_none q] at hh; cases hh)]
    exact hh
theorem ownsRow_turn {w w' : World} {S : Nat → Prop} {base : Nat} {e : TypeId} {size : Nat} {v : Value} {n : Nat} {xs : List Value} (h : w.ownsRow base e size v n xs) (ht : TurnS S w w') (hx : ∀ k, v.ownBlock = some k → ¬ S k) : w'.ownsRow base e size v n xs := by
  obtain ⟨h1, h2⟩ := h
  refine ⟨h1, ?_⟩
  rcases h2 with h2 | ⟨g, cap, cur, hv, hgb, hh, r⟩
  · exact Or.inl h2
  · refine Or.inr ⟨g, cap, cur, hv, hgb, ?_, r⟩
    rw [ht.block (by rcases Nat.lt_or_ge g w.heap.size with q | q; (· exact q); rw [Array.getElem?_eq_none q] at hh; cases hh) (hx g (by rw [hv]; rfl))]
    exact hh
/-- The elements of such a list and their blocks. -/
def AppR (W : World) (lo : Nat) (e : Sh) (v : Value) (l : List e.T) (xs : List Value) (B : Nat → Nat → Prop) : Prop :=
  (∀ i (h : i < l.length), Own W e ((xs.drop (i * e.c)).take e.c) l[i] (B i)) ∧ (∀ i, i < l.length → ∀ b, B i b → lo ≤ b ∧ b < W.heap.size ∧ v.ownBlock ≠ some b) ∧ (∀ i j, i < j → j < l.length → ∀ b, B i b → ¬ B j b)
def AppB (W : World) (lo : Nat) (ty : TypeId) (e : Sh) (v : Value) (l : List e.T) : Prop := ∃ xs B, W.ownsRow lo ty e.c v l.length xs ∧ AppR W lo e v l xs B
theorem AppB.nil (W : World) (lo : Nat) (ty : TypeId) (e : Sh) : AppB W lo ty e (.slice none 0 0) [] :=
  ⟨[], fun _ _ => False, World.ownsRow_nil _ _ _ _, fun i h => absurd h (by simp), fun i h => absurd h (by simp), fun i j _ h => absurd h (by simp)⟩
theorem AppR.next {W W' : World} {lo : Nat} {e : Sh} {v : Value} {l : List e.T} {xs : List Value} {B : Nat → Nat → Prop} (h : AppR W lo e v l xs B) (hb : Below W.heap.size W W') : AppR W' lo e v l xs B :=
  ⟨fun i hi => (h.1 i hi).next hb, fun i hi b q => ⟨(h.2.1 i hi b q).1, Nat.lt_of_lt_of_le (h.2.1 i hi b q).2.1 hb.size, (h.2.1 i hi b q).2.2⟩, h.2.2⟩
theorem AppB.next {W W' : World} {lo : Nat} {ty : TypeId} {e : Sh} {v : Value} {l : List e.T} (h : AppB W lo ty e v l) (hb : Below W.heap.size W W') : AppB W' lo ty e v l := by
  obtain ⟨xs, B, h1, h2⟩ := h
  exact ⟨xs, B, ownsRow_next h1 hb, h2.next hb⟩
/-- One more element, whose lists were made since W0. -/
theorem AppR.app {W0 W W' : World} {lo : Nat} {ty : TypeId} {e : Sh} {v v' : Value} {l : List e.T} {xs ec : List Value} {B : Nat → Nat → Prop} {x : e.T} (h : AppR W0 lo e v l xs B) (ho : W0.ownsRow lo ty e.c v l.length xs) (hW : Below W0.heap.size W0 W)
    (hec : ec.length = e.c) (hlo : lo ≤ W0.heap.size) (hx : Own W e ec x (Btw W0.heap.size W.heap.size)) (h2 : W'.ownsRow lo ty e.c v' (l.length + 1) (xs ++ ec)) (hg : W.grownBy W' v.ownBlock) (hwh : v'.ownBlock = v.ownBlock ∨ v'.ownBlock = some W.heap.size) : AppB W' lo ty e v' (l ++ [x]) := by
  have hv : ∀ k, v.ownBlock = some k → k < W0.heap.size := fun k hk => (ho.lt k hk).2
  have hxl : xs.length = l.length * e.c := ho.1
  have hblk : ∀ k, k < W.heap.size → v.ownBlock ≠ some k → W'.heap[k]? = W.heap[k]? := fun k hk hne => hg.block k hk (fun q => hne q.symm)
  refine ⟨xs ++ ec, fun i => if i = l.length then Btw W0.heap.size W.heap.size else B i, by rw [List.length_append]; exact h2, fun i hi => ?_, fun i hi b q => ?_, fun i j hij hj b q => ?_⟩
  · rw [List.length_append, List.length_singleton] at hi
    by_cases ei : i = l.length
    · subst ei
      have e1 : ((xs ++ ec).drop (l.length * e.c)).take e.c = ec := by
        rw [← hxl, List.drop_left, ← hec, List.take_length]
      rw [e1]
      simp only [if_true, List.getElem_concat_length]
      exact hx.keep hg.size (fun k hk hB => hblk k hk (fun q => by have := hv k q; have := hB.1; omega))
    · have hil : i < l.length := by omega
      have e1 : ((xs ++ ec).drop (i * e.c)).take e.c = (xs.drop (i * e.c)).take e.c := by
        have := mul_step (c := e.c) hil
        rw [List.drop_append_of_le_length (by omega), List.take_append_of_le_length (by rw [List.length_drop]; omega)]
      rw [e1]
      simp only [if_neg ei]
      rw [List.getElem_append_left hil]
      exact ((h.1 i hil).next hW).keep hg.size (fun k hk hB => hblk k hk ((h.2.1 i hil k hB).2.2))
  · rw [List.length_append, List.length_singleton] at hi
    have hs := hW.size
    have hs' := hg.size
    by_cases ei : i = l.length
    · simp only [if_pos ei] at q
      refine ⟨by have := q.1; omega, by have := q.2; omega, ?_⟩
      rcases hwh with h | h
      · rw [h]; intro q2; have := hv b q2; have := q.1; omega
      · rw [h]; intro q2; have := Option.some.inj q2; have := q.2; omega
    · simp only [if_neg ei] at q
      have := h.2.1 i (by omega) b q
      refine ⟨this.1, by omega, ?_⟩
      rcases hwh with h | h
      · rw [h]; exact this.2.2
      · rw [h]; intro q2; have := Option.some.inj q2; omega
  · rw [List.length_append, List.length_singleton] at hj
    simp only [if_neg (show ¬ i = l.length by omega)] at q
    by_cases ej : j = l.length
    · simp only [if_pos ej]
      intro q2
      have := (h.2.1 i (by omega) b q).2.1
      have := q2.1
      omega
    · simp only [if_neg ej]
      exact h.2.2 i j hij (by omega) b q
theorem cells_of_take {xs : List Value} {c i j : Nat} (hj : j < c) : (((xs.drop (i * c)).take c)[j]?) = xs[i * c + j]? := by
  rw [List.getElem?_take, if_pos hj, List.getElem?_drop]
/-- Such a list is owned. -/
theorem AppB.own {W : World} {lo : Nat} {ty : TypeId} {e : Sh} {v : Value} {l : List e.T} (h : AppB W lo ty e v l) : ∃ a cap, v = .slice a l.length cap ∧ l.length ≤ cap ∧ Own W (.list e) [.slice a l.length cap] l (Btw lo W.heap.size) := by
  obtain ⟨xs, B, h1, h2⟩ := h
  rcases Nat.eq_zero_or_pos l.length with hz | hp
  · have hl := List.eq_nil_of_length_eq_zero hz
    subst hl
    obtain ⟨_, h | ⟨g, cap, cur, rfl, _, _, _, hm, _⟩⟩ := h1
    · exact ⟨none, 0, h.1, Nat.le_refl _, Own.none (Nat.zero_le _)⟩
    · exact ⟨_, cap, rfl, Nat.zero_le _, Own.none hm⟩
  obtain ⟨g, cap, rfl⟩ := Go.Joins.ownsRow_form h1 hp
  have hg := h1.lt g rfl
  have hxl : xs.length = l.length * e.c := h1.1
  have hcap : l.length ≤ cap ∧ cap ≤ maxLen := by
    obtain ⟨_, h | ⟨g', cap', cur, hv, _, _, hn, hm, _⟩⟩ := h1
    · exact absurd h.1 (by simp)
    · simp only [Value.slice.injEq, true_and] at hv
      rw [hv.2]; exact ⟨hn, hm⟩
  refine ⟨_, cap, rfl, hcap.1, OwnK.list (hc := hcap.1) (hm := hcap.2) (B := B) ⟨hg.2, ⟨hg.1, hg.2⟩, fun i hi b q => ⟨⟨(h2.2.1 i hi b q).1, (h2.2.1 i hi b q).2.1⟩, fun q2 => (h2.2.1 i hi b q).2.2 (by rw [q2]; rfl)⟩, h2.2.2, ?_, fun i hi _ => ⟨(xs.drop (i * e.c)).take e.c, ?_, fun j hj => ?_, h2.1 i hi⟩⟩⟩
  · intro q hq
    obtain ⟨hl, h | ⟨g', cap', cur, hv, hb, hh, hn, hm, hs, ht⟩⟩ := h1
    · exact absurd h.1 (by simp)
    · simp only [Value.slice.injEq, Option.some.injEq, Addr.mk.injEq, and_true, true_and] at hv
      obtain ⟨rfl, rfl⟩ := hv
      have hq' : q < cur.size := by rw [hs]; exact Nat.lt_of_lt_of_le hq (Nat.mul_le_mul_right _ hn)
      exact ⟨⟨cur[q], by rw [Go.Joins.cell_of_block hh]; simp [hq']⟩, Go.Joins.unfrozen_of_block hh q⟩
  · have := mul_step (c := e.c) hi
    rw [List.length_take, List.length_drop]; omega
  · have hm := mul_step (c := e.c) hi
    have hj' : j < e.c := by rw [List.length_take] at hj; omega
    rw [cells_of_take hj', World.ownsRow.cellAt h1 _ (by omega)]
theorem AppB.lo {W : World} {lo lo' : Nat} {ty : TypeId} {e : Sh} {v : Value} {l : List e.T} (h : AppB W lo ty e v l) (hl : lo' ≤ lo) : AppB W lo' ty e v l := by
  obtain ⟨xs, B, ⟨h0, h1⟩, h2⟩ := h
  refine ⟨xs, B, ⟨h0, ?_⟩, h2.1, fun i hi b q => ⟨Nat.le_trans hl (h2.2.1 i hi b q).1, (h2.2.1 i hi b q).2⟩, h2.2.2⟩
  rcases h1 with h1 | ⟨g, cap, cur, hv, hgb, r⟩
  · exact Or.inl h1
  · exact Or.inr ⟨g, cap, cur, hv, Nat.le_trans hl hgb, r⟩
end Go.Proofs.YtkpobihpcnoemaaDoor
/- Propositions as Bools, lists of numbers in shapes, small facts on lists: for every chapter with shapes. No Go text is spoken of here. -/
namespace Go.Proofs.YtkpobihpcnoemaaDoor
open Go.RowKit
set_option linter.unusedVariables false

/-- A proposition as a Bool. -/
noncomputable def tf (p : Prop) : Bool := @decide p (Classical.propDecidable p)
theorem tf_iff {p : Prop} : tf p = true ↔ p := by unfold tf; exact @decide_eq_true_iff p (Classical.propDecidable p)
theorem tf_yes {p : Prop} (h : p) : tf p = true := tf_iff.2 h
theorem tf_no {p : Prop} (h : ¬ p) : tf p = false := by cases e : tf p with | false => rfl | true => exact absurd (tf_iff.1 e) h
theorem tf_eq {p q : Prop} (h : p ↔ q) : tf p = tf q := by
  by_cases hq : q
  · rw [tf_yes hq, tf_yes (h.2 hq)]
  · rw [tf_no hq, tf_no (fun hp => hq (h.1 hp))]
theorem tf_bool {b : Bool} : tf (b = true) = b := by cases b; exact tf_no (by simp); exact tf_yes rfl

def atI (l : List Int) (i : Nat) : Int := l.getD i 0
theorem atI_lt {l : List Int} {i : Nat} (h : i < l.length) : atI l i = l[i] := by simp [atI, List.getD_eq_getElem?_getD, List.getElem?_eq_getElem h]
/-- A list of numbers, as the elder texts speak of it. -/
theorem lies_sl {w : World} {a : Option Addr} {cap : Nat} {l : List (Sh.T .int)} (h : Lies w (.list .int) [.slice a l.length cap] l) : Sl w a l.length 1 (intF (atI l)) := by
  obtain ⟨ad, c, e1, _, _, h⟩ := h
  simp only [List.cons.injEq, Value.slice.injEq, and_true, true_and] at e1
  obtain ⟨rfl, rfl⟩ := e1
  rcases h with h | ⟨g, off, e2, hg, hE⟩
  · exact Or.inl (by rw [h]; rfl)
  · refine Or.inr ⟨g, off, e2, hg, fun i hi j hj => ?_⟩
    have hj0 : j = 0 := by omega
    subst hj0
    obtain ⟨ec, h1, h2, h3⟩ := hE i hi
    have h3 : ec = [.int .i64 l[i]] := h3
    subst h3
    have := h2 0 (by simp)
    simp only [Sh.c, Nat.add_zero] at this
    rw [Nat.add_zero, this]
    simp [intF, atI_lt hi]
theorem Lies.take {w : World} {e : Sh} {a : Option Addr} {n cap : Nat} {l : List e.T} (h : Lies w (.list e) [.slice a n cap] l) (k : Nat) (hk : k ≤ l.length) : Lies w (.list e) [.slice a k cap] (l.take k) := by
  obtain ⟨ad, c, e1, c1, c2, h⟩ := h
  simp only [List.cons.injEq, Value.slice.injEq, and_true] at e1
  obtain ⟨rfl, rfl, rfl⟩ := e1
  have hl : (l.take k).length = k := by rw [List.length_take]; omega
  refine ⟨a, cap, by rw [hl], by omega, c2, ?_⟩
  rcases h with h | ⟨g, off, e2, hg, hE⟩
  · left; rw [h]; simp
  · right
    refine ⟨g, off, e2, hg, fun i hi => ?_⟩
    obtain ⟨ec, h1, h2, h3⟩ := hE i (by omega)
    exact ⟨ec, h1, h2, by rw [List.getElem_take]; exact h3⟩

theorem mem_take_succ {α : Type} {l : List α} {k : Nat} (h : k < l.length) {P : α → Prop} (h1 : ∀ o ∈ l.take k, P o) (h2 : P l[k]) : ∀ o ∈ l.take (k + 1), P o := by
  rw [List.take_succ_eq_append_getElem h]
  intro o ho
  rcases List.mem_append.1 ho with q | q
  · exact h1 o q
  · rw [List.mem_singleton.1 q]; exact h2
theorem pair_take_succ {α : Type} {l : List α} {k : Nat} (h : k < l.length) {R : α → α → Prop} (h1 : (l.take k).Pairwise R) (h2 : ∀ o ∈ l.take k, R o l[k]) : (l.take (k + 1)).Pairwise R := by
  rw [List.take_succ_eq_append_getElem h, List.pairwise_append]
  exact ⟨h1, List.pairwise_singleton _ _, fun a ha b hb => by rw [List.mem_singleton.1 hb]; exact h2 a ha⟩
theorem pair_take_no {α : Type} {l : List α} {k : Nat} (h : k < l.length) {R : α → α → Prop} {o : α} (ho : o ∈ l.take k) (hn : ¬ R o l[k]) : ¬ l.Pairwise R := by
  intro hp
  have := hp.sublist (List.take_sublist (k + 1) l)
  rw [List.take_succ_eq_append_getElem h, List.pairwise_append] at this
  exact hn (this.2.2 o ho _ (List.mem_singleton.2 rfl))
theorem emptyB_size (s : ByteArray) : s.toList.isEmpty = (s.size == 0) := by
  rw [ByteArray.toList_eq]
  cases h : s.data.toList with
  | nil => have : s.size = 0 := by have := congrArg List.length h; simpa using this
           simp [this]
  | cons a l => have : s.size = l.length + 1 := by have := congrArg List.length h; simpa using this
                simp [this]
theorem empty_iff {v : ByteArray} : v.toList.isEmpty = true ↔ v.size = 0 := by rw [emptyB_size]; simp
theorem Bx.grow {w w' : World} {row : Option Nat} {g : Nat} {vs : List Value} (h : Bx w g vs) (hg : w.grownBy w' row) (hne : some g ≠ row) : Bx w' g vs :=
  ⟨fun j hj => ⟨(hg.cell_far ⟨g, j, none⟩ h.2 hne).trans (h.1 j hj).1, (hg.frozen_far ⟨g, j, none⟩ h.2 hne).trans (h.1 j hj).2⟩, Nat.lt_of_lt_of_le h.2 hg.size⟩
theorem size_text {n : Nat} (h : n ≤ 1073741824) : n ≤ maxLen := by unfold maxLen; omega
theorem below_dN {B : Nat} {a w : World} (h : Below B a w) (n : Nat) : Below B a (w.drewN n) := ⟨h.os, h.tape, h.output, h.size, h.block⟩
end Go.Proofs.YtkpobihpcnoemaaDoor
