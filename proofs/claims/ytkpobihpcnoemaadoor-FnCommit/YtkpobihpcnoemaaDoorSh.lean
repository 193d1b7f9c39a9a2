/- Shapes of data: numbers, texts, bools, structs and lists of them, one inside the other: how they lie in memory, who owns it, how large they are. No Go text is spoken of here. -/
import Derived.Test.YtkpobihpcnoemaaDoorGaK
namespace Go.Proofs.YtkpobihpcnoemaaDoor
open Go.RowKit
set_option linter.unusedVariables false

inductive Sh where
  | int | str | bool | nil
  | pair (a b : Sh)
  | list (e : Sh)
@[reducible] def Sh.T : Sh → Type
  | .int => Int
  | .str => ByteArray
  | .bool => Bool
  | .nil => Unit
  | .pair a b => a.T × b.T
  | .list e => List e.T
/-- How many cells one takes. -/
def Sh.c : Sh → Nat
  | .int => 1
  | .str => 1
  | .bool => 1
  | .nil => 0
  | .pair a b => a.c + b.c
  | .list _ => 1
/-- Cells that stand in a row. -/
def Cells (w : World) (g off : Nat) (cs : List Value) : Prop := ∀ j, j < cs.length → w.cell? ⟨g, off + j, none⟩ = cs[j]?
theorem Cells.same {w w' : World} {g off : Nat} {cs : List Value} (h : Cells w g off cs) (e : w'.heap[g]? = w.heap[g]?) : Cells w' g off cs := fun j hj => (World.cell?_of_block (a := ⟨g, off + j, none⟩) e).trans (h j hj)
theorem Cells.at {w : World} {g off : Nat} {cs : List Value} (h : Cells w g off cs) (j : Nat) {v : Value} (hv : cs[j]? = some v) : w.cell? ⟨g, off + j, none⟩ = some v := by
  have hj : j < cs.length := by
    rcases Nat.lt_or_ge j cs.length with q | q
    · exact q
    · rw [List.getElem?_eq_none q] at hv; cases hv
  rw [h j hj, hv]
theorem Cells.at0 {w : World} {g off : Nat} {cs : List Value} (h : Cells w g off cs) {v : Value} (hv : cs[0]? = some v) : w.cell? ⟨g, off, none⟩ = some v := h.at 0 hv
/-- These cells hold this datum, wherever its lists lie. -/
def Lies (w : World) : (s : Sh) → List Value → s.T → Prop
  | .int, cs, n => cs = [.int .i64 n]
  | .str, cs, b => cs = [.string b]
  | .bool, cs, b => cs = [.bool b]
  | .nil, cs, _ => cs = []
  | .pair a b, cs, x => ∃ c1 c2, cs = c1 ++ c2 ∧ Lies w a c1 x.1 ∧ Lies w b c2 x.2
  | .list e, cs, l => ∃ ad cap, cs = [.slice ad l.length cap] ∧ l.length ≤ cap ∧ cap ≤ maxLen ∧ (l = [] ∨ ∃ g off, ad = some ⟨g, off, none⟩ ∧ g < w.heap.size ∧ ∀ i (h : i < l.length), ∃ ec, ec.length = e.c ∧ Cells w g (off + i * e.c) ec ∧ Lies w e ec l[i])
theorem Lies.len {w : World} : ∀ {s : Sh} {cs : List Value} {x : s.T}, Lies w s cs x → cs.length = s.c
  | .int, cs, x, h => by rw [show cs = _ from h]; rfl
  | .str, cs, x, h => by rw [show cs = _ from h]; rfl
  | .bool, cs, x, h => by rw [show cs = _ from h]; rfl
  | .nil, cs, x, h => by rw [show cs = _ from h]; rfl
  | .pair a b, cs, x, h => by
    obtain ⟨c1, c2, rfl, h1, h2⟩ := h
    rw [List.length_append, h1.len, h2.len]; rfl
  | .list e, cs, x, h => by
    obtain ⟨ad, cap, rfl, _⟩ := h
    rfl
theorem Lies.keep {w w' : World} (hw : ∀ k, k < w.heap.size → w'.heap[k]? = w.heap[k]?) (hz : w.heap.size ≤ w'.heap.size) : ∀ {s : Sh} {cs : List Value} {x : s.T}, Lies w s cs x → Lies w' s cs x
  | .int, cs, x, h => h
  | .str, cs, x, h => h
  | .bool, cs, x, h => h
  | .nil, cs, x, h => h
  | .pair a b, cs, x, h => by
    obtain ⟨c1, c2, e, h1, h2⟩ := h
    exact ⟨c1, c2, e, h1.keep hw hz, h2.keep hw hz⟩
  | .list e, cs, x, h => by
    obtain ⟨ad, cap, e1, c1, c2, h⟩ := h
    refine ⟨ad, cap, e1, c1, c2, ?_⟩
    rcases h with h | ⟨g, off, e2, hg, hE⟩
    · exact Or.inl h
    · refine Or.inr ⟨g, off, e2, Nat.lt_of_lt_of_le hg hz, fun i hi => ?_⟩
      obtain ⟨ec, h1, h2, h3⟩ := hE i hi
      exact ⟨ec, h1, h2.same (hw g hg), h3.keep hw hz⟩
theorem Lies.next {w w' : World} {s : Sh} {cs : List Value} {x : s.T} (h : Lies w s cs x) (hb : Below w.heap.size w w') : Lies w' s cs x := h.keep (fun k hk => hb.block k hk) hb.size
theorem Lies.elem {w : World} {e : Sh} {a : Option Addr} {n cap : Nat} {l : List e.T} (h : Lies w (.list e) [.slice a n cap] l) {k : Nat} (hk : k < l.length) :
    ∃ g off, a = some ⟨g, off, none⟩ ∧ g < w.heap.size ∧ ∃ ec, ec.length = e.c ∧ Cells w g (off + k * e.c) ec ∧ Lies w e ec l[k] := by
  obtain ⟨ad, c, e1, _, _, h⟩ := h
  simp only [List.cons.injEq, Value.slice.injEq, and_true] at e1
  obtain ⟨rfl, rfl, rfl⟩ := e1
  rcases h with h | ⟨g, off, e2, hg, hE⟩
  · rw [h] at hk; exact absurd hk (by simp)
  · exact ⟨g, off, e2, hg, hE k hk⟩
theorem Lies.count {w : World} {e : Sh} {a : Option Addr} {n cap : Nat} {l : List e.T} (h : Lies w (.list e) [.slice a n cap] l) : n = l.length := by
  obtain ⟨ad, c, e1, h⟩ := h
  simp only [List.cons.injEq, Value.slice.injEq, and_true] at e1
  exact e1.2.1
theorem Lies.caps {w : World} {e : Sh} {a : Option Addr} {n cap : Nat} {l : List e.T} (h : Lies w (.list e) [.slice a n cap] l) : n ≤ cap ∧ cap ≤ maxLen := by
  obtain ⟨ad, c, e1, c1, c2, h⟩ := h
  simp only [List.cons.injEq, Value.slice.injEq, and_true] at e1
  obtain ⟨rfl, rfl, rfl⟩ := e1
  exact ⟨c1, c2⟩
/-- An empty list lies anywhere. -/
theorem Lies.none {w : World} {e : Sh} {a : Option Addr} {cap : Nat} (hc : cap ≤ maxLen) : Lies w (.list e) [.slice a 0 cap] [] := ⟨a, cap, rfl, Nat.zero_le _, hc, Or.inl rfl⟩

/-- Only blocks of S have turned. -/
def TurnS (S : Nat → Prop) (w w' : World) : Prop := w'.os = w.os ∧ w'.tape = w.tape ∧ w'.output = w.output ∧ w.heap.size ≤ w'.heap.size ∧ ∀ k, k < w.heap.size → ¬ S k → w'.heap[k]? = w.heap[k]?
theorem TurnS.refl (S : Nat → Prop) (w : World) : TurnS S w w := ⟨rfl, rfl, rfl, Nat.le_refl _, fun _ _ _ => rfl⟩
theorem TurnS.trans {S : Nat → Prop} {a b c : World} (h : TurnS S a b) (k : TurnS S b c) : TurnS S a c :=
  ⟨k.1.trans h.1, k.2.1.trans h.2.1, k.2.2.1.trans h.2.2.1, Nat.le_trans h.2.2.2.1 k.2.2.2.1, fun i hi hx => (k.2.2.2.2 i (Nat.lt_of_lt_of_le hi h.2.2.2.1) hx).trans (h.2.2.2.2 i hi hx)⟩
theorem TurnS.wide {S S' : Nat → Prop} {w w' : World} (h : TurnS S w w') (hS : ∀ k, S k → S' k) : TurnS S' w w' := ⟨h.1, h.2.1, h.2.2.1, h.2.2.2.1, fun k hk hx => h.2.2.2.2 k hk (fun q => hx (hS k q))⟩
theorem TurnS.of_below {S : Nat → Prop} {w w' : World} (h : Below w.heap.size w w') : TurnS S w w' := ⟨h.os, h.tape, h.output, h.size, fun k hk _ => h.block k hk⟩
theorem TurnS.next {S : Nat → Prop} {a w w' : World} (h : TurnS S a w) (hb : Below w.heap.size w w') : TurnS S a w' := h.trans (TurnS.of_below hb)
theorem TurnS.size {S : Nat → Prop} {w w' : World} (h : TurnS S w w') : w.heap.size ≤ w'.heap.size := h.2.2.2.1
theorem TurnS.block {S : Nat → Prop} {w w' : World} (h : TurnS S w w') {k : Nat} (hk : k < w.heap.size) (hx : ¬ S k) : w'.heap[k]? = w.heap[k]? := h.2.2.2.2 k hk hx
theorem TurnS.cell {S : Nat → Prop} {w w' : World} (h : TurnS S w w') {g q : Nat} (hg : g < w.heap.size) (hx : ¬ S g) : w'.cell? ⟨g, q, none⟩ = w.cell? ⟨g, q, none⟩ := World.cell?_of_block (a := ⟨g, q, none⟩) (h.block hg hx)
theorem TurnS.below {S : Nat → Prop} {w w' : World} {B : Nat} (h : TurnS S w w') (hS : ∀ k, S k → B ≤ k) (hB : B ≤ w.heap.size) : Below B w w' := ⟨h.1, h.2.1, h.2.2.1, h.2.2.2.1, fun k hk => h.2.2.2.2 k (Nat.lt_of_lt_of_le hk hB) (fun q => by have := hS k q; omega)⟩
theorem TurnS.set {S : Nat → Prop} {a w : World} (h : TurnS S a w) {p : Addr} (hp : S p.block) (v : Value) : TurnS S a (w.setCell p v) :=
  h.trans ⟨rfl, rfl, rfl, by simp [World.setCell], fun k _ hx => Below.heap_setCell _ _ _ _ (fun e => hx (e ▸ hp))⟩
theorem Bx0.turn {S : Nat → Prop} {w w' : World} {g m : Nat} (h : Room w g m) (ht : TurnS S w w') (hg : g < w.heap.size) (hx : ¬ S g) : Room w' g m := h.same (ht.block hg hx)

/-- These cells hold this datum, and its lists lie in blocks of S, each in one of its own, which may be written. -/
def Own (w : World) : (s : Sh) → List Value → s.T → (Nat → Prop) → Prop
  | .int, cs, n, _ => cs = [.int .i64 n]
  | .str, cs, b, _ => cs = [.string b]
  | .bool, cs, b, _ => cs = [.bool b]
  | .nil, cs, _, _ => cs = []
  | .pair a b, cs, x, S => ∃ c1 c2 S1 S2, cs = c1 ++ c2 ∧ Own w a c1 x.1 S1 ∧ Own w b c2 x.2 S2 ∧ (∀ k, S1 k → ¬ S2 k) ∧ ∀ k, S1 k ∨ S2 k → S k
  | .list e, cs, l, S => (l = [] ∧ ∃ ad cap, cs = [.slice ad 0 cap] ∧ cap ≤ maxLen) ∨
      ∃ g cap, ∃ B : Nat → Nat → Prop, cs = [.slice (some ⟨g, 0, none⟩) l.length cap] ∧ (l.length ≤ cap ∧ cap ≤ maxLen) ∧ g < w.heap.size ∧ S g ∧ (∀ i, i < l.length → ∀ k, B i k → S k ∧ k ≠ g) ∧ (∀ i j, i < j → j < l.length → ∀ k, B i k → ¬ B j k) ∧
        Room w g (l.length * e.c) ∧ ∀ i (h : i < l.length), ∃ ec, ec.length = e.c ∧ Cells w g (i * e.c) ec ∧ Own w e ec l[i] (B i)
/-- A row of block g with room for m elements, of which the first k are these, each with blocks B i of its own; all blocks in S. -/
def OwnK (w : World) (e : Sh) (g m k : Nat) (l : List e.T) (S : Nat → Prop) (B : Nat → Nat → Prop) : Prop :=
  g < w.heap.size ∧ S g ∧ (∀ i, i < k → ∀ b, B i b → S b ∧ b ≠ g) ∧ (∀ i j, i < j → j < k → ∀ b, B i b → ¬ B j b) ∧
    Room w g (m * e.c) ∧ ∀ i (h : i < l.length), i < k → ∃ ec, ec.length = e.c ∧ Cells w g (i * e.c) ec ∧ Own w e ec l[i] (B i)
theorem own_list {w : World} {e : Sh} {cs : List Value} {l : List e.T} {S : Nat → Prop} (h : Own w (.list e) cs l S) :
    (l = [] ∧ ∃ ad cap, cs = [.slice ad 0 cap] ∧ cap ≤ maxLen) ∨ ∃ g cap B, cs = [.slice (some ⟨g, 0, none⟩) l.length cap] ∧ (l.length ≤ cap ∧ cap ≤ maxLen) ∧ OwnK w e g l.length l.length l S B := by
  rcases h with h | ⟨g, cap, B, e1, hc, h1, h2, h3, h4, h5, h6⟩
  · exact Or.inl h
  · exact Or.inr ⟨g, cap, B, e1, hc, h1, h2, h3, h4, h5, fun i hi _ => h6 i hi⟩
theorem OwnK.list {w : World} {e : Sh} {g cap : Nat} {l : List e.T} {S : Nat → Prop} {B : Nat → Nat → Prop} (h : OwnK w e g l.length l.length l S B) (hc : l.length ≤ cap) (hm : cap ≤ maxLen) : Own w (.list e) [.slice (some ⟨g, 0, none⟩) l.length cap] l S :=
  Or.inr ⟨g, cap, B, rfl, ⟨hc, hm⟩, h.1, h.2.1, h.2.2.1, h.2.2.2.1, h.2.2.2.2.1, fun i hi => h.2.2.2.2.2 i hi hi⟩
theorem own_form {w : World} {e : Sh} {cs : List Value} {l : List e.T} {S : Nat → Prop} (h : Own w (.list e) cs l S) : ∃ a k, cs = [.slice a l.length k] := by
  rcases h with ⟨rfl, ad, cap, rfl, _⟩ | ⟨g, cap, B, e1, _⟩
  · exact ⟨ad, cap, rfl⟩
  · exact ⟨_, cap, e1⟩
theorem Own.none {w : World} {e : Sh} {a : Option Addr} {cap : Nat} {S : Nat → Prop} (hc : cap ≤ maxLen) : Own w (.list e) [.slice a 0 cap] [] S := Or.inl ⟨rfl, a, cap, rfl, hc⟩
theorem Own.lies {w : World} : ∀ {s : Sh} {cs : List Value} {x : s.T} {S : Nat → Prop}, Own w s cs x S → Lies w s cs x
  | .int, cs, x, S, h => h
  | .str, cs, x, S, h => h
  | .bool, cs, x, S, h => h
  | .nil, cs, x, S, h => h
  | .pair a b, cs, x, S, h => by
    obtain ⟨c1, c2, S1, S2, e, h1, h2, _⟩ := h
    exact ⟨c1, c2, e, h1.lies, h2.lies⟩
  | .list e, cs, x, S, h => by
    rcases h with ⟨h, ad, cap, e1, hc⟩ | ⟨g, cap, B, e1, hc, hg, _, _, _, _, hE⟩
    · exact ⟨ad, cap, by rw [e1, h]; rfl, by rw [h]; exact Nat.zero_le _, hc, Or.inl h⟩
    · refine ⟨_, cap, e1, hc.1, hc.2, Or.inr ⟨g, 0, rfl, hg, fun i hi => ?_⟩⟩
      obtain ⟨ec, h1, h2, h3⟩ := hE i hi
      exact ⟨ec, h1, by rw [Nat.zero_add]; exact h2, h3.lies⟩
theorem Own.mono {w : World} : ∀ {s : Sh} {cs : List Value} {x : s.T} {S S' : Nat → Prop}, Own w s cs x S → (∀ k, S k → S' k) → Own w s cs x S'
  | .int, cs, x, S, S', h, _ => h
  | .str, cs, x, S, S', h, _ => h
  | .bool, cs, x, S, S', h, _ => h
  | .nil, cs, x, S, S', h, _ => h
  | .pair a b, cs, x, S, S', h, hS => by
    obtain ⟨c1, c2, S1, S2, e, h1, h2, h3, h4⟩ := h
    exact ⟨c1, c2, S1, S2, e, h1, h2, h3, fun k hk => hS k (h4 k hk)⟩
  | .list e, cs, x, S, S', h, hS => by
    rcases h with h | ⟨g, cap, B, e1, hc, hg, hSg, h3, h4, h5, hE⟩
    · exact Or.inl h
    · exact Or.inr ⟨g, cap, B, e1, hc, hg, hS g hSg, fun i hi k hk => ⟨hS k (h3 i hi k hk).1, (h3 i hi k hk).2⟩, h4, h5, hE⟩
/-- What has not turned in the blocks of S is as it was. -/
theorem Own.keep {w w' : World} (hz : w.heap.size ≤ w'.heap.size) : ∀ {s : Sh} {cs : List Value} {x : s.T} {S : Nat → Prop}, (∀ k, k < w.heap.size → S k → w'.heap[k]? = w.heap[k]?) → Own w s cs x S → Own w' s cs x S
  | .int, cs, x, S, _, h => h
  | .str, cs, x, S, _, h => h
  | .bool, cs, x, S, _, h => h
  | .nil, cs, x, S, _, h => h
  | .pair a b, cs, x, S, hw, h => by
    obtain ⟨c1, c2, S1, S2, e, h1, h2, h3, h4⟩ := h
    exact ⟨c1, c2, S1, S2, e, h1.keep hz (fun k hl hk => hw k hl (h4 k (Or.inl hk))), h2.keep hz (fun k hl hk => hw k hl (h4 k (Or.inr hk))), h3, h4⟩
  | .list e, cs, x, S, hw, h => by
    rcases h with h | ⟨g, cap, B, e1, hc, hg, hS, h3, h4, h5, hE⟩
    · exact Or.inl h
    · have hgg := hw g hg hS
      refine Or.inr ⟨g, cap, B, e1, hc, Nat.lt_of_lt_of_le hg hz, hS, h3, h4, h5.same hgg, fun i hi => ?_⟩
      obtain ⟨ec, q1, q2, q3⟩ := hE i hi
      exact ⟨ec, q1, q2.same hgg, q3.keep hz (fun k hl hk => hw k hl (h3 i hi k hk).1)⟩
theorem Own.next {w w' : World} {s : Sh} {cs : List Value} {x : s.T} {S : Nat → Prop} (h : Own w s cs x S) (hb : Below w.heap.size w w') : Own w' s cs x S := h.keep hb.size (fun k hk _ => hb.block k hk)
theorem Own.turn {S S' : Nat → Prop} {w w' : World} {s : Sh} {cs : List Value} {x : s.T} (h : Own w s cs x S) (ht : TurnS S' w w') (ha : ∀ k, S k → ¬ S' k) : Own w' s cs x S := h.keep ht.size (fun k hk hs => ht.block hk (ha k hs))
theorem Own.len {w : World} {s : Sh} {cs : List Value} {x : s.T} {S : Nat → Prop} (h : Own w s cs x S) : cs.length = s.c := h.lies.len
theorem Own.set {S : Nat → Prop} {w : World} {s : Sh} {cs : List Value} {x : s.T} (h : Own w s cs x S) {p : Addr} (hp : ¬ S p.block) (v : Value) : Own (w.setCell p v) s cs x S :=
  h.keep (by simp [World.setCell]) (fun k _ hk => Below.heap_setCell _ _ _ _ (fun e => hp (e ▸ hk)))

theorem OwnK.next {w w' : World} {e : Sh} {g m k : Nat} {l : List e.T} {S : Nat → Prop} {B : Nat → Nat → Prop} (h : OwnK w e g m k l S B) (hb : Below w.heap.size w w') : OwnK w' e g m k l S B := by
  refine ⟨Nat.lt_of_lt_of_le h.1 hb.size, h.2.1, h.2.2.1, h.2.2.2.1, h.2.2.2.2.1.below hb h.1, fun i hi hk => ?_⟩
  obtain ⟨ec, h1, h2, h3⟩ := h.2.2.2.2.2 i hi hk
  exact ⟨ec, h1, h2.same (hb.block g h.1), h3.next hb⟩
theorem OwnK.turn {w w' : World} {e : Sh} {g m k : Nat} {l : List e.T} {S S' : Nat → Prop} {B : Nat → Nat → Prop} (h : OwnK w e g m k l S B) (ht : TurnS S' w w') (ha : ∀ b, S b → ¬ S' b) : OwnK w' e g m k l S B := by
  refine ⟨Nat.lt_of_lt_of_le h.1 ht.size, h.2.1, h.2.2.1, h.2.2.2.1, h.2.2.2.2.1.same (ht.block h.1 (ha g h.2.1)), fun i hi hk => ?_⟩
  obtain ⟨ec, h1, h2, h3⟩ := h.2.2.2.2.2 i hi hk
  exact ⟨ec, h1, h2.same (ht.block h.1 (ha g h.2.1)), h3.turn ht (fun b hb => ha b (h.2.2.1 i hk b hb).1)⟩
theorem put_block {g : Nat} : ∀ (vs : List Value) (w : World) (o b : Nat), b ≠ g → (put w g o vs).heap[b]? = w.heap[b]?
  | [], _, _, _, _ => rfl
  | v :: vs, w, o, b, h => by rw [put, put_block vs _ (o + 1) b h]; exact Below.heap_setCell _ _ _ _ h
theorem mul_step {i k c : Nat} (h : i < k) : i * c + c ≤ k * c := by
  have := Nat.mul_le_mul_right c (show i + 1 ≤ k by omega)
  rw [Nat.add_mul, Nat.one_mul] at this; exact this
/-- One more element is laid. -/
theorem OwnK.more {w : World} {e : Sh} {g m k : Nat} {l : List e.T} {S S' Sk : Nat → Prop} {B : Nat → Nat → Prop} {ec : List Value} (h : OwnK w e g m k l S B) (hk : k < m) (hl : k < l.length) (hec : ec.length = e.c) (ho : Own w e ec l[k] Sk)
    (h1 : ∀ b, S b → S' b) (h2 : ∀ b, Sk b → S' b ∧ ¬ S b) : OwnK (put w g (k * e.c) ec) e g m (k + 1) l S' (fun i => if i = k then Sk else B i) := by
  have hz := put_size (g := g) ec w (k * e.c)
  refine ⟨by rw [hz]; exact h.1, h1 g h.2.1, upto_succ (fun i hi b hb => ?_) (fun b hb => ?_), fun i j hij hj b hb => ?_, put_room _ _ _ h.2.2.2.2.1 (by rw [hec]; exact mul_step hk), fun i hi hik => ?_⟩
  · have hb : B i b := by simpa [show ¬ i = k by omega] using hb
    exact ⟨h1 b (h.2.2.1 i hi b hb).1, (h.2.2.1 i hi b hb).2⟩
  · have hb : Sk b := by simpa using hb
    exact ⟨(h2 b hb).1, fun q => (h2 b hb).2 (q ▸ h.2.1)⟩
  · have hb : B i b := by simpa [show ¬ i = k by omega] using hb
    by_cases ej : j = k
    · simp only [if_pos ej]
      exact fun q => (h2 b q).2 (h.2.2.1 i (by omega) b hb).1
    · simp only [if_neg ej]
      exact h.2.2.2.1 i j hij (by omega) b hb
  · by_cases ei : i = k
    · subst ei
      simp only [if_true]
      refine ⟨ec, hec, fun j hj => ?_, ho.keep (by rw [hz]; exact Nat.le_refl _) (fun b _ hb => put_block _ _ _ _ (fun q => (h2 b hb).2 (q ▸ h.2.1)))⟩
      rw [List.getElem?_eq_getElem hj]
      exact put_in ec w (i * e.c) h.2.2.2.2.1 (by rw [hec]; exact mul_step hk) j _ (List.getElem?_eq_getElem hj)
    · simp only [if_neg ei]
      obtain ⟨fc, q1, q2, q3⟩ := h.2.2.2.2.2 i hi (by omega)
      refine ⟨fc, q1, fun j hj => ?_, q3.keep (by rw [hz]; exact Nat.le_refl _) (fun b _ hb => put_block _ _ _ _ (h.2.2.1 i (by omega) b hb).2)⟩
      have := mul_step (c := e.c) (show i < k by omega)
      rw [put_out _ _ _ _ (Or.inl (by omega))]
      exact q2 j hj
/-- One element has turned. -/
theorem OwnK.swap {w w' : World} {e : Sh} {g m n k : Nat} {l : List e.T} {S : Nat → Prop} {B : Nat → Nat → Prop} {y : e.T} {ec : List Value} (h : OwnK w e g m n l S B) (hk : k < n) (hz : w.heap.size ≤ w'.heap.size) (hR : Room w' g (m * e.c))
    (ho : ∀ q, q < k * e.c ∨ k * e.c + e.c ≤ q → w'.cell? ⟨g, q, none⟩ = w.cell? ⟨g, q, none⟩) (hT : ∀ b, b < w.heap.size → b ≠ g → ¬ B k b → w'.heap[b]? = w.heap[b]?) (hec : ec.length = e.c) (hc : Cells w' g (k * e.c) ec) (hy : Own w' e ec y (B k)) :
    OwnK w' e g m n (l.set k y) S B := by
  refine ⟨Nat.lt_of_lt_of_le h.1 hz, h.2.1, h.2.2.1, h.2.2.2.1, hR, fun i hi hin => ?_⟩
  rw [List.length_set] at hi
  by_cases ei : i = k
  · subst ei
    refine ⟨ec, hec, hc, ?_⟩
    rw [List.getElem_set_self]; exact hy
  · obtain ⟨fc, q1, q2, q3⟩ := h.2.2.2.2.2 i hi hin
    refine ⟨fc, q1, fun j hj => ?_, ?_⟩
    · rw [ho]
      · exact q2 j hj
      · rcases Nat.lt_or_ge i k with q | q
        · have := mul_step (c := e.c) q; omega
        · have := mul_step (c := e.c) (show k < i by omega); omega
    · rw [List.getElem_set_ne (fun q => ei q.symm)]
      refine q3.keep hz (fun b hb hB => hT b hb (h.2.2.1 i hin b hB).2 (fun q => ?_))
      rcases Nat.lt_or_ge i k with q' | q'
      · exact h.2.2.2.1 i k q' hk b hB q
      · exact h.2.2.2.1 k i (by omega) hin b q hB
/-- Blocks from lo on, below hi. -/
def Btw (lo hi b : Nat) : Prop := lo ≤ b ∧ b < hi

/-- How large a datum is, as the laws reckon it. -/
def szD : (s : Sh) → s.T → Nat
  | .int, _ => 0
  | .str, b => b.size
  | .bool, _ => 0
  | .nil, _ => 0
  | .pair a b, x => szD a x.1 + szD b x.2
  | .list e, l => l.length + (l.map (szD e)).sum
/-- Every list and text of it could be. -/
def Fits : (s : Sh) → s.T → Prop
  | .int, n => -9223372036854775808 ≤ n ∧ n ≤ 9223372036854775807
  | .str, b => b.size ≤ maxLen
  | .bool, _ => True
  | .nil, _ => True
  | .pair a b, x => Fits a x.1 ∧ Fits b x.2
  | .list e, l => l.length ≤ maxLen ∧ ∀ x, x ∈ l → Fits e x
theorem sz_mem {e : Sh} {l : List e.T} {x : e.T} (h : x ∈ l) : szD e x + 1 ≤ szD (.list e) l := by
  simp only [szD]
  induction l with
  | nil => cases h
  | cons y t ih =>
    simp only [List.map_cons, List.sum_cons, List.length_cons]
    rcases List.mem_cons.1 h with rfl | h
    · omega
    · have := ih h; omega
theorem sz_take {e : Sh} (l : List e.T) (k : Nat) (hk : k < l.length) : ((l.take (k + 1)).map (szD e)).sum = ((l.take k).map (szD e)).sum + szD e l[k] := by
  rw [List.take_succ_eq_append_getElem hk, List.map_append, List.sum_append]; simp
theorem sz_part {e : Sh} (l : List e.T) (k : Nat) : ((l.take k).map (szD e)).sum ≤ (l.map (szD e)).sum := by
  have := List.take_append_drop k l
  rw [← this, List.map_append, List.sum_append]
  simp
theorem sum_zero {α : Type} {f : α → Nat} (h : ∀ x, f x = 0) : ∀ l : List α, (l.map f).sum = 0
  | [] => rfl
  | x :: t => by rw [List.map_cons, List.sum_cons, h, sum_zero h t]
/-- What a size function answers: what is left, or less than nothing. -/
def SzP (l : Int) (n : Nat) (w : World) (r : Ending) (w' : World) : Prop := (∃ y : Int, r = .returned (.int .i64 y) ∧ ((y = -1 ∧ l < (n : Int)) ∨ (0 ≤ y ∧ y = l - (n : Int)))) ∧ Below w.heap.size w w'
theorem list_of1 {α : Type} {l : List α} (h : l.length = 1) : ∃ v0, l = [v0] := by
  match l, h with
  | [v0], _ => exact ⟨v0, rfl⟩
theorem list_of2 {α : Type} {l : List α} (h : l.length = 2) : ∃ v0 v1, l = [v0, v1] := by
  match l, h with
  | [v0, v1], _ => exact ⟨v0, v1, rfl⟩
theorem list_of3 {α : Type} {l : List α} (h : l.length = 3) : ∃ v0 v1 v2, l = [v0, v1, v2] := by
  match l, h with
  | [v0, v1, v2], _ => exact ⟨v0, v1, v2, rfl⟩
theorem list_of4 {α : Type} {l : List α} (h : l.length = 4) : ∃ v0 v1 v2 v3, l = [v0, v1, v2, v3] := by
  match l, h with
  | [v0, v1, v2, v3], _ => exact ⟨v0, v1, v2, v3, rfl⟩
theorem list_of5 {α : Type} {l : List α} (h : l.length = 5) : ∃ v0 v1 v2 v3 v4, l = [v0, v1, v2, v3, v4] := by
  match l, h with
  | [v0, v1, v2, v3, v4], _ => exact ⟨v0, v1, v2, v3, v4, rfl⟩
theorem list_of6 {α : Type} {l : List α} (h : l.length = 6) : ∃ v0 v1 v2 v3 v4 v5, l = [v0, v1, v2, v3, v4, v5] := by
  match l, h with
  | [v0, v1, v2, v3, v4, v5], _ => exact ⟨v0, v1, v2, v3, v4, v5, rfl⟩
theorem list_of7 {α : Type} {l : List α} (h : l.length = 7) : ∃ v0 v1 v2 v3 v4 v5 v6, l = [v0, v1, v2, v3, v4, v5, v6] := by
  match l, h with
  | [v0, v1, v2, v3, v4, v5, v6], _ => exact ⟨v0, v1, v2, v3, v4, v5, v6, rfl⟩
theorem list_of8 {α : Type} {l : List α} (h : l.length = 8) : ∃ v0 v1 v2 v3 v4 v5 v6 v7, l = [v0, v1, v2, v3, v4, v5, v6, v7] := by
  match l, h with
  | [v0, v1, v2, v3, v4, v5, v6, v7], _ => exact ⟨v0, v1, v2, v3, v4, v5, v6, v7, rfl⟩
theorem list_of9 {α : Type} {l : List α} (h : l.length = 9) : ∃ v0 v1 v2 v3 v4 v5 v6 v7 v8, l = [v0, v1, v2, v3, v4, v5, v6, v7, v8] := by
  match l, h with
  | [v0, v1, v2, v3, v4, v5, v6, v7, v8], _ => exact ⟨v0, v1, v2, v3, v4, v5, v6, v7, v8, rfl⟩
theorem list_of10 {α : Type} {l : List α} (h : l.length = 10) : ∃ v0 v1 v2 v3 v4 v5 v6 v7 v8 v9, l = [v0, v1, v2, v3, v4, v5, v6, v7, v8, v9] := by
  match l, h with
  | [v0, v1, v2, v3, v4, v5, v6, v7, v8, v9], _ => exact ⟨v0, v1, v2, v3, v4, v5, v6, v7, v8, v9, rfl⟩
theorem list_of11 {α : Type} {l : List α} (h : l.length = 11) : ∃ v0 v1 v2 v3 v4 v5 v6 v7 v8 v9 v10, l = [v0, v1, v2, v3, v4, v5, v6, v7, v8, v9, v10] := by
  match l, h with
  | [v0, v1, v2, v3, v4, v5, v6, v7, v8, v9, v10], _ => exact ⟨v0, v1, v2, v3, v4, v5, v6, v7, v8, v9, v10, rfl⟩
theorem list_of12 {α : Type} {l : List α} (h : l.length = 12) : ∃ v0 v1 v2 v3 v4 v5 v6 v7 v8 v9 v10 v11, l = [v0, v1, v2, v3, v4, v5, v6, v7, v8, v9, v10, v11] := by
  match l, h with
  | [v0, v1, v2, v3, v4, v5, v6, v7, v8, v9, v10, v11], _ => exact ⟨v0, v1, v2, v3, v4, v5, v6, v7, v8, v9, v10, v11, rfl⟩
end Go.Proofs.YtkpobihpcnoemaaDoor
