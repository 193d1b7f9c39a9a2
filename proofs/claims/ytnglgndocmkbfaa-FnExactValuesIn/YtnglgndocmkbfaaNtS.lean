/- Shapes of this chapter's types. Written by tools/nest.py. -/
import Derived.Test.YtnglgndocmkbfaaSh
namespace Go.Proofs.Ytnglgndocmkbfaa
open Go.RowKit
set_option linter.unusedVariables false
set_option linter.unusedSimpArgs false

def shCounter : Sh := .pair (.list .int) (.pair (.list .int) .nil)
theorem lies_Counter {w : World} {cs : List Value} {x0 : List (Sh.T .int)} {x1 : List (Sh.T .int)} (h : Lies w shCounter cs (x0, x1, ())) : ∃ (a1 : Option Addr) (k1 : Nat), ∃ (a2 : Option Addr) (k2 : Nat), cs = [.slice a1 x0.length k1, .slice a2 x1.length k2] ∧ Lies w (.list .int) [.slice a1 x0.length k1] x0 ∧ Lies w (.list .int) [.slice a2 x1.length k2] x1 := by
  obtain ⟨_, _, rfl, h1, ⟨_, _, rfl, h2, rfl⟩⟩ := h
  obtain ⟨a1, k1, rfl, q1⟩ := h1
  obtain ⟨a2, k2, rfl, q2⟩ := h2
  exact ⟨a1, k1, a2, k2, rfl, ⟨a1, k1, rfl, q1⟩, ⟨a2, k2, rfl, q2⟩⟩
theorem mk_Counter {w : World} {a1 : Option Addr} {n1 k1 : Nat} {a2 : Option Addr} {n2 k2 : Nat} {x0 : List (Sh.T .int)} {x1 : List (Sh.T .int)} (h1 : Lies w (.list .int) [.slice a1 n1 k1] x0) (h2 : Lies w (.list .int) [.slice a2 n2 k2] x1) : Lies w shCounter [.slice a1 n1 k1, .slice a2 n2 k2] (x0, x1, ()) := ⟨_, _, rfl, h1, ⟨_, _, rfl, h2, rfl⟩⟩
theorem own_Counter {w : World} {cs : List Value} {x0 : List (Sh.T .int)} {x1 : List (Sh.T .int)} {S : Nat → Prop} (h : Own w shCounter cs (x0, x1, ()) S) : ∃ (a1 : Option Addr) (k1 : Nat) (S1 : Nat → Prop), ∃ (a2 : Option Addr) (k2 : Nat) (S2 : Nat → Prop), cs = [.slice a1 x0.length k1, .slice a2 x1.length k2] ∧ Own w (.list .int) [.slice a1 x0.length k1] x0 S1 ∧ Own w (.list .int) [.slice a2 x1.length k2] x1 S2 ∧ (∀ k, S1 k → S k) ∧ (∀ k, S2 k → S k) ∧ (∀ k, S1 k → ¬ S2 k) := by
  obtain ⟨_, _, s1, t1, rfl, H1, ⟨_, _, s2, t2, rfl, H2, rfl, d2, u2⟩, d1, u1⟩ := h
  obtain ⟨a1, k1, rfl⟩ := own_form H1
  obtain ⟨a2, k2, rfl⟩ := own_form H2
  exact ⟨a1, k1, s1, a2, k2, s2, rfl, H1, H2, fun k e => (u1 _ (Or.inl e)), fun k e => (u1 _ (Or.inr (u2 _ (Or.inl e)))), fun k e f => d1 k e (u2 _ (Or.inl f))⟩
theorem mkown_Counter {w : World} {a1 : Option Addr} {n1 k1 : Nat} {S1 : Nat → Prop} {a2 : Option Addr} {n2 k2 : Nat} {S2 : Nat → Prop} {x0 : List (Sh.T .int)} {x1 : List (Sh.T .int)} {S : Nat → Prop} (h1 : Own w (.list .int) [.slice a1 n1 k1] x0 S1) (h2 : Own w (.list .int) [.slice a2 n2 k2] x1 S2) (e1 : ∀ k, S1 k → S k) (e2 : ∀ k, S2 k → S k) (d1_2 : ∀ k, S1 k → ¬ S2 k) : Own w shCounter [.slice a1 n1 k1, .slice a2 n2 k2] (x0, x1, ()) S := ⟨_, _, S1, fun k => S2 k ∨ False, rfl, h1, ⟨_, _, S2, fun k => False, rfl, h2, rfl, (by intro k g h; (repeat' (rcases h with h | h)) <;> (first | exact h.elim | exact d1_2 k g h)), fun _ h => h⟩, (by intro k g h; (repeat' (rcases h with h | h)) <;> (first | exact h.elim | exact d1_2 k g h)), (by intro k h; (repeat' (rcases h with h | h)) <;> (first | exact h.elim | exact e1 k h | exact e2 k h))⟩
def shLatest : Sh := .pair .str (.pair .int (.pair .int .nil))
theorem lies_Latest {w : World} {cs : List Value} {x0 : ByteArray} {x1 : Int} {x2 : Int} (h : Lies w shLatest cs (x0, x1, x2, ())) : cs = [.string x0, .int .i64 x1, .int .i64 x2] := by
  obtain ⟨_, _, rfl, rfl, ⟨_, _, rfl, rfl, ⟨_, _, rfl, rfl, rfl⟩⟩⟩ := h
  exact rfl
theorem mk_Latest {w : World} {x0 : ByteArray} {x1 : Int} {x2 : Int} : Lies w shLatest [.string x0, .int .i64 x1, .int .i64 x2] (x0, x1, x2, ()) := ⟨_, _, rfl, rfl, ⟨_, _, rfl, rfl, ⟨_, _, rfl, rfl, rfl⟩⟩⟩
theorem own_Latest {w : World} {cs : List Value} {x0 : ByteArray} {x1 : Int} {x2 : Int} {S : Nat → Prop} (h : Own w shLatest cs (x0, x1, x2, ()) S) : cs = [.string x0, .int .i64 x1, .int .i64 x2] := by
  obtain ⟨_, _, s1, t1, rfl, rfl, ⟨_, _, s2, t2, rfl, rfl, ⟨_, _, s3, t3, rfl, rfl, rfl, d3, u3⟩, d2, u2⟩, d1, u1⟩ := h
  exact rfl
theorem mkown_Latest {w : World} {x0 : ByteArray} {x1 : Int} {x2 : Int} {S : Nat → Prop} : Own w shLatest [.string x0, .int .i64 x1, .int .i64 x2] (x0, x1, x2, ()) S := ⟨_, _, fun k => False, fun k => False ∨ False ∨ False, rfl, rfl, ⟨_, _, fun k => False, fun k => False ∨ False, rfl, rfl, ⟨_, _, fun k => False, fun k => False, rfl, rfl, rfl, fun k g _ => g.elim, fun _ h => h⟩, fun k g _ => g.elim, fun _ h => h⟩, fun k g _ => g.elim, (by intro k h; (repeat' (rcases h with h | h)) <;> (first | exact h.elim))⟩
def shAdd : Sh := .pair .str (.pair .int (.pair .int .nil))
theorem lies_Add {w : World} {cs : List Value} {x0 : ByteArray} {x1 : Int} {x2 : Int} (h : Lies w shAdd cs (x0, x1, x2, ())) : cs = [.string x0, .int .i64 x1, .int .i64 x2] := by
  obtain ⟨_, _, rfl, rfl, ⟨_, _, rfl, rfl, ⟨_, _, rfl, rfl, rfl⟩⟩⟩ := h
  exact rfl
theorem mk_Add {w : World} {x0 : ByteArray} {x1 : Int} {x2 : Int} : Lies w shAdd [.string x0, .int .i64 x1, .int .i64 x2] (x0, x1, x2, ()) := ⟨_, _, rfl, rfl, ⟨_, _, rfl, rfl, ⟨_, _, rfl, rfl, rfl⟩⟩⟩
theorem own_Add {w : World} {cs : List Value} {x0 : ByteArray} {x1 : Int} {x2 : Int} {S : Nat → Prop} (h : Own w shAdd cs (x0, x1, x2, ()) S) : cs = [.string x0, .int .i64 x1, .int .i64 x2] := by
  obtain ⟨_, _, s1, t1, rfl, rfl, ⟨_, _, s2, t2, rfl, rfl, ⟨_, _, s3, t3, rfl, rfl, rfl, d3, u3⟩, d2, u2⟩, d1, u1⟩ := h
  exact rfl
theorem mkown_Add {w : World} {x0 : ByteArray} {x1 : Int} {x2 : Int} {S : Nat → Prop} : Own w shAdd [.string x0, .int .i64 x1, .int .i64 x2] (x0, x1, x2, ()) S := ⟨_, _, fun k => False, fun k => False ∨ False ∨ False, rfl, rfl, ⟨_, _, fun k => False, fun k => False ∨ False, rfl, rfl, ⟨_, _, fun k => False, fun k => False, rfl, rfl, rfl, fun k g _ => g.elim, fun _ h => h⟩, fun k g _ => g.elim, fun _ h => h⟩, fun k g _ => g.elim, (by intro k h; (repeat' (rcases h with h | h)) <;> (first | exact h.elim))⟩
def shBag : Sh := .pair (.list shAdd) (.pair (.list shAdd) .nil)
theorem lies_Bag {w : World} {cs : List Value} {x0 : List (Sh.T shAdd)} {x1 : List (Sh.T shAdd)} (h : Lies w shBag cs (x0, x1, ())) : ∃ (a1 : Option Addr) (k1 : Nat), ∃ (a2 : Option Addr) (k2 : Nat), cs = [.slice a1 x0.length k1, .slice a2 x1.length k2] ∧ Lies w (.list shAdd) [.slice a1 x0.length k1] x0 ∧ Lies w (.list shAdd) [.slice a2 x1.length k2] x1 := by
  obtain ⟨_, _, rfl, h1, ⟨_, _, rfl, h2, rfl⟩⟩ := h
  obtain ⟨a1, k1, rfl, q1⟩ := h1
  obtain ⟨a2, k2, rfl, q2⟩ := h2
  exact ⟨a1, k1, a2, k2, rfl, ⟨a1, k1, rfl, q1⟩, ⟨a2, k2, rfl, q2⟩⟩
theorem mk_Bag {w : World} {a1 : Option Addr} {n1 k1 : Nat} {a2 : Option Addr} {n2 k2 : Nat} {x0 : List (Sh.T shAdd)} {x1 : List (Sh.T shAdd)} (h1 : Lies w (.list shAdd) [.slice a1 n1 k1] x0) (h2 : Lies w (.list shAdd) [.slice a2 n2 k2] x1) : Lies w shBag [.slice a1 n1 k1, .slice a2 n2 k2] (x0, x1, ()) := ⟨_, _, rfl, h1, ⟨_, _, rfl, h2, rfl⟩⟩
theorem own_Bag {w : World} {cs : List Value} {x0 : List (Sh.T shAdd)} {x1 : List (Sh.T shAdd)} {S : Nat → Prop} (h : Own w shBag cs (x0, x1, ()) S) : ∃ (a1 : Option Addr) (k1 : Nat) (S1 : Nat → Prop), ∃ (a2 : Option Addr) (k2 : Nat) (S2 : Nat → Prop), cs = [.slice a1 x0.length k1, .slice a2 x1.length k2] ∧ Own w (.list shAdd) [.slice a1 x0.length k1] x0 S1 ∧ Own w (.list shAdd) [.slice a2 x1.length k2] x1 S2 ∧ (∀ k, S1 k → S k) ∧ (∀ k, S2 k → S k) ∧ (∀ k, S1 k → ¬ S2 k) := by
  obtain ⟨_, _, s1, t1, rfl, H1, ⟨_, _, s2, t2, rfl, H2, rfl, d2, u2⟩, d1, u1⟩ := h
  obtain ⟨a1, k1, rfl⟩ := own_form H1
  obtain ⟨a2, k2, rfl⟩ := own_form H2
  exact ⟨a1, k1, s1, a2, k2, s2, rfl, H1, H2, fun k e => (u1 _ (Or.inl e)), fun k e => (u1 _ (Or.inr (u2 _ (Or.inl e)))), fun k e f => d1 k e (u2 _ (Or.inl f))⟩
theorem mkown_Bag {w : World} {a1 : Option Addr} {n1 k1 : Nat} {S1 : Nat → Prop} {a2 : Option Addr} {n2 k2 : Nat} {S2 : Nat → Prop} {x0 : List (Sh.T shAdd)} {x1 : List (Sh.T shAdd)} {S : Nat → Prop} (h1 : Own w (.list shAdd) [.slice a1 n1 k1] x0 S1) (h2 : Own w (.list shAdd) [.slice a2 n2 k2] x1 S2) (e1 : ∀ k, S1 k → S k) (e2 : ∀ k, S2 k → S k) (d1_2 : ∀ k, S1 k → ¬ S2 k) : Own w shBag [.slice a1 n1 k1, .slice a2 n2 k2] (x0, x1, ()) S := ⟨_, _, S1, fun k => S2 k ∨ False, rfl, h1, ⟨_, _, S2, fun k => False, rfl, h2, rfl, (by intro k g h; (repeat' (rcases h with h | h)) <;> (first | exact h.elim | exact d1_2 k g h)), fun _ h => h⟩, (by intro k g h; (repeat' (rcases h with h | h)) <;> (first | exact h.elim | exact d1_2 k g h)), (by intro k h; (repeat' (rcases h with h | h)) <;> (first | exact h.elim | exact e1 k h | exact e2 k h))⟩
end Go.Proofs.Ytnglgndocmkbfaa
