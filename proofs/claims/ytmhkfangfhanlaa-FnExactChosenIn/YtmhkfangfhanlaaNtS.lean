/- Shapes of this chapter's types. Written by tools/nest.py. -/
import Derived.Test.YtmhkfangfhanlaaSh
namespace Go.Proofs.Ytmhkfangfhanlaa
open Go.RowKit
set_option linter.unusedVariables false
set_option linter.unusedSimpArgs false

def shAcceptor : Sh := .pair .int (.pair .int (.pair .str .nil))
theorem lies_Acceptor {w : World} {cs : List Value} {x0 : Int} {x1 : Int} {x2 : ByteArray} (h : Lies w shAcceptor cs (x0, x1, x2, ())) : cs = [.int .i64 x0, .int .i64 x1, .string x2] := by
  obtain ⟨_, _, rfl, rfl, ⟨_, _, rfl, rfl, ⟨_, _, rfl, rfl, rfl⟩⟩⟩ := h
  exact rfl
theorem mk_Acceptor {w : World} {x0 : Int} {x1 : Int} {x2 : ByteArray} : Lies w shAcceptor [.int .i64 x0, .int .i64 x1, .string x2] (x0, x1, x2, ()) := ⟨_, _, rfl, rfl, ⟨_, _, rfl, rfl, ⟨_, _, rfl, rfl, rfl⟩⟩⟩
theorem own_Acceptor {w : World} {cs : List Value} {x0 : Int} {x1 : Int} {x2 : ByteArray} {S : Nat → Prop} (h : Own w shAcceptor cs (x0, x1, x2, ()) S) : cs = [.int .i64 x0, .int .i64 x1, .string x2] := by
  obtain ⟨_, _, s1, t1, rfl, rfl, ⟨_, _, s2, t2, rfl, rfl, ⟨_, _, s3, t3, rfl, rfl, rfl, d3, u3⟩, d2, u2⟩, d1, u1⟩ := h
  exact rfl
theorem mkown_Acceptor {w : World} {x0 : Int} {x1 : Int} {x2 : ByteArray} {S : Nat → Prop} : Own w shAcceptor [.int .i64 x0, .int .i64 x1, .string x2] (x0, x1, x2, ()) S := ⟨_, _, fun k => False, fun k => False ∨ False ∨ False, rfl, rfl, ⟨_, _, fun k => False, fun k => False ∨ False, rfl, rfl, ⟨_, _, fun k => False, fun k => False, rfl, rfl, rfl, fun k g _ => g.elim, fun _ h => h⟩, fun k g _ => g.elim, fun _ h => h⟩, fun k g _ => g.elim, (by intro k h; (repeat' (rcases h with h | h)) <;> (first | exact h.elim))⟩
def shPromise : Sh := .pair .int (.pair .int (.pair .str .nil))
theorem lies_Promise {w : World} {cs : List Value} {x0 : Int} {x1 : Int} {x2 : ByteArray} (h : Lies w shPromise cs (x0, x1, x2, ())) : cs = [.int .i64 x0, .int .i64 x1, .string x2] := by
  obtain ⟨_, _, rfl, rfl, ⟨_, _, rfl, rfl, ⟨_, _, rfl, rfl, rfl⟩⟩⟩ := h
  exact rfl
theorem mk_Promise {w : World} {x0 : Int} {x1 : Int} {x2 : ByteArray} : Lies w shPromise [.int .i64 x0, .int .i64 x1, .string x2] (x0, x1, x2, ()) := ⟨_, _, rfl, rfl, ⟨_, _, rfl, rfl, ⟨_, _, rfl, rfl, rfl⟩⟩⟩
theorem own_Promise {w : World} {cs : List Value} {x0 : Int} {x1 : Int} {x2 : ByteArray} {S : Nat → Prop} (h : Own w shPromise cs (x0, x1, x2, ()) S) : cs = [.int .i64 x0, .int .i64 x1, .string x2] := by
  obtain ⟨_, _, s1, t1, rfl, rfl, ⟨_, _, s2, t2, rfl, rfl, ⟨_, _, s3, t3, rfl, rfl, rfl, d3, u3⟩, d2, u2⟩, d1, u1⟩ := h
  exact rfl
theorem mkown_Promise {w : World} {x0 : Int} {x1 : Int} {x2 : ByteArray} {S : Nat → Prop} : Own w shPromise [.int .i64 x0, .int .i64 x1, .string x2] (x0, x1, x2, ()) S := ⟨_, _, fun k => False, fun k => False ∨ False ∨ False, rfl, rfl, ⟨_, _, fun k => False, fun k => False ∨ False, rfl, rfl, ⟨_, _, fun k => False, fun k => False, rfl, rfl, rfl, fun k g _ => g.elim, fun _ h => h⟩, fun k g _ => g.elim, fun _ h => h⟩, fun k g _ => g.elim, (by intro k h; (repeat' (rcases h with h | h)) <;> (first | exact h.elim))⟩
def shProposer : Sh := .pair .str (.pair (.list shPromise) (.pair .bool (.pair .str (.pair (.list .int) .nil))))
theorem lies_Proposer {w : World} {cs : List Value} {x0 : ByteArray} {x1 : List (Sh.T shPromise)} {x2 : Bool} {x3 : ByteArray} {x4 : List (Sh.T .int)} (h : Lies w shProposer cs (x0, x1, x2, x3, x4, ())) : ∃ (a1 : Option Addr) (k1 : Nat), ∃ (a2 : Option Addr) (k2 : Nat), cs = [.string x0, .slice a1 x1.length k1, .bool x2, .string x3, .slice a2 x4.length k2] ∧ Lies w (.list shPromise) [.slice a1 x1.length k1] x1 ∧ Lies w (.list .int) [.slice a2 x4.length k2] x4 := by
  obtain ⟨_, _, rfl, rfl, ⟨_, _, rfl, h1, ⟨_, _, rfl, rfl, ⟨_, _, rfl, rfl, ⟨_, _, rfl, h2, rfl⟩⟩⟩⟩⟩ := h
  obtain ⟨a1, k1, rfl, q1⟩ := h1
  obtain ⟨a2, k2, rfl, q2⟩ := h2
  exact ⟨a1, k1, a2, k2, rfl, ⟨a1, k1, rfl, q1⟩, ⟨a2, k2, rfl, q2⟩⟩
theorem mk_Proposer {w : World} {a1 : Option Addr} {n1 k1 : Nat} {a2 : Option Addr} {n2 k2 : Nat} {x0 : ByteArray} {x1 : List (Sh.T shPromise)} {x2 : Bool} {x3 : ByteArray} {x4 : List (Sh.T .int)} (h1 : Lies w (.list shPromise) [.slice a1 n1 k1] x1) (h2 : Lies w (.list .int) [.slice a2 n2 k2] x4) : Lies w shProposer [.string x0, .slice a1 n1 k1, .bool x2, .string x3, .slice a2 n2 k2] (x0, x1, x2, x3, x4, ()) := ⟨_, _, rfl, rfl, ⟨_, _, rfl, h1, ⟨_, _, rfl, rfl, ⟨_, _, rfl, rfl, ⟨_, _, rfl, h2, rfl⟩⟩⟩⟩⟩
theorem own_Proposer {w : World} {cs : List Value} {x0 : ByteArray} {x1 : List (Sh.T shPromise)} {x2 : Bool} {x3 : ByteArray} {x4 : List (Sh.T .int)} {S : Nat → Prop} (h : Own w shProposer cs (x0, x1, x2, x3, x4, ()) S) : ∃ (a1 : Option Addr) (k1 : Nat) (S1 : Nat → Prop), ∃ (a2 : Option Addr) (k2 : Nat) (S2 : Nat → Prop), cs = [.string x0, .slice a1 x1.length k1, .bool x2, .string x3, .slice a2 x4.length k2] ∧ Own w (.list shPromise) [.slice a1 x1.length k1] x1 S1 ∧ Own w (.list .int) [.slice a2 x4.length k2] x4 S2 ∧ (∀ k, S1 k → S k) ∧ (∀ k, S2 k → S k) ∧ (∀ k, S1 k → ¬ S2 k) := by
  obtain ⟨_, _, s1, t1, rfl, rfl, ⟨_, _, s2, t2, rfl, H2, ⟨_, _, s3, t3, rfl, rfl, ⟨_, _, s4, t4, rfl, rfl, ⟨_, _, s5, t5, rfl, H5, rfl, d5, u5⟩, d4, u4⟩, d3, u3⟩, d2, u2⟩, d1, u1⟩ := h
  obtain ⟨a1, k1, rfl⟩ := own_form H2
  obtain ⟨a2, k2, rfl⟩ := own_form H5
  exact ⟨a1, k1, s2, a2, k2, s5, rfl, H2, H5, fun k e => (u1 _ (Or.inr (u2 _ (Or.inl e)))), fun k e => (u1 _ (Or.inr (u2 _ (Or.inr (u3 _ (Or.inr (u4 _ (Or.inr (u5 _ (Or.inl e)))))))))), fun k e f => d2 k e (u3 _ (Or.inr (u4 _ (Or.inr (u5 _ (Or.inl f))))))⟩
theorem mkown_Proposer {w : World} {a1 : Option Addr} {n1 k1 : Nat} {S1 : Nat → Prop} {a2 : Option Addr} {n2 k2 : Nat} {S2 : Nat → Prop} {x0 : ByteArray} {x1 : List (Sh.T shPromise)} {x2 : Bool} {x3 : ByteArray} {x4 : List (Sh.T .int)} {S : Nat → Prop} (h1 : Own w (.list shPromise) [.slice a1 n1 k1] x1 S1) (h2 : Own w (.list .int) [.slice a2 n2 k2] x4 S2) (e1 : ∀ k, S1 k → S k) (e2 : ∀ k, S2 k → S k) (d1_2 : ∀ k, S1 k → ¬ S2 k) : Own w shProposer [.string x0, .slice a1 n1 k1, .bool x2, .string x3, .slice a2 n2 k2] (x0, x1, x2, x3, x4, ()) S := ⟨_, _, fun k => False, fun k => S1 k ∨ False ∨ False ∨ S2 k ∨ False, rfl, rfl, ⟨_, _, S1, fun k => False ∨ False ∨ S2 k ∨ False, rfl, h1, ⟨_, _, fun k => False, fun k => False ∨ S2 k ∨ False, rfl, rfl, ⟨_, _, fun k => False, fun k => S2 k ∨ False, rfl, rfl, ⟨_, _, S2, fun k => False, rfl, h2, rfl, (by intro k g h; (repeat' (rcases h with h | h)) <;> (first | exact h.elim | exact d1_2 k g h)), fun _ h => h⟩, fun k g _ => g.elim, fun _ h => h⟩, fun k g _ => g.elim, fun _ h => h⟩, (by intro k g h; (repeat' (rcases h with h | h)) <;> (first | exact h.elim | exact d1_2 k g h)), fun _ h => h⟩, fun k g _ => g.elim, (by intro k h; (repeat' (rcases h with h | h)) <;> (first | exact h.elim | exact e1 k h | exact e2 k h))⟩
def shSynod : Sh := .pair (.list shAcceptor) (.pair (.list shProposer) .nil)
theorem lies_Synod {w : World} {cs : List Value} {x0 : List (Sh.T shAcceptor)} {x1 : List (Sh.T shProposer)} (h : Lies w shSynod cs (x0, x1, ())) : ∃ (a1 : Option Addr) (k1 : Nat), ∃ (a2 : Option Addr) (k2 : Nat), cs = [.slice a1 x0.length k1, .slice a2 x1.length k2] ∧ Lies w (.list shAcceptor) [.slice a1 x0.length k1] x0 ∧ Lies w (.list shProposer) [.slice a2 x1.length k2] x1 := by
  obtain ⟨_, _, rfl, h1, ⟨_, _, rfl, h2, rfl⟩⟩ := h
  obtain ⟨a1, k1, rfl, q1⟩ := h1
  obtain ⟨a2, k2, rfl, q2⟩ := h2
  exact ⟨a1, k1, a2, k2, rfl, ⟨a1, k1, rfl, q1⟩, ⟨a2, k2, rfl, q2⟩⟩
theorem mk_Synod {w : World} {a1 : Option Addr} {n1 k1 : Nat} {a2 : Option Addr} {n2 k2 : Nat} {x0 : List (Sh.T shAcceptor)} {x1 : List (Sh.T shProposer)} (h1 : Lies w (.list shAcceptor) [.slice a1 n1 k1] x0) (h2 : Lies w (.list shProposer) [.slice a2 n2 k2] x1) : Lies w shSynod [.slice a1 n1 k1, .slice a2 n2 k2] (x0, x1, ()) := ⟨_, _, rfl, h1, ⟨_, _, rfl, h2, rfl⟩⟩
theorem own_Synod {w : World} {cs : List Value} {x0 : List (Sh.T shAcceptor)} {x1 : List (Sh.T shProposer)} {S : Nat → Prop} (h : Own w shSynod cs (x0, x1, ()) S) : ∃ (a1 : Option Addr) (k1 : Nat) (S1 : Nat → Prop), ∃ (a2 : Option Addr) (k2 : Nat) (S2 : Nat → Prop), cs = [.slice a1 x0.length k1, .slice a2 x1.length k2] ∧ Own w (.list shAcceptor) [.slice a1 x0.length k1] x0 S1 ∧ Own w (.list shProposer) [.slice a2 x1.length k2] x1 S2 ∧ (∀ k, S1 k → S k) ∧ (∀ k, S2 k → S k) ∧ (∀ k, S1 k → ¬ S2 k) := by
  obtain ⟨_, _, s1, t1, rfl, H1, ⟨_, _, s2, t2, rfl, H2, rfl, d2, u2⟩, d1, u1⟩ := h
  obtain ⟨a1, k1, rfl⟩ := own_form H1
  obtain ⟨a2, k2, rfl⟩ := own_form H2
  exact ⟨a1, k1, s1, a2, k2, s2, rfl, H1, H2, fun k e => (u1 _ (Or.inl e)), fun k e => (u1 _ (Or.inr (u2 _ (Or.inl e)))), fun k e f => d1 k e (u2 _ (Or.inl f))⟩
theorem mkown_Synod {w : World} {a1 : Option Addr} {n1 k1 : Nat} {S1 : Nat → Prop} {a2 : Option Addr} {n2 k2 : Nat} {S2 : Nat → Prop} {x0 : List (Sh.T shAcceptor)} {x1 : List (Sh.T shProposer)} {S : Nat → Prop} (h1 : Own w (.list shAcceptor) [.slice a1 n1 k1] x0 S1) (h2 : Own w (.list shProposer) [.slice a2 n2 k2] x1 S2) (e1 : ∀ k, S1 k → S k) (e2 : ∀ k, S2 k → S k) (d1_2 : ∀ k, S1 k → ¬ S2 k) : Own w shSynod [.slice a1 n1 k1, .slice a2 n2 k2] (x0, x1, ()) S := ⟨_, _, S1, fun k => S2 k ∨ False, rfl, h1, ⟨_, _, S2, fun k => False, rfl, h2, rfl, (by intro k g h; (repeat' (rcases h with h | h)) <;> (first | exact h.elim | exact d1_2 k g h)), fun _ h => h⟩, (by intro k g h; (repeat' (rcases h with h | h)) <;> (first | exact h.elim | exact d1_2 k g h)), (by intro k h; (repeat' (rcases h with h | h)) <;> (first | exact h.elim | exact e1 k h | exact e2 k h))⟩
def shSynodStep : Sh := .pair .bool (.pair .int (.pair .int .nil))
theorem lies_SynodStep {w : World} {cs : List Value} {x0 : Bool} {x1 : Int} {x2 : Int} (h : Lies w shSynodStep cs (x0, x1, x2, ())) : cs = [.bool x0, .int .i64 x1, .int .i64 x2] := by
  obtain ⟨_, _, rfl, rfl, ⟨_, _, rfl, rfl, ⟨_, _, rfl, rfl, rfl⟩⟩⟩ := h
  exact rfl
theorem mk_SynodStep {w : World} {x0 : Bool} {x1 : Int} {x2 : Int} : Lies w shSynodStep [.bool x0, .int .i64 x1, .int .i64 x2] (x0, x1, x2, ()) := ⟨_, _, rfl, rfl, ⟨_, _, rfl, rfl, ⟨_, _, rfl, rfl, rfl⟩⟩⟩
theorem own_SynodStep {w : World} {cs : List Value} {x0 : Bool} {x1 : Int} {x2 : Int} {S : Nat → Prop} (h : Own w shSynodStep cs (x0, x1, x2, ()) S) : cs = [.bool x0, .int .i64 x1, .int .i64 x2] := by
  obtain ⟨_, _, s1, t1, rfl, rfl, ⟨_, _, s2, t2, rfl, rfl, ⟨_, _, s3, t3, rfl, rfl, rfl, d3, u3⟩, d2, u2⟩, d1, u1⟩ := h
  exact rfl
theorem mkown_SynodStep {w : World} {x0 : Bool} {x1 : Int} {x2 : Int} {S : Nat → Prop} : Own w shSynodStep [.bool x0, .int .i64 x1, .int .i64 x2] (x0, x1, x2, ()) S := ⟨_, _, fun k => False, fun k => False ∨ False ∨ False, rfl, rfl, ⟨_, _, fun k => False, fun k => False ∨ False, rfl, rfl, ⟨_, _, fun k => False, fun k => False, rfl, rfl, rfl, fun k g _ => g.elim, fun _ h => h⟩, fun k g _ => g.elim, fun _ h => h⟩, fun k g _ => g.elim, (by intro k h; (repeat' (rcases h with h | h)) <;> (first | exact h.elim))⟩
end Go.Proofs.Ytmhkfangfhanlaa
