/- Shapes of this chapter's types. Written by tools/nest.py. -/
import Derived.Test.YtcbdlalpnlahcaaMgA
namespace Go.Proofs.Ytcbdlalpnlahcaa
open Go.RowKit
set_option linter.unusedVariables false
set_option linter.unusedSimpArgs false

def shMember : Sh := .pair .int (.pair .int (.pair (.list .int) (.pair .int .nil)))
theorem lies_Member {w : World} {cs : List Value} {x0 : Int} {x1 : Int} {x2 : List (Sh.T .int)} {x3 : Int} (h : Lies w shMember cs (x0, x1, x2, x3, ())) : ∃ (a1 : Option Addr) (k1 : Nat), cs = [.int .i64 x0, .int .i64 x1, .slice a1 x2.length k1, .int .i64 x3] ∧ Lies w (.list .int) [.slice a1 x2.length k1] x2 := by
  obtain ⟨_, _, rfl, rfl, ⟨_, _, rfl, rfl, ⟨_, _, rfl, h1, ⟨_, _, rfl, rfl, rfl⟩⟩⟩⟩ := h
  obtain ⟨a1, k1, rfl, q1⟩ := h1
  exact ⟨a1, k1, rfl, ⟨a1, k1, rfl, q1⟩⟩
theorem mk_Member {w : World} {a1 : Option Addr} {n1 k1 : Nat} {x0 : Int} {x1 : Int} {x2 : List (Sh.T .int)} {x3 : Int} (h1 : Lies w (.list .int) [.slice a1 n1 k1] x2) : Lies w shMember [.int .i64 x0, .int .i64 x1, .slice a1 n1 k1, .int .i64 x3] (x0, x1, x2, x3, ()) := ⟨_, _, rfl, rfl, ⟨_, _, rfl, rfl, ⟨_, _, rfl, h1, ⟨_, _, rfl, rfl, rfl⟩⟩⟩⟩
theorem own_Member {w : World} {cs : List Value} {x0 : Int} {x1 : Int} {x2 : List (Sh.T .int)} {x3 : Int} {S : Nat → Prop} (h : Own w shMember cs (x0, x1, x2, x3, ()) S) : ∃ (a1 : Option Addr) (k1 : Nat) (S1 : Nat → Prop), cs = [.int .i64 x0, .int .i64 x1, .slice a1 x2.length k1, .int .i64 x3] ∧ Own w (.list .int) [.slice a1 x2.length k1] x2 S1 ∧ (∀ k, S1 k → S k) := by
  obtain ⟨_, _, s1, t1, rfl, rfl, ⟨_, _, s2, t2, rfl, rfl, ⟨_, _, s3, t3, rfl, H3, ⟨_, _, s4, t4, rfl, rfl, rfl, d4, u4⟩, d3, u3⟩, d2, u2⟩, d1, u1⟩ := h
  obtain ⟨a1, k1, rfl⟩ := own_form H3
  exact ⟨a1, k1, s3, rfl, H3, fun k e => (u1 _ (Or.inr (u2 _ (Or.inr (u3 _ (Or.inl e))))))⟩
theorem mkown_Member {w : World} {a1 : Option Addr} {n1 k1 : Nat} {S1 : Nat → Prop} {x0 : Int} {x1 : Int} {x2 : List (Sh.T .int)} {x3 : Int} {S : Nat → Prop} (h1 : Own w (.list .int) [.slice a1 n1 k1] x2 S1) (e1 : ∀ k, S1 k → S k) : Own w shMember [.int .i64 x0, .int .i64 x1, .slice a1 n1 k1, .int .i64 x3] (x0, x1, x2, x3, ()) S := ⟨_, _, fun k => False, fun k => False ∨ S1 k ∨ False ∨ False, rfl, rfl, ⟨_, _, fun k => False, fun k => S1 k ∨ False ∨ False, rfl, rfl, ⟨_, _, S1, fun k => False ∨ False, rfl, h1, ⟨_, _, fun k => False, fun k => False, rfl, rfl, rfl, fun k g _ => g.elim, fun _ h => h⟩, (by intro k g h; (repeat' (rcases h with h | h)) <;> (first | exact h.elim)), fun _ h => h⟩, fun k g _ => g.elim, fun _ h => h⟩, fun k g _ => g.elim, (by intro k h; (repeat' (rcases h with h | h)) <;> (first | exact h.elim | exact e1 k h))⟩
def shFence : Sh := .pair .int (.pair .int (.pair (.list shMember) (.pair (.list .int) .nil)))
theorem lies_Fence {w : World} {cs : List Value} {x0 : Int} {x1 : Int} {x2 : List (Sh.T shMember)} {x3 : List (Sh.T .int)} (h : Lies w shFence cs (x0, x1, x2, x3, ())) : ∃ (a1 : Option Addr) (k1 : Nat), ∃ (a2 : Option Addr) (k2 : Nat), cs = [.int .i64 x0, .int .i64 x1, .slice a1 x2.length k1, .slice a2 x3.length k2] ∧ Lies w (.list shMember) [.slice a1 x2.length k1] x2 ∧ Lies w (.list .int) [.slice a2 x3.length k2] x3 := by
  obtain ⟨_, _, rfl, rfl, ⟨_, _, rfl, rfl, ⟨_, _, rfl, h1, ⟨_, _, rfl, h2, rfl⟩⟩⟩⟩ := h
  obtain ⟨a1, k1, rfl, q1⟩ := h1
  obtain ⟨a2, k2, rfl, q2⟩ := h2
  exact ⟨a1, k1, a2, k2, rfl, ⟨a1, k1, rfl, q1⟩, ⟨a2, k2, rfl, q2⟩⟩
theorem mk_Fence {w : World} {a1 : Option Addr} {n1 k1 : Nat} {a2 : Option Addr} {n2 k2 : Nat} {x0 : Int} {x1 : Int} {x2 : List (Sh.T shMember)} {x3 : List (Sh.T .int)} (h1 : Lies w (.list shMember) [.slice a1 n1 k1] x2) (h2 : Lies w (.list .int) [.slice a2 n2 k2] x3) : Lies w shFence [.int .i64 x0, .int .i64 x1, .slice a1 n1 k1, .slice a2 n2 k2] (x0, x1, x2, x3, ()) := ⟨_, _, rfl, rfl, ⟨_, _, rfl, rfl, ⟨_, _, rfl, h1, ⟨_, _, rfl, h2, rfl⟩⟩⟩⟩
theorem own_Fence {w : World} {cs : List Value} {x0 : Int} {x1 : Int} {x2 : List (Sh.T shMember)} {x3 : List (Sh.T .int)} {S : Nat → Prop} (h : Own w shFence cs (x0, x1, x2, x3, ()) S) : ∃ (a1 : Option Addr) (k1 : Nat) (S1 : Nat → Prop), ∃ (a2 : Option Addr) (k2 : Nat) (S2 : Nat → Prop), cs = [.int .i64 x0, .int .i64 x1, .slice a1 x2.length k1, .slice a2 x3.length k2] ∧ Own w (.list shMember) [.slice a1 x2.length k1] x2 S1 ∧ Own w (.list .int) [.slice a2 x3.length k2] x3 S2 ∧ (∀ k, S1 k → S k) ∧ (∀ k, S2 k → S k) ∧ (∀ k, S1 k → ¬ S2 k) := by
  obtain ⟨_, _, s1, t1, rfl, rfl, ⟨_, _, s2, t2, rfl, rfl, ⟨_, _, s3, t3, rfl, H3, ⟨_, _, s4, t4, rfl, H4, rfl, d4, u4⟩, d3, u3⟩, d2, u2⟩, d1, u1⟩ := h
  obtain ⟨a1, k1, rfl⟩ := own_form H3
  obtain ⟨a2, k2, rfl⟩ := own_form H4
  exact ⟨a1, k1, s3, a2, k2, s4, rfl, H3, H4, fun k e => (u1 _ (Or.inr (u2 _ (Or.inr (u3 _ (Or.inl e)))))), fun k e => (u1 _ (Or.inr (u2 _ (Or.inr (u3 _ (Or.inr (u4 _ (Or.inl e)))))))), fun k e f => d3 k e (u4 _ (Or.inl f))⟩
theorem mkown_Fence {w : World} {a1 : Option Addr} {n1 k1 : Nat} {S1 : Nat → Prop} {a2 : Option Addr} {n2 k2 : Nat} {S2 : Nat → Prop} {x0 : Int} {x1 : Int} {x2 : List (Sh.T shMember)} {x3 : List (Sh.T .int)} {S : Nat → Prop} (h1 : Own w (.list shMember) [.slice a1 n1 k1] x2 S1) (h2 : Own w (.list .int) [.slice a2 n2 k2] x3 S2) (e1 : ∀ k, S1 k → S k) (e2 : ∀ k, S2 k → S k) (d1_2 : ∀ k, S1 k → ¬ S2 k) : Own w shFence [.int .i64 x0, .int .i64 x1, .slice a1 n1 k1, .slice a2 n2 k2] (x0, x1, x2, x3, ()) S := ⟨_, _, fun k => False, fun k => False ∨ S1 k ∨ S2 k ∨ False, rfl, rfl, ⟨_, _, fun k => False, fun k => S1 k ∨ S2 k ∨ False, rfl, rfl, ⟨_, _, S1, fun k => S2 k ∨ False, rfl, h1, ⟨_, _, S2, fun k => False, rfl, h2, rfl, (by intro k g h; (repeat' (rcases h with h | h)) <;> (first | exact h.elim | exact d1_2 k g h)), fun _ h => h⟩, (by intro k g h; (repeat' (rcases h with h | h)) <;> (first | exact h.elim | exact d1_2 k g h)), fun _ h => h⟩, fun k g _ => g.elim, fun _ h => h⟩, fun k g _ => g.elim, (by intro k h; (repeat' (rcases h with h | h)) <;> (first | exact h.elim | exact e1 k h | exact e2 k h))⟩
def shFenceStep : Sh := .pair .int (.pair .int (.pair .int .nil))
theorem lies_FenceStep {w : World} {cs : List Value} {x0 : Int} {x1 : Int} {x2 : Int} (h : Lies w shFenceStep cs (x0, x1, x2, ())) : cs = [.int .i64 x0, .int .i64 x1, .int .i64 x2] := by
  obtain ⟨_, _, rfl, rfl, ⟨_, _, rfl, rfl, ⟨_, _, rfl, rfl, rfl⟩⟩⟩ := h
  exact rfl
theorem mk_FenceStep {w : World} {x0 : Int} {x1 : Int} {x2 : Int} : Lies w shFenceStep [.int .i64 x0, .int .i64 x1, .int .i64 x2] (x0, x1, x2, ()) := ⟨_, _, rfl, rfl, ⟨_, _, rfl, rfl, ⟨_, _, rfl, rfl, rfl⟩⟩⟩
theorem own_FenceStep {w : World} {cs : List Value} {x0 : Int} {x1 : Int} {x2 : Int} {S : Nat → Prop} (h : Own w shFenceStep cs (x0, x1, x2, ()) S) : cs = [.int .i64 x0, .int .i64 x1, .int .i64 x2] := by
  obtain ⟨_, _, s1, t1, rfl, rfl, ⟨_, _, s2, t2, rfl, rfl, ⟨_, _, s3, t3, rfl, rfl, rfl, d3, u3⟩, d2, u2⟩, d1, u1⟩ := h
  exact rfl
theorem mkown_FenceStep {w : World} {x0 : Int} {x1 : Int} {x2 : Int} {S : Nat → Prop} : Own w shFenceStep [.int .i64 x0, .int .i64 x1, .int .i64 x2] (x0, x1, x2, ()) S := ⟨_, _, fun k => False, fun k => False ∨ False ∨ False, rfl, rfl, ⟨_, _, fun k => False, fun k => False ∨ False, rfl, rfl, ⟨_, _, fun k => False, fun k => False, rfl, rfl, rfl, fun k g _ => g.elim, fun _ h => h⟩, fun k g _ => g.elim, fun _ h => h⟩, fun k g _ => g.elim, (by intro k h; (repeat' (rcases h with h | h)) <;> (first | exact h.elim))⟩
end Go.Proofs.Ytcbdlalpnlahcaa
