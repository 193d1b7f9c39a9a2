/- Shapes of this chapter's types. Written by tools/nest.py. -/
import Derived.Test.YtidalpgkljafdaaSh
namespace Go.Proofs.Ytidalpgkljafdaa
open Go.RowKit
set_option linter.unusedVariables false
set_option linter.unusedSimpArgs false

def shLeases : Sh := .pair .int (.pair .int (.pair (.list .int) (.pair .int (.pair .int (.pair (.list .int) .nil)))))
theorem lies_Leases {w : World} {cs : List Value} {x0 : Int} {x1 : Int} {x2 : List (Sh.T .int)} {x3 : Int} {x4 : Int} {x5 : List (Sh.T .int)} (h : Lies w shLeases cs (x0, x1, x2, x3, x4, x5, ())) : ∃ (a1 : Option Addr) (k1 : Nat), ∃ (a2 : Option Addr) (k2 : Nat), cs = [.int .i64 x0, .int .i64 x1, .slice a1 x2.length k1, .int .i64 x3, .int .i64 x4, .slice a2 x5.length k2] ∧ Lies w (.list .int) [.slice a1 x2.length k1] x2 ∧ Lies w (.list .int) [.slice a2 x5.length k2] x5 := by
  obtain ⟨_, _, rfl, rfl, ⟨_, _, rfl, rfl, ⟨_, _, rfl, h1, ⟨_, _, rfl, rfl, ⟨_, _, rfl, rfl, ⟨_, _, rfl, h2, rfl⟩⟩⟩⟩⟩⟩ := h
  obtain ⟨a1, k1, rfl, q1⟩ := h1
  obtain ⟨a2, k2, rfl, q2⟩ := h2
  exact ⟨a1, k1, a2, k2, rfl, ⟨a1, k1, rfl, q1⟩, ⟨a2, k2, rfl, q2⟩⟩
theorem mk_Leases {w : World} {a1 : Option Addr} {n1 k1 : Nat} {a2 : Option Addr} {n2 k2 : Nat} {x0 : Int} {x1 : Int} {x2 : List (Sh.T .int)} {x3 : Int} {x4 : Int} {x5 : List (Sh.T .int)} (h1 : Lies w (.list .int) [.slice a1 n1 k1] x2) (h2 : Lies w (.list .int) [.slice a2 n2 k2] x5) : Lies w shLeases [.int .i64 x0, .int .i64 x1, .slice a1 n1 k1, .int .i64 x3, .int .i64 x4, .slice a2 n2 k2] (x0, x1, x2, x3, x4, x5, ()) := ⟨_, _, rfl, rfl, ⟨_, _, rfl, rfl, ⟨_, _, rfl, h1, ⟨_, _, rfl, rfl, ⟨_, _, rfl, rfl, ⟨_, _, rfl, h2, rfl⟩⟩⟩⟩⟩⟩
theorem own_Leases {w : World} {cs : List Value} {x0 : Int} {x1 : Int} {x2 : List (Sh.T .int)} {x3 : Int} {x4 : Int} {x5 : List (Sh.T .int)} {S : Nat → Prop} (h : Own w shLeases cs (x0, x1, x2, x3, x4, x5, ()) S) : ∃ (a1 : Option Addr) (k1 : Nat) (S1 : Nat → Prop), ∃ (a2 : Option Addr) (k2 : Nat) (S2 : Nat → Prop), cs = [.int .i64 x0, .int .i64 x1, .slice a1 x2.length k1, .int .i64 x3, .int .i64 x4, .slice a2 x5.length k2] ∧ Own w (.list .int) [.slice a1 x2.length k1] x2 S1 ∧ Own w (.list .int) [.slice a2 x5.length k2] x5 S2 ∧ (∀ k, S1 k → S k) ∧ (∀ k, S2 k → S k) ∧ (∀ k, S1 k → ¬ S2 k) := by
  obtain ⟨_, _, s1, t1, rfl, rfl, ⟨_, _, s2, t2, rfl, rfl, ⟨_, _, s3, t3, rfl, H3, ⟨_, _, s4, t4, rfl, rfl, ⟨_, _, s5, t5, rfl, rfl, ⟨_, _, s6, t6, rfl, H6, rfl, d6, u6⟩, d5, u5⟩, d4, u4⟩, d3, u3⟩, d2, u2⟩, d1, u1⟩ := h
  obtain ⟨a1, k1, rfl⟩ := own_form H3
  obtain ⟨a2, k2, rfl⟩ := own_form H6
  exact ⟨a1, k1, s3, a2, k2, s6, rfl, H3, H6, fun k e => (u1 _ (Or.inr (u2 _ (Or.inr (u3 _ (Or.inl e)))))), fun k e => (u1 _ (Or.inr (u2 _ (Or.inr (u3 _ (Or.inr (u4 _ (Or.inr (u5 _ (Or.inr (u6 _ (Or.inl e)))))))))))), fun k e f => d3 k e (u4 _ (Or.inr (u5 _ (Or.inr (u6 _ (Or.inl f))))))⟩
theorem mkown_Leases {w : World} {a1 : Option Addr} {n1 k1 : Nat} {S1 : Nat → Prop} {a2 : Option Addr} {n2 k2 : Nat} {S2 : Nat → Prop} {x0 : Int} {x1 : Int} {x2 : List (Sh.T .int)} {x3 : Int} {x4 : Int} {x5 : List (Sh.T .int)} {S : Nat → Prop} (h1 : Own w (.list .int) [.slice a1 n1 k1] x2 S1) (h2 : Own w (.list .int) [.slice a2 n2 k2] x5 S2) (e1 : ∀ k, S1 k → S k) (e2 : ∀ k, S2 k → S k) (d1_2 : ∀ k, S1 k → ¬ S2 k) : Own w shLeases [.int .i64 x0, .int .i64 x1, .slice a1 n1 k1, .int .i64 x3, .int .i64 x4, .slice a2 n2 k2] (x0, x1, x2, x3, x4, x5, ()) S := ⟨_, _, fun k => False, fun k => False ∨ S1 k ∨ False ∨ False ∨ S2 k ∨ False, rfl, rfl, ⟨_, _, fun k => False, fun k => S1 k ∨ False ∨ False ∨ S2 k ∨ False, rfl, rfl, ⟨_, _, S1, fun k => False ∨ False ∨ S2 k ∨ False, rfl, h1, ⟨_, _, fun k => False, fun k => False ∨ S2 k ∨ False, rfl, rfl, ⟨_, _, fun k => False, fun k => S2 k ∨ False, rfl, rfl, ⟨_, _, S2, fun k => False, rfl, h2, rfl, (by intro k g h; (repeat' (rcases h with h | h)) <;> (first | exact h.elim | exact d1_2 k g h)), fun _ h => h⟩, fun k g _ => g.elim, fun _ h => h⟩, fun k g _ => g.elim, fun _ h => h⟩, (by intro k g h; (repeat' (rcases h with h | h)) <;> (first | exact h.elim | exact d1_2 k g h)), fun _ h => h⟩, fun k g _ => g.elim, fun _ h => h⟩, fun k g _ => g.elim, (by intro k h; (repeat' (rcases h with h | h)) <;> (first | exact h.elim | exact e1 k h | exact e2 k h))⟩
def shLeaseStep : Sh := .pair .int (.pair .int (.pair .int .nil))
theorem lies_LeaseStep {w : World} {cs : List Value} {x0 : Int} {x1 : Int} {x2 : Int} (h : Lies w shLeaseStep cs (x0, x1, x2, ())) : cs = [.int .i64 x0, .int .i64 x1, .int .i64 x2] := by
  obtain ⟨_, _, rfl, rfl, ⟨_, _, rfl, rfl, ⟨_, _, rfl, rfl, rfl⟩⟩⟩ := h
  exact rfl
theorem mk_LeaseStep {w : World} {x0 : Int} {x1 : Int} {x2 : Int} : Lies w shLeaseStep [.int .i64 x0, .int .i64 x1, .int .i64 x2] (x0, x1, x2, ()) := ⟨_, _, rfl, rfl, ⟨_, _, rfl, rfl, ⟨_, _, rfl, rfl, rfl⟩⟩⟩
theorem own_LeaseStep {w : World} {cs : List Value} {x0 : Int} {x1 : Int} {x2 : Int} {S : Nat → Prop} (h : Own w shLeaseStep cs (x0, x1, x2, ()) S) : cs = [.int .i64 x0, .int .i64 x1, .int .i64 x2] := by
  obtain ⟨_, _, s1, t1, rfl, rfl, ⟨_, _, s2, t2, rfl, rfl, ⟨_, _, s3, t3, rfl, rfl, rfl, d3, u3⟩, d2, u2⟩, d1, u1⟩ := h
  exact rfl
theorem mkown_LeaseStep {w : World} {x0 : Int} {x1 : Int} {x2 : Int} {S : Nat → Prop} : Own w shLeaseStep [.int .i64 x0, .int .i64 x1, .int .i64 x2] (x0, x1, x2, ()) S := ⟨_, _, fun k => False, fun k => False ∨ False ∨ False, rfl, rfl, ⟨_, _, fun k => False, fun k => False ∨ False, rfl, rfl, ⟨_, _, fun k => False, fun k => False, rfl, rfl, rfl, fun k g _ => g.elim, fun _ h => h⟩, fun k g _ => g.elim, fun _ h => h⟩, fun k g _ => g.elim, (by intro k h; (repeat' (rcases h with h | h)) <;> (first | exact h.elim))⟩
end Go.Proofs.Ytidalpgkljafdaa
