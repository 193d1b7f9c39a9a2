/- Shapes of this chapter's types. Written by tools/nest.py. -/
import Derived.Test.YtkpobihpcnoemaaSh
namespace Go.Proofs.Ytkpobihpcnoemaa
open Go.RowKit
set_option linter.unusedVariables false
set_option linter.unusedSimpArgs false

def shReplica : Sh := .pair .bool (.pair .int .nil)
theorem lies_Replica {w : World} {cs : List Value} {x0 : Bool} {x1 : Int} (h : Lies w shReplica cs (x0, x1, ())) : cs = [.bool x0, .int .i64 x1] := by
  obtain ⟨_, _, rfl, rfl, ⟨_, _, rfl, rfl, rfl⟩⟩ := h
  exact rfl
theorem mk_Replica {w : World} {x0 : Bool} {x1 : Int} : Lies w shReplica [.bool x0, .int .i64 x1] (x0, x1, ()) := ⟨_, _, rfl, rfl, ⟨_, _, rfl, rfl, rfl⟩⟩
theorem own_Replica {w : World} {cs : List Value} {x0 : Bool} {x1 : Int} {S : Nat → Prop} (h : Own w shReplica cs (x0, x1, ()) S) : cs = [.bool x0, .int .i64 x1] := by
  obtain ⟨_, _, s1, t1, rfl, rfl, ⟨_, _, s2, t2, rfl, rfl, rfl, d2, u2⟩, d1, u1⟩ := h
  exact rfl
theorem mkown_Replica {w : World} {x0 : Bool} {x1 : Int} {S : Nat → Prop} : Own w shReplica [.bool x0, .int .i64 x1] (x0, x1, ()) S := ⟨_, _, fun k => False, fun k => False ∨ False, rfl, rfl, ⟨_, _, fun k => False, fun k => False, rfl, rfl, rfl, fun k g _ => g.elim, fun _ h => h⟩, fun k g _ => g.elim, (by intro k h; (repeat' (rcases h with h | h)) <;> (first | exact h.elim))⟩
def shShard : Sh := .pair (.list shReplica) .nil
theorem lies_Shard {w : World} {cs : List Value} {x0 : List (Sh.T shReplica)} (h : Lies w shShard cs (x0, ())) : ∃ (a1 : Option Addr) (k1 : Nat), cs = [.slice a1 x0.length k1] ∧ Lies w (.list shReplica) [.slice a1 x0.length k1] x0 := by
  obtain ⟨_, _, rfl, h1, rfl⟩ := h
  obtain ⟨a1, k1, rfl, q1⟩ := h1
  exact ⟨a1, k1, rfl, ⟨a1, k1, rfl, q1⟩⟩
theorem mk_Shard {w : World} {a1 : Option Addr} {n1 k1 : Nat} {x0 : List (Sh.T shReplica)} (h1 : Lies w (.list shReplica) [.slice a1 n1 k1] x0) : Lies w shShard [.slice a1 n1 k1] (x0, ()) := ⟨_, _, rfl, h1, rfl⟩
theorem own_Shard {w : World} {cs : List Value} {x0 : List (Sh.T shReplica)} {S : Nat → Prop} (h : Own w shShard cs (x0, ()) S) : ∃ (a1 : Option Addr) (k1 : Nat) (S1 : Nat → Prop), cs = [.slice a1 x0.length k1] ∧ Own w (.list shReplica) [.slice a1 x0.length k1] x0 S1 ∧ (∀ k, S1 k → S k) := by
  obtain ⟨_, _, s1, t1, rfl, H1, rfl, d1, u1⟩ := h
  obtain ⟨a1, k1, rfl⟩ := own_form H1
  exact ⟨a1, k1, s1, rfl, H1, fun k e => (u1 _ (Or.inl e))⟩
theorem mkown_Shard {w : World} {a1 : Option Addr} {n1 k1 : Nat} {S1 : Nat → Prop} {x0 : List (Sh.T shReplica)} {S : Nat → Prop} (h1 : Own w (.list shReplica) [.slice a1 n1 k1] x0 S1) (e1 : ∀ k, S1 k → S k) : Own w shShard [.slice a1 n1 k1] (x0, ()) S := ⟨_, _, S1, fun k => False, rfl, h1, rfl, (by intro k g h; (repeat' (rcases h with h | h)) <;> (first | exact h.elim)), (by intro k h; (repeat' (rcases h with h | h)) <;> (first | exact h.elim | exact e1 k h))⟩
def shCommit : Sh := .pair (.list shShard) (.pair .int (.pair .int .nil))
theorem lies_Commit {w : World} {cs : List Value} {x0 : List (Sh.T shShard)} {x1 : Int} {x2 : Int} (h : Lies w shCommit cs (x0, x1, x2, ())) : ∃ (a1 : Option Addr) (k1 : Nat), cs = [.slice a1 x0.length k1, .int .i64 x1, .int .i64 x2] ∧ Lies w (.list shShard) [.slice a1 x0.length k1] x0 := by
  obtain ⟨_, _, rfl, h1, ⟨_, _, rfl, rfl, ⟨_, _, rfl, rfl, rfl⟩⟩⟩ := h
  obtain ⟨a1, k1, rfl, q1⟩ := h1
  exact ⟨a1, k1, rfl, ⟨a1, k1, rfl, q1⟩⟩
theorem mk_Commit {w : World} {a1 : Option Addr} {n1 k1 : Nat} {x0 : List (Sh.T shShard)} {x1 : Int} {x2 : Int} (h1 : Lies w (.list shShard) [.slice a1 n1 k1] x0) : Lies w shCommit [.slice a1 n1 k1, .int .i64 x1, .int .i64 x2] (x0, x1, x2, ()) := ⟨_, _, rfl, h1, ⟨_, _, rfl, rfl, ⟨_, _, rfl, rfl, rfl⟩⟩⟩
theorem own_Commit {w : World} {cs : List Value} {x0 : List (Sh.T shShard)} {x1 : Int} {x2 : Int} {S : Nat → Prop} (h : Own w shCommit cs (x0, x1, x2, ()) S) : ∃ (a1 : Option Addr) (k1 : Nat) (S1 : Nat → Prop), cs = [.slice a1 x0.length k1, .int .i64 x1, .int .i64 x2] ∧ Own w (.list shShard) [.slice a1 x0.length k1] x0 S1 ∧ (∀ k, S1 k → S k) := by
  obtain ⟨_, _, s1, t1, rfl, H1, ⟨_, _, s2, t2, rfl, rfl, ⟨_, _, s3, t3, rfl, rfl, rfl, d3, u3⟩, d2, u2⟩, d1, u1⟩ := h
  obtain ⟨a1, k1, rfl⟩ := own_form H1
  exact ⟨a1, k1, s1, rfl, H1, fun k e => (u1 _ (Or.inl e))⟩
theorem mkown_Commit {w : World} {a1 : Option Addr} {n1 k1 : Nat} {S1 : Nat → Prop} {x0 : List (Sh.T shShard)} {x1 : Int} {x2 : Int} {S : Nat → Prop} (h1 : Own w (.list shShard) [.slice a1 n1 k1] x0 S1) (e1 : ∀ k, S1 k → S k) : Own w shCommit [.slice a1 n1 k1, .int .i64 x1, .int .i64 x2] (x0, x1, x2, ()) S := ⟨_, _, S1, fun k => False ∨ False ∨ False, rfl, h1, ⟨_, _, fun k => False, fun k => False ∨ False, rfl, rfl, ⟨_, _, fun k => False, fun k => False, rfl, rfl, rfl, fun k g _ => g.elim, fun _ h => h⟩, fun k g _ => g.elim, fun _ h => h⟩, (by intro k g h; (repeat' (rcases h with h | h)) <;> (first | exact h.elim)), (by intro k h; (repeat' (rcases h with h | h)) <;> (first | exact h.elim | exact e1 k h))⟩
def shCommitStep : Sh := .pair .int (.pair .int (.pair .int .nil))
theorem lies_CommitStep {w : World} {cs : List Value} {x0 : Int} {x1 : Int} {x2 : Int} (h : Lies w shCommitStep cs (x0, x1, x2, ())) : cs = [.int .i64 x0, .int .i64 x1, .int .i64 x2] := by
  obtain ⟨_, _, rfl, rfl, ⟨_, _, rfl, rfl, ⟨_, _, rfl, rfl, rfl⟩⟩⟩ := h
  exact rfl
theorem mk_CommitStep {w : World} {x0 : Int} {x1 : Int} {x2 : Int} : Lies w shCommitStep [.int .i64 x0, .int .i64 x1, .int .i64 x2] (x0, x1, x2, ()) := ⟨_, _, rfl, rfl, ⟨_, _, rfl, rfl, ⟨_, _, rfl, rfl, rfl⟩⟩⟩
theorem own_CommitStep {w : World} {cs : List Value} {x0 : Int} {x1 : Int} {x2 : Int} {S : Nat → Prop} (h : Own w shCommitStep cs (x0, x1, x2, ()) S) : cs = [.int .i64 x0, .int .i64 x1, .int .i64 x2] := by
  obtain ⟨_, _, s1, t1, rfl, rfl, ⟨_, _, s2, t2, rfl, rfl, ⟨_, _, s3, t3, rfl, rfl, rfl, d3, u3⟩, d2, u2⟩, d1, u1⟩ := h
  exact rfl
theorem mkown_CommitStep {w : World} {x0 : Int} {x1 : Int} {x2 : Int} {S : Nat → Prop} : Own w shCommitStep [.int .i64 x0, .int .i64 x1, .int .i64 x2] (x0, x1, x2, ()) S := ⟨_, _, fun k => False, fun k => False ∨ False ∨ False, rfl, rfl, ⟨_, _, fun k => False, fun k => False ∨ False, rfl, rfl, ⟨_, _, fun k => False, fun k => False, rfl, rfl, rfl, fun k g _ => g.elim, fun _ h => h⟩, fun k g _ => g.elim, fun _ h => h⟩, fun k g _ => g.elim, (by intro k h; (repeat' (rcases h with h | h)) <;> (first | exact h.elim))⟩
end Go.Proofs.Ytkpobihpcnoemaa
