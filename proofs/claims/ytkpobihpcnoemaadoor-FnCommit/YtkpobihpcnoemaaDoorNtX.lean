/- This chapter's types, their rows known exactly. Written by tools/nest.py. -/
import Derived.Test.YtkpobihpcnoemaaDoorGaE
import Derived.Test.YtkpobihpcnoemaaDoorShY
namespace Go.Proofs.YtkpobihpcnoemaaDoor
open Go.RowKit
set_option linter.unusedVariables false
set_option linter.unusedSimpArgs false

theorem ownx_form {w : World} {lo : Nat} {e : Ty} {t : TypeId} {cs : List Value} {l : List e.T} {S : Nat → Prop} (h : OwnX w lo (.list e t) cs l S) : ∃ v, cs = [v] := by
  rcases h with ⟨_, rfl⟩ | ⟨g, cap, xs, B, rfl, _⟩ <;> exact ⟨_, rfl⟩
def tyReplica : Ty := .pair .bool (.pair .int .nil)
theorem ownx_Replica {w : World} {lo : Nat} {cs : List Value} {x0 : Bool} {x1 : Int} {S : Nat → Prop} (h : OwnX w lo tyReplica cs (x0, x1, ()) S) : cs = [.bool x0, .int .i64 x1] := by
  obtain ⟨_, _, s1, t1, rfl, rfl, ⟨_, _, s2, t2, rfl, rfl, rfl, d2, u2⟩, d1, u1⟩ := h
  exact rfl
theorem mkownx_Replica {w : World} {lo : Nat} {x0 : Bool} {x1 : Int} {S : Nat → Prop} : OwnX w lo tyReplica [.bool x0, .int .i64 x1] (x0, x1, ()) S := ⟨_, _, fun k => False, fun k => False ∨ False, rfl, rfl, ⟨_, _, fun k => False, fun k => False, rfl, rfl, rfl, fun k g _ => g.elim, fun _ h => h⟩, fun k g _ => g.elim, (by intro k h; (repeat' (rcases h with h | h)) <;> (first | exact h.elim))⟩
def tyShard : Ty := .pair (.list tyReplica 44) .nil
theorem ownx_Shard {w : World} {lo : Nat} {cs : List Value} {x0 : List (Sh.T shReplica)} {S : Nat → Prop} (h : OwnX w lo tyShard cs (x0, ()) S) : ∃ (v1 : Value) (S1 : Nat → Prop), cs = [v1] ∧ OwnX w lo (.list tyReplica 44) [v1] x0 S1 ∧ (∀ k, S1 k → S k) := by
  obtain ⟨_, _, s1, t1, rfl, H1, rfl, d1, u1⟩ := h
  obtain ⟨v1, rfl⟩ := ownx_form H1
  exact ⟨v1, s1, rfl, H1, fun k e => (u1 _ (Or.inl e))⟩
theorem mkownx_Shard {w : World} {lo : Nat} {v1 : Value} {S1 : Nat → Prop} {x0 : List (Sh.T shReplica)} {S : Nat → Prop} (h1 : OwnX w lo (.list tyReplica 44) [v1] x0 S1) (e1 : ∀ k, S1 k → S k) : OwnX w lo tyShard [v1] (x0, ()) S := ⟨_, _, S1, fun k => False, rfl, h1, rfl, (by intro k g h; (repeat' (rcases h with h | h)) <;> (first | exact h.elim)), (by intro k h; (repeat' (rcases h with h | h)) <;> (first | exact h.elim | exact e1 k h))⟩
def tyCommit : Ty := .pair (.list tyShard 42) (.pair .int (.pair .int .nil))
theorem ownx_Commit {w : World} {lo : Nat} {cs : List Value} {x0 : List (Sh.T shShard)} {x1 : Int} {x2 : Int} {S : Nat → Prop} (h : OwnX w lo tyCommit cs (x0, x1, x2, ()) S) : ∃ (v1 : Value) (S1 : Nat → Prop), cs = [v1, .int .i64 x1, .int .i64 x2] ∧ OwnX w lo (.list tyShard 42) [v1] x0 S1 ∧ (∀ k, S1 k → S k) := by
  obtain ⟨_, _, s1, t1, rfl, H1, ⟨_, _, s2, t2, rfl, rfl, ⟨_, _, s3, t3, rfl, rfl, rfl, d3, u3⟩, d2, u2⟩, d1, u1⟩ := h
  obtain ⟨v1, rfl⟩ := ownx_form H1
  exact ⟨v1, s1, rfl, H1, fun k e => (u1 _ (Or.inl e))⟩
theorem mkownx_Commit {w : World} {lo : Nat} {v1 : Value} {S1 : Nat → Prop} {x0 : List (Sh.T shShard)} {x1 : Int} {x2 : Int} {S : Nat → Prop} (h1 : OwnX w lo (.list tyShard 42) [v1] x0 S1) (e1 : ∀ k, S1 k → S k) : OwnX w lo tyCommit [v1, .int .i64 x1, .int .i64 x2] (x0, x1, x2, ()) S := ⟨_, _, S1, fun k => False ∨ False ∨ False, rfl, h1, ⟨_, _, fun k => False, fun k => False ∨ False, rfl, rfl, ⟨_, _, fun k => False, fun k => False, rfl, rfl, rfl, fun k g _ => g.elim, fun _ h => h⟩, fun k g _ => g.elim, fun _ h => h⟩, (by intro k g h; (repeat' (rcases h with h | h)) <;> (first | exact h.elim)), (by intro k h; (repeat' (rcases h with h | h)) <;> (first | exact h.elim | exact e1 k h))⟩
end Go.Proofs.YtkpobihpcnoemaaDoor
