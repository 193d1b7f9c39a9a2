/- This chapter's types, their rows known exactly. Written by tools/nest.py. -/
import Derived.Test.YtcbdlalpnlahcaaNtS
import Derived.Test.YtcbdlalpnlahcaaShY
namespace Go.Proofs.Ytcbdlalpnlahcaa
open Go.RowKit
set_option linter.unusedVariables false
set_option linter.unusedSimpArgs false

theorem ownx_form {w : World} {lo : Nat} {e : Ty} {t : TypeId} {cs : List Value} {l : List e.T} {S : Nat → Prop} (h : OwnX w lo (.list e t) cs l S) : ∃ v, cs = [v] := by
  rcases h with ⟨_, rfl⟩ | ⟨g, cap, xs, B, rfl, _⟩ <;> exact ⟨_, rfl⟩
def tyMember : Ty := .pair .int (.pair .int (.pair (.list .int 3) (.pair .int .nil)))
theorem ownx_Member {w : World} {lo : Nat} {cs : List Value} {x0 : Int} {x1 : Int} {x2 : List (Sh.T .int)} {x3 : Int} {S : Nat → Prop} (h : OwnX w lo tyMember cs (x0, x1, x2, x3, ()) S) : ∃ (v1 : Value) (S1 : Nat → Prop), cs = [.int .i64 x0, .int .i64 x1, v1, .int .i64 x3] ∧ OwnX w lo (.list .int 3) [v1] x2 S1 ∧ (∀ k, S1 k → S k) := by
  obtain ⟨_, _, s1, t1, rfl, rfl, ⟨_, _, s2, t2, rfl, rfl, ⟨_, _, s3, t3, rfl, H3, ⟨_, _, s4, t4, rfl, rfl, rfl, d4, u4⟩, d3, u3⟩, d2, u2⟩, d1, u1⟩ := h
  obtain ⟨v1, rfl⟩ := ownx_form H3
  exact ⟨v1, s3, rfl, H3, fun k e => (u1 _ (Or.inr (u2 _ (Or.inr (u3 _ (Or.inl e))))))⟩
theorem mkownx_Member {w : World} {lo : Nat} {v1 : Value} {S1 : Nat → Prop} {x0 : Int} {x1 : Int} {x2 : List (Sh.T .int)} {x3 : Int} {S : Nat → Prop} (h1 : OwnX w lo (.list .int 3) [v1] x2 S1) (e1 : ∀ k, S1 k → S k) : OwnX w lo tyMember [.int .i64 x0, .int .i64 x1, v1, .int .i64 x3] (x0, x1, x2, x3, ()) S := ⟨_, _, fun k => False, fun k => False ∨ S1 k ∨ False ∨ False, rfl, rfl, ⟨_, _, fun k => False, fun k => S1 k ∨ False ∨ False, rfl, rfl, ⟨_, _, S1, fun k => False ∨ False, rfl, h1, ⟨_, _, fun k => False, fun k => False, rfl, rfl, rfl, fun k g _ => g.elim, fun _ h => h⟩, (by intro k g h; (repeat' (rcases h with h | h)) <;> (first | exact h.elim)), fun _ h => h⟩, fun k g _ => g.elim, fun _ h => h⟩, fun k g _ => g.elim, (by intro k h; (repeat' (rcases h with h | h)) <;> (first | exact h.elim | exact e1 k h))⟩
def tyFence : Ty := .pair .int (.pair .int (.pair (.list tyMember 37) (.pair (.list .int 3) .nil)))
theorem ownx_Fence {w : World} {lo : Nat} {cs : List Value} {x0 : Int} {x1 : Int} {x2 : List (Sh.T shMember)} {x3 : List (Sh.T .int)} {S : Nat → Prop} (h : OwnX w lo tyFence cs (x0, x1, x2, x3, ()) S) : ∃ (v1 : Value) (S1 : Nat → Prop), ∃ (v2 : Value) (S2 : Nat → Prop), cs = [.int .i64 x0, .int .i64 x1, v1, v2] ∧ OwnX w lo (.list tyMember 37) [v1] x2 S1 ∧ OwnX w lo (.list .int 3) [v2] x3 S2 ∧ (∀ k, S1 k → S k) ∧ (∀ k, S2 k → S k) ∧ (∀ k, S1 k → ¬ S2 k) := by
  obtain ⟨_, _, s1, t1, rfl, rfl, ⟨_, _, s2, t2, rfl, rfl, ⟨_, _, s3, t3, rfl, H3, ⟨_, _, s4, t4, rfl, H4, rfl, d4, u4⟩, d3, u3⟩, d2, u2⟩, d1, u1⟩ := h
  obtain ⟨v1, rfl⟩ := ownx_form H3
  obtain ⟨v2, rfl⟩ := ownx_form H4
  exact ⟨v1, s3, v2, s4, rfl, H3, H4, fun k e => (u1 _ (Or.inr (u2 _ (Or.inr (u3 _ (Or.inl e)))))), fun k e => (u1 _ (Or.inr (u2 _ (Or.inr (u3 _ (Or.inr (u4 _ (Or.inl e)))))))), fun k e f => d3 k e (u4 _ (Or.inl f))⟩
theorem mkownx_Fence {w : World} {lo : Nat} {v1 : Value} {S1 : Nat → Prop} {v2 : Value} {S2 : Nat → Prop} {x0 : Int} {x1 : Int} {x2 : List (Sh.T shMember)} {x3 : List (Sh.T .int)} {S : Nat → Prop} (h1 : OwnX w lo (.list tyMember 37) [v1] x2 S1) (h2 : OwnX w lo (.list .int 3) [v2] x3 S2) (e1 : ∀ k, S1 k → S k) (e2 : ∀ k, S2 k → S k) (d1_2 : ∀ k, S1 k → ¬ S2 k) : OwnX w lo tyFence [.int .i64 x0, .int .i64 x1, v1, v2] (x0, x1, x2, x3, ()) S := ⟨_, _, fun k => False, fun k => False ∨ S1 k ∨ S2 k ∨ False, rfl, rfl, ⟨_, _, fun k => False, fun k => S1 k ∨ S2 k ∨ False, rfl, rfl, ⟨_, _, S1, fun k => S2 k ∨ False, rfl, h1, ⟨_, _, S2, fun k => False, rfl, h2, rfl, (by intro k g h; (repeat' (rcases h with h | h)) <;> (first | exact h.elim | exact d1_2 k g h)), fun _ h => h⟩, (by intro k g h; (repeat' (rcases h with h | h)) <;> (first | exact h.elim | exact d1_2 k g h)), fun _ h => h⟩, fun k g _ => g.elim, fun _ h => h⟩, fun k g _ => g.elim, (by intro k h; (repeat' (rcases h with h | h)) <;> (first | exact h.elim | exact e1 k h | exact e2 k h))⟩
end Go.Proofs.Ytcbdlalpnlahcaa
