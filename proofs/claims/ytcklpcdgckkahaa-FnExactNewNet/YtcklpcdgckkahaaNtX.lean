/- This chapter's types, their rows known exactly. Written by tools/nest.py. -/
import Derived.Test.YtcklpcdgckkahaaNtS
import Derived.Test.YtcklpcdgckkahaaShY
namespace Go.Proofs.Ytcklpcdgckkahaa
open Go.RowKit
set_option linter.unusedVariables false
set_option linter.unusedSimpArgs false

theorem ownx_form {w : World} {lo : Nat} {e : Ty} {t : TypeId} {cs : List Value} {l : List e.T} {S : Nat → Prop} (h : OwnX w lo (.list e t) cs l S) : ∃ v, cs = [v] := by
  rcases h with ⟨_, rfl⟩ | ⟨g, cap, xs, B, rfl, _⟩ <;> exact ⟨_, rfl⟩
def tyBank : Ty := .pair .int (.pair .bool (.pair .int .nil))
theorem ownx_Bank {w : World} {lo : Nat} {cs : List Value} {x0 : Int} {x1 : Bool} {x2 : Int} {S : Nat → Prop} (h : OwnX w lo tyBank cs (x0, x1, x2, ()) S) : cs = [.int .i64 x0, .bool x1, .int .i64 x2] := by
  obtain ⟨_, _, s1, t1, rfl, rfl, ⟨_, _, s2, t2, rfl, rfl, ⟨_, _, s3, t3, rfl, rfl, rfl, d3, u3⟩, d2, u2⟩, d1, u1⟩ := h
  exact rfl
theorem mkownx_Bank {w : World} {lo : Nat} {x0 : Int} {x1 : Bool} {x2 : Int} {S : Nat → Prop} : OwnX w lo tyBank [.int .i64 x0, .bool x1, .int .i64 x2] (x0, x1, x2, ()) S := ⟨_, _, fun k => False, fun k => False ∨ False ∨ False, rfl, rfl, ⟨_, _, fun k => False, fun k => False ∨ False, rfl, rfl, ⟨_, _, fun k => False, fun k => False, rfl, rfl, rfl, fun k g _ => g.elim, fun _ h => h⟩, fun k g _ => g.elim, fun _ h => h⟩, fun k g _ => g.elim, (by intro k h; (repeat' (rcases h with h | h)) <;> (first | exact h.elim))⟩
def tyParcel : Ty := .pair .bool (.pair .int .nil)
theorem ownx_Parcel {w : World} {lo : Nat} {cs : List Value} {x0 : Bool} {x1 : Int} {S : Nat → Prop} (h : OwnX w lo tyParcel cs (x0, x1, ()) S) : cs = [.bool x0, .int .i64 x1] := by
  obtain ⟨_, _, s1, t1, rfl, rfl, ⟨_, _, s2, t2, rfl, rfl, rfl, d2, u2⟩, d1, u1⟩ := h
  exact rfl
theorem mkownx_Parcel {w : World} {lo : Nat} {x0 : Bool} {x1 : Int} {S : Nat → Prop} : OwnX w lo tyParcel [.bool x0, .int .i64 x1] (x0, x1, ()) S := ⟨_, _, fun k => False, fun k => False ∨ False, rfl, rfl, ⟨_, _, fun k => False, fun k => False, rfl, rfl, rfl, fun k g _ => g.elim, fun _ h => h⟩, fun k g _ => g.elim, (by intro k h; (repeat' (rcases h with h | h)) <;> (first | exact h.elim))⟩
def tyWay : Ty := .pair .int (.pair .int (.pair (.list tyParcel 85) (.pair .bool (.pair (.list .int 3) .nil))))
theorem ownx_Way {w : World} {lo : Nat} {cs : List Value} {x0 : Int} {x1 : Int} {x2 : List (Sh.T shParcel)} {x3 : Bool} {x4 : List (Sh.T .int)} {S : Nat → Prop} (h : OwnX w lo tyWay cs (x0, x1, x2, x3, x4, ()) S) : ∃ (v1 : Value) (S1 : Nat → Prop), ∃ (v2 : Value) (S2 : Nat → Prop), cs = [.int .i64 x0, .int .i64 x1, v1, .bool x3, v2] ∧ OwnX w lo (.list tyParcel 85) [v1] x2 S1 ∧ OwnX w lo (.list .int 3) [v2] x4 S2 ∧ (∀ k, S1 k → S k) ∧ (∀ k, S2 k → S k) ∧ (∀ k, S1 k → ¬ S2 k) := by
  obtain ⟨_, _, s1, t1, rfl, rfl, ⟨_, _, s2, t2, rfl, rfl, ⟨_, _, s3, t3, rfl, H3, ⟨_, _, s4, t4, rfl, rfl, ⟨_, _, s5, t5, rfl, H5, rfl, d5, u5⟩, d4, u4⟩, d3, u3⟩, d2, u2⟩, d1, u1⟩ := h
  obtain ⟨v1, rfl⟩ := ownx_form H3
  obtain ⟨v2, rfl⟩ := ownx_form H5
  exact ⟨v1, s3, v2, s5, rfl, H3, H5, fun k e => (u1 _ (Or.inr (u2 _ (Or.inr (u3 _ (Or.inl e)))))), fun k e => (u1 _ (Or.inr (u2 _ (Or.inr (u3 _ (Or.inr (u4 _ (Or.inr (u5 _ (Or.inl e)))))))))), fun k e f => d3 k e (u4 _ (Or.inr (u5 _ (Or.inl f))))⟩
theorem mkownx_Way {w : World} {lo : Nat} {v1 : Value} {S1 : Nat → Prop} {v2 : Value} {S2 : Nat → Prop} {x0 : Int} {x1 : Int} {x2 : List (Sh.T shParcel)} {x3 : Bool} {x4 : List (Sh.T .int)} {S : Nat → Prop} (h1 : OwnX w lo (.list tyParcel 85) [v1] x2 S1) (h2 : OwnX w lo (.list .int 3) [v2] x4 S2) (e1 : ∀ k, S1 k → S k) (e2 : ∀ k, S2 k → S k) (d1_2 : ∀ k, S1 k → ¬ S2 k) : OwnX w lo tyWay [.int .i64 x0, .int .i64 x1, v1, .bool x3, v2] (x0, x1, x2, x3, x4, ()) S := ⟨_, _, fun k => False, fun k => False ∨ S1 k ∨ False ∨ S2 k ∨ False, rfl, rfl, ⟨_, _, fun k => False, fun k => S1 k ∨ False ∨ S2 k ∨ False, rfl, rfl, ⟨_, _, S1, fun k => False ∨ S2 k ∨ False, rfl, h1, ⟨_, _, fun k => False, fun k => S2 k ∨ False, rfl, rfl, ⟨_, _, S2, fun k => False, rfl, h2, rfl, (by intro k g h; (repeat' (rcases h with h | h)) <;> (first | exact h.elim | exact d1_2 k g h)), fun _ h => h⟩, fun k g _ => g.elim, fun _ h => h⟩, (by intro k g h; (repeat' (rcases h with h | h)) <;> (first | exact h.elim | exact d1_2 k g h)), fun _ h => h⟩, fun k g _ => g.elim, fun _ h => h⟩, fun k g _ => g.elim, (by intro k h; (repeat' (rcases h with h | h)) <;> (first | exact h.elim | exact e1 k h | exact e2 k h))⟩
def tyNet : Ty := .pair (.list tyBank 80) (.pair (.list tyWay 83) .nil)
theorem ownx_Net {w : World} {lo : Nat} {cs : List Value} {x0 : List (Sh.T shBank)} {x1 : List (Sh.T shWay)} {S : Nat → Prop} (h : OwnX w lo tyNet cs (x0, x1, ()) S) : ∃ (v1 : Value) (S1 : Nat → Prop), ∃ (v2 : Value) (S2 : Nat → Prop), cs = [v1, v2] ∧ OwnX w lo (.list tyBank 80) [v1] x0 S1 ∧ OwnX w lo (.list tyWay 83) [v2] x1 S2 ∧ (∀ k, S1 k → S k) ∧ (∀ k, S2 k → S k) ∧ (∀ k, S1 k → ¬ S2 k) := by
  obtain ⟨_, _, s1, t1, rfl, H1, ⟨_, _, s2, t2, rfl, H2, rfl, d2, u2⟩, d1, u1⟩ := h
  obtain ⟨v1, rfl⟩ := ownx_form H1
  obtain ⟨v2, rfl⟩ := ownx_form H2
  exact ⟨v1, s1, v2, s2, rfl, H1, H2, fun k e => (u1 _ (Or.inl e)), fun k e => (u1 _ (Or.inr (u2 _ (Or.inl e)))), fun k e f => d1 k e (u2 _ (Or.inl f))⟩
theorem mkownx_Net {w : World} {lo : Nat} {v1 : Value} {S1 : Nat → Prop} {v2 : Value} {S2 : Nat → Prop} {x0 : List (Sh.T shBank)} {x1 : List (Sh.T shWay)} {S : Nat → Prop} (h1 : OwnX w lo (.list tyBank 80) [v1] x0 S1) (h2 : OwnX w lo (.list tyWay 83) [v2] x1 S2) (e1 : ∀ k, S1 k → S k) (e2 : ∀ k, S2 k → S k) (d1_2 : ∀ k, S1 k → ¬ S2 k) : OwnX w lo tyNet [v1, v2] (x0, x1, ()) S := ⟨_, _, S1, fun k => S2 k ∨ False, rfl, h1, ⟨_, _, S2, fun k => False, rfl, h2, rfl, (by intro k g h; (repeat' (rcases h with h | h)) <;> (first | exact h.elim | exact d1_2 k g h)), fun _ h => h⟩, (by intro k g h; (repeat' (rcases h with h | h)) <;> (first | exact h.elim | exact d1_2 k g h)), (by intro k h; (repeat' (rcases h with h | h)) <;> (first | exact h.elim | exact e1 k h | exact e2 k h))⟩
end Go.Proofs.Ytcklpcdgckkahaa
