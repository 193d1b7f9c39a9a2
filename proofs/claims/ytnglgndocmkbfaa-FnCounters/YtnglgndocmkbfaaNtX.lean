/- This chapter's types, their rows known exactly. Written by tools/nest.py. -/
import Derived.Test.YtnglgndocmkbfaaNtS
import Derived.Test.YtnglgndocmkbfaaShY
namespace Go.Proofs.Ytnglgndocmkbfaa
open Go.RowKit
set_option linter.unusedVariables false
set_option linter.unusedSimpArgs false

theorem ownx_form {w : World} {lo : Nat} {e : Ty} {t : TypeId} {cs : List Value} {l : List e.T} {S : Nat → Prop} (h : OwnX w lo (.list e t) cs l S) : ∃ v, cs = [v] := by
  rcases h with ⟨_, rfl⟩ | ⟨g, cap, xs, B, rfl, _⟩ <;> exact ⟨_, rfl⟩
def tyCounter : Ty := .pair (.list .int 3) (.pair (.list .int 3) .nil)
theorem ownx_Counter {w : World} {lo : Nat} {cs : List Value} {x0 : List (Sh.T .int)} {x1 : List (Sh.T .int)} {S : Nat → Prop} (h : OwnX w lo tyCounter cs (x0, x1, ()) S) : ∃ (v1 : Value) (S1 : Nat → Prop), ∃ (v2 : Value) (S2 : Nat → Prop), cs = [v1, v2] ∧ OwnX w lo (.list .int 3) [v1] x0 S1 ∧ OwnX w lo (.list .int 3) [v2] x1 S2 ∧ (∀ k, S1 k → S k) ∧ (∀ k, S2 k → S k) ∧ (∀ k, S1 k → ¬ S2 k) := by
  obtain ⟨_, _, s1, t1, rfl, H1, ⟨_, _, s2, t2, rfl, H2, rfl, d2, u2⟩, d1, u1⟩ := h
  obtain ⟨v1, rfl⟩ := ownx_form H1
  obtain ⟨v2, rfl⟩ := ownx_form H2
  exact ⟨v1, s1, v2, s2, rfl, H1, H2, fun k e => (u1 _ (Or.inl e)), fun k e => (u1 _ (Or.inr (u2 _ (Or.inl e)))), fun k e f => d1 k e (u2 _ (Or.inl f))⟩
theorem mkownx_Counter {w : World} {lo : Nat} {v1 : Value} {S1 : Nat → Prop} {v2 : Value} {S2 : Nat → Prop} {x0 : List (Sh.T .int)} {x1 : List (Sh.T .int)} {S : Nat → Prop} (h1 : OwnX w lo (.list .int 3) [v1] x0 S1) (h2 : OwnX w lo (.list .int 3) [v2] x1 S2) (e1 : ∀ k, S1 k → S k) (e2 : ∀ k, S2 k → S k) (d1_2 : ∀ k, S1 k → ¬ S2 k) : OwnX w lo tyCounter [v1, v2] (x0, x1, ()) S := ⟨_, _, S1, fun k => S2 k ∨ False, rfl, h1, ⟨_, _, S2, fun k => False, rfl, h2, rfl, (by intro k g h; (repeat' (rcases h with h | h)) <;> (first | exact h.elim | exact d1_2 k g h)), fun _ h => h⟩, (by intro k g h; (repeat' (rcases h with h | h)) <;> (first | exact h.elim | exact d1_2 k g h)), (by intro k h; (repeat' (rcases h with h | h)) <;> (first | exact h.elim | exact e1 k h | exact e2 k h))⟩
def tyAdd : Ty := .pair .str (.pair .int (.pair .int .nil))
theorem ownx_Add {w : World} {lo : Nat} {cs : List Value} {x0 : ByteArray} {x1 : Int} {x2 : Int} {S : Nat → Prop} (h : OwnX w lo tyAdd cs (x0, x1, x2, ()) S) : cs = [.string x0, .int .i64 x1, .int .i64 x2] := by
  obtain ⟨_, _, s1, t1, rfl, rfl, ⟨_, _, s2, t2, rfl, rfl, ⟨_, _, s3, t3, rfl, rfl, rfl, d3, u3⟩, d2, u2⟩, d1, u1⟩ := h
  exact rfl
theorem mkownx_Add {w : World} {lo : Nat} {x0 : ByteArray} {x1 : Int} {x2 : Int} {S : Nat → Prop} : OwnX w lo tyAdd [.string x0, .int .i64 x1, .int .i64 x2] (x0, x1, x2, ()) S := ⟨_, _, fun k => False, fun k => False ∨ False ∨ False, rfl, rfl, ⟨_, _, fun k => False, fun k => False ∨ False, rfl, rfl, ⟨_, _, fun k => False, fun k => False, rfl, rfl, rfl, fun k g _ => g.elim, fun _ h => h⟩, fun k g _ => g.elim, fun _ h => h⟩, fun k g _ => g.elim, (by intro k h; (repeat' (rcases h with h | h)) <;> (first | exact h.elim))⟩
def tyBag : Ty := .pair (.list tyAdd 113) (.pair (.list tyAdd 113) .nil)
theorem ownx_Bag {w : World} {lo : Nat} {cs : List Value} {x0 : List (Sh.T shAdd)} {x1 : List (Sh.T shAdd)} {S : Nat → Prop} (h : OwnX w lo tyBag cs (x0, x1, ()) S) : ∃ (v1 : Value) (S1 : Nat → Prop), ∃ (v2 : Value) (S2 : Nat → Prop), cs = [v1, v2] ∧ OwnX w lo (.list tyAdd 113) [v1] x0 S1 ∧ OwnX w lo (.list tyAdd 113) [v2] x1 S2 ∧ (∀ k, S1 k → S k) ∧ (∀ k, S2 k → S k) ∧ (∀ k, S1 k → ¬ S2 k) := by
  obtain ⟨_, _, s1, t1, rfl, H1, ⟨_, _, s2, t2, rfl, H2, rfl, d2, u2⟩, d1, u1⟩ := h
  obtain ⟨v1, rfl⟩ := ownx_form H1
  obtain ⟨v2, rfl⟩ := ownx_form H2
  exact ⟨v1, s1, v2, s2, rfl, H1, H2, fun k e => (u1 _ (Or.inl e)), fun k e => (u1 _ (Or.inr (u2 _ (Or.inl e)))), fun k e f => d1 k e (u2 _ (Or.inl f))⟩
theorem mkownx_Bag {w : World} {lo : Nat} {v1 : Value} {S1 : Nat → Prop} {v2 : Value} {S2 : Nat → Prop} {x0 : List (Sh.T shAdd)} {x1 : List (Sh.T shAdd)} {S : Nat → Prop} (h1 : OwnX w lo (.list tyAdd 113) [v1] x0 S1) (h2 : OwnX w lo (.list tyAdd 113) [v2] x1 S2) (e1 : ∀ k, S1 k → S k) (e2 : ∀ k, S2 k → S k) (d1_2 : ∀ k, S1 k → ¬ S2 k) : OwnX w lo tyBag [v1, v2] (x0, x1, ()) S := ⟨_, _, S1, fun k => S2 k ∨ False, rfl, h1, ⟨_, _, S2, fun k => False, rfl, h2, rfl, (by intro k g h; (repeat' (rcases h with h | h)) <;> (first | exact h.elim | exact d1_2 k g h)), fun _ h => h⟩, (by intro k g h; (repeat' (rcases h with h | h)) <;> (first | exact h.elim | exact d1_2 k g h)), (by intro k h; (repeat' (rcases h with h | h)) <;> (first | exact h.elim | exact e1 k h | exact e2 k h))⟩
end Go.Proofs.Ytnglgndocmkbfaa
