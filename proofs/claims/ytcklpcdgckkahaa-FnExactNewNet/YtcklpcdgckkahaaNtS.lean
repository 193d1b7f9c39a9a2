/- Shapes of this chapter's types. Written by tools/nest.py. -/
import Derived.Test.YtcklpcdgckkahaaSh
namespace Go.Proofs.Ytcklpcdgckkahaa
open Go.RowKit
set_option linter.unusedVariables false
set_option linter.unusedSimpArgs false

def shBank : Sh := .pair .int (.pair .bool (.pair .int .nil))
theorem lies_Bank {w : World} {cs : List Value} {x0 : Int} {x1 : Bool} {x2 : Int} (h : Lies w shBank cs (x0, x1, x2, ())) : cs = [.int .i64 x0, .bool x1, .int .i64 x2] := by
  obtain ⟨_, _, rfl, rfl, ⟨_, _, rfl, rfl, ⟨_, _, rfl, rfl, rfl⟩⟩⟩ := h
  exact rfl
theorem mk_Bank {w : World} {x0 : Int} {x1 : Bool} {x2 : Int} : Lies w shBank [.int .i64 x0, .bool x1, .int .i64 x2] (x0, x1, x2, ()) := ⟨_, _, rfl, rfl, ⟨_, _, rfl, rfl, ⟨_, _, rfl, rfl, rfl⟩⟩⟩
theorem own_Bank {w : World} {cs : List Value} {x0 : Int} {x1 : Bool} {x2 : Int} {S : Nat → Prop} (h : Own w shBank cs (x0, x1, x2, ()) S) : cs = [.int .i64 x0, .bool x1, .int .i64 x2] := by
  obtain ⟨_, _, s1, t1, rfl, rfl, ⟨_, _, s2, t2, rfl, rfl, ⟨_, _, s3, t3, rfl, rfl, rfl, d3, u3⟩, d2, u2⟩, d1, u1⟩ := h
  exact rfl
theorem mkown_Bank {w : World} {x0 : Int} {x1 : Bool} {x2 : Int} {S : Nat → Prop} : Own w shBank [.int .i64 x0, .bool x1, .int .i64 x2] (x0, x1, x2, ()) S := ⟨_, _, fun k => False, fun k => False ∨ False ∨ False, rfl, rfl, ⟨_, _, fun k => False, fun k => False ∨ False, rfl, rfl, ⟨_, _, fun k => False, fun k => False, rfl, rfl, rfl, fun k g _ => g.elim, fun _ h => h⟩, fun k g _ => g.elim, fun _ h => h⟩, fun k g _ => g.elim, (by intro k h; (repeat' (rcases h with h | h)) <;> (first | exact h.elim))⟩
def shParcel : Sh := .pair .bool (.pair .int .nil)
theorem lies_Parcel {w : World} {cs : List Value} {x0 : Bool} {x1 : Int} (h : Lies w shParcel cs (x0, x1, ())) : cs = [.bool x0, .int .i64 x1] := by
  obtain ⟨_, _, rfl, rfl, ⟨_, _, rfl, rfl, rfl⟩⟩ := h
  exact rfl
theorem mk_Parcel {w : World} {x0 : Bool} {x1 : Int} : Lies w shParcel [.bool x0, .int .i64 x1] (x0, x1, ()) := ⟨_, _, rfl, rfl, ⟨_, _, rfl, rfl, rfl⟩⟩
theorem own_Parcel {w : World} {cs : List Value} {x0 : Bool} {x1 : Int} {S : Nat → Prop} (h : Own w shParcel cs (x0, x1, ()) S) : cs = [.bool x0, .int .i64 x1] := by
  obtain ⟨_, _, s1, t1, rfl, rfl, ⟨_, _, s2, t2, rfl, rfl, rfl, d2, u2⟩, d1, u1⟩ := h
  exact rfl
theorem mkown_Parcel {w : World} {x0 : Bool} {x1 : Int} {S : Nat → Prop} : Own w shParcel [.bool x0, .int .i64 x1] (x0, x1, ()) S := ⟨_, _, fun k => False, fun k => False ∨ False, rfl, rfl, ⟨_, _, fun k => False, fun k => False, rfl, rfl, rfl, fun k g _ => g.elim, fun _ h => h⟩, fun k g _ => g.elim, (by intro k h; (repeat' (rcases h with h | h)) <;> (first | exact h.elim))⟩
def shWay : Sh := .pair .int (.pair .int (.pair (.list shParcel) (.pair .bool (.pair (.list .int) .nil))))
theorem lies_Way {w : World} {cs : List Value} {x0 : Int} {x1 : Int} {x2 : List (Sh.T shParcel)} {x3 : Bool} {x4 : List (Sh.T .int)} (h : Lies w shWay cs (x0, x1, x2, x3, x4, ())) : ∃ (a1 : Option Addr) (k1 : Nat), ∃ (a2 : Option Addr) (k2 : Nat), cs = [.int .i64 x0, .int .i64 x1, .slice a1 x2.length k1, .bool x3, .slice a2 x4.length k2] ∧ Lies w (.list shParcel) [.slice a1 x2.length k1] x2 ∧ Lies w (.list .int) [.slice a2 x4.length k2] x4 := by
  obtain ⟨_, _, rfl, rfl, ⟨_, _, rfl, rfl, ⟨_, _, rfl, h1, ⟨_, _, rfl, rfl, ⟨_, _, rfl, h2, rfl⟩⟩⟩⟩⟩ := h
  obtain ⟨a1, k1, rfl, q1⟩ := h1
  obtain ⟨a2, k2, rfl, q2⟩ := h2
  exact ⟨a1, k1, a2, k2, rfl, ⟨a1, k1, rfl, q1⟩, ⟨a2, k2, rfl, q2⟩⟩
theorem mk_Way {w : World} {a1 : Option Addr} {n1 k1 : Nat} {a2 : Option Addr} {n2 k2 : Nat} {x0 : Int} {x1 : Int} {x2 : List (Sh.T shParcel)} {x3 : Bool} {x4 : List (Sh.T .int)} (h1 : Lies w (.list shParcel) [.slice a1 n1 k1] x2) (h2 : Lies w (.list .int) [.slice a2 n2 k2] x4) : Lies w shWay [.int .i64 x0, .int .i64 x1, .slice a1 n1 k1, .bool x3, .slice a2 n2 k2] (x0, x1, x2, x3, x4, ()) := ⟨_, _, rfl, rfl, ⟨_, _, rfl, rfl, ⟨_, _, rfl, h1, ⟨_, _, rfl, rfl, ⟨_, _, rfl, h2, rfl⟩⟩⟩⟩⟩
theorem own_Way {w : World} {cs : List Value} {x0 : Int} {x1 : Int} {x2 : List (Sh.T shParcel)} {x3 : Bool} {x4 : List (Sh.T .int)} {S : Nat → Prop} (h : Own w shWay cs (x0, x1, x2, x3, x4, ()) S) : ∃ (a1 : Option Addr) (k1 : Nat) (S1 : Nat → Prop), ∃ (a2 : Option Addr) (k2 : Nat) (S2 : Nat → Prop), cs = [.int .i64 x0, .int .i64 x1, .slice a1 x2.length k1, .bool x3, .slice a2 x4.length k2] ∧ Own w (.list shParcel) [.slice a1 x2.length k1] x2 S1 ∧ Own w (.list .int) [.slice a2 x4.length k2] x4 S2 ∧ (∀ k, S1 k → S k) ∧ (∀ k, S2 k → S k) ∧ (∀ k, S1 k → ¬ S2 k) := by
  obtain ⟨_, _, s1, t1, rfl, rfl, ⟨_, _, s2, t2, rfl, rfl, ⟨_, _, s3, t3, rfl, H3, ⟨_, _, s4, t4, rfl, rfl, ⟨_, _, s5, t5, rfl, H5, rfl, d5, u5⟩, d4, u4⟩, d3, u3⟩, d2, u2⟩, d1, u1⟩ := h
  obtain ⟨a1, k1, rfl⟩ := own_form H3
  obtain ⟨a2, k2, rfl⟩ := own_form H5
  exact ⟨a1, k1, s3, a2, k2, s5, rfl, H3, H5, fun k e => (u1 _ (Or.inr (u2 _ (Or.inr (u3 _ (Or.inl e)))))), fun k e => (u1 _ (Or.inr (u2 _ (Or.inr (u3 _ (Or.inr (u4 _ (Or.inr (u5 _ (Or.inl e)))))))))), fun k e f => d3 k e (u4 _ (Or.inr (u5 _ (Or.inl f))))⟩
theorem mkown_Way {w : World} {a1 : Option Addr} {n1 k1 : Nat} {S1 : Nat → Prop} {a2 : Option Addr} {n2 k2 : Nat} {S2 : Nat → Prop} {x0 : Int} {x1 : Int} {x2 : List (Sh.T shParcel)} {x3 : Bool} {x4 : List (Sh.T .int)} {S : Nat → Prop} (h1 : Own w (.list shParcel) [.slice a1 n1 k1] x2 S1) (h2 : Own w (.list .int) [.slice a2 n2 k2] x4 S2) (e1 : ∀ k, S1 k → S k) (e2 : ∀ k, S2 k → S k) (d1_2 : ∀ k, S1 k → ¬ S2 k) : Own w shWay [.int .i64 x0, .int .i64 x1, .slice a1 n1 k1, .bool x3, .slice a2 n2 k2] (x0, x1, x2, x3, x4, ()) S := ⟨_, _, fun k => False, fun k => False ∨ S1 k ∨ False ∨ S2 k ∨ False, rfl, rfl, ⟨_, _, fun k => False, fun k => S1 k ∨ False ∨ S2 k ∨ False, rfl, rfl, ⟨_, _, S1, fun k => False ∨ S2 k ∨ False, rfl, h1, ⟨_, _, fun k => False, fun k => S2 k ∨ False, rfl, rfl, ⟨_, _, S2, fun k => False, rfl, h2, rfl, (by intro k g h; (repeat' (rcases h with h | h)) <;> (first | exact h.elim | exact d1_2 k g h)), fun _ h => h⟩, fun k g _ => g.elim, fun _ h => h⟩, (by intro k g h; (repeat' (rcases h with h | h)) <;> (first | exact h.elim | exact d1_2 k g h)), fun _ h => h⟩, fun k g _ => g.elim, fun _ h => h⟩, fun k g _ => g.elim, (by intro k h; (repeat' (rcases h with h | h)) <;> (first | exact h.elim | exact e1 k h | exact e2 k h))⟩
def shNet : Sh := .pair (.list shBank) (.pair (.list shWay) .nil)
theorem lies_Net {w : World} {cs : List Value} {x0 : List (Sh.T shBank)} {x1 : List (Sh.T shWay)} (h : Lies w shNet cs (x0, x1, ())) : ∃ (a1 : Option Addr) (k1 : Nat), ∃ (a2 : Option Addr) (k2 : Nat), cs = [.slice a1 x0.length k1, .slice a2 x1.length k2] ∧ Lies w (.list shBank) [.slice a1 x0.length k1] x0 ∧ Lies w (.list shWay) [.slice a2 x1.length k2] x1 := by
  obtain ⟨_, _, rfl, h1, ⟨_, _, rfl, h2, rfl⟩⟩ := h
  obtain ⟨a1, k1, rfl, q1⟩ := h1
  obtain ⟨a2, k2, rfl, q2⟩ := h2
  exact ⟨a1, k1, a2, k2, rfl, ⟨a1, k1, rfl, q1⟩, ⟨a2, k2, rfl, q2⟩⟩
theorem mk_Net {w : World} {a1 : Option Addr} {n1 k1 : Nat} {a2 : Option Addr} {n2 k2 : Nat} {x0 : List (Sh.T shBank)} {x1 : List (Sh.T shWay)} (h1 : Lies w (.list shBank) [.slice a1 n1 k1] x0) (h2 : Lies w (.list shWay) [.slice a2 n2 k2] x1) : Lies w shNet [.slice a1 n1 k1, .slice a2 n2 k2] (x0, x1, ()) := ⟨_, _, rfl, h1, ⟨_, _, rfl, h2, rfl⟩⟩
theorem own_Net {w : World} {cs : List Value} {x0 : List (Sh.T shBank)} {x1 : List (Sh.T shWay)} {S : Nat → Prop} (h : Own w shNet cs (x0, x1, ()) S) : ∃ (a1 : Option Addr) (k1 : Nat) (S1 : Nat → Prop), ∃ (a2 : Option Addr) (k2 : Nat) (S2 : Nat → Prop), cs = [.slice a1 x0.length k1, .slice a2 x1.length k2] ∧ Own w (.list shBank) [.slice a1 x0.length k1] x0 S1 ∧ Own w (.list shWay) [.slice a2 x1.length k2] x1 S2 ∧ (∀ k, S1 k → S k) ∧ (∀ k, S2 k → S k) ∧ (∀ k, S1 k → ¬ S2 k) := by
  obtain ⟨_, _, s1, t1, rfl, H1, ⟨_, _, s2, t2, rfl, H2, rfl, d2, u2⟩, d1, u1⟩ := h
  obtain ⟨a1, k1, rfl⟩ := own_form H1
  obtain ⟨a2, k2, rfl⟩ := own_form H2
  exact ⟨a1, k1, s1, a2, k2, s2, rfl, H1, H2, fun k e => (u1 _ (Or.inl e)), fun k e => (u1 _ (Or.inr (u2 _ (Or.inl e)))), fun k e f => d1 k e (u2 _ (Or.inl f))⟩
theorem mkown_Net {w : World} {a1 : Option Addr} {n1 k1 : Nat} {S1 : Nat → Prop} {a2 : Option Addr} {n2 k2 : Nat} {S2 : Nat → Prop} {x0 : List (Sh.T shBank)} {x1 : List (Sh.T shWay)} {S : Nat → Prop} (h1 : Own w (.list shBank) [.slice a1 n1 k1] x0 S1) (h2 : Own w (.list shWay) [.slice a2 n2 k2] x1 S2) (e1 : ∀ k, S1 k → S k) (e2 : ∀ k, S2 k → S k) (d1_2 : ∀ k, S1 k → ¬ S2 k) : Own w shNet [.slice a1 n1 k1, .slice a2 n2 k2] (x0, x1, ()) S := ⟨_, _, S1, fun k => S2 k ∨ False, rfl, h1, ⟨_, _, S2, fun k => False, rfl, h2, rfl, (by intro k g h; (repeat' (rcases h with h | h)) <;> (first | exact h.elim | exact d1_2 k g h)), fun _ h => h⟩, (by intro k g h; (repeat' (rcases h with h | h)) <;> (first | exact h.elim | exact d1_2 k g h)), (by intro k h; (repeat' (rcases h with h | h)) <;> (first | exact h.elim | exact e1 k h | exact e2 k h))⟩
def shBankStep : Sh := .pair .int (.pair .int (.pair .int (.pair .int .nil)))
theorem lies_BankStep {w : World} {cs : List Value} {x0 : Int} {x1 : Int} {x2 : Int} {x3 : Int} (h : Lies w shBankStep cs (x0, x1, x2, x3, ())) : cs = [.int .i64 x0, .int .i64 x1, .int .i64 x2, .int .i64 x3] := by
  obtain ⟨_, _, rfl, rfl, ⟨_, _, rfl, rfl, ⟨_, _, rfl, rfl, ⟨_, _, rfl, rfl, rfl⟩⟩⟩⟩ := h
  exact rfl
theorem mk_BankStep {w : World} {x0 : Int} {x1 : Int} {x2 : Int} {x3 : Int} : Lies w shBankStep [.int .i64 x0, .int .i64 x1, .int .i64 x2, .int .i64 x3] (x0, x1, x2, x3, ()) := ⟨_, _, rfl, rfl, ⟨_, _, rfl, rfl, ⟨_, _, rfl, rfl, ⟨_, _, rfl, rfl, rfl⟩⟩⟩⟩
theorem own_BankStep {w : World} {cs : List Value} {x0 : Int} {x1 : Int} {x2 : Int} {x3 : Int} {S : Nat → Prop} (h : Own w shBankStep cs (x0, x1, x2, x3, ()) S) : cs = [.int .i64 x0, .int .i64 x1, .int .i64 x2, .int .i64 x3] := by
  obtain ⟨_, _, s1, t1, rfl, rfl, ⟨_, _, s2, t2, rfl, rfl, ⟨_, _, s3, t3, rfl, rfl, ⟨_, _, s4, t4, rfl, rfl, rfl, d4, u4⟩, d3, u3⟩, d2, u2⟩, d1, u1⟩ := h
  exact rfl
theorem mkown_BankStep {w : World} {x0 : Int} {x1 : Int} {x2 : Int} {x3 : Int} {S : Nat → Prop} : Own w shBankStep [.int .i64 x0, .int .i64 x1, .int .i64 x2, .int .i64 x3] (x0, x1, x2, x3, ()) S := ⟨_, _, fun k => False, fun k => False ∨ False ∨ False ∨ False, rfl, rfl, ⟨_, _, fun k => False, fun k => False ∨ False ∨ False, rfl, rfl, ⟨_, _, fun k => False, fun k => False ∨ False, rfl, rfl, ⟨_, _, fun k => False, fun k => False, rfl, rfl, rfl, fun k g _ => g.elim, fun _ h => h⟩, fun k g _ => g.elim, fun _ h => h⟩, fun k g _ => g.elim, fun _ h => h⟩, fun k g _ => g.elim, (by intro k h; (repeat' (rcases h with h | h)) <;> (first | exact h.elim))⟩
end Go.Proofs.Ytcklpcdgckkahaa
