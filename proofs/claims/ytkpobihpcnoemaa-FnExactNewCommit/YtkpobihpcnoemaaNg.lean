/- Propositions as Bools, lists of numbers in shapes, small facts on lists: for every chapter with shapes. No Go text is spoken of here. -/
import Derived.Test.YtkpobihpcnoemaaShA
import Derived.Test.YtkpobihpcnoemaaRowS
namespace Go.Proofs.Ytkpobihpcnoemaa
open Go.RowKit
set_option linter.unusedVariables false

/-- A proposition as a Bool. -/
noncomputable def tf (p : Prop) : Bool := @decide p (Classical.propDecidable p)
theorem tf_iff {p : Prop} : tf p = true ↔ p := by unfold tf; exact @decide_eq_true_iff p (Classical.propDecidable p)
theorem tf_yes {p : Prop} (h : p) : tf p = true := tf_iff.2 h
theorem tf_no {p : Prop} (h : ¬ p) : tf p = false := by cases e : tf p with | false => rfl | true => exact absurd (tf_iff.1 e) h
theorem tf_eq {p q : Prop} (h : p ↔ q) : tf p = tf q := by
  by_cases hq : q
  · rw [tf_yes hq, tf_yes (h.2 hq)]
  · rw [tf_no hq, tf_no (fun hp => hq (h.1 hp))]
theorem tf_bool {b : Bool} : tf (b = true) = b := by cases b; exact tf_no (by simp); exact tf_yes rfl

def atI (l : List Int) (i : Nat) : Int := l.getD i 0
theorem atI_lt {l : List Int} {i : Nat} (h : i < l.length) : atI l i = l[i] := by simp [atI, List.getD_eq_getElem?_getD, List.getElem?_eq_getElem h]
/-- A list of numbers, as the elder texts speak of it. -/
theorem lies_sl {w : World} {a : Option Addr} {cap : Nat} {l : List (Sh.T .int)} (h : Lies w (.list .int) [.slice a l.length cap] l) : Sl w a l.length 1 (intF (atI l)) := by
  obtain ⟨ad, c, e1, _, _, h⟩ := h
  simp only [List.cons.injEq, Value.slice.injEq, and_true, true_and] at e1
  obtain ⟨rfl, rfl⟩ := e1
  rcases h with h | ⟨g, off, e2, hg, hE⟩
  · exact Or.inl (by rw [h]; rfl)
  · refine Or.inr ⟨g, off, e2, hg, fun i hi j hj => ?_⟩
    have hj0 : j = 0 := by omega
    subst hj0
    obtain ⟨ec, h1, h2, h3⟩ := hE i hi
    have h3 : ec = [.int .i64 l[i]] := h3
    subst h3
    have := h2 0 (by simp)
    simp only [Sh.c, Nat.add_zero] at this
    rw [Nat.add_zero, this]
    simp [intF, atI_lt hi]
theorem Lies.take {w : World} {e : Sh} {a : Option Addr} {n cap : Nat} {l : List e.T} (h : Lies w (.list e) [.slice a n cap] l) (k : Nat) (hk : k ≤ l.length) : Lies w (.list e) [.slice a k cap] (l.take k) := by
  obtain ⟨ad, c, e1, c1, c2, h⟩ := h
  simp only [List.cons.injEq, Value.slice.injEq, and_true] at e1
  obtain ⟨rfl, rfl, rfl⟩ := e1
  have hl : (l.take k).length = k := by rw [List.length_take]; omega
  refine ⟨a, cap, by rw [hl], by omega, c2, ?_⟩
  rcases h with h | ⟨g, off, e2, hg, hE⟩
  · left; rw [h]; simp
  · right
    refine ⟨g, off, e2, hg, fun i hi => ?_⟩
    obtain ⟨ec, h1, h2, h3⟩ := hE i (by omega)
    exact ⟨ec, h1, h2, by rw [List.getElem_take]; exact h3⟩

theorem mem_take_succ {α : Type} {l : List α} {k : Nat} (h : k < l.length) {P : α → Prop} (h1 : ∀ o ∈ l.take k, P o) (h2 : P l[k]) : ∀ o ∈ l.take (k + 1), P o := by
  rw [List.take_succ_eq_append_getElem h]
  intro o ho
  rcases List.mem_append.1 ho with q | q
  · exact h1 o q
  · rw [List.mem_singleton.1 q]; exact h2
theorem pair_take_succ {α : Type} {l : List α} {k : Nat} (h : k < l.length) {R : α → α → Prop} (h1 : (l.take k).Pairwise R) (h2 : ∀ o ∈ l.take k, R o l[k]) : (l.take (k + 1)).Pairwise R := by
  rw [List.take_succ_eq_append_getElem h, List.pairwise_append]
  exact ⟨h1, List.pairwise_singleton _ _, fun a ha b hb => by rw [List.mem_singleton.1 hb]; exact h2 a ha⟩
theorem pair_take_no {α : Type} {l : List α} {k : Nat} (h : k < l.length) {R : α → α → Prop} {o : α} (ho : o ∈ l.take k) (hn : ¬ R o l[k]) : ¬ l.Pairwise R := by
  intro hp
  have := hp.sublist (List.take_sublist (k + 1) l)
  rw [List.take_succ_eq_append_getElem h, List.pairwise_append] at this
  exact hn (this.2.2 o ho _ (List.mem_singleton.2 rfl))
theorem emptyB_size (s : ByteArray) : s.toList.isEmpty = (s.size == 0) := by
  rw [ByteArray.toList_eq]
  cases h : s.data.toList with
  | nil => have : s.size = 0 := by have := congrArg List.length h; simpa using this
           simp [this]
  | cons a l => have : s.size = l.length + 1 := by have := congrArg List.length h; simpa using this
                simp [this]
theorem empty_iff {v : ByteArray} : v.toList.isEmpty = true ↔ v.size = 0 := by rw [emptyB_size]; simp
theorem Bx.grow {w w' : World} {row : Option Nat} {g : Nat} {vs : List Value} (h : Bx w g vs) (hg : w.grownBy w' row) (hne : some g ≠ row) : Bx w' g vs :=
  ⟨fun j hj => ⟨(hg.cell_far ⟨g, j, none⟩ h.2 hne).trans (h.1 j hj).1, (hg.frozen_far ⟨g, j, none⟩ h.2 hne).trans (h.1 j hj).2⟩, Nat.lt_of_lt_of_le h.2 hg.size⟩
theorem size_text {n : Nat} (h : n ≤ 1073741824) : n ≤ maxLen := by unfold maxLen; omega
theorem below_dN {B : Nat} {a w : World} (h : Below B a w) (n : Nat) : Below B a (w.drewN n) := ⟨h.os, h.tape, h.output, h.size, h.block⟩
end Go.Proofs.Ytkpobihpcnoemaa
