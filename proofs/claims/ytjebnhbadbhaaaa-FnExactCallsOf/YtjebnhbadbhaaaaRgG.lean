/- Registers that many keep: what a good one is. Mathematics alone. -/
import Derived.Test.YtjebnhbadbhaaaaNtS
import Derived.Test.YtjebnhbadbhaaaaShP
import Derived.Test.YtjebnhbadbhaaaaKeyI
import Derived.Test.YtjebnhbadbhaaaaGrG
namespace Go.Proofs.Ytjebnhbadbhaaaa
open Go.RowKit
set_option linter.unusedVariables false

/-- A proposition as a Bool. -/
noncomputable def tf (p : Prop) : Bool := @decide p (Classical.propDecidable p)
theorem tf_iff {p : Prop} : tf p = true ↔ p := by unfold tf; exact @decide_eq_true_iff p (Classical.propDecidable p)
theorem tf_yes {p : Prop} (h : p) : tf p = true := tf_iff.2 h
theorem tf_no {p : Prop} (h : ¬ p) : tf p = false := by cases e : tf p with | false => rfl | true => exact absurd (tf_iff.1 e) h
theorem tf_eq {p q : Prop} (h : p ↔ q) : tf p = tf q := by
  by_cases hq : q
  · rw [tf_yes hq, tf_yes (h.2 hq)]
  · rw [tf_no hq, tf_no (fun hp => hq (h.1 hp))]
theorem tf_bool {b : Bool} : tf (b = true) = b := by cases b; exact tf_no (by simp); exact tf_yes rfl

def atI (l : List Int) (i : Nat) : Int := l.getD i 0
theorem atI_lt {l : List Int} {i : Nat} (h : i < l.length) : atI l i = l[i] := by simp [atI, List.getD_eq_getElem?_getD, List.getElem?_eq_getElem h]
/-- A list of numbers, as the elder texts speak of it. -/
theorem lies_sl {w : World} {a : Option Addr} {cap : Nat} {l : List (Sh.T .int)} (h : Lies w (.list .int) [.slice a l.length cap] l) : Sl w a l.length 1 (intF (atI l)) := by
  obtain ⟨ad, c, e1, _, _, h⟩ := h
  simp only [List.cons.injEq, Value.slice.injEq, and_true, true_and] at e1
  obtain ⟨rfl, rfl⟩ := e1
  rcases h with h | ⟨g, off, e2, hg, hE⟩
  · exact Or.inl (by rw [h]; rfl)
  · refine Or.inr ⟨g, off, e2, hg, fun i hi j hj => ?_⟩
    have hj0 : j = 0 := by omega
    subst hj0
    obtain ⟨ec, h1, h2, h3⟩ := hE i hi
    have h3 : ec = [.int .i64 l[i]] := h3
    subst h3
    have := h2 0 (by simp)
    simp only [Sh.c, Nat.add_zero] at this
    rw [Nat.add_zero, this]
    simp [intF, atI_lt hi]
theorem Lies.take {w : World} {e : Sh} {a : Option Addr} {n cap : Nat} {l : List e.T} (h : Lies w (.list e) [.slice a n cap] l) (k : Nat) (hk : k ≤ l.length) : Lies w (.list e) [.slice a k cap] (l.take k) := by
  obtain ⟨ad, c, e1, c1, c2, h⟩ := h
  simp only [List.cons.injEq, Value.slice.injEq, and_true] at e1
  obtain ⟨rfl, rfl, rfl⟩ := e1
  have hl : (l.take k).length = k := by rw [List.length_take]; omega
  refine ⟨a, cap, by rw [hl], by omega, c2, ?_⟩
  rcases h with h | ⟨g, off, e2, hg, hE⟩
  · left; rw [h]; simp
  · right
    refine ⟨g, off, e2, hg, fun i hi => ?_⟩
    obtain ⟨ec, h1, h2, h3⟩ := hE i (by omega)
    exact ⟨ec, h1, h2, by rw [List.getElem_take]; exact h3⟩

def copP (n i : Int) (v : ByteArray) : Prop := (0 ≤ n ∧ n ≤ 1000) ∧ (0 ≤ i ∧ i ≤ 9) ∧ valOk v = true
def risP (l : List Int) (m : Int) : Prop := grP (atI l) m l.length
/-- A good op of a register with this clock and so many copies. -/
def opQ (ck nc : Int) (x0 : Int) (x1 : Bool) (x2 : ByteArray) (x3 : Int) (x4 : List Int) (x5 x6 : Int) (x7 : ByteArray) (x8 x9 : Int) : Prop :=
  (0 ≤ x0 ∧ x0 ≤ 9) ∧ valOk x2 = true ∧ (x1 = true ∨ x2.size = 0) ∧ (1 ≤ x3 ∧ x3 ≤ 3) ∧ copP x5 x6 x7 ∧ (0 ≤ x8 ∧ x8 ≤ ck - 1) ∧ 2 * (x4.length : Int) ≤ nc ∧ (x3 = 3 → x4.length = 0) ∧ (x3 = 3 → x8 + 1 ≤ x9 ∧ x9 ≤ ck - 1) ∧ (x3 ≠ 3 → x9 = 0) ∧ risP x4 nc
abbrev RgO := Sh.T shRegOp
def RgO.cl (o : RgO) : Int := o.1
def RgO.ph (o : RgO) : Int := o.2.2.2.1
def RgO.st (o : RgO) : Int := o.2.2.2.2.2.2.1
def RgO.en (o : RgO) : Int := o.2.2.2.2.2.2.2.1
def opP (ck nc : Int) (o : RgO) : Prop := opQ ck nc o.1 o.2.1 o.2.2.1 o.2.2.2.1 o.2.2.2.2.1 o.2.2.2.2.2.1.1 o.2.2.2.2.2.1.2.1 o.2.2.2.2.2.1.2.2.1 o.2.2.2.2.2.2.1 o.2.2.2.2.2.2.2.1
/-- Two ops that may stand together, a ahead of b. -/
def busyP (a b : RgO) : Prop := ¬ (a.cl = b.cl ∧ a.ph ≠ 3 ∧ b.ph ≠ 3)
def prP (a b : RgO) : Prop := busyP a b ∧ a.st ≠ b.st ∧ (b.ph = 3 → b.en ≠ a.st) ∧ (a.ph = 3 → a.en ≠ b.st) ∧ (a.ph = 3 → b.ph = 3 → a.en ≠ b.en)
def goodR (ck : Int) (cs : List (Sh.T shCopy)) (os : List (Sh.T shRegOp)) : Prop :=
  (0 ≤ ck ∧ ck ≤ 1000) ∧ (1 ≤ cs.length ∧ cs.length ≤ 12) ∧ os.length ≤ 7 ∧ (∀ c ∈ cs, copP c.1 c.2.1 c.2.2.1) ∧ (∀ o ∈ os, opP ck cs.length o) ∧ os.Pairwise prP
/-- When something was. -/
def tmO (o : RgO) : List Int := o.st :: if o.ph = 3 then [o.en] else []
def tmL (l : List (Sh.T shRegOp)) : List Int := l.flatMap tmO
theorem mem_take_succ {α : Type} {l : List α} {k : Nat} (h : k < l.length) {P : α → Prop} (h1 : ∀ o ∈ l.take k, P o) (h2 : P l[k]) : ∀ o ∈ l.take (k + 1), P o := by
  rw [List.take_succ_eq_append_getElem h]
  intro o ho
  rcases List.mem_append.1 ho with q | q
  · exact h1 o q
  · rw [List.mem_singleton.1 q]; exact h2
theorem pair_take_succ {α : Type} {l : List α} {k : Nat} (h : k < l.length) {R : α → α → Prop} (h1 : (l.take k).Pairwise R) (h2 : ∀ o ∈ l.take k, R o l[k]) : (l.take (k + 1)).Pairwise R := by
  rw [List.take_succ_eq_append_getElem h, List.pairwise_append]
  exact ⟨h1, List.pairwise_singleton _ _, fun a ha b hb => by rw [List.mem_singleton.1 hb]; exact h2 a ha⟩
theorem pair_take_no {α : Type} {l : List α} {k : Nat} (h : k < l.length) {R : α → α → Prop} {o : α} (ho : o ∈ l.take k) (hn : ¬ R o l[k]) : ¬ l.Pairwise R := by
  intro hp
  have := hp.sublist (List.take_sublist (k + 1) l)
  rw [List.take_succ_eq_append_getElem h, List.pairwise_append] at this
  exact hn (this.2.2 o ho _ (List.mem_singleton.2 rfl))
theorem tm_mem {l : List (Sh.T shRegOp)} {t : Int} : t ∈ tmL l ↔ ∃ o ∈ l, t = RgO.st o ∨ (RgO.ph o = 3 ∧ t = RgO.en o) := by
  unfold tmL
  rw [List.mem_flatMap]
  constructor
  · rintro ⟨o, ho, ht⟩
    refine ⟨o, ho, ?_⟩
    unfold tmO at ht
    rcases List.mem_cons.1 ht with q | q
    · exact Or.inl q
    · by_cases e : RgO.ph o = 3
      · rw [if_pos e] at q; exact Or.inr ⟨e, List.mem_singleton.1 q⟩
      · rw [if_neg e] at q; cases q
  · rintro ⟨o, ho, ht⟩
    refine ⟨o, ho, ?_⟩
    unfold tmO
    rcases ht with q | ⟨e, q⟩
    · rw [q]; exact List.mem_cons_self
    · rw [if_pos e, q]; simp
/-- Times are unlike just where each two ops' times are. -/
theorem unlike_iff {ck nc : Int} : ∀ {l : List (Sh.T shRegOp)}, (∀ o ∈ l, opP ck nc o) → (l.Pairwise busyP ∧ (tmL l).Nodup ↔ l.Pairwise prP)
  | [], _ => by simp [tmL]
  | o :: t, h => by
    have ih := unlike_iff (l := t) (fun q hq => h q (List.mem_cons_of_mem _ hq))
    have ho : opP ck nc o := h o List.mem_cons_self
    have hne : RgO.ph o = 3 → RgO.en o ≠ RgO.st o := fun e q => by
      have := ho.2.2.2.2.2.2.2.2.1 e
      have h1 : RgO.st o + 1 ≤ RgO.en o := this.1
      omega
    rw [List.pairwise_cons, List.pairwise_cons, ← ih]
    have e1 : tmL (o :: t) = tmO o ++ tmL t := by simp [tmL]
    rw [e1, List.nodup_append]
    have e2 : (tmO o).Nodup := by
      unfold tmO
      by_cases e : RgO.ph o = 3
      · rw [if_pos e]; simp; exact fun q => hne e q.symm
      · rw [if_neg e]; simp
    have e3 : (∀ a ∈ tmO o, ∀ b ∈ tmL t, a ≠ b) ↔ ∀ b ∈ t, RgO.st o ≠ RgO.st b ∧ (RgO.ph b = 3 → RgO.en b ≠ RgO.st o) ∧ (RgO.ph o = 3 → RgO.en o ≠ RgO.st b) ∧ (RgO.ph o = 3 → RgO.ph b = 3 → RgO.en o ≠ RgO.en b) := by
      constructor
      · intro hd b hb
        have hs : RgO.st o ∈ tmO o := List.mem_cons_self
        have he : RgO.ph o = 3 → RgO.en o ∈ tmO o := fun e => by unfold tmO; rw [if_pos e]; simp
        exact ⟨hd _ hs _ (tm_mem.2 ⟨b, hb, Or.inl rfl⟩), fun e q => hd _ hs _ (tm_mem.2 ⟨b, hb, Or.inr ⟨e, rfl⟩⟩) q.symm, fun e => hd _ (he e) _ (tm_mem.2 ⟨b, hb, Or.inl rfl⟩), fun e e' => hd _ (he e) _ (tm_mem.2 ⟨b, hb, Or.inr ⟨e', rfl⟩⟩)⟩
      · intro hd a ha c hc
        obtain ⟨b, hb, hcb⟩ := tm_mem.1 hc
        have hq := hd b hb
        have ha' : a = RgO.st o ∨ (RgO.ph o = 3 ∧ a = RgO.en o) := by
          have := tm_mem (l := [o]) (t := a)
          simp only [tmL, List.flatMap_cons, List.flatMap_nil, List.append_nil, List.mem_singleton, exists_eq_left] at this
          exact this.1 ha
        rcases ha' with e | ⟨e, e'⟩ <;> rcases hcb with f | ⟨f, f'⟩
        · rw [e, f]; exact hq.1
        · rw [e, f']; exact fun q => hq.2.1 f q.symm
        · rw [e', f]; exact hq.2.2.1 e
        · rw [e', f']; exact hq.2.2.2 e f
    rw [e3]
    constructor
    · rintro ⟨⟨h1, h2⟩, h3, h4, h5⟩
      exact ⟨fun b hb => ⟨h1 b hb, h5 b hb⟩, h2, h4⟩
    · rintro ⟨h1, h2, h3⟩
      exact ⟨⟨fun b hb => (h1 b hb).1, h2⟩, e2, h3, fun b hb => (h1 b hb).2⟩
theorem tm_len (l : List (Sh.T shRegOp)) : (tmL l).length ≤ 2 * l.length := by
  unfold tmL
  induction l with
  | nil => simp
  | cons o t ih =>
    rw [List.flatMap_cons, List.length_append, List.length_cons]
    have : (tmO o).length ≤ 2 := by unfold tmO; split <;> simp
    omega
end Go.Proofs.Ytjebnhbadbhaaaa
