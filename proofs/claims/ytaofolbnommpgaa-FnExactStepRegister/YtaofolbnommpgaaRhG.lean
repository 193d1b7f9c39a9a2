/- Registers: what a step makes of one, and that it keeps one good. Mathematics alone. -/
import Derived.Test.YtaofolbnommpgaaRgN
import Derived.Test.YtaofolbnommpgaaRhI
namespace Go.Proofs.Ytaofolbnommpgaa
open Go.RowKit
set_option linter.unusedVariables false
set_option linter.unusedSimpArgs false

abbrev mkCp (n i : Int) (v : ByteArray) : Sh.T shCopy := (n, i, v, ())
abbrev mkOp (x0 : Int) (x1 : Bool) (x2 : ByteArray) (x3 : Int) (x4 : List (Sh.T .int)) (b : Sh.T shCopy) (x8 x9 : Int) : Sh.T shRegOp := (x0, x1, x2, x3, x4, b, x8, x9, ())
def z1C : Sh.T shCopy := mkCp 0 0 ⟨#[]⟩
def z1O : Sh.T shRegOp := mkOp 0 false ⟨#[]⟩ 0 [] z1C 0 0
def RgO.bs (o : RgO) : Sh.T shCopy := o.2.2.2.2.2.1
def RgO.sn (o : RgO) : List (Sh.T .int) := o.2.2.2.2.1
def copQ (c : Sh.T shCopy) : Prop := copP c.1 c.2.1 c.2.2.1
/-- What an op hears of a node, and a node of it. -/
def goB (ph : Int) (b c : Sh.T shCopy) : Sh.T shCopy := if ph = 1 then nwC b c else b
def goC (ph : Int) (b c : Sh.T shCopy) : Sh.T shCopy := if ph = 1 then c else nwC c b
/-- The op's phase ends where more than half have been met. -/
def goE (ck nc x0 : Int) (x1 : Bool) (x2 : ByteArray) (x3 : Int) (x4 : List (Sh.T .int)) (b : Sh.T shCopy) (x8 x9 : Int) : Sh.T shRegOp :=
  if 2 * (x4.length : Int) ≤ nc then mkOp x0 x1 x2 x3 x4 b x8 x9
  else if x3 = 1 then mkOp x0 x1 x2 2 [] (if x1 = true then mkCp (b.1 + 1) x0 x2 else b) x8 x9
  else mkOp x0 x1 x2 3 [] b x8 ck
def goO (ck nc : Int) (o : RgO) (c : Sh.T shCopy) (ni : Int) : Sh.T shRegOp :=
  goE ck nc o.1 o.2.1 o.2.2.1 o.2.2.2.1 (insI o.2.2.2.2.1 ni) (goB o.2.2.2.1 o.2.2.2.2.2.1 c) o.2.2.2.2.2.2.1 o.2.2.2.2.2.2.2.1
abbrev RgD := List (Sh.T shCopy) × List (Sh.T shRegOp)
def begP (os : List (Sh.T shRegOp)) (cl : Int) (wr : Bool) (vl : ByteArray) : Prop := (0 ≤ cl ∧ cl ≤ 9) ∧ opV wr vl = true ∧ os.length < 7 ∧ ¬ bsyP os cl
def goP (cp : List (Sh.T shCopy)) (os : List (Sh.T shRegOp)) (oi ni : Int) : Prop :=
  (0 ≤ oi ∧ oi ≤ (os.length : Int) - 1) ∧ (0 ≤ ni ∧ ni ≤ (cp.length : Int) - 1) ∧ RgO.ph (os.getD oi.toNat z1O) ≠ 3 ∧ ni ∉ RgO.sn (os.getD oi.toNat z1O)
def newOp (ck cl : Int) (wr : Bool) (vl : ByteArray) : Sh.T shRegOp := mkOp cl wr vl 1 [] z1C ck 0
/-- A step on a register that is taken as good. -/
noncomputable def rsB (ck : Int) (cp : List (Sh.T shCopy)) (os : List (Sh.T shRegOp)) (bg : Bool) (cl : Int) (wr : Bool) (vl : ByteArray) (oi ni : Int) : Option RgD :=
  if bg = true then (if tf (begP os cl wr vl) = true then some (cp, os ++ [newOp ck cl wr vl]) else none)
  else if tf (goP cp os oi ni) = true then
    some (cp.set ni.toNat (goC (RgO.ph (os.getD oi.toNat z1O)) (RgO.bs (os.getD oi.toNat z1O)) (cp.getD ni.toNat z1C)), os.set oi.toNat (goO ck cp.length (os.getD oi.toNat z1O) (cp.getD ni.toNat z1C) ni))
  else none
noncomputable def rsT (ck : Int) (y : RgD) : Option (Sh.T shRegister) := if tf (goodR (ck + 1) y.1 y.2) = true then some (ck + 1, y.1, y.2, ()) else none
noncomputable def rsS (ck : Int) (cp : List (Sh.T shCopy)) (os : List (Sh.T shRegOp)) (bg : Bool) (cl : Int) (wr : Bool) (vl : ByteArray) (oi ni : Int) : Option (Sh.T shRegister) :=
  if tf (goodR ck cp os ∧ ck ≠ 1000) = true then (rsB ck cp os bg cl wr vl oi ni).bind (rsT ck) else none
section
variable {ck : Int} {cp : List (Sh.T shCopy)} {os : List (Sh.T shRegOp)} {bg : Bool} {cl : Int} {wr : Bool} {vl : ByteArray} {oi ni : Int}
theorem rsS_bad (h : ¬ goodR ck cp os) : rsS ck cp os bg cl wr vl oi ni = none := by
  unfold rsS; rw [tf_no (fun q => h q.1)]; rfl
theorem rsS_end (h : ck = 1000) : rsS ck cp os bg cl wr vl oi ni = none := by
  unfold rsS; rw [tf_no (fun q => q.2 h)]; rfl
theorem rsS_none (h : rsB ck cp os bg cl wr vl oi ni = none) : rsS ck cp os bg cl wr vl oi ni = none := by
  unfold rsS; rw [h]; split <;> rfl
theorem rsT_no {y : RgD} (hg : ¬ goodR (ck + 1) y.1 y.2) : rsT ck y = none := by
  unfold rsT; rw [tf_no hg]; rfl
theorem rsT_yes {y : RgD} (hg : goodR (ck + 1) y.1 y.2) : rsT ck y = some (ck + 1, y.1, y.2, ()) := by
  unfold rsT; rw [tf_yes hg]; rfl
theorem rsS_no {y : RgD} (h : rsB ck cp os bg cl wr vl oi ni = some y) (hg : ¬ goodR (ck + 1) y.1 y.2) : rsS ck cp os bg cl wr vl oi ni = none := by
  unfold rsS; rw [h, Option.bind_some, rsT_no hg]
  split <;> rfl
theorem rsS_yes {y : RgD} (hg : goodR ck cp os) (hk : ck ≠ 1000) (h : rsB ck cp os bg cl wr vl oi ni = some y) (hy : goodR (ck + 1) y.1 y.2) : rsS ck cp os bg cl wr vl oi ni = some (ck + 1, y.1, y.2, ()) := by
  unfold rsS; rw [tf_yes ⟨hg, hk⟩, h, Option.bind_some, rsT_yes hy]; rfl
theorem rsB_beg (h : begP os cl wr vl) : rsB ck cp os true cl wr vl oi ni = some (cp, os ++ [newOp ck cl wr vl]) := by
  unfold rsB; rw [tf_yes h]; simp
theorem rsB_bno (h : ¬ begP os cl wr vl) : rsB ck cp os true cl wr vl oi ni = none := by
  unfold rsB; rw [tf_no h]; simp
theorem rsB_gno (h : ¬ goP cp os oi ni) : rsB ck cp os false cl wr vl oi ni = none := by
  unfold rsB; rw [tf_no h]; simp
theorem rsB_go (h : goP cp os oi ni) : rsB ck cp os false cl wr vl oi ni = some (cp.set ni.toNat (goC (RgO.ph (os.getD oi.toNat z1O)) (RgO.bs (os.getD oi.toNat z1O)) (cp.getD ni.toNat z1C)), os.set oi.toNat (goO ck cp.length (os.getD oi.toNat z1O) (cp.getD ni.toNat z1C) ni)) := by
  unfold rsB; rw [tf_yes h]; simp
end
theorem nwC_or (a c : Sh.T shCopy) : nwC a c = a ∨ nwC a c = c := by
  unfold nwC; split
  · exact Or.inr rfl
  · exact Or.inl rfl
theorem goB_or (ph : Int) (b c : Sh.T shCopy) : goB ph b c = b ∨ goB ph b c = c := by
  unfold goB; split
  · exact nwC_or b c
  · exact Or.inl rfl
theorem goC_or (ph : Int) (b c : Sh.T shCopy) : goC ph b c = b ∨ goC ph b c = c := by
  unfold goC; split
  · exact Or.inr rfl
  · exact (nwC_or c b).symm
theorem getD_lt {α : Type} {l : List α} {k : Nat} (h : k < l.length) (d : α) : l.getD k d = l[k] := by
  rw [List.getD_eq_getElem?_getD, List.getElem?_eq_getElem h]; rfl
theorem gr_lt {X : Nat → Int} {m : Int} {n : Nat} (h : grP X m n) (i : Nat) : ∀ d, i + d + 1 < n → X i < X (i + d + 1)
  | 0, hi => by have := (h (i + 1) hi).2 (by omega); simpa using this
  | d + 1, hi => by
    have h1 := gr_lt h i d (by omega)
    have h2 := (h (i + (d + 1) + 1) hi).2 (by omega)
    have e : i + (d + 1) + 1 - 1 = i + d + 1 := by omega
    rw [e] at h2
    omega
theorem risP_pair {l : List Int} {m : Int} (h : risP l m) : l.Pairwise (fun a b => a < b) := by
  rw [List.pairwise_iff_getElem]
  intro i j hi hj hij
  have := gr_lt h i (j - i - 1) (by omega)
  rw [show i + (j - i - 1) + 1 = j by omega, atI_lt hi, atI_lt hj] at this
  exact this
theorem risP_mem {l : List Int} {m : Int} (h : risP l m) : ∀ x ∈ l, 0 ≤ x ∧ x ≤ m - 1 := by
  intro x hx
  obtain ⟨i, hi, rfl⟩ := List.getElem_of_mem hx
  have := (h i hi).1
  rw [atI_lt hi] at this
  exact this
theorem risP_of {l : List Int} {m : Int} (h1 : ∀ x ∈ l, 0 ≤ x ∧ x ≤ m - 1) (h2 : l.Pairwise (fun a b => a < b)) : risP l m := by
  intro i hi
  rw [atI_lt hi]
  refine ⟨h1 _ (List.getElem_mem hi), fun h0 => ?_⟩
  rw [atI_lt (by omega)]
  exact List.pairwise_iff_getElem.1 h2 (i - 1) i (by omega) hi (by omega)
theorem risP_ins {l : List (Sh.T .int)} {m x : Int} (h : risP l m) (hx : 0 ≤ x ∧ x ≤ m - 1) (hn : x ∉ l) : risP (insI l x) m := by
  have hm := risP_mem h
  refine risP_of (fun y hy => ?_) (pair_ins (fun a : Int => a) (risP_pair h) x (fun a ha e => hn (e ▸ ha)))
  rcases ins_mem.1 hy with r | r
  · rw [r]; exact hx
  · exact hm y r
theorem risP_nil {m : Int} : risP [] m := fun i hi => absurd hi (Nat.not_lt_zero i)
theorem opP_later {ck nc : Int} {o : RgO} (h : opP ck nc o) : opP (ck + 1) nc o := by
  obtain ⟨h0, h1, h2, h3, h4, h5, h6, h7, h8, h9, h10⟩ := h
  exact ⟨h0, h1, h2, h3, h4, ⟨h5.1, by omega⟩, h6, h7, fun e => ⟨(h8 e).1, by have := (h8 e).2; omega⟩, h9, h10⟩
theorem goO_good {ck nc : Int} {o : RgO} {c : Sh.T shCopy} {ni : Int} (h : opP ck nc o) (h3 : RgO.ph o ≠ 3) (hn : ni ∉ RgO.sn o) (hni : 0 ≤ ni ∧ ni ≤ nc - 1) (hc : copQ (RgO.bs (goO ck nc o c ni))) : opP (ck + 1) nc (goO ck nc o c ni) := by
  obtain ⟨x0, x1, x2, x3, x4, ⟨b0, b1, b2, ⟨⟩⟩, x8, x9, ⟨⟩⟩ := o
  obtain ⟨h0, h1, h2, h3', h4, h5, h6, h7, h8, h9, h10⟩ := h
  simp only at h0 h1 h2 h3' h4 h5 h6 h7 h8 h9 h10
  have h3 : x3 ≠ 3 := h3
  have hn : ni ∉ x4 := hn
  unfold goO goE at hc ⊢
  simp only at hc ⊢
  split at hc
  · rename_i q
    rw [if_pos q]
    exact ⟨h0, h1, h2, h3', hc, ⟨h5.1, by simp only; omega⟩, q, fun e => absurd e h3, fun e => absurd e h3, h9, risP_ins h10 hni hn⟩
  · rename_i q
    rw [if_neg q]
    have hnc : (0 : Int) ≤ nc := by omega
    split at hc
    · rename_i q2
      rw [if_pos q2]
      exact ⟨h0, h1, h2, ⟨by simp, by simp⟩, hc, ⟨h5.1, by simp only; omega⟩, by simp; omega, fun e => rfl, fun e => absurd e (by simp), fun e => h9 h3, risP_nil⟩
    · rename_i q2
      rw [if_neg q2]
      exact ⟨h0, h1, h2, ⟨by simp, by simp⟩, hc, ⟨h5.1, by simp only; omega⟩, by simp; omega, fun e => rfl, fun e => ⟨by simp only; omega, by simp only; omega⟩, fun e => absurd rfl e, risP_nil⟩
theorem pair_set {α : Type} {R : α → α → Prop} {l : List α} {k : Nat} {y : α} (h : l.Pairwise R) (h1 : ∀ i (hi : i < l.length), i < k → R l[i] y) (h2 : ∀ i (hi : i < l.length), k < i → R y l[i]) : (l.set k y).Pairwise R := by
  rw [List.pairwise_iff_getElem] at h ⊢
  intro i j hi hj hij
  rw [List.length_set] at hi hj
  rw [List.getElem_set, List.getElem_set]
  by_cases e : k = i
  · rw [if_pos e, if_neg (by omega)]
    exact h2 j hj (by omega)
  · rw [if_neg e]
    by_cases e2 : k = j
    · rw [if_pos e2]; exact h1 i hi (by omega)
    · rw [if_neg e2]; exact h i j hi hj hij
/-- An op that was not done has gone on. -/
def Chg (ck : Int) (o o' : RgO) : Prop := RgO.cl o' = RgO.cl o ∧ RgO.st o' = RgO.st o ∧ RgO.ph o ≠ 3 ∧ (RgO.ph o' = 3 → RgO.en o' = ck)
def OldO (ck : Int) (o : RgO) : Prop := RgO.st o ≤ ck - 1 ∧ (RgO.ph o = 3 → RgO.en o ≤ ck - 1)
theorem opP_old {ck nc : Int} {o : RgO} (h : opP ck nc o) : OldO ck o := ⟨h.2.2.2.2.2.1.2, fun e => (h.2.2.2.2.2.2.2.2.1 e).2⟩
theorem chg_l {ck : Int} {a a' b : RgO} (h : prP a b) (hc : Chg ck a a') (hb : OldO ck b) : prP a' b := by
  obtain ⟨h1, h2, h3, h4, h5⟩ := h
  obtain ⟨c1, c2, c3, c4⟩ := hc
  refine ⟨fun q => h1 ⟨c1 ▸ q.1, c3, q.2.2⟩, by rw [c2]; exact h2, fun e => by rw [c2]; exact h3 e, fun e => ?_, fun e f => ?_⟩
  · have := hb.1; have := c4 e; omega
  · have := hb.2 f; have := c4 e; omega
theorem chg_r {ck : Int} {a b b' : RgO} (h : prP a b) (hc : Chg ck b b') (ha : OldO ck a) : prP a b' := by
  obtain ⟨h1, h2, h3, h4, h5⟩ := h
  obtain ⟨c1, c2, c3, c4⟩ := hc
  refine ⟨fun q => h1 ⟨q.1.trans c1, q.2.1, c3⟩, by rw [c2]; exact h2, fun e => ?_, fun e => by rw [c2]; exact h4 e, fun e f => ?_⟩
  · have := ha.1; have := c4 e; omega
  · have := ha.2 e; have := c4 f; omega
theorem goO_chg {ck nc : Int} {o : RgO} {c : Sh.T shCopy} {ni : Int} (h3 : RgO.ph o ≠ 3) : Chg ck o (goO ck nc o c ni) := by
  obtain ⟨x0, x1, x2, x3, x4, b, x8, x9, ⟨⟩⟩ := o
  have h3' : x3 ≠ 3 := h3
  unfold goO goE
  simp only
  split
  · exact ⟨rfl, rfl, h3, fun e => absurd e h3⟩
  · split
    · exact ⟨rfl, rfl, h3, fun e => absurd (show (2 : Int) = 3 from e) (by decide)⟩
    · exact ⟨rfl, rfl, h3, fun e => rfl⟩
theorem mem_set {α : Type} {l : List α} {k : Nat} {y x : α} (h : x ∈ l.set k y) : x ∈ l ∨ x = y := List.mem_or_eq_of_mem_set h
/-- An op goes on: the register is good again just where the op's best is a copy's. -/
theorem good_go {ck : Int} {cp : List (Sh.T shCopy)} {os : List (Sh.T shRegOp)} {oi ni : Int} (hg : goodR ck cp os) (hk : ck ≠ 1000) (h : goP cp os oi ni) :
    goodR (ck + 1) (cp.set ni.toNat (goC (RgO.ph (os.getD oi.toNat z1O)) (RgO.bs (os.getD oi.toNat z1O)) (cp.getD ni.toNat z1C))) (os.set oi.toNat (goO ck cp.length (os.getD oi.toNat z1O) (cp.getD ni.toNat z1C) ni)) ↔ copQ (RgO.bs (goO ck cp.length (os.getD oi.toNat z1O) (cp.getD ni.toNat z1C) ni)) := by
  obtain ⟨g1, g2, g3, g4, g5, g6⟩ := hg
  obtain ⟨h1, h2, h3, h4⟩ := h
  have ho : oi.toNat < os.length := by omega
  have hn : ni.toNat < cp.length := by omega
  rw [getD_lt ho, getD_lt hn] at *
  have hop := g5 _ (List.getElem_mem ho)
  have hcp := g4 _ (List.getElem_mem hn)
  constructor
  · intro q
    have := q.2.2.2.2.1 _ (List.getElem_mem (l := os.set oi.toNat (goO ck cp.length os[oi.toNat] cp[ni.toNat] ni)) (n := oi.toNat) (by rw [List.length_set]; exact ho))
    rw [List.getElem_set_self] at this
    exact this.2.2.2.2.1
  · intro q
    refine ⟨by omega, by rw [List.length_set]; exact g2, by rw [List.length_set]; exact g3, fun c hc => ?_, fun o hx => ?_, ?_⟩
    · rcases mem_set hc with r | r
      · exact g4 c r
      · rw [r]
        rcases goC_or (RgO.ph os[oi.toNat]) (RgO.bs os[oi.toNat]) cp[ni.toNat] with e | e
        · rw [e]; exact hop.2.2.2.2.1
        · rw [e]; exact hcp
    · rw [List.length_set]
      rcases mem_set hx with r | r
      · exact opP_later (g5 o r)
      · rw [r]; exact goO_good hop h3 h4 h2 q
    · refine pair_set g6 (fun i hi hlt => ?_) (fun i hi hlt => ?_)
      · exact chg_r (List.pairwise_iff_getElem.1 g6 i _ hi ho hlt) (goO_chg h3) (opP_old (g5 _ (List.getElem_mem hi)))
      · exact chg_l (List.pairwise_iff_getElem.1 g6 _ i ho hi hlt) (goO_chg h3) (opP_old (g5 _ (List.getElem_mem hi)))
theorem cop_zero : copP 0 0 ⟨#[]⟩ := ⟨⟨by decide, by decide⟩, ⟨by decide, by decide⟩, rfl⟩
theorem good_beg {ck : Int} {cp : List (Sh.T shCopy)} {os : List (Sh.T shRegOp)} {cl : Int} {wr : Bool} {vl : ByteArray} (hg : goodR ck cp os) (hk : ck ≠ 1000) (h : begP os cl wr vl) : goodR (ck + 1) cp (os ++ [newOp ck cl wr vl]) := by
  obtain ⟨g1, g2, g3, g4, g5, g6⟩ := hg
  obtain ⟨h1, h2, h3, h4⟩ := h
  have hv := opV_iff.1 h2
  refine ⟨by omega, g2, by rw [List.length_append, List.length_singleton]; omega, g4, fun o ho => ?_, ?_⟩
  · rcases List.mem_append.1 ho with r | r
    · exact opP_later (g5 o r)
    · rw [List.mem_singleton.1 r]
      exact ⟨h1, hv.1, hv.2, ⟨show (1 : Int) ≤ 1 by decide, show (1 : Int) ≤ 3 by decide⟩, cop_zero, ⟨g1.1, by show ck ≤ ck + 1 - 1; omega⟩, by show 2 * ((([] : List Int).length : Nat) : Int) ≤ _; simp, fun e => absurd (show (1 : Int) = 3 from e) (by decide), fun e => absurd (show (1 : Int) = 3 from e) (by decide), fun _ => rfl, risP_nil⟩
  · rw [List.pairwise_append]
    refine ⟨g6, List.pairwise_singleton _ _, fun a ha b hb => ?_⟩
    rw [List.mem_singleton.1 hb]
    have ho := opP_old (g5 a ha)
    refine ⟨fun q => h4 ⟨a, ha, q.1, q.2.1⟩, ?_, fun e => absurd (show (1 : Int) = 3 from e) (by decide), fun e => ?_, fun _ e => absurd (show (1 : Int) = 3 from e) (by decide)⟩
    · have := ho.1; show RgO.st a ≠ ck; omega
    · have := ho.2 e; show RgO.en a ≠ ck; omega
/-- Sizes: of a register whose texts are short. -/
def smlO (o : RgO) : Prop := o.2.2.1.size ≤ 20 ∧ o.2.2.2.2.1.length ≤ 20 ∧ o.2.2.2.2.2.1.2.2.1.size ≤ 20
def smlR (cp : List (Sh.T shCopy)) (os : List (Sh.T shRegOp)) : Prop := cp.length ≤ 12 ∧ os.length ≤ 7 ∧ (∀ c ∈ cp, c.2.2.1.size ≤ 20) ∧ ∀ o ∈ os, smlO o
theorem sum_le {α : Type} {f : α → Nat} {m : Nat} : ∀ {l : List α}, (∀ x ∈ l, f x ≤ m) → (l.map f).sum ≤ l.length * m
  | [], _ => by simp
  | x :: t, h => by
    have h1 := sum_le (l := t) (fun y hy => h y (List.mem_cons_of_mem _ hy))
    have h2 := h x (List.mem_cons_self ..)
    rw [List.map_cons, List.sum_cons, List.length_cons, Nat.add_mul, Nat.one_mul]; omega
theorem sz_ints (l : List (Sh.T .int)) : szD (.list .int) l = l.length := by
  show l.length + (l.map (szD .int)).sum = l.length
  have := sum_le (f := szD .int) (m := 0) (l := l) (fun x _ => Nat.le_of_eq rfl)
  omega
theorem sz_small {ck : Int} {cp : List (Sh.T shCopy)} {os : List (Sh.T shRegOp)} (h : smlR cp os) : szD shRegister (ck, cp, os, ()) ≤ 2000 := by
  obtain ⟨h1, h2, h3, h4⟩ := h
  have e1 : (cp.map (szD shCopy)).sum ≤ cp.length * 20 := sum_le (fun c hc => by
    have e : szD shCopy c = 0 + (0 + (c.2.2.1.size + 0)) := rfl
    have := h3 c hc; omega)
  have e2 : (os.map (szD shRegOp)).sum ≤ os.length * 60 := sum_le (fun o ho => by
    have e : szD shRegOp o = 0 + (0 + (o.2.2.1.size + (0 + (szD (.list .int) o.2.2.2.2.1 + ((0 + (0 + (o.2.2.2.2.2.1.2.2.1.size + 0))) + (0 + (0 + 0))))))) := rfl
    have e' := sz_ints o.2.2.2.2.1
    have := h4 o ho; unfold smlO at this; omega)
  have e3 : szD shRegister (ck, cp, os, ()) = 0 + ((cp.length + (cp.map (szD shCopy)).sum) + ((os.length + (os.map (szD shRegOp)).sum) + 0)) := rfl
  omega
theorem valOk_sz {v : ByteArray} (h : valOk v = true) : v.size ≤ 20 := by
  unfold valOk at h; rw [Bool.and_eq_true] at h; exact of_decide_eq_true h.1
theorem opP_sml {ck nc : Int} {o : RgO} (hnc : nc ≤ 12) (h : opP ck nc o) : smlO o := ⟨valOk_sz h.2.1, by have := h.2.2.2.2.2.2.1; omega, valOk_sz h.2.2.2.2.1.2.2⟩
theorem good_sml {ck : Int} {cp : List (Sh.T shCopy)} {os : List (Sh.T shRegOp)} (h : goodR ck cp os) : smlR cp os := ⟨h.2.1.2, h.2.2.1, fun c hc => valOk_sz (h.2.2.2.1 c hc).2.2, fun o ho => opP_sml (by have := h.2.1.2; omega) (h.2.2.2.2.1 o ho)⟩
theorem goO_sml {ck nc : Int} {o : RgO} {c : Sh.T shCopy} {ni : Int} (hnc : nc ≤ 12) (h : opP ck nc o) (hc : c.2.2.1.size ≤ 20) : smlO (goO ck nc o c ni) := by
  have hs := opP_sml hnc h
  have hl := h.2.2.2.2.2.2.1
  have hb : (goB o.2.2.2.1 o.2.2.2.2.2.1 c).2.2.1.size ≤ 20 := by
    rcases goB_or o.2.2.2.1 o.2.2.2.2.2.1 c with e | e
    · rw [e]; exact hs.2.2
    · rw [e]; exact hc
  unfold goO goE
  split
  · exact ⟨hs.1, by show (insI _ _).length ≤ 20; rw [insI_len]; omega, hb⟩
  · split
    · refine ⟨hs.1, by simp, ?_⟩
      show (if o.2.1 = true then mkCp _ _ _ else _ : Sh.T shCopy).2.2.1.size ≤ 20
      split
      · exact hs.1
      · exact hb
    · exact ⟨hs.1, by simp, hb⟩
theorem rsB_sml {ck : Int} {cp : List (Sh.T shCopy)} {os : List (Sh.T shRegOp)} {bg : Bool} {cl : Int} {wr : Bool} {vl : ByteArray} {oi ni : Int} {y : RgD} (hg : goodR ck cp os) (hk : ck ≠ 1000) (h : rsB ck cp os bg cl wr vl oi ni = some y) : smlR y.1 y.2 := by
  cases bg with
  | true =>
    by_cases q : begP os cl wr vl
    · rw [rsB_beg q] at h; cases h; exact good_sml (good_beg hg hk q)
    · rw [rsB_bno q] at h; cases h
  | false =>
    by_cases q : goP cp os oi ni
    · rw [rsB_go q] at h; cases h
      have hs := good_sml hg
      have ho : oi.toNat < os.length := by have := q.1; omega
      have hn : ni.toNat < cp.length := by have := q.2.1; omega
      rw [getD_lt ho, getD_lt hn]
      have hop := hg.2.2.2.2.1 _ (List.getElem_mem ho)
      have hcp := hs.2.2.1 _ (List.getElem_mem hn)
      refine ⟨by rw [List.length_set]; exact hs.1, by rw [List.length_set]; exact hs.2.1, fun c hc => ?_, fun o hx => ?_⟩
      · rcases mem_set hc with r | r
        · exact hs.2.2.1 c r
        · rw [r]
          rcases goC_or (RgO.ph os[oi.toNat]) (RgO.bs os[oi.toNat]) cp[ni.toNat] with e | e
          · rw [e]; exact (opP_sml (by have := hg.2.1.2; omega) hop).2.2
          · rw [e]; exact hcp
      · rcases mem_set hx with r | r
        · exact hs.2.2.2 o r
        · rw [r]; exact goO_sml (by have := hg.2.1.2; omega) hop hcp
    · rw [rsB_gno q] at h; cases h
end Go.Proofs.Ytaofolbnommpgaa
