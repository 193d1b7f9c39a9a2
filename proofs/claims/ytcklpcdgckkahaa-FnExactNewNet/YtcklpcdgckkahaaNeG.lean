/- Nets: what is good, said plainly. No Go text is spoken of here. -/
import Derived.Test.YtcklpcdgckkahaaNg
import Derived.Test.YtcklpcdgckkahaaIn
import Derived.Test.YtcklpcdgckkahaaNtS
namespace Go.Proofs.Ytcklpcdgckkahaa
open Go.RowKit
set_option linter.unusedVariables false
set_option linter.unusedSimpArgs false

def bam (b : Sh.T shBank) : Int := b.1
def bmk (b : Sh.T shBank) : Bool := b.2.1
def bnt (b : Sh.T shBank) : Int := b.2.2.1
def mkBk (x0 : Int) (x1 : Bool) (x2 : Int) : Sh.T shBank := (x0, x1, x2, ())
def pmk (p : Sh.T shParcel) : Bool := p.1
def pam (p : Sh.T shParcel) : Int := p.2.1
def mkPc (x0 : Bool) (x1 : Int) : Sh.T shParcel := (x0, x1, ())
def wfr (y : Sh.T shWay) : Int := y.1
def wto (y : Sh.T shWay) : Int := y.2.1
def wpc (y : Sh.T shWay) : List (Sh.T shParcel) := y.2.2.1
def wwt (y : Sh.T shWay) : Bool := y.2.2.2.1
def wse (y : Sh.T shWay) : List (Sh.T .int) := y.2.2.2.2.1
def mkWy (x0 x1 : Int) (x2 : List (Sh.T shParcel)) (x3 : Bool) (x4 : List (Sh.T .int)) : Sh.T shWay := (x0, x1, x2, x3, x4, ())
def marks (l : List (Sh.T shParcel)) : Nat := l.countP pmk
def amtP (a : Int) : Prop := 1 ≤ a ∧ a ≤ 1000000
def bankP (b : Sh.T shBank) : Prop := (0 ≤ bam b ∧ bam b ≤ 1000000) ∧ (0 ≤ bnt b ∧ bnt b ≤ 1000000) ∧ (bmk b = true ∨ bnt b = 0)
def parP (p : Sh.T shParcel) : Prop := (pmk p = true → pam p = 0) ∧ (pmk p = false → amtP (pam p))
def pcsP (ps : List (Sh.T shParcel)) : Prop := ps.length ≤ 20 ∧ (∀ p ∈ ps, parP p) ∧ marks ps ≤ 1
def seeP (se : List (Sh.T .int)) : Prop := se.length ≤ 200 ∧ ∀ k, k < se.length → amtP (atI se k)
/-- Whether the mark of a way is still to come, and what follows. -/
def wayQ (fm tm : Bool) (mk : Bool) (wt : Bool) (n : Nat) : Prop := (mk = true → fm = true) ∧ (tm = true → wt = (mk || !fm)) ∧ (tm = false → wt = false ∧ n = 0 ∧ (mk || !fm) = true)
def hasM (ps : List (Sh.T shParcel)) : Bool := decide (0 < marks ps)
def wayK (fm tm : Bool) (ps : List (Sh.T shParcel)) (wt : Bool) (se : List (Sh.T .int)) : Prop := pcsP ps ∧ seeP se ∧ wayQ fm tm (hasM ps) wt se.length
def frA (m i : Nat) : Nat := i / (m - 1)
def toA (m i : Nat) : Nat := if i % (m - 1) < i / (m - 1) then i % (m - 1) else i % (m - 1) + 1
def mkA (bs : List (Sh.T shBank)) (k : Nat) : Bool := ((bs[k]?).map bmk).getD false
def wayP (bs : List (Sh.T shBank)) (i : Nat) (y : Sh.T shWay) : Prop := (wfr y = (frA bs.length i : Nat) ∧ wto y = (toA bs.length i : Nat)) ∧ wayK (mkA bs (frA bs.length i)) (mkA bs (toA bs.length i)) (wpc y) (wwt y) (wse y)
def waysP (bs : List (Sh.T shBank)) (ws : List (Sh.T shWay)) (k : Nat) : Prop := ∀ i (h : i < ws.length), i < k → wayP bs i ws[i]
def goodN (bs : List (Sh.T shBank)) (ws : List (Sh.T shWay)) : Prop := (2 ≤ (bs.length : Int) ∧ (bs.length : Int) ≤ 5) ∧ (ws.length : Int) = (bs.length : Int) * ((bs.length : Int) - 1) ∧ (∀ b ∈ bs, bankP b) ∧ waysP bs ws ws.length

/-- Where a way stands by its ends. -/
def plc (m : Nat) (f t : Int) : Int := if (0 ≤ f ∧ f ≤ (m : Int) - 1) ∧ (0 ≤ t ∧ t ≤ (m : Int) - 1) ∧ f ≠ t then f * ((m : Int) - 1) + (if f < t then t - 1 else t) else -1
theorem plc_iff {m i : Nat} {f t : Int} (hm : 2 ≤ m ∧ m ≤ 5) (hi : i < m * (m - 1)) : plc m f t = (i : Int) ↔ f = (frA m i : Nat) ∧ t = (toA m i : Nat) := by
  obtain ⟨h1, h2⟩ := hm
  have h3 : m = 2 ∨ m = 3 ∨ m = 4 ∨ m = 5 := by omega
  rcases h3 with rfl | rfl | rfl | rfl <;> (simp only [plc, frA, toA]; split <;> (try split) <;> (try split) <;> constructor <;> intro h <;> omega)
theorem plc_lt {m : Nat} {f t : Int} (hm : 2 ≤ m ∧ m ≤ 5) (h : plc m f t ≠ -1) : 0 ≤ plc m f t ∧ plc m f t < ((m * (m - 1) : Nat) : Int) := by
  obtain ⟨h1, h2⟩ := hm
  have h3 : m = 2 ∨ m = 3 ∨ m = 4 ∨ m = 5 := by omega
  unfold plc at h ⊢
  split at h
  · rename_i q
    rw [if_pos q]
    rcases h3 with rfl | rfl | rfl | rfl <;> (split <;> omega)
  · exact absurd rfl h
theorem frA_lt {m i : Nat} (hm : 2 ≤ m ∧ m ≤ 5) (hi : i < m * (m - 1)) : frA m i < m ∧ toA m i < m ∧ frA m i ≠ toA m i := by
  obtain ⟨h1, h2⟩ := hm
  have h3 : m = 2 ∨ m = 3 ∨ m = 4 ∨ m = 5 := by omega
  rcases h3 with rfl | rfl | rfl | rfl <;> (simp only [frA, toA]; split <;> omega)
/-- How the ways stand behind one another by From, then To. -/
theorem frA_at {m f t : Nat} (hm : 2 ≤ m ∧ m ≤ 5) (hf : f < m) (ht : t < m) (hne : f ≠ t) {i : Nat} (hi : i = f * (m - 1) + (if f < t then t - 1 else t)) : i < m * (m - 1) ∧ frA m i = f ∧ toA m i = t := by
  obtain ⟨h1, h2⟩ := hm
  have h3 : m = 2 ∨ m = 3 ∨ m = 4 ∨ m = 5 := by omega
  subst hi
  rcases h3 with rfl | rfl | rfl | rfl <;> (simp only [frA, toA]; split <;> (try split) <;> omega)
theorem mkA_lt {bs : List (Sh.T shBank)} {k : Nat} (h : k < bs.length) : mkA bs k = bmk bs[k] := by unfold mkA; rw [List.getElem?_eq_getElem h]; rfl
theorem marks_cons (p : Sh.T shParcel) (l : List (Sh.T shParcel)) : marks (p :: l) = marks l + (if pmk p = true then 1 else 0) := by unfold marks; rw [List.countP_cons]
theorem marks_succ {l : List (Sh.T shParcel)} {k : Nat} (h : k < l.length) : marks (l.take (k + 1)) = marks (l.take k) + (if pmk l[k] = true then 1 else 0) := by
  unfold marks; rw [List.take_succ_eq_append_getElem h, List.countP_append, List.countP_cons, List.countP_nil, Nat.zero_add]
theorem marks_le (l : List (Sh.T shParcel)) : marks l ≤ l.length := List.countP_le_length
theorem marks_take (l : List (Sh.T shParcel)) (k : Nat) : marks (l.take k) ≤ marks l := by
  have e : l = l.take k ++ l.drop k := (List.take_append_drop k l).symm
  conv => rhs; rw [e]
  unfold marks; rw [List.countP_append]; omega
theorem net_sizes {bs : List (Sh.T shBank)} {ws : List (Sh.T shWay)} (h : szD shNet (bs, ws, ()) ≤ 1073741824) : bs.length ≤ 1073741824 ∧ ws.length ≤ 1073741824 ∧ ∀ y ∈ ws, (wpc y).length ≤ 1073741824 ∧ (wse y).length ≤ 1073741824 := by
  have e : szD shNet (bs, ws, ()) = szD (.list shBank) bs + (szD (.list shWay) ws + 0) := rfl
  have e1 : szD (.list shBank) bs = bs.length + (bs.map (szD shBank)).sum := rfl
  have e2 : szD (.list shWay) ws = ws.length + (ws.map (szD shWay)).sum := rfl
  refine ⟨by omega, by omega, fun y hy => ?_⟩
  have h1 : szD shWay y ≤ 1073741824 := Nat.le_trans (by have := sz_mem hy; omega) h
  have e3 : szD shWay y = 0 + (0 + ((y.2.2.1.length + (y.2.2.1.map (szD shParcel)).sum) + (0 + ((y.2.2.2.2.1.length + (y.2.2.2.2.1.map (szD .int)).sum) + 0)))) := rfl
  have e4 : (wpc y).length = y.2.2.1.length := rfl
  have e5 : (wse y).length = y.2.2.2.2.1.length := rfl
  omega
theorem goodN_no {bs : List (Sh.T shBank)} {ws : List (Sh.T shWay)} (h : ¬ goodN bs ws) : Ending.returned (.bool false) = .returned (.bool (tf (goodN bs ws))) := by rw [tf_no h]
theorem goodN_yes {bs : List (Sh.T shBank)} {ws : List (Sh.T shWay)} (h : goodN bs ws) : Ending.returned (.bool true) = .returned (.bool (tf (goodN bs ws))) := by rw [tf_yes h]
theorem goodN_len {bs : List (Sh.T shBank)} {ws : List (Sh.T shWay)} (h : goodN bs ws) : (2 ≤ bs.length ∧ bs.length ≤ 5) ∧ ws.length = bs.length * (bs.length - 1) := by
  have h1 := h.1
  have h2 := h.2.1
  have hm : 2 ≤ bs.length ∧ bs.length ≤ 5 := by omega
  refine ⟨hm, ?_⟩
  have h3 : bs.length = 2 ∨ bs.length = 3 ∨ bs.length = 4 ∨ bs.length = 5 := by omega
  rcases h3 with q | q | q | q <;> (rw [q] at h2 ⊢; omega)
theorem waysP_succ {bs : List (Sh.T shBank)} {ws : List (Sh.T shWay)} {k : Nat} (hk : k < ws.length) (h : waysP bs ws k) (h1 : wayP bs k ws[k]) : waysP bs ws (k + 1) := by
  intro i hi hik
  by_cases e : i = k
  · subst e; exact h1
  · exact h i hi (by omega)
end Go.Proofs.Ytcklpcdgckkahaa
