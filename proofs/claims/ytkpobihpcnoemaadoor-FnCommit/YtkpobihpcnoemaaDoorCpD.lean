/- Commits: steps of a replica, said plainly; mustBeUp of a commit. Written by tools/mkCpD.py. -/
import Derived.Test.YtkpobihpcnoemaaDoorCpB
import Derived.Test.YtkpobihpcnoemaaDoorCpC
import Derived.Test.YtkpobihpcnoemaaDoorCmD
namespace Go.Proofs.YtkpobihpcnoemaaDoor
open Go.RowKit
set_option linter.unusedVariables false
set_option linter.unusedSimpArgs false

/-- What a step leaves: the commit turned, or it gives up; only blocks from lo on have turned. -/
def StP (lo up b : Nat) (v : Value) (E : Option Cmt) (w : World) (r : Ending) (w' : World) : Prop :=
  (∀ x, E = some x → r = .returned (.tuple #[]) ∧ CmX w' b lo up v x.1 x.2.1 x.2.2) ∧ (E = none → Gup r) ∧ TurnS (Btw lo up) w w'
theorem StP.no {lo up b : Nat} {v : Value} {E : Option Cmt} {w w' : World} {r : Ending} (h : E = none) (hg : Gup r) (hb : TurnS (Btw lo up) w w') : StP lo up b v E w r w' := ⟨fun x q => (by rw [h] at q; cases q), fun _ => hg, hb⟩
theorem StP.yes {lo up b : Nat} {v : Value} {E : Option Cmt} {w w' : World} {ss : List Shd} {dr rc : Int} (h : E = some (ss, dr, rc)) (hc : CmX w' b lo up v ss dr rc) (hb : TurnS (Btw lo up) w w') : StP lo up b v E w (.returned (.tuple #[])) w' := ⟨fun x q => (by rw [h] at q; cases q; exact ⟨rfl, hc⟩), fun q => (by rw [h] at q; cases q), hb⟩
theorem stR_up {ss : List Shd} {dr rc k : Int} {i j : Nat} {l : List Rpl} {r : Rpl} (hi : i < ss.length) (hl : srs ss[i] = l) (hj : j < l.length) (hr : l[j] = r) (hd : rdn r = false) : stR ss dr rc k i j = (nxR ss dr rc (mkS l) j r k).map fun r' => (ss.set i (mkS (l.set j r')), dr, rc) := by
  subst hl
  subst hr
  have e : mkS (srs ss[i]) = ss[i] := rfl
  unfold stR
  rw [if_pos ⟨by omega, by omega⟩]
  simp only [Int.toNat_natCast, List.getElem?_eq_getElem hi, List.getElem?_eq_getElem hj, hd]
  (first | rw [if_neg (by decide)] | rw [if_neg (fun q => q)])
  rw [e]
theorem stR_dn {ss : List Shd} {dr rc k : Int} {i j : Nat} (hi : i < ss.length) (hj : j < (srs ss[i]).length) (hd : rdn (srs ss[i])[j] = true) : stR ss dr rc k i j = none := by
  unfold stR
  rw [if_pos ⟨by omega, by omega⟩]
  simp only [Int.toNat_natCast, List.getElem?_eq_getElem hi, List.getElem?_eq_getElem hj, hd]
  (first | rw [if_pos rfl] | rw [if_pos trivial])
theorem stR_i {ss : List Shd} {dr rc k i j : Int} (h : inR i 0 ((ss.length : Int) - 1) = false) : stR ss dr rc k i j = none := by
  unfold stR
  by_cases c : 0 ≤ i ∧ 0 ≤ j
  · rw [if_pos c, List.getElem?_eq_none (by
      rcases Nat.lt_or_ge i.toNat ss.length with q | q
      · rw [inR_iff.2 (by omega)] at h; cases h
      · exact q)]
  · rw [if_neg c]
theorem stR_j {ss : List Shd} {dr rc k j : Int} {i : Nat} (hi : i < ss.length) (h : inR j 0 (((srs ss[i]).length : Int) - 1) = false) : stR ss dr rc k i j = none := by
  unfold stR
  by_cases c : 0 ≤ (i : Int) ∧ 0 ≤ j
  · rw [if_pos c]
    simp only [Int.toNat_natCast, List.getElem?_eq_getElem hi]
    rw [List.getElem?_eq_none (by
      rcases Nat.lt_or_ge j.toNat (srs ss[i]).length with q | q
      · rw [inR_iff.2 (by omega)] at h; cases h
      · exact q)]
  · rw [if_neg c]
theorem stR_open {ss : List Shd} {dr rc k i j : Int} (hd : ¬ decN dr rc = 0) (hk : k = 1 ∨ k = 2) : stR ss dr rc k i j = none := by
  have h : ∀ s jj r, nxR ss dr rc s jj r k = none := by
    intro s jj r
    unfold nxR
    rcases hk with q | q
    · rw [if_pos q, if_neg (fun h => hd h.1)]
    · rw [if_neg (by omega), if_pos q, if_neg (fun h => hd h.1)]
  unfold stR
  split
  · split
    · split
      · split
        · rfl
        · rw [h]; rfl
      · rfl
    · rfl
  · rfl
/-- What mustBeUp does of a commit. -/
def UpP (b lo up : Nat) (v : Value) (ss : List Shd) (dr rc i j : Int) (w : World) (r : Ending) (w' : World) : Prop := Below w.heap.size w w' ∧
  ((∃ (i' j' q c g c2 : Nat) (l : List Rpl) (y : Rpl) (hi : i' < ss.length) (hj : j' < l.length), i = i' ∧ j = j' ∧ srs ss[i'] = l ∧ l[j'] = y ∧ rdn y = false ∧ RpX w b lo up v ss dr rc i' j' q c g c2 l y ∧ r = .returned (.pointer (some ⟨g, j' * 2, none⟩))) ∨ ((∀ k, stR ss dr rc k i j = none) ∧ Gup r))
theorem mustBeUp_x (b lo up : Nat) (v : Value) (ss : List Shd) (dr rc k i j : Int) (w : World) (hn : ss.length ≤ 1000) (hr : ∀ s ∈ ss, (srs s).length ≤ 1000) (hf : Flt w) (hx : CmX w b lo up v ss dr rc) :
    Calls Tryd.prog 90 #[.pointer (some ⟨b, 0, none⟩), .agg #[.int .i64 k, .int .i64 i, .int .i64 j]] w (UpP b lo up v ss dr rc i j w) := by
  obtain ⟨va, vc, hv⟩ := hx.form
  subst hv
  cases hir : inR i 0 ((ss.length : Int) - 1)
  · exact (mustBeUp_no b va ss.length vc i j dr rc k w hn hir hf hx.1.1).mono (fun r w' h => ⟨h.2, Or.inr ⟨fun k => stR_i hir, h.1⟩⟩)
  obtain ⟨i', hi', hlt⟩ : ∃ i' : Nat, i = i' ∧ i' < ss.length := ⟨i.toNat, by have := inR_iff.1 hir; omega, by have := inR_iff.1 hir; omega⟩
  subst hi'
  have hl := hr _ (List.getElem_mem hlt)
  obtain ⟨q, c, ag, c2, e1, e2, e3, e4⟩ := hx.shard hlt
  simp only [Value.slice.injEq, and_true, true_and] at e1
  obtain ⟨rfl, rfl⟩ := e1
  cases hjr : inR j 0 (((srs ss[i']).length : Int) - 1)
  · exact (mustBeUp_nj b q ss.length vc (srs ss[i']).length c2 i' ag j dr rc k w hn hl hlt hjr e2 e3 hf hx.1.1).mono (fun r w' h => ⟨h.2, Or.inr ⟨fun k => stR_j hlt hjr, h.1⟩⟩)
  obtain ⟨j', hj', hlj⟩ : ∃ j' : Nat, j = j' ∧ j' < (srs ss[i']).length := ⟨j.toNat, by have := inR_iff.1 hjr; omega, by have := inR_iff.1 hjr; omega⟩
  subst hj'
  obtain ⟨q2, c', g, c3, hR⟩ := hx.rep hlt rfl hlj rfl
  have e5 := hR.hv
  simp only [Value.slice.injEq, Option.some.injEq, Addr.mk.injEq, and_true, true_and] at e5
  obtain ⟨rfl, rfl⟩ := e5
  cases hd : rdn (srs ss[i'])[j']
  · exact (mustBeUp_y b q ss.length vc (srs ss[i']).length c3 i' j' g (rhs (srs ss[i'])[j']) dr rc k w hn hl hlt hlj hR.hs e3 (by have := hR.hd; rwa [hd] at this) hR.hh hR.hg hx.1.1).mono (fun r w' h => ⟨h.2, Or.inl ⟨i', j', q, vc, g, c3, srs ss[i'], (srs ss[i'])[j'], hlt, hlj, rfl, rfl, rfl, rfl, hd, hR, h.1⟩⟩)
  · exact (mustBeUp_dn b q ss.length vc (srs ss[i']).length c3 i' j' g (rhs (srs ss[i'])[j']) dr rc k w hn hl hlt hlj hR.hs e3 (by have := hR.hd; rwa [hd] at this) hR.hh hR.hg hf hx.1.1).mono (fun r w' h => ⟨h.2, Or.inr ⟨fun k => stR_dn hlt hlj hd, h.1⟩⟩)
def tlE (ss : List Shd) (dr rc : Int) : Option Cmt := if decN dr rc = 0 ∧ ss.all cpB = true then some (ss, 1, rc) else none
def abE (ss : List Shd) (dr rc : Int) : Option Cmt := if decN dr rc = 0 then some (ss, 2, rc) else none
def rcE (ss : List Shd) (dr rc : Int) : Option Cmt := if rc = 0 then some (ss, dr, recN ss dr) else none
theorem isLiving_len (a : Option Addr) (cap n : Nat) (l : List Rpl) (z : Bool) (w : World) (hle : l.length = n) (hn : l.length ≤ 1073741824) (hz : livB (mkS l) = z) (h : Lies w (.list shReplica) [.slice a n cap] l) :
    Calls Tryd.prog 43 #[.agg #[.slice a n cap]] w fun r w' => r = .returned (.bool z) ∧ Below w.heap.size w w' := by
  subst hle
  exact isLiving_n a cap l z w hn hz h

end Go.Proofs.YtkpobihpcnoemaaDoor
