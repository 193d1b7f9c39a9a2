/- Synods: spec.l10Own. Written by tools/mkSzC.py. -/
import Derived.Test.YtmhkfangfhanlaaSzB
namespace Go.Proofs.Ytmhkfangfhanlaa
open Go.RowKit
set_option linter.unusedVariables false
set_option linter.unusedSimpArgs false

theorem ApS.made {e : Ty} {t : TypeId} {w : World} (he : e.flatB = true) : ApS e t w (w.alloc (.cells #[] t)) (.slice (some ⟨w.heap.size, 0, none⟩) 0 0) [] := by
  refine ⟨OwnX.of_flat he (World.ownsRow_made w #[] 0 (Nat.le_refl _) (Nat.zero_le _) (by simp)) (fun k hk => ?_), Go.Joins.below_alloc1 _ _⟩
  cases hk
  simp [Btw]
/-- While a synod is copied. -/
def OsS (w : World) (va vp0 : Value) (ac : List (Sh.T shAcceptor)) (wr : World) (vp : Value) (lp : List (Sh.T shProposer)) : Prop :=
  Bx wr w.heap.size [va, vp0] ∧ Bx wr (w.heap.size + 1) [.slice none 0 0, .slice none 0 0] ∧ (∃ Sa S : Nat → Prop, OwnX wr (w.heap.size + 1 + 1) (.list tyAcceptor 91) [va] ac Sa ∧ OwnX wr (w.heap.size + 1 + 1) (.list tyProposer 43) [vp] lp S ∧ (∀ k, Sa k → w.heap.size + 1 + 1 ≤ k ∧ k < wr.heap.size) ∧ (∀ k, S k → w.heap.size + 1 + 1 ≤ k ∧ k < wr.heap.size ∧ ¬ Sa k)) ∧ Below w.heap.size w wr
theorem OsS.appP {w wr W W9 : World} {va vp0 vp v9 : Value} {ac : List (Sh.T shAcceptor)} {lp : List (Sh.T shProposer)} {Sa S E : Nat → Prop} {xs ec : List Value} {B : Nat → Nat → Prop} {x : Sh.T shProposer} (h1 : Bx wr w.heap.size [va, vp0]) (h2 : Bx wr (w.heap.size + 1) [.slice none 0 0, .slice none 0 0]) (hA : OwnX wr (w.heap.size + 1 + 1) (.list tyAcceptor 91) [va] ac Sa) (hAz : ∀ k, Sa k → w.heap.size + 1 + 1 ≤ k ∧ k < wr.heap.size)
    (ho : wr.ownsRow (w.heap.size + 1 + 1) 43 5 vp lp.length xs) (r2 : ∀ k, vp.ownBlock = some k → S k) (r3 : ∀ i, i < lp.length → ∀ k, B i k → S k ∧ vp.ownBlock ≠ some k) (r4 : ∀ i j, i < j → j < lp.length → ∀ k, B i k → ¬ B j k) (r5 : ∀ i (h : i < lp.length), OwnX wr (w.heap.size + 1 + 1) tyProposer ((xs.drop (i * 5)).take 5) lp[i] (B i)) (hSz : ∀ k, S k → w.heap.size + 1 + 1 ≤ k ∧ k < wr.heap.size ∧ ¬ Sa k)
    (hB : Below w.heap.size w wr) (hb : Below wr.heap.size wr W) (hx : OwnX W (w.heap.size + 1 + 1) tyProposer ec x E) (hE : ∀ k, E k → wr.heap.size ≤ k ∧ k < W.heap.size) (hr9 : W9.ownsRow (w.heap.size + 1 + 1) 43 5 v9 (lp.length + 1) (xs ++ ec)) (hg : W.grownBy W9 vp.ownBlock) (hwh : v9.ownBlock = vp.ownBlock ∨ v9.ownBlock = some W.heap.size) : OsS w va vp0 ac W9 v9 (lp ++ [x]) := by
  have z1 := hb.size
  have z2 := hg.size
  have z3 := h2.2
  have hl : ∀ k, vp.ownBlock = some k → w.heap.size + 1 + 1 ≤ k := fun k hk => (ho.lt k hk).1
  refine ⟨(h1.next hb).grow hg (fun q => by have := hl _ q.symm; omega), (h2.next hb).grow hg (fun q => by have := hl _ q.symm; omega), ⟨Sa, fun k => S k ∨ E k ∨ v9.ownBlock = some k, (hA.next hb).grow hg (fun k hk q => (hSz k (r2 k hk)).2.2 q), OwnX.app (e := tyProposer) (ownsRow_next ho hb) r2 r3 r4 (fun i hi => (r5 i hi).next hb) (fun k hk => by have := (hSz k hk).2.1; omega) hx (fun k hk => ⟨(hE k hk).2, fun q => by have := (hE k hk).1; have := (hSz k q).2.1; omega⟩) hr9 hg hwh, fun k hk => ⟨(hAz k hk).1, by have := (hAz k hk).2; omega⟩, fun k hk => ?_⟩, (below_next hB hb).grown hg (Nat.le_trans hB.size z1) (fun k hk => by have := hl k hk; omega)⟩
  rcases hk with q | q | q
  · exact ⟨(hSz k q).1, by have := (hSz k q).2.1; omega, (hSz k q).2.2⟩
  · have := hE k q
    exact ⟨by omega, by omega, fun p => by have := (hAz k p).2; omega⟩
  · have h9 := hr9.lt k q
    refine ⟨h9.1, h9.2, fun p => ?_⟩
    rcases hwh with e | e
    · exact (hSz k (r2 k (e ▸ q))).2.2 p
    · rw [e] at q; cases q; have := (hAz _ p).2; omega
theorem OsS.done {w wr : World} {va vp0 vp : Value} {ac : List (Sh.T shAcceptor)} {lp : List (Sh.T shProposer)} (h : OsS w va vp0 ac wr vp lp) : OwnX (((wr.setCell ⟨w.heap.size, 1, none⟩ vp).setCell ⟨w.heap.size + 1, 0, none⟩ va).setCell ⟨w.heap.size + 1, 1, none⟩ vp) w.heap.size tySynod [va, vp] (ac, lp, ()) (Btw w.heap.size (((wr.setCell ⟨w.heap.size, 1, none⟩ vp).setCell ⟨w.heap.size + 1, 0, none⟩ va).setCell ⟨w.heap.size + 1, 1, none⟩ vp).heap.size) ∧ Below w.heap.size w (((wr.setCell ⟨w.heap.size, 1, none⟩ vp).setCell ⟨w.heap.size + 1, 0, none⟩ va).setCell ⟨w.heap.size + 1, 1, none⟩ vp) := by
  obtain ⟨h1, h2, ⟨Sa, S, hA, hP, hAz, hSz⟩, hB⟩ := h
  have g1 := ((hA.set (p := ⟨w.heap.size, 1, none⟩) (fun q => by have : w.heap.size + 1 + 1 ≤ w.heap.size := (hAz _ q).1; omega) vp).set (p := ⟨w.heap.size + 1, 0, none⟩) (fun q => by have : w.heap.size + 1 + 1 ≤ w.heap.size + 1 := (hAz _ q).1; omega) va).set (p := ⟨w.heap.size + 1, 1, none⟩) (fun q => by have : w.heap.size + 1 + 1 ≤ w.heap.size + 1 := (hAz _ q).1; omega) vp
  have g2 := ((hP.set (p := ⟨w.heap.size, 1, none⟩) (fun q => by have : w.heap.size + 1 + 1 ≤ w.heap.size := (hSz _ q).1; omega) vp).set (p := ⟨w.heap.size + 1, 0, none⟩) (fun q => by have : w.heap.size + 1 + 1 ≤ w.heap.size + 1 := (hSz _ q).1; omega) va).set (p := ⟨w.heap.size + 1, 1, none⟩) (fun q => by have : w.heap.size + 1 + 1 ≤ w.heap.size + 1 := (hSz _ q).1; omega) vp
  refine ⟨mkownx_Synod (S1 := Sa) (S2 := S) (g1.lower (by omega)) (g2.lower (by omega)) (fun k hk => ?_) (fun k hk => ?_) (fun k e f => (hSz k f).2.2 e), ((hB.setCell (p := ⟨w.heap.size, 1, none⟩) (Nat.le_refl _) _).setCell (p := ⟨w.heap.size + 1, 0, none⟩) (by simp) _).setCell (p := ⟨w.heap.size + 1, 1, none⟩) (by simp) _⟩
  · have := hAz k hk; simp only [Btw, World.size_setCell]; omega
  · have := hSz k hk; simp only [Btw, World.size_setCell]; omega

set_option maxRecDepth 100000 in
set_option maxHeartbeats 8000000 in
theorem l10Own_n (cs : List Value) (ac : List (Sh.T shAcceptor)) (ps : List (Sh.T shProposer)) (w : World) (hz : szD shSynod (ac, ps, ()) ≤ 1073741824) (h : Lies w shSynod cs (ac, ps, ())) :
    Calls Try.prog 49 #[.agg cs.toArray] w (ToX tySynod (ac, ps, ()) w) := by
  obtain ⟨a1, k1, a2, k2, rfl, h1, h2⟩ := lies_Synod h
  have HL : Hid (Lies w (.list shAcceptor) [.slice a1 ac.length k1] ac ∧ Lies w (.list shProposer) [.slice a2 ps.length k2] ps) := ⟨h1, h2⟩
  have HZ : Hid (szD shSynod (ac, ps, ()) ≤ 1073741824) := hz
  have hna := (syn_sizes hz).2.2.1
  have hnp := (syn_sizes hz).2.2.2
  clear h h1 h2 hz
  obtain ⟨i0, hi0, hz0, hz1, hz2⟩ := info_parts inf_Acceptor
  obtain ⟨w0, hw0⟩ : ∃ x, x = (w.alloc (.cells #[.slice a1 ac.length k1, .slice a2 ps.length k2] 30)).alloc (.cells #[.slice none 0 0, .slice none 0 0] 30) := ⟨_, rfl⟩
  have hw0z : w0.heap.size = w.heap.size + 1 + 1 := by rw [hw0]; simp
  have HI : Hid (Bx w0 w.heap.size [.slice a1 ac.length k1, .slice a2 ps.length k2] ∧ Bx w0 (w.heap.size + 1) [.slice none 0 0, .slice none 0 0] ∧ Below w.heap.size w w0) := ⟨hw0 ▸ (Bx.new w [_, _] _).alloc _, hw0 ▸ Bx.newAt (by simp), hw0 ▸ ((Below.refl _ _).alloc (Nat.le_refl _) _).alloc (by simp) _⟩
  have HM : Hid (ApS tyAcceptor 91 w0 (w0.alloc (.cells #[] 91)) (.slice (some ⟨w.heap.size + 1 + 1, 0, none⟩) 0 0) [] ∧ w0.heap.size = w.heap.size + 1 + 1) := ⟨by have := ApS.made (e := tyAcceptor) (t := 91) (w := w0) rfl; rwa [hw0z] at this, hw0z⟩
  have hbA : 0 + ac.length ≤ maxLen := by unfold maxLen; omega
  have hcA : (0 + ac.length) * 32 ≤ 140737488355328 := by omega
  clear hw0z
  go_enter Try.func49, Try.ntmps49
  go_wp2_with (first
    | (at_builtin; rw [← hw0]; refine wpList_appx rfl (.tmp 6) (.tmp 8) 27 91 rfl i0 (.agg #[.int .i64 0, .int .i64 0, .string ⟨#[]⟩]) 32 w0.heap.size tyAcceptor rfl Try.underlying27 hi0 hz0 hz1 hz2 rfl (by decide) (.slice (some ⟨w.heap.size + 1 + 1, 0, none⟩) 0 0) [] ac _ rfl HM.out.1.1 a1 k1 rfl (HL.out.1.next (below_next HI.out.2.2 HM.out.1.2)) hbA hcA HM.out.1.2.size ?_; intro va w1 hO1 hg1 hwh1; have H1 : Hid (ApS tyAcceptor 91 w0 w1 va ac) := Hid.intro (ApS.app (e := tyAcceptor) (l2 := ac) rfl HM.out.1 hO1 hg1); have HB1 := Hid.intro (HI.out.1.next H1.out.2); have b0 := HB1.out.cell 0 rfl; have b1 := HB1.out.cell 1 rfl; have bz := HB1.out.2; have bf := HB1.out.frz 0 (by simp); obtain ⟨av, cv, hvE⟩ := OwnX.vform H1.out.1; (have hvE : va = .slice av (List.length (α := Sh.T shAcceptor) ac) cv := hvE); subst hvE; clear hO1 hg1 hwh1)
    | go_in)
  obtain ⟨w2, hw2⟩ : ∃ x, x = w1.setCell ⟨w.heap.size, 0, none⟩ (.slice av ac.length cv) := ⟨_, rfl⟩
  obtain ⟨V0, hV0⟩ : ∃ V, V = Value.slice a2 ps.length k2 := ⟨_, rfl⟩
  have HS : Hid (OsS w (.slice av ac.length cv) V0 ac w2 (.slice none 0 0) (ps.take 0)) := Hid.intro (by
    have hz := HM.out.2
    rw [hw2, hV0]
    refine ⟨HB1.out.set (k := 0) (by simp) _, (HI.out.2.1.next H1.out.2).other (by omega), ⟨Btw w0.heap.size w1.heap.size, fun _ => False, ((hz ▸ H1.out.1 : OwnX w1 (w.heap.size + 1 + 1) (.list tyAcceptor 91) [.slice av ac.length cv] ac (Btw w0.heap.size w1.heap.size)).set (p := ⟨w.heap.size, 0, none⟩) (fun q => by simp only [Btw] at q; omega) _), OwnX.nil', fun k hk => by simp only [Btw, World.size_setCell] at hk ⊢; omega, fun k q => q.elim⟩, (below_next HI.out.2.2 H1.out.2).setCell (p := ⟨w.heap.size, 0, none⟩) (Nat.le_refl _) _⟩)
  rw [← hw2]
  clear hw2 hV0 b0 b1 bz bf HB1 H1 HM HI hi0 hz0 hz1 hz2 hw0
  obtain ⟨i0, hi0, hz0, hz1, hz2⟩ := info_parts inf_Promise
  obtain ⟨i1, hi1, hy0, hy1, hy2⟩ := info_parts inf_int
  obtain ⟨i2, hi2, hx0, hx1, hx2⟩ := info_parts inf_Proposer
  go_loopw [14, 3] (fun i vl wr => ∃ (k : Nat) (vp : Value), k ≤ ps.length ∧ i = .int .i64 k ∧ vl = vp ∧ OsS w (.slice av ac.length cv) V0 ac wr vp (ps.take k)) (fun i _ _ => ps.length - (intOf i).toNat)
  case atStart => exact ⟨0, _, Nat.zero_le _, rfl, rfl, HS.out⟩
  case round =>
    obtain ⟨k, vp, hk, rfl, hvl, hC⟩ := hrel
    have hvl := hvl.symm
    subst hvl
    clear HS
    by_cases hlt : k < ps.length
    · have hlt' : (k : Int) < (ps.length : Int) := by omega
      have HLE : Hid (Lies wr (.list shProposer) [.slice a2 ps.length k2] ps) := HL.out.2.next hC.2.2.2
      obtain ⟨xg, xoff, xgo, xgs, xec, xel, xhec, xle⟩ := Lies.elem (HLE.out) hlt
      subst xgo
      rcases xX : ps[k] with ⟨x0, x1, x2, x3, x4, ⟨⟩⟩
      rw [xX] at xle
      have xH : Hid (ps[k] = (x0, x1, x2, x3, x4, ())) := xX
      clear xX
      obtain ⟨xa1, xk1, xa2, xk2, xev, xq1, xq2⟩ := lies_Proposer xle
      subst xev
      have xc0 : wr.cell? ⟨xg, xoff + k * 5, none⟩ = some (.string x0) := xhec 0 (by simp)
      have xc1 : wr.cell? ⟨xg, xoff + k * 5 + 1, none⟩ = some (.slice xa1 x1.length xk1) := xhec 1 (by simp)
      have xc2 : wr.cell? ⟨xg, xoff + k * 5 + 2, none⟩ = some (.bool x2) := xhec 2 (by simp)
      have xc3 : wr.cell? ⟨xg, xoff + k * 5 + 3, none⟩ = some (.string x3) := xhec 3 (by simp)
      have xc4 : wr.cell? ⟨xg, xoff + k * 5 + 4, none⟩ = some (.slice xa2 x4.length xk2) := xhec 4 (by simp)
      clear xhec xel xle
      have hV := (syn_sizes HZ.out).2.1 ps[k] (List.getElem_mem hlt)
      rw [xH.out] at hV
      have hV1 : x1.length ≤ 1073741824 := (pms_sizes hV.2.1).2
      have hV4 : x4.length ≤ 1073741824 := hV.2.2.2
      have hbP : 0 + x1.length ≤ maxLen := by unfold maxLen; omega
      have hcP : (0 + x1.length) * 32 ≤ 140737488355328 := by omega
      have hbV : 0 + x4.length ≤ maxLen := by unfold maxLen; omega
      have hcV : (0 + x4.length) * 8 ≤ 140737488355328 := by omega
      have HPT : Hid (ps.take (k + 1) = ps.take k ++ [mkPo x0 x1 x2 x3 x4]) := Hid.intro (by rw [List.take_succ_eq_append_getElem hlt, xH.out]; rfl)
      have hml : (ps.take k).length ≤ 1073741824 := by rw [List.length_take]; omega
      obtain ⟨M, hM⟩ : ∃ M, M = ps.take k := ⟨_, rfl⟩
      rw [← hM] at hC HPT hml
      obtain ⟨q1, q2, ⟨Sa, S, q3, q4, q5, q6⟩, q7⟩ := hC
      obtain ⟨lv, lc, hvE⟩ := q4.vform
      have hvE : vp = .slice lv (List.length (α := Sh.T shProposer) M) lc := hvE
      subst hvE
      obtain ⟨xs, r1, r2, B, r3, r4, r5⟩ := q4.row
      have HR : Hid (Bx wr w.heap.size [.slice av ac.length cv, V0] ∧ Bx wr (w.heap.size + 1) [.slice none 0 0, .slice none 0 0] ∧ OwnX wr (w.heap.size + 1 + 1) (.list tyAcceptor 91) [.slice av ac.length cv] ac Sa ∧ (∀ k, Sa k → w.heap.size + 1 + 1 ≤ k ∧ k < wr.heap.size) ∧ wr.ownsRow (w.heap.size + 1 + 1) 43 5 (.slice lv M.length lc) M.length xs ∧ (∀ k, (Value.slice lv M.length lc).ownBlock = some k → S k) ∧ (∀ i, i < M.length → ∀ k, B i k → S k ∧ (Value.slice lv M.length lc).ownBlock ≠ some k) ∧ (∀ i j, i < j → j < M.length → ∀ k, B i k → ¬ B j k) ∧ (∀ i (h : i < M.length), OwnX wr (w.heap.size + 1 + 1) tyProposer ((xs.drop (i * 5)).take 5) M[i] (B i)) ∧ (∀ k, S k → w.heap.size + 1 + 1 ≤ k ∧ k < wr.heap.size ∧ ¬ Sa k) ∧ Below w.heap.size w wr) := ⟨q1, q2, q3, q5, r1, r2, r3, r4, r5, q6, q7⟩
      have hbw : w.heap.size + 1 < wr.heap.size := q2.2
      obtain ⟨W1, hW1⟩ : ∃ x, x = wr.alloc (.cells #[.string x0, .slice xa1 x1.length xk1, .bool x2, .string x3, .slice xa2 x4.length xk2] 43) := ⟨_, rfl⟩
      have hW1z : W1.heap.size = wr.heap.size + 1 := by rw [hW1]; simp
      have HW1 : Hid (Bx W1 wr.heap.size [.string x0, .slice xa1 x1.length xk1, .bool x2, .string x3, .slice xa2 x4.length xk2] ∧ Below wr.heap.size wr W1 ∧ ApS tyPromise 96 W1 (W1.alloc (.cells #[] 96)) (.slice (some ⟨wr.heap.size + 1, 0, none⟩) 0 0) [] ∧ W1.heap.size = wr.heap.size + 1) := ⟨hW1 ▸ Bx.new wr [_, _, _, _, _] _, hW1 ▸ Go.Joins.below_alloc1 _ _, by have := ApS.made (e := tyPromise) (t := 96) (w := W1) rfl; rwa [hW1z] at this, hW1z⟩
      have HLX : Hid (Lies wr (.list shPromise) [.slice xa1 x1.length xk1] x1 ∧ Lies wr (.list .int) [.slice xa2 x4.length xk2] x4) := ⟨xq1, xq2⟩
      clear hM HLE hV q1 q2 q3 q4 q5 q6 q7 r1 r2 r3 r4 r5 xq1 xq2 hW1z
      have G0 := (HW1.out.1.next HW1.out.2.2.1.2)
      have p1 : (W1.alloc (.cells #[] 96)).cell? ⟨wr.heap.size, 1, none⟩ = some (.slice xa1 x1.length xk1) := G0.cell 1 rfl
      have pz : wr.heap.size < (W1.alloc (.cells #[] 96)).heap.size := G0.2
      clear G0
      go_wp2_with (first
        | (at_builtin; rw [← hW1]; refine wpList_appx rfl (.tmp 18) (.tmp 20) 40 96 rfl i0 (.agg #[.int .i64 0, .int .i64 0, .string ⟨#[]⟩]) 32 W1.heap.size tyPromise rfl Try.underlying40 hi0 hz0 hz1 hz2 rfl (by decide) (.slice (some ⟨wr.heap.size + 1, 0, none⟩) 0 0) [] x1 _ rfl HW1.out.2.2.1.1 xa1 xk1 rfl (HLX.out.1.next (below_next HW1.out.2.1 HW1.out.2.2.1.2)) hbP hcP HW1.out.2.2.1.2.size ?_; intro v1 w3 hO3 hg3 hwh3; have H3 : Hid (ApS tyPromise 96 W1 w3 v1 x1) := Hid.intro (ApS.app (e := tyPromise) (l2 := x1) rfl HW1.out.2.2.1 hO3 hg3); have HB3 := Hid.intro (HW1.out.1.next H3.out.2); have c0 := HB3.out.cell 0 rfl; have c1 := HB3.out.cell 1 rfl; have c2 := HB3.out.cell 2 rfl; have c3 := HB3.out.cell 3 rfl; have c4 := HB3.out.cell 4 rfl; have cz := HB3.out.2; have cf := HB3.out.frz 1 (by simp); obtain ⟨va1, vc1, hv1⟩ := OwnX.vform H3.out.1; (have hv1 : v1 = .slice va1 (List.length (α := Sh.T shPromise) x1) vc1 := hv1); subst hv1; have HM4 : Hid (ApS .int 3 (w3.setCell ⟨wr.heap.size, 1, none⟩ (.slice va1 x1.length vc1)) ((w3.setCell ⟨wr.heap.size, 1, none⟩ (.slice va1 x1.length vc1)).alloc (.cells #[] 3)) (.slice (some ⟨w3.heap.size, 0, none⟩) 0 0) []) := Hid.intro (by have := ApS.made (e := .int) (t := 3) (w := (w3.setCell ⟨wr.heap.size, 1, none⟩ (.slice va1 x1.length vc1))) rfl; rwa [World.size_setCell] at this); have HB4 : Hid (Bx (w3.setCell ⟨wr.heap.size, 1, none⟩ (.slice va1 x1.length vc1)) wr.heap.size [.string x0, .slice va1 x1.length vc1, .bool x2, .string x3, .slice xa2 x4.length xk2] ∧ Below wr.heap.size wr (w3.setCell ⟨wr.heap.size, 1, none⟩ (.slice va1 x1.length vc1))) := ⟨HB3.out.set (k := 1) (by simp) _, (below_next HW1.out.2.1 H3.out.2).setCell (p := ⟨wr.heap.size, 1, none⟩) (Nat.le_refl _) _⟩; clear hO3 hg3 hwh3 p1 pz)
        | (at_builtin; refine wpList_appx rfl (.tmp 23) (.tmp 25) 41 3 rfl i1 (.int .i64 0) 8 (w3.setCell ⟨wr.heap.size, 1, none⟩ (.slice va1 x1.length vc1)).heap.size .int rfl Try.underlying41 hi1 hy0 hy1 hy2 rfl (by decide) (.slice (some ⟨w3.heap.size, 0, none⟩) 0 0) [] x4 _ rfl HM4.out.1 xa2 xk2 rfl (HLX.out.2.next (below_next HB4.out.2 HM4.out.2)) hbV hcV HM4.out.2.size ?_; intro v2 w6 hO6 hg6 hwh6; have H6 : Hid (ApS .int 3 (w3.setCell ⟨wr.heap.size, 1, none⟩ (.slice va1 x1.length vc1)) w6 v2 x4) := Hid.intro (ApS.app (e := .int) (l2 := x4) rfl HM4.out hO6 hg6); clear c0 c1 c2 c3 c4 cz cf; have HB6 := Hid.intro (HB4.out.1.next H6.out.2); have c0 := HB6.out.cell 0 rfl; have c1 := HB6.out.cell 1 rfl; have c2 := HB6.out.cell 2 rfl; have c3 := HB6.out.cell 3 rfl; have c4 := HB6.out.cell 4 rfl; have cz := HB6.out.2; have cf := HB6.out.frz 4 (by simp); obtain ⟨va2, vc2, hv2⟩ := OwnX.vform H6.out.1; (have hv2 : v2 = .slice va2 (List.length (α := Sh.T .int) x4) vc2 := hv2); subst hv2; have HB7 : Hid (Below wr.heap.size wr ((w6.setCell ⟨wr.heap.size, 4, none⟩ (.slice va2 x4.length vc2)).alloc (.cells #[.string x0, .slice va1 x1.length vc1, .bool x2, .string x3, .slice va2 x4.length vc2] 43))) := Hid.intro (((below_next HB4.out.2 H6.out.2).setCell (p := ⟨wr.heap.size, 4, none⟩) (Nat.le_refl _) _).alloc (by have := HB6.out.2; simp; omega) _); have HNW := Hid.intro (cells_new (w6.setCell ⟨wr.heap.size, 4, none⟩ (.slice va2 x4.length vc2)) [.string x0, .slice va1 x1.length vc1, .bool x2, .string x3, .slice va2 x4.length vc2] 43); rw [World.size_setCell] at HNW; clear hO6 hg6 hwh6)
        | (at_builtin; refine wpList_append_own_at _ rfl (.tmp 28) (.tmp 30) 28 rfl (w.heap.size + 1 + 1) 43 i2 (.agg #[.string ⟨#[]⟩, .slice none 0 0, .bool false, .string ⟨#[]⟩, .slice none 0 0]) 5 88 Try.underlying28 hi2 hx0 hx1 hx2 rfl (by decide) (.slice lv M.length lc) M.length xs rfl (ownsRow_next HR.out.2.2.2.2.1 HB7.out) ⟨w6.heap.size, 0, none⟩ 1 1 [.string x0, .slice va1 x1.length vc1, .bool x2, .string x3, .slice va2 x4.length vc2] rfl rfl HNW.out (by intro u hu; simp at hu; rcases hu with rfl | rfl | rfl | rfl | rfl <;> rfl) (by unfold maxLen; omega) (by omega) (by have := HB7.out.size; omega) ?_; intro v9 w9 hown9 hgrow9 hnil9 hwh9)
        | go_in)
      have HF : Hid (OsS w (.slice av ac.length cv) V0 ac w9 v9 (M ++ [mkPo x0 x1 x2 x3 x4])) := Hid.intro (by
        have z1 := HW1.out.2.2.2
        have z3 := H3.out.2.size
        have z6 : w3.heap.size ≤ w6.heap.size := by have := H6.out.2.size; rwa [World.size_setCell] at this
        have o1 : OwnX ((w6.setCell ⟨wr.heap.size, 4, none⟩ (.slice va2 x4.length vc2)).alloc (.cells #[.string x0, .slice va1 x1.length vc1, .bool x2, .string x3, .slice va2 x4.length vc2] 43)) W1.heap.size (.list tyPromise 96) [.slice va1 x1.length vc1] x1 (Btw W1.heap.size w3.heap.size) := (((H3.out.1.set (p := ⟨wr.heap.size, 1, none⟩) (fun q => by simp only [Btw] at q; omega) _).next H6.out.2).set (p := ⟨wr.heap.size, 4, none⟩) (fun q => by simp only [Btw] at q; omega) _).next (Go.Joins.below_alloc1 _ _)
        have o2 : OwnX ((w6.setCell ⟨wr.heap.size, 4, none⟩ (.slice va2 x4.length vc2)).alloc (.cells #[.string x0, .slice va1 x1.length vc1, .bool x2, .string x3, .slice va2 x4.length vc2] 43)) (w3.setCell ⟨wr.heap.size, 1, none⟩ (.slice va1 x1.length vc1)).heap.size (.list .int 3) [.slice va2 x4.length vc2] x4 (Btw (w3.setCell ⟨wr.heap.size, 1, none⟩ (.slice va1 x1.length vc1)).heap.size w6.heap.size) := (H6.out.1.set (p := ⟨wr.heap.size, 4, none⟩) (fun q => by simp only [Btw, World.size_setCell] at q; omega) _).next (Go.Joins.below_alloc1 _ _)
        exact OsS.appP HR.out.1 HR.out.2.1 HR.out.2.2.1 HR.out.2.2.2.1 HR.out.2.2.2.2.1 HR.out.2.2.2.2.2.1 HR.out.2.2.2.2.2.2.1 HR.out.2.2.2.2.2.2.2.1 HR.out.2.2.2.2.2.2.2.2.1 HR.out.2.2.2.2.2.2.2.2.2.1 HR.out.2.2.2.2.2.2.2.2.2.2 HB7.out (mkownx_Proposer (S := Btw wr.heap.size w6.heap.size) (x0 := x0) (x2 := x2) (x3 := x3) (o1.lower (by omega)) (o2.lower (by rw [World.size_setCell]; omega)) (fun k hk => by simp only [Btw] at hk ⊢; omega) (fun k hk => by simp only [Btw, World.size_setCell] at hk ⊢; omega) (fun k e f => by simp only [Btw, World.size_setCell] at e f; omega)) (fun k hk => by simp only [Btw] at hk; simp; omega) hown9 hgrow9 hwh9)
      clear hown9 hgrow9 hnil9 hwh9 c0 c1 c2 c3 c4 cz cf H3 H6 HB3 HB4 HB6 HM4 HB7 HNW HW1
      go_roundw
      case rel => exact ⟨k + 1, v9, by omega, by go_num, rfl, by rw [HPT.out]; exact HF.out⟩
      case measure => simp [intOf]; omega
    · have hkn : k = ps.length := by omega
      have HC : Hid (OsS w (.slice av ac.length cv) V0 ac wr vp ps) := Hid.intro (by have := hC; rwa [hkn, List.take_length] at this)
      obtain ⟨lv, lc, hvE⟩ : ∃ lv lc, vp = .slice lv (List.length (α := Sh.T shProposer) ps) lc := by
        obtain ⟨_, _, ⟨_, _, _, q, _⟩, _⟩ := HC.out
        exact q.vform
      subst hvE
      have b0 := HC.out.1.cell 0 rfl
      have b1 := HC.out.1.cell 1 rfl
      have bz := HC.out.1.2
      have bf := HC.out.1.frz 1 (by simp)
      have e0 := HC.out.2.1.cell 0 rfl
      have e1 := HC.out.2.1.cell 1 rfl
      have ez := HC.out.2.1.2
      have ef0 := HC.out.2.1.frz 0 (by simp)
      have ef1 := HC.out.2.1.frz 1 (by simp)
      clear hC hkn
      go_wp2
      exact bodyPost_ret (v := .agg #[.slice av ac.length cv, .slice lv ps.length lc]) (by simp [results, Try.results49, go_sem, *]) rfl ⟨[.slice av ac.length cv, .slice lv ps.length lc], rfl, HC.out.done.1, HC.out.done.2⟩
end Go.Proofs.Ytmhkfangfhanlaa
