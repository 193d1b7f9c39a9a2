/- Registers: spec.l9Own: a register's copy. -/
import Derived.Test.YtaofolbnommpgaaRhC
import Derived.Maps.AppendAt
namespace Go.Proofs.Ytaofolbnommpgaa
open Go.RowKit
set_option linter.unusedVariables false
set_option linter.unusedSimpArgs false

/-- While a register is copied: the register in a box, the answer's cell, the copies' row, the ops that are copied so far. -/
def OrS (w wr : World) (ck : Int) (va V2 : Value) (la : List (Sh.T shCopy)) (vp : Value) (lp : List (Sh.T shRegOp)) : Prop :=
  Bx wr w.heap.size [.int .i64 ck, va, V2] ∧ Bx wr (w.heap.size + 1) [.int .i64 0, .slice none 0 0, .slice none 0 0] ∧ wr.ownsRow (w.heap.size + 1 + 1) 48 3 va la.length (cpL la) ∧
    (∃ S : Nat → Prop, OwnX wr (w.heap.size + 1 + 1) (.list tyRegOp 53) [vp] lp S ∧ ∀ k, S k → w.heap.size + 1 + 1 ≤ k ∧ k < wr.heap.size ∧ va.ownBlock ≠ some k) ∧ Below w.heap.size w wr
section
variable {w wr wr' : World} {ck : Int} {va V2 : Value} {la : List (Sh.T shCopy)} {vp : Value} {lp : List (Sh.T shRegOp)}
theorem OrS.next (h : OrS w wr ck va V2 la vp lp) (hb : Below wr.heap.size wr wr') : OrS w wr' ck va V2 la vp lp := by
  obtain ⟨h1, h2, h3, ⟨S, h4, h5⟩, h6⟩ := h
  exact ⟨h1.next hb, h2.next hb, ownsRow_next h3 hb, ⟨S, h4.next hb, fun k hk => ⟨(h5 k hk).1, Nat.lt_of_lt_of_le (h5 k hk).2.1 hb.size, (h5 k hk).2.2⟩⟩, below_next h6 hb⟩
/-- One op more, whose list lies in blocks of E. -/
theorem OrS.appP {W W9 : World} {v9 : Value} {xs ec : List Value} {S E : Nat → Prop} {B : Nat → Nat → Prop} {x : Sh.T shRegOp} (h : OrS w W ck va V2 la vp lp) (ho : W.ownsRow (w.heap.size + 1 + 1) 53 10 vp lp.length xs) (hS : ∀ k, vp.ownBlock = some k → S k) (h3 : ∀ i, i < lp.length → ∀ k, B i k → S k ∧ vp.ownBlock ≠ some k) (h4 : ∀ i j, i < j → j < lp.length → ∀ k, B i k → ¬ B j k)
    (h5 : ∀ i (h : i < lp.length), OwnX W (w.heap.size + 1 + 1) tyRegOp ((xs.drop (i * 10)).take 10) lp[i] (B i)) (hSz : ∀ k, S k → w.heap.size + 1 + 1 ≤ k ∧ k < W.heap.size ∧ va.ownBlock ≠ some k) (hx : OwnX W (w.heap.size + 1 + 1) tyRegOp ec x E) (hE : ∀ k, E k → w.heap.size + 1 + 1 ≤ k ∧ k < W.heap.size ∧ ¬ S k ∧ va.ownBlock ≠ some k)
    (h2 : W9.ownsRow (w.heap.size + 1 + 1) 53 10 v9 (lp.length + 1) (xs ++ ec)) (hg : W.grownBy W9 vp.ownBlock) (hwh : v9.ownBlock = vp.ownBlock ∨ v9.ownBlock = some W.heap.size) : OrS w W9 ck va V2 la v9 (lp ++ [x]) := by
  obtain ⟨q1, q2, q3, _, q6⟩ := h
  have hl : ∀ k, vp.ownBlock = some k → w.heap.size + 1 + 1 ≤ k := fun k hk => (ho.lt k hk).1
  have g1 := q1.grow hg (fun q => by have := hl _ q.symm; omega)
  have g2 := q2.grow hg (fun q => by have := hl _ q.symm; omega)
  have g3 := ownsRow_grown q3 hg (fun k hk q => (hSz k (hS k q)).2.2 hk)
  have g5 : OwnX W9 (w.heap.size + 1 + 1) (.list tyRegOp 53) [v9] (lp ++ [x]) (fun k => S k ∨ E k ∨ v9.ownBlock = some k) := OwnX.app (e := tyRegOp) ho hS h3 h4 h5 (fun k hk => (hSz k hk).2.1) hx (fun k hk => ⟨(hE k hk).2.1, (hE k hk).2.2.1⟩) h2 hg hwh
  refine ⟨g1, g2, g3, ⟨_, g5, fun k hk => ?_⟩, q6.grown hg q6.size (fun k hk => by have := hl k hk; omega)⟩
  have hs := hg.size
  rcases hk with hk | hk | hk
  · have := hSz k hk; exact ⟨this.1, by omega, this.2.2⟩
  · have := hE k hk; exact ⟨this.1, by omega, this.2.2.2⟩
  · refine ⟨(h2.lt k hk).1, (h2.lt k hk).2, fun e => ?_⟩
    rcases hwh with q | q
    · exact (hSz k (hS k (q ▸ hk))).2.2 e
    · rw [q] at hk; cases hk; have := (q3.lt _ e).2; omega
end
theorem sets4 (W : World) (g : Nat) (u u0 u1 u2 : Value) : TurnS (fun k => k = g ∨ k = g + 1) W ((((W.setCell ⟨g, 2, none⟩ u).setCell ⟨g + 1, 0, none⟩ u0).setCell ⟨g + 1, 1, none⟩ u1).setCell ⟨g + 1, 2, none⟩ u2) :=
  ((((TurnS.refl (fun k => k = g ∨ k = g + 1) W).set (p := ⟨g, 2, none⟩) (Or.inl rfl) _).set (p := ⟨g + 1, 0, none⟩) (Or.inr rfl) _).set (p := ⟨g + 1, 1, none⟩) (Or.inr rfl) _).set (p := ⟨g + 1, 2, none⟩) (Or.inr rfl) _

set_option maxRecDepth 100000 in
set_option maxHeartbeats 4000000 in
theorem l9Own_n (cs : List Value) (ck : Int) (cp : List (Sh.T shCopy)) (os : List (Sh.T shRegOp)) (w : World) (hs : smlR cp os) (h : Lies w shRegister cs (ck, cp, os, ())) :
    Calls Try.prog 48 #[.agg cs.toArray] w (ToX tyRegister (ck, cp, os, ()) w) := by
  obtain ⟨a1, k1, a2, k2, rfl, h1, h2⟩ := lies_Register h
  have HL : Hid (Lies w (.list shCopy) [.slice a1 cp.length k1] cp ∧ Lies w (.list shRegOp) [.slice a2 os.length k2] os) := ⟨h1, h2⟩
  have HZ : Hid (smlR cp os) := hs
  have hna := hs.1
  have hnp := hs.2.1
  clear h h1 h2 hs
  obtain ⟨j0, hj0, hy0, hy1, hy2⟩ := info_parts inf_Copy
  obtain ⟨i1, hi1, hv0, hv1, hv2⟩ := info_parts inf_int
  obtain ⟨i2, hi2, hx0, hx1, hx2⟩ := info_parts inf_RegOp
  obtain ⟨w0, hw0⟩ : ∃ x, x = (w.alloc (.cells #[.int .i64 ck, .slice a1 cp.length k1, .slice a2 os.length k2] 29)).alloc (.cells #[.int .i64 0, .slice none 0 0, .slice none 0 0] 29) := ⟨_, rfl⟩
  have hw0z : w0.heap.size = w.heap.size + 1 + 1 := by rw [hw0]; simp
  have HI : Hid (Bx w0 w.heap.size [.int .i64 ck, .slice a1 cp.length k1, .slice a2 os.length k2] ∧ Bx w0 (w.heap.size + 1) [.int .i64 0, .slice none 0 0, .slice none 0 0] ∧ Below w.heap.size w w0 ∧ ApS tyCopy 48 w0 (w0.alloc (.cells #[] 48)) (.slice (some ⟨w.heap.size + 1 + 1, 0, none⟩) 0 0) []) := ⟨hw0 ▸ (Bx.new w [_, _, _] _).alloc _, hw0 ▸ Bx.newAt (by simp), hw0 ▸ ((Below.refl _ _).alloc (Nat.le_refl _) _).alloc (by simp) _, by have := ApS.made (e := tyCopy) (t := 48) (w := w0) rfl; rwa [hw0z] at this⟩
  have G0 := HI.out.1.next HI.out.2.2.2.2
  have p1 : (w0.alloc (.cells #[] 48)).cell? ⟨w.heap.size, 1, none⟩ = some (.slice a1 cp.length k1) := G0.cell 1 rfl
  have pz : w.heap.size < (w0.alloc (.cells #[] 48)).heap.size := G0.2
  clear G0
  have hbC : 0 + cp.length ≤ maxLen := by unfold maxLen; omega
  have hcC : (0 + cp.length) * 32 ≤ 140737488355328 := by omega
  go_enter Try.func48, Try.ntmps48
  go_upto_region 1 with fail
  rw [← hw0]
  clear hw0
  go_upto_region 2 with (first | (at_builtin; refine wpList_appx rfl (.tmp 6) (.tmp 8) 26 48 rfl j0 (.agg #[.int .i64 0, .int .i64 0, .string ⟨#[]⟩]) 32 w0.heap.size tyCopy rfl Try.underlying26 hj0 hy0 hy1 hy2 rfl (by decide) (.slice (some ⟨w.heap.size + 1 + 1, 0, none⟩) 0 0) [] cp _ rfl HI.out.2.2.2.1 a1 k1 rfl (HL.out.1.next (below_next HI.out.2.2.1 HI.out.2.2.2.2)) hbC hcC HI.out.2.2.2.2.size ?_; intro v1 w3 hO3 hg3 hwh3; have H3 : Hid (ApS tyCopy 48 w0 w3 v1 cp) := Hid.intro (ApS.app (e := tyCopy) (l2 := cp) rfl HI.out.2.2.2 hO3 hg3); have HB3 := Hid.intro (HI.out.1.next H3.out.2); clear p1 pz; have c0 := HB3.out.cell 0 rfl; have c1 := HB3.out.cell 1 rfl; have c2 := HB3.out.cell 2 rfl; have cz := HB3.out.2; have cf := HB3.out.frz 1 (by simp); obtain ⟨va1, vc1, hv8⟩ := OwnX.vform H3.out.1; (have hv9 : v1 = .slice va1 (List.length (α := Sh.T shCopy) cp) vc1 := hv8); clear hv8; subst hv9))
  obtain ⟨W2, hW2⟩ : ∃ x, x = w3.setCell ⟨w.heap.size, 1, none⟩ (.slice va1 cp.length vc1) := ⟨_, rfl⟩
  have HS : Hid (OrS w W2 ck (.slice va1 cp.length vc1) (.slice a2 os.length k2) cp (.slice none 0 0) (os.take 0)) := Hid.intro (by
    obtain ⟨row, _⟩ := H3.out.1.flat rfl
    have h4 : Below w.heap.size w w3 := below_next HI.out.2.2.1 H3.out.2
    rw [hW2]
    refine ⟨HB3.out.set (k := 1) (by simp) _, (HI.out.2.1.next H3.out.2).other (by omega), ?_, ⟨fun _ => False, OwnX.nil', fun k q => q.elim⟩, h4.setCell (p := ⟨w.heap.size, 1, none⟩) (Nat.le_refl _) _⟩
    have := ownsRow_turn row (turn_set w3 ⟨w.heap.size, 1, none⟩ (.slice va1 cp.length vc1)) (fun k hk e => by have := (row.lt k hk).1; have e : k = w.heap.size := e; omega)
    rw [hw0z] at this
    exact this)
  rw [← hW2]
  clear hW2 c0 c1 c2 cz cf HB3 H3 HI hbC hcC hy0 hy1 hy2 hj0 hO3 hg3 hwh3 hw0z
  obtain ⟨V1, hV1⟩ : ∃ V, V = Value.slice va1 cp.length vc1 := ⟨_, rfl⟩
  rw [← hV1] at HS
  have s0 := (HS.out.1).cell 0 rfl; have s1 := (HS.out.1).cell 1 rfl; have s2 := (HS.out.1).cell 2 rfl; have sz := (HS.out.1).2
  go_wp2
  clear s0 s1 s2 sz
  go_loopw [14, 3] (fun i vl wr => ∃ (k : Nat) (vp : Value), k ≤ os.length ∧ i = .int .i64 k ∧ vl = vp ∧ OrS w wr ck V1 (.slice a2 os.length k2) cp vp (os.take k)) (fun i _ _ => os.length - (intOf i).toNat)
  case atStart => exact ⟨0, _, Nat.zero_le _, rfl, rfl, HS.out⟩
  case round =>
    obtain ⟨k, vp, hk, rfl, hvl, hC⟩ := hrel
    have hvl := hvl.symm
    subst hvl
    clear HS
    by_cases hlt : k < os.length
    · have hlt' : (k : Int) < (os.length : Int) := by omega
      have HLE : Hid (Lies wr (.list shRegOp) [.slice a2 os.length k2] os) := HL.out.2.next hC.2.2.2.2
      obtain ⟨xg, xoff, xgo, xgs, xec, xel, xhec, xle⟩ := Lies.elem (HLE.out) hlt
      subst xgo
      rcases xX : os[k] with ⟨x0, x1, x2, x3, x4, ⟨x5, x6, x7, ⟨⟩⟩, x8, x9, ⟨⟩⟩
      rw [xX] at xle
      have xH : Hid (os[k] = (x0, x1, x2, x3, x4, (x5, x6, x7, ()), x8, x9, ())) := xX
      clear xX
      obtain ⟨xa1, xk1, xev, xq1⟩ := lies_RegOp xle
      subst xev
      have xc0 : wr.cell? ⟨xg, xoff + k * 10, none⟩ = some (.int .i64 x0) := xhec 0 (by simp)
      have xc1 : wr.cell? ⟨xg, xoff + k * 10 + 1, none⟩ = some (.bool x1) := xhec 1 (by simp)
      have xc2 : wr.cell? ⟨xg, xoff + k * 10 + 2, none⟩ = some (.string x2) := xhec 2 (by simp)
      have xc3 : wr.cell? ⟨xg, xoff + k * 10 + 3, none⟩ = some (.int .i64 x3) := xhec 3 (by simp)
      have xc4 : wr.cell? ⟨xg, xoff + k * 10 + 4, none⟩ = some (.slice xa1 x4.length xk1) := xhec 4 (by simp)
      have xc5 : wr.cell? ⟨xg, xoff + k * 10 + 5, none⟩ = some (.int .i64 x5) := xhec 5 (by simp)
      have xc6 : wr.cell? ⟨xg, xoff + k * 10 + 6, none⟩ = some (.int .i64 x6) := xhec 6 (by simp)
      have xc7 : wr.cell? ⟨xg, xoff + k * 10 + 7, none⟩ = some (.string x7) := xhec 7 (by simp)
      have xc8 : wr.cell? ⟨xg, xoff + k * 10 + 8, none⟩ = some (.int .i64 x8) := xhec 8 (by simp)
      have xc9 : wr.cell? ⟨xg, xoff + k * 10 + 9, none⟩ = some (.int .i64 x9) := xhec 9 (by simp)
      clear xhec xel xle
      have hV2 : x4.length ≤ 20 := by
        have := HZ.out.2.2.2 os[k] (List.getElem_mem hlt)
        rw [xH.out] at this
        exact this.2.1
      have hbV : 0 + x4.length ≤ maxLen := by unfold maxLen; omega
      have hcV : (0 + x4.length) * 8 ≤ 140737488355328 := by omega
      have HPT : Hid (os.take (k + 1) = os.take k ++ [mkOp x0 x1 x2 x3 x4 (mkCp x5 x6 x7) x8 x9]) := Hid.intro (by rw [List.take_succ_eq_append_getElem hlt, xH.out]; rfl)
      have hml : (os.take k).length ≤ 1073741824 := by rw [List.length_take]; omega
      obtain ⟨M, hM⟩ : ∃ M, M = os.take k := ⟨_, rfl⟩
      rw [← hM] at hC HPT hml
      have HC := Hid.intro hC
      obtain ⟨S, q4, q6⟩ := hC.2.2.2.1
      obtain ⟨lv, lc, hvE⟩ := q4.vform
      have hvE : vp = .slice lv (List.length (α := Sh.T shRegOp) M) lc := hvE
      subst hvE
      obtain ⟨xs, r1, r2, B, r3, r4, r5⟩ := q4.row
      have HR : Hid (OrS w wr ck V1 (.slice (some ⟨xg, xoff, none⟩) os.length k2) cp (.slice lv M.length lc) M ∧ wr.ownsRow (w.heap.size + 1 + 1) 53 10 (.slice lv M.length lc) M.length xs ∧ (∀ k, (Value.slice lv M.length lc).ownBlock = some k → S k) ∧ (∀ i, i < M.length → ∀ k, B i k → S k ∧ (Value.slice lv M.length lc).ownBlock ≠ some k) ∧ (∀ i j, i < j → j < M.length → ∀ k, B i k → ¬ B j k) ∧ (∀ i (h : i < M.length), OwnX wr (w.heap.size + 1 + 1) tyRegOp ((xs.drop (i * 10)).take 10) M[i] (B i)) ∧ (∀ k, S k → w.heap.size + 1 + 1 ≤ k ∧ k < wr.heap.size ∧ V1.ownBlock ≠ some k)) := ⟨hC, r1, r2, r3, r4, r5, q6⟩
      have hbw : w.heap.size + 1 < wr.heap.size := hC.2.1.2
      have HVA : Hid (∀ k, V1.ownBlock = some k → k < wr.heap.size) := fun k hk => (hC.2.2.1.lt k hk).2
      obtain ⟨W1, hW1⟩ : ∃ x, x = wr.alloc (.cells #[.int .i64 x0, .bool x1, .string x2, .int .i64 x3, .slice xa1 x4.length xk1, .int .i64 x5, .int .i64 x6, .string x7, .int .i64 x8, .int .i64 x9] 53) := ⟨_, rfl⟩
      have hW1z : W1.heap.size = wr.heap.size + 1 := by rw [hW1]; simp
      have HW1 : Hid (Bx W1 wr.heap.size (opC x0 x1 x2 x3 (.slice xa1 x4.length xk1) x5 x6 x7 x8 x9) ∧ Below wr.heap.size wr W1 ∧ ApS .int 3 W1 (W1.alloc (.cells #[] 3)) (.slice (some ⟨wr.heap.size + 1, 0, none⟩) 0 0) [] ∧ W1.heap.size = wr.heap.size + 1) := ⟨hW1 ▸ Bx.new wr [_, _, _, _, _, _, _, _, _, _] _, hW1 ▸ Go.Joins.below_alloc1 _ _, by have := ApS.made (e := .int) (t := 3) (w := W1) rfl; rwa [hW1z] at this, hW1z⟩
      have HLX : Hid (Lies wr (.list .int) [.slice xa1 x4.length xk1] x4) := xq1
      clear hM HLE hC HC q4 q6 r1 r2 r3 r4 r5 xq1 hW1z
      have G0 := (HW1.out.1.next HW1.out.2.2.1.2)
      have p4 : (W1.alloc (.cells #[] 3)).cell? ⟨wr.heap.size, 4, none⟩ = some (.slice xa1 x4.length xk1) := G0.cell 4 rfl
      have pz : wr.heap.size < (W1.alloc (.cells #[] 3)).heap.size := G0.2
      clear G0
      go_wp2_with (first
        | (at_builtin; rw [← hW1]; refine wpList_appx rfl (.tmp 18) (.tmp 20) 51 3 rfl i1 (.int .i64 0) 8 W1.heap.size .int rfl Try.underlying51 hi1 hv0 hv1 hv2 rfl (by decide) (.slice (some ⟨wr.heap.size + 1, 0, none⟩) 0 0) [] x4 _ rfl HW1.out.2.2.1.1 xa1 xk1 rfl (HLX.out.next (below_next HW1.out.2.1 HW1.out.2.2.1.2)) hbV hcV HW1.out.2.2.1.2.size ?_; intro v1 w3 hO3 hg3 hwh3; have H3 : Hid (ApS .int 3 W1 w3 v1 x4) := Hid.intro (ApS.app (e := .int) (l2 := x4) rfl HW1.out.2.2.1 hO3 hg3); have HB3 := Hid.intro (HW1.out.1.next H3.out.2); clear hW1 p4 pz xc0 xc1 xc2 xc3 xc4 xc5 xc6 xc7 xc8 xc9; have c0 := HB3.out.cell 0 rfl; have c1 := HB3.out.cell 1 rfl; have c2 := HB3.out.cell 2 rfl; have c3 := HB3.out.cell 3 rfl; have c4 := HB3.out.cell 4 rfl; have c5 := HB3.out.cell 5 rfl; have c6 := HB3.out.cell 6 rfl; have c7 := HB3.out.cell 7 rfl; have c8 := HB3.out.cell 8 rfl; have c9 := HB3.out.cell 9 rfl; have cz := HB3.out.2; have cf := HB3.out.frz 4 (by simp); obtain ⟨va1, vc1, hv1⟩ := OwnX.vform H3.out.1; (have hv9 : v1 = .slice va1 (List.length (α := Sh.T .int) x4) vc1 := hv1); clear hv1; subst hv9; have HB7 : Hid (Below wr.heap.size wr ((w3.setCell ⟨wr.heap.size, 4, none⟩ (.slice va1 x4.length vc1)).alloc (.cells #[.int .i64 x0, .bool x1, .string x2, .int .i64 x3, .slice va1 x4.length vc1, .int .i64 x5, .int .i64 x6, .string x7, .int .i64 x8, .int .i64 x9] 53))) := Hid.intro (((below_next HW1.out.2.1 H3.out.2).setCell (p := ⟨wr.heap.size, 4, none⟩) (Nat.le_refl _) _).alloc (by have := HB3.out.2; simp; omega) _); have HNW := Hid.intro (cells_new (w3.setCell ⟨wr.heap.size, 4, none⟩ (.slice va1 x4.length vc1)) [.int .i64 x0, .bool x1, .string x2, .int .i64 x3, .slice va1 x4.length vc1, .int .i64 x5, .int .i64 x6, .string x7, .int .i64 x8, .int .i64 x9] 53); rw [World.size_setCell] at HNW)
        | (at_builtin; refine wpList_append_own_at _ rfl (.tmp 23) (.tmp 25) 27 rfl (w.heap.size + 1 + 1) 53 i2 (.agg #[.int .i64 0, .bool false, .string ⟨#[]⟩, .int .i64 0, .slice none 0 0, .int .i64 0, .int .i64 0, .string ⟨#[]⟩, .int .i64 0, .int .i64 0]) 10 112 Try.underlying27 hi2 hx0 hx1 hx2 rfl (by decide) (.slice lv M.length lc) M.length xs rfl (ownsRow_next HR.out.2.1 HB7.out) ⟨w3.heap.size, 0, none⟩ 1 1 [.int .i64 x0, .bool x1, .string x2, .int .i64 x3, .slice va1 x4.length vc1, .int .i64 x5, .int .i64 x6, .string x7, .int .i64 x8, .int .i64 x9] rfl rfl HNW.out (by intro u hu; simp at hu; rcases hu with rfl | rfl | rfl | rfl | rfl | rfl | rfl | rfl | rfl | rfl <;> rfl) (by unfold maxLen; omega) (by omega) (by have := HB7.out.size; omega) ?_; intro v9 w9 hown9 hgrow9 hnil9 hwh9)
        | go_in)
      have HF : Hid (OrS w w9 ck V1 (.slice (some ⟨xg, xoff, none⟩) os.length k2) cp v9 (M ++ [mkOp x0 x1 x2 x3 x4 (mkCp x5 x6 x7) x8 x9])) := Hid.intro (by
        have z1 := HW1.out.2.2.2
        have z3 := H3.out.2.size
        have o1 : OwnX ((w3.setCell ⟨wr.heap.size, 4, none⟩ (.slice va1 x4.length vc1)).alloc (.cells #[.int .i64 x0, .bool x1, .string x2, .int .i64 x3, .slice va1 x4.length vc1, .int .i64 x5, .int .i64 x6, .string x7, .int .i64 x8, .int .i64 x9] 53)) W1.heap.size (.list .int 3) [.slice va1 x4.length vc1] x4 (Btw W1.heap.size w3.heap.size) := (H3.out.1.set (p := ⟨wr.heap.size, 4, none⟩) (fun q => by simp only [Btw] at q; omega) _).next (Go.Joins.below_alloc1 _ _)
        exact OrS.appP (HR.out.1.next HB7.out) (ownsRow_next HR.out.2.1 HB7.out) HR.out.2.2.1 HR.out.2.2.2.1 HR.out.2.2.2.2.1 (fun i hi => (HR.out.2.2.2.2.2.1 i hi).next HB7.out) (fun k hk => ⟨(HR.out.2.2.2.2.2.2 k hk).1, Nat.lt_of_lt_of_le (HR.out.2.2.2.2.2.2 k hk).2.1 HB7.out.size, (HR.out.2.2.2.2.2.2 k hk).2.2⟩) (mkownx_RegOp (S := Btw wr.heap.size w3.heap.size) (x0 := x0) (x1 := x1) (x2 := x2) (x3 := x3) (x5 := x5) (x6 := x6) (x7 := x7) (x8 := x8) (x9 := x9) (o1.lower (by omega)) (fun k hk => by simp only [Btw] at hk ⊢; omega)) (fun k hk => ⟨by simp only [Btw] at hk; omega, by simp only [Btw] at hk; simp; omega, fun e => by simp only [Btw] at hk; have := (HR.out.2.2.2.2.2.2 k e).2.1; omega, fun e => by simp only [Btw] at hk; have := HVA.out k e; omega⟩) hown9 hgrow9 hwh9)
      clear hown9 hgrow9 hnil9 hwh9 c0 c1 c2 c3 c4 c5 c6 c7 c8 c9 cz cf H3 HB3 HB7 HNW HW1
      go_roundw
      case rel => exact ⟨k + 1, v9, by omega, by go_num, rfl, by rw [HPT.out]; exact HF.out⟩
      case measure => simp [intOf]; omega
    · have hkn : k = os.length := by omega
      have HC : Hid (OrS w wr ck V1 (.slice a2 os.length k2) cp vp os) := Hid.intro (by have := hC; rwa [hkn, List.take_length] at this)
      obtain ⟨lv, lc, hvE⟩ : ∃ lv lc, vp = .slice lv (List.length (α := Sh.T shRegOp) os) lc := by
        obtain ⟨_, _, _, ⟨_, q, _⟩, _⟩ := HC.out
        exact q.vform
      subst hvE hV1
      have b0 := (HC.out.1).cell 0 rfl; have b1 := (HC.out.1).cell 1 rfl; have b2 := (HC.out.1).cell 2 rfl; have bz := (HC.out.1).2
      have bf := HC.out.1.frz 2 (by simp)
      have e0 := (HC.out.2.1).cell 0 rfl; have e1 := (HC.out.2.1).cell 1 rfl; have e2 := (HC.out.2.1).cell 2 rfl; have ez := (HC.out.2.1).2
      have ef0 := HC.out.2.1.frz 0 (by simp)
      have ef1 := HC.out.2.1.frz 1 (by simp)
      have ef2 := HC.out.2.1.frz 2 (by simp)
      clear hC hkn
      go_wp2
      have HT := Hid.intro (sets4 wr w.heap.size (.slice lv os.length lc) (.int .i64 ck) (.slice va1 cp.length vc1) (.slice lv os.length lc))
      refine bodyPost_ret (v := .agg #[.int .i64 ck, .slice va1 cp.length vc1, .slice lv os.length lc]) (by simp [results, Try.results48, go_sem, *]) rfl ⟨[.int .i64 ck, .slice va1 cp.length vc1, .slice lv os.length lc], rfl, ?_, ?_⟩
      · obtain ⟨q1, q2, q3, ⟨S, q4, q6⟩, q7⟩ := HC.out
        have z3 := HT.out.size
        have z2 := q2.2
        have g3 := ownsRow_turn q3 HT.out (fun k hk e => by have := (q3.lt k hk).1; have e : k = w.heap.size ∨ k = w.heap.size + 1 := e; omega)
        refine mkownx_Register (S1 := fun k => (Value.slice va1 cp.length vc1).ownBlock = some k) (S2 := S) ((OwnX.of_flat (e := tyCopy) rfl g3 (fun k hk => hk)).lower (by omega)) ((q4.turn HT.out (fun k hk e => by have := (q6 k hk).1; have e : k = w.heap.size ∨ k = w.heap.size + 1 := e; omega)).lower (by omega)) (fun k hk => ?_) (fun k hk => ?_) (fun k e f => (q6 k f).2.2 e)
        · have := q3.lt k hk; simp only [Btw]; omega
        · have := q6 k hk; simp only [Btw]; omega
      · exact HC.out.2.2.2.2.trans (HT.out.below (fun k e => by have e : k = w.heap.size ∨ k = w.heap.size + 1 := e; omega) HC.out.2.2.2.2.size)
end Go.Proofs.Ytaofolbnommpgaa
