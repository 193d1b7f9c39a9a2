/- Fences: spec.l12Own: a fence's copy. -/
import Derived.Test.YtcbdlalpnlahcaaFeN
import Derived.Test.YtcbdlalpnlahcaaMgB
namespace Go.Proofs.Ytcbdlalpnlahcaa
open Go.RowKit
set_option linter.unusedVariables false
set_option linter.unusedSimpArgs false

def mkMb (x0 x1 : Int) (x2 : List (Sh.T .int)) (x3 : Int) : Sh.T shMember := (x0, x1, x2, x3, ())
/-- While a fence is copied. -/
def OfS (w : World) (ep du : Int) (vm0 ve0 : Value) (wr : World) (vp : Value) (lp : List (Sh.T shMember)) : Prop :=
  Bx wr w.heap.size [.int .i64 ep, .int .i64 du, vm0, ve0] ∧ Bx wr (w.heap.size + 1) [.int .i64 0, .int .i64 0, .slice none 0 0, .slice none 0 0] ∧ (∃ S : Nat → Prop, OwnX wr (w.heap.size + 1 + 1) (.list tyMember 37) [vp] lp S ∧ (∀ k, S k → w.heap.size + 1 + 1 ≤ k ∧ k < wr.heap.size)) ∧ Below w.heap.size w wr
theorem OfS.appP {w wr W W9 : World} {ep du : Int} {vm0 ve0 vp v9 : Value} {lp : List (Sh.T shMember)} {S E : Nat → Prop} {xs ec : List Value} {B : Nat → Nat → Prop} {x : Sh.T shMember} (h1 : Bx wr w.heap.size [.int .i64 ep, .int .i64 du, vm0, ve0]) (h2 : Bx wr (w.heap.size + 1) [.int .i64 0, .int .i64 0, .slice none 0 0, .slice none 0 0])
    (ho : wr.ownsRow (w.heap.size + 1 + 1) 37 4 vp lp.length xs) (r2 : ∀ k, vp.ownBlock = some k → S k) (r3 : ∀ i, i < lp.length → ∀ k, B i k → S k ∧ vp.ownBlock ≠ some k) (r4 : ∀ i j, i < j → j < lp.length → ∀ k, B i k → ¬ B j k) (r5 : ∀ i (h : i < lp.length), OwnX wr (w.heap.size + 1 + 1) tyMember ((xs.drop (i * 4)).take 4) lp[i] (B i)) (hSz : ∀ k, S k → w.heap.size + 1 + 1 ≤ k ∧ k < wr.heap.size)
    (hB : Below w.heap.size w wr) (hb : Below wr.heap.size wr W) (hx : OwnX W (w.heap.size + 1 + 1) tyMember ec x E) (hE : ∀ k, E k → wr.heap.size ≤ k ∧ k < W.heap.size) (hr9 : W9.ownsRow (w.heap.size + 1 + 1) 37 4 v9 (lp.length + 1) (xs ++ ec)) (hg : W.grownBy W9 vp.ownBlock) (hwh : v9.ownBlock = vp.ownBlock ∨ v9.ownBlock = some W.heap.size) : OfS w ep du vm0 ve0 W9 v9 (lp ++ [x]) := by
  have z1 := hb.size
  have z2 := hg.size
  have z3 := h2.2
  have hl : ∀ k, vp.ownBlock = some k → w.heap.size + 1 + 1 ≤ k := fun k hk => (ho.lt k hk).1
  refine ⟨(h1.next hb).grow hg (fun q => by have := hl _ q.symm; omega), (h2.next hb).grow hg (fun q => by have := hl _ q.symm; omega), ⟨fun k => S k ∨ E k ∨ v9.ownBlock = some k, OwnX.app (e := tyMember) (ownsRow_next ho hb) r2 r3 r4 (fun i hi => (r5 i hi).next hb) (fun k hk => by have := (hSz k hk).2; omega) hx (fun k hk => ⟨(hE k hk).2, fun q => by have := (hE k hk).1; have := (hSz k q).2; omega⟩) hr9 hg hwh, fun k hk => ?_⟩, (below_next hB hb).grown hg (Nat.le_trans hB.size z1) (fun k hk => by have := hl k hk; omega)⟩
  rcases hk with q | q | q
  · exact ⟨(hSz k q).1, by have := (hSz k q).2; omega⟩
  · have := hE k q
    exact ⟨by omega, by omega⟩
  · exact hr9.lt k q
theorem sets5 (W : World) (b : Nat) (u u0 u1 u2 u3 : Value) : TurnS (fun k => k = b ∨ k = b + 1) W (((((W.setCell ⟨b, 3, none⟩ u).setCell ⟨b + 1, 0, none⟩ u0).setCell ⟨b + 1, 1, none⟩ u1).setCell ⟨b + 1, 2, none⟩ u2).setCell ⟨b + 1, 3, none⟩ u3) :=
  ((TurnS.refl (fun k => k = b ∨ k = b + 1) W).set (S := fun k => k = b ∨ k = b + 1) (p := ⟨b, 3, none⟩) (Or.inl rfl) _).trans ((set4 _ (b + 1) _ _ _ _).wide (fun k e => Or.inr e))

set_option maxRecDepth 100000 in
set_option maxHeartbeats 8000000 in
theorem l12Own_n (cs : List Value) (ep du : Int) (ms : List (Sh.T shMember)) (en : List (Sh.T .int)) (w : World) (hz : szD shFence (ep, du, ms, en, ()) ≤ 1073741824) (h : Lies w shFence cs (ep, du, ms, en, ())) :
    Calls Try.prog 42 #[.agg cs.toArray] w (ToX tyFence (ep, du, ms, en, ()) w) := by
  obtain ⟨a1, k1, a2, k2, rfl, h1, h2⟩ := lies_Fence h
  have HL : Hid (FeL w a1 k1 a2 k2 ms en) := ⟨h1, h2⟩
  have HZ : Hid (szD shFence (ep, du, ms, en, ()) ≤ 1073741824) := hz
  have hnm := (fe_sizes hz).1
  have hne := (fe_sizes hz).2.1
  have hnr := (fe_sizes hz).2.2
  clear h h1 h2 hz
  obtain ⟨w0, hw0⟩ : ∃ x, x = (w.alloc (.cells #[.int .i64 ep, .int .i64 du, .slice a1 ms.length k1, .slice a2 en.length k2] 29)).alloc (.cells #[.int .i64 0, .int .i64 0, .slice none 0 0, .slice none 0 0] 29) := ⟨_, rfl⟩
  obtain ⟨V0, hV0⟩ : ∃ V, V = Value.slice a1 ms.length k1 := ⟨_, rfl⟩
  have HS : Hid (OfS w ep du V0 (.slice a2 en.length k2) w0 (.slice none 0 0) (ms.take 0)) := Hid.intro (by
    rw [hV0]
    exact ⟨hw0 ▸ (Bx.new w [_, _, _, _] _).alloc _, hw0 ▸ Bx.newAt (by simp), ⟨fun _ => False, OwnX.nil', fun k q => q.elim⟩, hw0 ▸ ((Below.refl _ _).alloc (Nat.le_refl _) _).alloc (by simp) _⟩)
  have s2 : w0.cell? ⟨w.heap.size, 2, none⟩ = some (.slice a1 ms.length k1) := by have := HS.out.1.cell 2 rfl; rwa [hV0] at this
  have sz := HS.out.1.2
  obtain ⟨i1, hi1, hy0, hy1, hy2⟩ := info_parts inf_int
  obtain ⟨i2, hi2, hx0, hx1, hx2⟩ := info_parts inf_Member
  go_enter Try.func42, Try.ntmps42
  go_upto_region 1 with fail
  rw [← hw0]
  clear hw0
  go_wp2
  clear s2 sz hV0
  go_loopw [9, 3] (fun i vl wr => ∃ (k : Nat) (vp : Value), k ≤ ms.length ∧ i = .int .i64 k ∧ vl = vp ∧ OfS w ep du V0 (.slice a2 en.length k2) wr vp (ms.take k)) (fun i _ _ => ms.length - (intOf i).toNat)
  case atStart => exact ⟨0, _, Nat.zero_le _, rfl, rfl, HS.out⟩
  case round =>
    obtain ⟨k, vp, hk, rfl, hvl, hC⟩ := hrel
    have hvl := hvl.symm
    subst hvl
    clear HS
    by_cases hlt : k < ms.length
    · have hlt' : (k : Int) < (ms.length : Int) := by omega
      have HLE : Hid (Lies wr (.list shMember) [.slice a1 ms.length k1] ms) := HL.out.1.next hC.2.2.2
      obtain ⟨xg, xoff, xgo, xgs, xec, xel, xhec, xle⟩ := Lies.elem (HLE.out) hlt
      subst xgo
      rcases xX : ms[k] with ⟨x0, x1, x2, x3, ⟨⟩⟩
      rw [xX] at xle
      have xH : Hid (ms[k] = (x0, x1, x2, x3, ())) := xX
      clear xX
      obtain ⟨xa1, xk1, xev, xq1⟩ := lies_Member xle
      subst xev
      have xc0 : wr.cell? ⟨xg, xoff + k * 4, none⟩ = some (.int .i64 x0) := xhec 0 (by simp)
      have xc1 : wr.cell? ⟨xg, xoff + k * 4 + 1, none⟩ = some (.int .i64 x1) := xhec 1 (by simp)
      have xc2 : wr.cell? ⟨xg, xoff + k * 4 + 2, none⟩ = some (.slice xa1 x2.length xk1) := xhec 2 (by simp)
      have xc3 : wr.cell? ⟨xg, xoff + k * 4 + 3, none⟩ = some (.int .i64 x3) := xhec 3 (by simp)
      clear xhec xel xle
      have hV2 : x2.length ≤ 1073741824 := by
        have e1 := runN_succ hlt
        have e2 := runN_mono (ms := ms) (k := k + 1) (by omega)
        rw [xH.out] at e1
        have e1 : runN ms (k + 1) = runN ms k + x2.length := e1
        omega
      have hbV : 0 + x2.length ≤ maxLen := by unfold maxLen; omega
      have hcV : (0 + x2.length) * 8 ≤ 140737488355328 := by omega
      have HPT : Hid (ms.take (k + 1) = ms.take k ++ [mkMb x0 x1 x2 x3]) := Hid.intro (by rw [List.take_succ_eq_append_getElem hlt, xH.out]; rfl)
      have hml : (ms.take k).length ≤ 1073741824 := by rw [List.length_take]; omega
      obtain ⟨M, hM⟩ : ∃ M, M = ms.take k := ⟨_, rfl⟩
      rw [← hM] at hC HPT hml
      obtain ⟨q1, q2, ⟨S, q4, q6⟩, q7⟩ := hC
      obtain ⟨lv, lc, hvE⟩ := q4.vform
      have hvE : vp = .slice lv (List.length (α := Sh.T shMember) M) lc := hvE
      subst hvE
      obtain ⟨xs, r1, r2, B, r3, r4, r5⟩ := q4.row
      have HR : Hid (Bx wr w.heap.size [.int .i64 ep, .int .i64 du, V0, .slice a2 en.length k2] ∧ Bx wr (w.heap.size + 1) [.int .i64 0, .int .i64 0, .slice none 0 0, .slice none 0 0] ∧ wr.ownsRow (w.heap.size + 1 + 1) 37 4 (.slice lv M.length lc) M.length xs ∧ (∀ k, (Value.slice lv M.length lc).ownBlock = some k → S k) ∧ (∀ i, i < M.length → ∀ k, B i k → S k ∧ (Value.slice lv M.length lc).ownBlock ≠ some k) ∧ (∀ i j, i < j → j < M.length → ∀ k, B i k → ¬ B j k) ∧ (∀ i (h : i < M.length), OwnX wr (w.heap.size + 1 + 1) tyMember ((xs.drop (i * 4)).take 4) M[i] (B i)) ∧ (∀ k, S k → w.heap.size + 1 + 1 ≤ k ∧ k < wr.heap.size) ∧ Below w.heap.size w wr) := ⟨q1, q2, r1, r2, r3, r4, r5, q6, q7⟩
      have hbw : w.heap.size + 1 < wr.heap.size := q2.2
      obtain ⟨W1, hW1⟩ : ∃ x, x = wr.alloc (.cells #[.int .i64 x0, .int .i64 x1, .slice xa1 x2.length xk1, .int .i64 x3] 37) := ⟨_, rfl⟩
      have hW1z : W1.heap.size = wr.heap.size + 1 := by rw [hW1]; simp
      have HW1 : Hid (Bx W1 wr.heap.size [.int .i64 x0, .int .i64 x1, .slice xa1 x2.length xk1, .int .i64 x3] ∧ Below wr.heap.size wr W1 ∧ ApS .int 3 W1 (W1.alloc (.cells #[] 3)) (.slice (some ⟨wr.heap.size + 1, 0, none⟩) 0 0) [] ∧ W1.heap.size = wr.heap.size + 1) := ⟨hW1 ▸ Bx.new wr [_, _, _, _] _, hW1 ▸ Go.Joins.below_alloc1 _ _, by have := ApS.made (e := .int) (t := 3) (w := W1) rfl; rwa [hW1z] at this, hW1z⟩
      have HLX : Hid (Lies wr (.list .int) [.slice xa1 x2.length xk1] x2) := xq1
      clear hM HLE q1 q2 q4 q6 q7 r1 r2 r3 r4 r5 xq1 hW1z
      have G0 := (HW1.out.1.next HW1.out.2.2.1.2)
      have p2 : (W1.alloc (.cells #[] 3)).cell? ⟨wr.heap.size, 2, none⟩ = some (.slice xa1 x2.length xk1) := G0.cell 2 rfl
      have pz : wr.heap.size < (W1.alloc (.cells #[] 3)).heap.size := G0.2
      clear G0
      go_wp2_with (first
        | (at_builtin; rw [← hW1]; refine wpList_appx rfl (.tmp 13) (.tmp 15) 27 3 rfl i1 (.int .i64 0) 8 W1.heap.size .int rfl Try.underlying27 hi1 hy0 hy1 hy2 rfl (by decide) (.slice (some ⟨wr.heap.size + 1, 0, none⟩) 0 0) [] x2 _ rfl HW1.out.2.2.1.1 xa1 xk1 rfl (HLX.out.next (below_next HW1.out.2.1 HW1.out.2.2.1.2)) hbV hcV HW1.out.2.2.1.2.size ?_; intro v1 w3 hO3 hg3 hwh3; have H3 : Hid (ApS .int 3 W1 w3 v1 x2) := Hid.intro (ApS.app (e := .int) (l2 := x2) rfl HW1.out.2.2.1 hO3 hg3); have HB3 := Hid.intro (HW1.out.1.next H3.out.2); have c0 := HB3.out.cell 0 rfl; have c1 := HB3.out.cell 1 rfl; have c2 := HB3.out.cell 2 rfl; have c3 := HB3.out.cell 3 rfl; have cz := HB3.out.2; have cf := HB3.out.frz 2 (by simp); obtain ⟨va1, vc1, hv1⟩ := OwnX.vform H3.out.1; (have hv1 : v1 = .slice va1 (List.length (α := Sh.T .int) x2) vc1 := hv1); subst hv1; have HB7 : Hid (Below wr.heap.size wr ((w3.setCell ⟨wr.heap.size, 2, none⟩ (.slice va1 x2.length vc1)).alloc (.cells #[.int .i64 x0, .int .i64 x1, .slice va1 x2.length vc1, .int .i64 x3] 37))) := Hid.intro (((below_next HW1.out.2.1 H3.out.2).setCell (p := ⟨wr.heap.size, 2, none⟩) (Nat.le_refl _) _).alloc (by have := HB3.out.2; simp; omega) _); have HNW := Hid.intro (cells_new (w3.setCell ⟨wr.heap.size, 2, none⟩ (.slice va1 x2.length vc1)) [.int .i64 x0, .int .i64 x1, .slice va1 x2.length vc1, .int .i64 x3] 37); rw [World.size_setCell] at HNW; clear hO3 hg3 hwh3 p2 pz)
        | (at_builtin; refine wpList_append_own_at _ rfl (.tmp 18) (.tmp 20) 26 rfl (w.heap.size + 1 + 1) 37 i2 (.agg #[.int .i64 0, .int .i64 0, .slice none 0 0, .int .i64 0]) 4 48 Try.underlying26 hi2 hx0 hx1 hx2 rfl (by decide) (.slice lv M.length lc) M.length xs rfl (ownsRow_next HR.out.2.2.1 HB7.out) ⟨w3.heap.size, 0, none⟩ 1 1 [.int .i64 x0, .int .i64 x1, .slice va1 x2.length vc1, .int .i64 x3] rfl rfl HNW.out (by intro u hu; simp at hu; rcases hu with rfl | rfl | rfl | rfl <;> rfl) (by unfold maxLen; omega) (by omega) (by have := HB7.out.size; omega) ?_; intro v9 w9 hown9 hgrow9 hnil9 hwh9)
        | go_in)
      have HF : Hid (OfS w ep du V0 (.slice a2 en.length k2) w9 v9 (M ++ [mkMb x0 x1 x2 x3])) := Hid.intro (by
        have z1 := HW1.out.2.2.2
        have z3 := H3.out.2.size
        have o1 : OwnX ((w3.setCell ⟨wr.heap.size, 2, none⟩ (.slice va1 x2.length vc1)).alloc (.cells #[.int .i64 x0, .int .i64 x1, .slice va1 x2.length vc1, .int .i64 x3] 37)) W1.heap.size (.list .int 3) [.slice va1 x2.length vc1] x2 (Btw W1.heap.size w3.heap.size) := (H3.out.1.set (p := ⟨wr.heap.size, 2, none⟩) (fun q => by simp only [Btw] at q; omega) _).next (Go.Joins.below_alloc1 _ _)
        exact OfS.appP HR.out.1 HR.out.2.1 HR.out.2.2.1 HR.out.2.2.2.1 HR.out.2.2.2.2.1 HR.out.2.2.2.2.2.1 HR.out.2.2.2.2.2.2.1 HR.out.2.2.2.2.2.2.2.1 HR.out.2.2.2.2.2.2.2.2 HB7.out (mkownx_Member (S := Btw wr.heap.size w3.heap.size) (x0 := x0) (x1 := x1) (x3 := x3) (o1.lower (by omega)) (fun k hk => by simp only [Btw] at hk ⊢; omega)) (fun k hk => by simp only [Btw] at hk; simp; omega) hown9 hgrow9 hwh9)
      clear hown9 hgrow9 hnil9 hwh9 c0 c1 c2 c3 cz cf H3 HB3 HB7 HNW HW1
      go_roundw
      case rel => exact ⟨k + 1, v9, by omega, by go_num, rfl, by rw [HPT.out]; exact HF.out⟩
      case measure => simp [intOf]; omega
    · have hkn : k = ms.length := by omega
      have HC : Hid (OfS w ep du V0 (.slice a2 en.length k2) wr vp ms) := Hid.intro (by have := hC; rwa [hkn, List.take_length] at this)
      obtain ⟨lv, lc, hvE⟩ : ∃ lv lc, vp = .slice lv (List.length (α := Sh.T shMember) ms) lc := by
        obtain ⟨_, _, ⟨_, q, _⟩, _⟩ := HC.out
        exact q.vform
      subst hvE
      have b0 := HC.out.1.cell 0 rfl
      have b1 := HC.out.1.cell 1 rfl
      have b2 := HC.out.1.cell 2 rfl
      have b3 := HC.out.1.cell 3 rfl
      have bz := HC.out.1.2
      have bf := HC.out.1.frz 2 (by simp)
      clear hC hkn
      have hbE : 0 + en.length ≤ maxLen := by unfold maxLen; omega
      have hcE : (0 + en.length) * 8 ≤ 140737488355328 := by omega
      obtain ⟨W1, hW1⟩ : ∃ x, x = wr.setCell ⟨w.heap.size, 2, none⟩ (.slice lv ms.length lc) := ⟨_, rfl⟩
      have hW1z : W1.heap.size = wr.heap.size := by rw [hW1]; simp
      have HW1 : Hid (Bx W1 w.heap.size [.int .i64 ep, .int .i64 du, .slice lv ms.length lc, .slice a2 en.length k2] ∧ Bx W1 (w.heap.size + 1) [.int .i64 0, .int .i64 0, .slice none 0 0, .slice none 0 0] ∧ Below w.heap.size w W1 ∧ ApS .int 3 W1 (W1.alloc (.cells #[] 3)) (.slice (some ⟨wr.heap.size, 0, none⟩) 0 0) [] ∧ (∃ S : Nat → Prop, OwnX W1 (w.heap.size + 1 + 1) (.list tyMember 37) [.slice lv ms.length lc] ms S ∧ (∀ k, S k → w.heap.size + 1 + 1 ≤ k ∧ k < wr.heap.size)) ∧ W1.heap.size = wr.heap.size) := Hid.intro (by
        obtain ⟨q1, q2, ⟨S, q4, q6⟩, q7⟩ := HC.out
        exact ⟨hW1 ▸ q1.set (k := 2) (by simp) _, hW1 ▸ q2.other (by omega), hW1 ▸ q7.setCell (p := ⟨w.heap.size, 2, none⟩) (Nat.le_refl _) _, by have := ApS.made (e := .int) (t := 3) (w := W1) rfl; rwa [hW1z] at this, ⟨S, hW1 ▸ q4.set (p := ⟨w.heap.size, 2, none⟩) (fun q => by have : w.heap.size + 1 + 1 ≤ w.heap.size := (q6 _ q).1; omega) _, q6⟩, hW1z⟩)
      have G0 := (HW1.out.1.next HW1.out.2.2.2.1.2)
      have p3 : (W1.alloc (.cells #[] 3)).cell? ⟨w.heap.size, 3, none⟩ = some (.slice a2 en.length k2) := G0.cell 3 rfl
      have pz : w.heap.size < (W1.alloc (.cells #[] 3)).heap.size := G0.2
      clear G0 hW1z
      go_wp2_with (first
        | (at_builtin; rw [← hW1]; refine wpList_appx rfl (.tmp 25) (.tmp 27) 27 3 rfl i1 (.int .i64 0) 8 W1.heap.size .int rfl Try.underlying27 hi1 hy0 hy1 hy2 rfl (by decide) (.slice (some ⟨wr.heap.size, 0, none⟩) 0 0) [] en _ rfl HW1.out.2.2.2.1.1 a2 k2 rfl (HL.out.2.next (below_next HW1.out.2.2.1 HW1.out.2.2.2.1.2)) hbE hcE HW1.out.2.2.2.1.2.size ?_; intro v1 w3 hO3 hg3 hwh3; have H3 : Hid (ApS .int 3 W1 w3 v1 en) := Hid.intro (ApS.app (e := .int) (l2 := en) rfl HW1.out.2.2.2.1 hO3 hg3); clear b0 b1 b2 b3 bz bf; have HB3 := Hid.intro (HW1.out.1.next H3.out.2); have c0 := HB3.out.cell 0 rfl; have c1 := HB3.out.cell 1 rfl; have c2 := HB3.out.cell 2 rfl; have c3 := HB3.out.cell 3 rfl; have cz := HB3.out.2; have cf := HB3.out.frz 3 (by simp); have HE3 := Hid.intro (HW1.out.2.1.next H3.out.2); have e0 := HE3.out.cell 0 rfl; have e1 := HE3.out.cell 1 rfl; have e2 := HE3.out.cell 2 rfl; have e3 := HE3.out.cell 3 rfl; have ez := HE3.out.2; have ef0 := HE3.out.frz 0 (by simp); have ef1 := HE3.out.frz 1 (by simp); have ef2 := HE3.out.frz 2 (by simp); have ef3 := HE3.out.frz 3 (by simp); obtain ⟨va1, vc1, hv1⟩ := OwnX.vform H3.out.1; (have hv1 : v1 = .slice va1 (List.length (α := Sh.T .int) en) vc1 := hv1); subst hv1; clear hO3 hg3 hwh3 p3 pz)
        | go_in)
      have HT := Hid.intro (sets5 w3 w.heap.size (.slice va1 en.length vc1) (.int .i64 ep) (.int .i64 du) (.slice lv ms.length lc) (.slice va1 en.length vc1))
      refine bodyPost_ret (v := .agg #[.int .i64 ep, .int .i64 du, .slice lv ms.length lc, .slice va1 en.length vc1]) (by simp [results, Try.results42, go_sem, *]) rfl ⟨[.int .i64 ep, .int .i64 du, .slice lv ms.length lc, .slice va1 en.length vc1], rfl, ?_, ?_⟩
      · obtain ⟨S, q4, q6⟩ := HW1.out.2.2.2.2.1
        have z1 := HW1.out.2.2.2.2.2
        have z0 := HW1.out.2.1.2
        have z2 := H3.out.2.size
        have z3 := HT.out.size
        refine mkownx_Fence (S1 := S) (S2 := Btw W1.heap.size w3.heap.size) (((q4.next H3.out.2).turn HT.out (fun k hk e => by have := (q6 k hk).1; omega)).lower (by omega)) ((H3.out.1.turn HT.out (fun k hk e => by simp only [Btw] at hk; omega)).lower (by omega)) (fun k hk => ?_) (fun k hk => ?_) (fun k e f => ?_)
        · have := q6 k hk; simp only [Btw]; omega
        · simp only [Btw] at hk ⊢; omega
        · have := q6 k e; simp only [Btw] at f; omega
      · exact (below_next HW1.out.2.2.1 H3.out.2).trans (HT.out.below (fun k e => by omega) (below_next HW1.out.2.2.1 H3.out.2).size)

end Go.Proofs.Ytcbdlalpnlahcaa
