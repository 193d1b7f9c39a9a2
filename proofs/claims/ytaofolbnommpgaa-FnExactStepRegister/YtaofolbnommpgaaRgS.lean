/- Registers: the specification's GoodRegister. Written by tools/mkRgS.py. -/
import Derived.Test.YtaofolbnommpgaaRgU
namespace Go.Proofs.Ytaofolbnommpgaa
open Go.RowKit
set_option linter.unusedVariables false

theorem bad_op {ck : Int} {cp : List (Sh.T shCopy)} {os : List (Sh.T shRegOp)} {k nc : Nat} (hlx : k < os.length) (hnc : nc = cp.length) {x0 : Int} {x1 : Bool} {x2 : ByteArray} {x3 : Int} {x4 : List (Sh.T .int)} {x5 x6 : Int} {x7 : ByteArray} {x8 x9 : Int} (hX : os[k] = (x0, x1, x2, x3, x4, (x5, x6, x7, ()), x8, x9, ()))
    (h : ¬ opQ ck nc x0 x1 x2 x3 x4 x5 x6 x7 x8 x9) : ¬ goodR ck cp os := fun q => h (by
  have h1 := q.2.2.2.2.1 os[k] (List.getElem_mem hlx)
  rw [hX, ← hnc] at h1
  exact h1)
theorem list_of20 {α : Type} {l : List α} (h : l.length = 20) : ∃ v0 v1 v2 v3 v4 v5 v6 v7 v8 v9 v10 v11 v12 v13 v14 v15 v16 v17 v18 v19, l = [v0, v1, v2, v3, v4, v5, v6, v7, v8, v9, v10, v11, v12, v13, v14, v15, v16, v17, v18, v19] := by
  match l, h with
  | [v0, v1, v2, v3, v4, v5, v6, v7, v8, v9, v10, v11, v12, v13, v14, v15, v16, v17, v18, v19], _ => exact ⟨v0, v1, v2, v3, v4, v5, v6, v7, v8, v9, v10, v11, v12, v13, v14, v15, v16, v17, v18, v19, rfl⟩
theorem split_len {α : Type} {l : List α} (a b : Nat) (h : l.length = a + b) : ∃ l1 l2, l = l1 ++ l2 ∧ l1.length = a ∧ l2.length = b :=
  ⟨l.take a, l.drop a, (List.take_append_drop a l).symm, by rw [List.length_take]; omega, by rw [List.length_drop]; omega⟩
theorem pr_iff {a b : RgO} {ac ap at_ ae bc bp bs be : Int} (h1 : a.cl = ac) (h2 : a.ph = ap) (h3 : a.st = at_) (h4 : a.en = ae) (h5 : b.cl = bc) (h6 : b.ph = bp) (h7 : b.st = bs) (h8 : b.en = be) :
    prP a b ↔ ¬ (ac = bc ∧ ap ≠ 3 ∧ bp ≠ 3) ∧ at_ ≠ bs ∧ (bp = 3 → be ≠ at_) ∧ (ap = 3 → ae ≠ bs) ∧ (ap = 3 → bp = 3 → ae ≠ be) := by
  unfold prP busyP; rw [h1, h2, h3, h4, h5, h6, h7, h8]
/-- What holds between the rounds of the specification's second loop. -/
def rgS (ck : Int) (cp : List (Sh.T shCopy)) (os : List (Sh.T shRegOp)) (k : Nat) : Prop := (∀ o ∈ os.take k, opP ck cp.length o) ∧ (os.take k).Pairwise prP

set_option maxRecDepth 100000 in
set_option maxHeartbeats 3000000 in
theorem specGoodRegister_n (cs : List Value) (ck : Int) (cp : List (Sh.T shCopy)) (os : List (Sh.T shRegOp)) (w : World) (hz : szD shRegister (ck, cp, os, ()) ≤ 1073741824) (h : Lies w shRegister cs (ck, cp, os, ())) :
    Calls Try.prog 18 #[.agg cs.toArray] w fun r w' => r = .returned (.bool (tf (goodR ck cp os))) ∧ Below w.heap.size w w' := by
  obtain ⟨a1, k1, a2, k2, rfl, h1, h2⟩ := lies_Register h
  have HL : Hid (Lies w (.list shCopy) [.slice a1 cp.length k1] cp ∧ Lies w (.list shRegOp) [.slice a2 os.length k2] os) := ⟨h1, h2⟩
  have HZ : Hid (szD shRegister (ck, cp, os, ()) ≤ 1073741824) := hz
  have hcap : os.length ≤ k2 ∧ k2 ≤ 9223372036854775807 := by have := h2.caps; unfold maxLen at this; omega
  have hsz := reg_sizes hz
  have hnc := hsz.2.2.1
  have hno := hsz.2.2.2
  clear h h1 h2 hz hsz
  obtain ⟨nc, hncE⟩ : ∃ n, n = cp.length := ⟨_, rfl⟩
  obtain ⟨no, hnoE⟩ : ∃ n, n = os.length := ⟨_, rfl⟩
  have HNC : Hid (nc = cp.length ∧ no = os.length) := ⟨hncE, hnoE⟩
  rw [← hncE] at hnc ⊢
  rw [← hnoE] at hno hcap ⊢
  clear hncE hnoE
  cases c0 : inR ck 0 1000
  · have HN : Hid (¬ goodR ck cp os) := Hid.intro (fun q => by rw [inR_iff.2 q.1] at c0; cases c0)
    go_enter Try.func18, Try.ntmps18
    go_wp2_with (first | (go_at_call 61; refine (l1In_any _ _ _ _).mono ?_; rintro e w' ⟨rfl, rfl⟩))
    go_ret
    exact ⟨good_none HN.out, (by repeat (first | refine Below.setCell ?_ (by (try simp) <;> omega) _ | refine Below.alloc ?_ (by (try simp) <;> omega) _ | refine Below.drew ?_ | assumption | exact Below.refl _ _ | refine Below.trans ?_ (Below.mono (by assumption) (by (try simp) <;> omega))))⟩
  cases c1 : inR (nc : Int) 1 12
  · have HN : Hid (¬ goodR ck cp os) := Hid.intro (fun q => by
      have h1 := q.2.1
      rw [← HNC.out.1] at h1
      rw [inR_iff.2 (by omega)] at c1; cases c1)
    go_enter Try.func18, Try.ntmps18
    go_wp2_with (first | (go_at_call 61; refine (l1In_any _ _ _ _).mono ?_; rintro e w' ⟨rfl, rfl⟩) | (go_at_call 62; refine (l8Nodes_any _ _).mono ?_; rintro e w' ⟨rfl, rfl⟩))
    go_ret
    exact ⟨good_none HN.out, (by repeat (first | refine Below.setCell ?_ (by (try simp) <;> omega) _ | refine Below.alloc ?_ (by (try simp) <;> omega) _ | refine Below.drew ?_ | assumption | exact Below.refl _ _ | refine Below.trans ?_ (Below.mono (by assumption) (by (try simp) <;> omega))))⟩
  by_cases c2 : (7 : Int) < (no : Int)
  · have HN : Hid (¬ goodR ck cp os) := Hid.intro (fun q => by
      have h1 := q.2.2.1
      rw [← HNC.out.2] at h1
      omega)
    go_enter Try.func18, Try.ntmps18
    go_wp2_with (first | (go_at_call 61; refine (l1In_any _ _ _ _).mono ?_; rintro e w' ⟨rfl, rfl⟩) | (go_at_call 62; refine (l8Nodes_any _ _).mono ?_; rintro e w' ⟨rfl, rfl⟩))
    go_ret
    exact ⟨good_none HN.out, (by repeat (first | refine Below.setCell ?_ (by (try simp) <;> omega) _ | refine Below.alloc ?_ (by (try simp) <;> omega) _ | refine Below.drew ?_ | assumption | exact Below.refl _ _ | refine Below.trans ?_ (Below.mono (by assumption) (by (try simp) <;> omega))))⟩
  have hck := inR_iff.1 c0
  have hnc2 := inR_iff.1 c1
  have HC : Hid (inR ck 0 1000 = true ∧ inR (nc : Int) 1 12 = true) := ⟨c0, c1⟩
  have HB0 : Hid (Bx (w.alloc (.cells #[.int .i64 ck, .slice a1 nc k1, .slice a2 no k2] 29)) w.heap.size [.int .i64 ck, .slice a1 nc k1, .slice a2 no k2] ∧ Below w.heap.size w (w.alloc (.cells #[.int .i64 ck, .slice a1 nc k1, .slice a2 no k2] 29))) := ⟨Bx.new w [_, _, _] _, Go.Joins.below_alloc1 _ _⟩
  go_enter Try.func18, Try.ntmps18
  go_wp2_with (first | (go_at_call 61; refine (l1In_any _ _ _ _).mono ?_; rintro e w' ⟨rfl, rfl⟩) | (go_at_call 62; refine (l8Nodes_any _ _).mono ?_; rintro e w' ⟨rfl, rfl⟩))
  clear c0 c1
  go_loopw [32] (fun i wr => ∃ k : Nat, k ≤ nc ∧ i = .int .i64 k ∧ (∀ c ∈ cp.take k, copP c.1 c.2.1 c.2.2.1) ∧ Bx wr w.heap.size [.int .i64 ck, .slice a1 nc k1, .slice a2 no k2] ∧ Below w.heap.size w wr) (fun i _ => nc - (intOf i).toNat)
  case atStart => exact ⟨0, Nat.zero_le _, rfl, fun o ho => by simp at ho, HB0.out⟩
  case round =>
    obtain ⟨k, hk, rfl, hall, hbx, hBr⟩ := hrel
    clear HB0
    have HA : Hid ((∀ c ∈ cp.take k, copP c.1 c.2.1 c.2.2.1) ∧ Bx wr w.heap.size [.int .i64 ck, .slice a1 nc k1, .slice a2 no k2] ∧ Below w.heap.size w wr) := ⟨hall, hbx, hBr⟩
    clear hall
    by_cases hlt : k < nc
    · have hlx : k < cp.length := by have := HNC.out.1; omega
      have hlt' : (k : Int) < (nc : Int) := by omega
      have HLE : Hid (Lies wr (.list shCopy) [.slice a1 cp.length k1] cp) := HL.out.1.next hBr
      obtain ⟨xg, xoff, xgo, xgs, xec, xel, xhec, xle⟩ := Lies.elem (HLE.out) hlx
      subst xgo
      rcases xX : cp[k] with ⟨x0, x1, x2, ⟨⟩⟩
      rw [xX] at xle
      have xH : Hid (cp[k] = (x0, x1, x2, ())) := xX
      clear xX
      obtain xev := lies_Copy xle
      subst xev
      have xc0 : wr.cell? ⟨xg, xoff + k * 3, none⟩ = some (.int .i64 x0) := xhec 0 (by simp)
      have xc1 : wr.cell? ⟨xg, xoff + k * 3 + 1, none⟩ = some (.int .i64 x1) := xhec 1 (by simp)
      have xc2 : wr.cell? ⟨xg, xoff + k * 3 + 2, none⟩ = some (.string x2) := xhec 2 (by simp)
      clear xhec xel xle
      have HV : Hid (x2.size ≤ maxLen) := Hid.intro (by
        have := (reg_sizes HZ.out).1 cp[k] (List.getElem_mem hlx)
        rw [xH.out] at this
        exact size_text this)
      clear hbx hBr HLE
      go_wp2_with fail
      refine (l9Copy_n _ _ _ _ HV.out).mono ?_
      rintro r w1 ⟨rfl, hb⟩
      have HB1 : Hid (Bx w1 w.heap.size [.int .i64 ck, .slice (some ⟨xg, xoff, none⟩) nc k1, .slice a2 no k2] ∧ Below w.heap.size w w1) := ⟨(HA.out.2.1.alloc _).next hb, below_next (HA.out.2.2.alloc HA.out.2.2.size _) hb⟩
      clear hb xc0 xc1 xc2
      by_cases e : copP x0 x1 x2
      · rw [tf_yes e]
        have HS : Hid (copP cp[k].1 cp[k].2.1 cp[k].2.2.1) := Hid.intro (by rw [xH.out]; exact e)
        clear e
        go_wp2
        go_roundw
        case rel => exact ⟨k + 1, by omega, by go_num, mem_take_succ hlx HA.out.1 HS.out, HB1.out⟩
        case measure => simp [intOf]; omega
      · rw [tf_no e]
        have HN : Hid (¬ goodR ck cp os) := Hid.intro (fun q => e (by have := q.2.2.2.1 cp[k] (List.getElem_mem hlx); rwa [xH.out] at this))
        clear e
        go_wp2
        go_ret
        exact ⟨good_none HN.out, HB1.out.2⟩
    · have hkn : k = nc := by omega
      have HCP : Hid (∀ c ∈ cp, copP c.1 c.2.1 c.2.2.1) := Hid.intro (by have := HA.out.1; rwa [hkn, HNC.out.1, List.take_length] at this)
      have HB1 : Hid (Bx wr w.heap.size [.int .i64 ck, .slice a1 nc k1, .slice a2 no k2] ∧ Below w.heap.size w wr) := HA.out.2
      have s2 := hbx.cell 2 rfl
      have sz := hbx.2
      clear HA hbx hBr hkn
      go_wp2
      clear s2 sz
      go_loopw [43] (fun i wr => ∃ k : Nat, k ≤ no ∧ i = .int .i64 k ∧ rgS ck cp os k ∧ Bx wr w.heap.size [.int .i64 ck, .slice a1 nc k1, .slice a2 no k2] ∧ Below w.heap.size w wr) (fun i _ => no - (intOf i).toNat)
      case atStart => exact ⟨0, Nat.zero_le _, rfl, ⟨fun o ho => by simp at ho, by simp⟩, HB1.out⟩
      case round =>
        obtain ⟨k, hk, rfl, hall, hbx, hBr⟩ := hrel
        clear HB1
        obtain ⟨wo, hwo⟩ : ∃ x, x = wr := ⟨wr, rfl⟩
        subst hwo
        have HA : Hid (rgS ck cp os k ∧ Bx wo w.heap.size [.int .i64 ck, .slice a1 nc k1, .slice a2 no k2] ∧ Below w.heap.size w wo) := ⟨hall, hbx, hBr⟩
        clear hall
        have s0 := (hbx).cell 0 rfl; have s1 := (hbx).cell 1 rfl; have s2 := (hbx).cell 2 rfl; have sz := (hbx).2
        by_cases hlt : k < no
        · have hlx : k < os.length := by have := HNC.out.2; omega
          have hlt' : (k : Int) < (no : Int) := by omega
          have HLE : Hid (Lies wo (.list shRegOp) [.slice a2 os.length k2] os) := HL.out.2.next hBr
          obtain ⟨xg, xoff, xgo, xgs, xec, xel, xhec, xle⟩ := Lies.elem (HLE.out) hlx
          subst xgo
          rcases xX : os[k] with ⟨x0, x1, x2, x3, x4, ⟨x5, x6, x7, ⟨⟩⟩, x8, x9, ⟨⟩⟩
          rw [xX] at xle
          have xH : Hid (os[k] = (x0, x1, x2, x3, x4, (x5, x6, x7, ()), x8, x9, ())) := xX
          clear xX
          obtain ⟨xa1, xk1, xev, xq1⟩ := lies_RegOp xle
          subst xev
          have xc0 : wo.cell? ⟨xg, xoff + k * 10, none⟩ = some (.int .i64 x0) := xhec 0 (by simp)
          have xc1 : wo.cell? ⟨xg, xoff + k * 10 + 1, none⟩ = some (.bool x1) := xhec 1 (by simp)
          have xc2 : wo.cell? ⟨xg, xoff + k * 10 + 2, none⟩ = some (.string x2) := xhec 2 (by simp)
          have xc3 : wo.cell? ⟨xg, xoff + k * 10 + 3, none⟩ = some (.int .i64 x3) := xhec 3 (by simp)
          have xc4 : wo.cell? ⟨xg, xoff + k * 10 + 4, none⟩ = some (.slice xa1 x4.length xk1) := xhec 4 (by simp)
          have xc5 : wo.cell? ⟨xg, xoff + k * 10 + 5, none⟩ = some (.int .i64 x5) := xhec 5 (by simp)
          have xc6 : wo.cell? ⟨xg, xoff + k * 10 + 6, none⟩ = some (.int .i64 x6) := xhec 6 (by simp)
          have xc7 : wo.cell? ⟨xg, xoff + k * 10 + 7, none⟩ = some (.string x7) := xhec 7 (by simp)
          have xc8 : wo.cell? ⟨xg, xoff + k * 10 + 8, none⟩ = some (.int .i64 x8) := xhec 8 (by simp)
          have xc9 : wo.cell? ⟨xg, xoff + k * 10 + 9, none⟩ = some (.int .i64 x9) := xhec 9 (by simp)
          clear xhec xel xle
          have hV := (reg_sizes HZ.out).2.1 os[k] (List.getElem_mem hlx)
          rw [xH.out] at hV
          have HV : Hid (x2.size ≤ maxLen ∧ x7.size ≤ maxLen ∧ x4.length ≤ 1073741824) := ⟨size_text hV.1, size_text hV.2.2, hV.2.1⟩
          have hx4 := hV.2.1
          obtain ⟨w0, hw0⟩ : ∃ x, x = wo.alloc (.cells #[.int .i64 x0, .bool x1, .string x2, .int .i64 x3, .slice xa1 x4.length xk1, .int .i64 x5, .int .i64 x6, .string x7, .int .i64 x8, .int .i64 x9] 53) := ⟨_, rfl⟩
          have hb0 : Below wo.heap.size wo w0 := hw0 ▸ Go.Joins.below_alloc1 _ _
          have HB1 : Hid (Bx w0 wo.heap.size [.int .i64 x0, .bool x1, .string x2, .int .i64 x3, .slice xa1 x4.length xk1, .int .i64 x5, .int .i64 x6, .string x7, .int .i64 x8, .int .i64 x9] ∧ Bx w0 w.heap.size [.int .i64 ck, .slice a1 nc k1, .slice (some ⟨xg, xoff, none⟩) no k2] ∧ Below w.heap.size w w0 ∧ Lies w0 (.list .int) [.slice xa1 x4.length xk1] x4) := ⟨hw0 ▸ Bx.new wo [_, _, _, _, _, _, _, _, _, _] _, hbx.next hb0, below_next hBr hb0, xq1.next hb0⟩
          have HXQ : Hid (Lies wo (.list .int) [.slice xa1 x4.length xk1] x4) := xq1
          have HB0w : Hid (Below wo.heap.size wo w0) := hb0
          clear hbx hBr HLE xq1 hV
          go_upto_region 13 with fail
          rw [← hw0]
          clear hw0 hb0 s0 s1 s2 sz xc0 xc1 xc2 xc3 xc4 xc5 xc6 xc7 xc8 xc9
          have d0 := (HB1.out.1).cell 0 rfl; have d1 := (HB1.out.1).cell 1 rfl; have d2 := (HB1.out.1).cell 2 rfl; have d3 := (HB1.out.1).cell 3 rfl; have d4 := (HB1.out.1).cell 4 rfl; have d5 := (HB1.out.1).cell 5 rfl; have d6 := (HB1.out.1).cell 6 rfl; have d7 := (HB1.out.1).cell 7 rfl; have d8 := (HB1.out.1).cell 8 rfl; have d9 := (HB1.out.1).cell 9 rfl; have dz := (HB1.out.1).2
          have s0 := (HB1.out.2.1).cell 0 rfl; have s1 := (HB1.out.2.1).cell 1 rfl; have s2 := (HB1.out.2.1).cell 2 rfl; have sz := (HB1.out.2.1).2
          go_cut [134] (fun s134 wx => s134 = .bool (!(tf (opR ck nc x0 x1 x2 x3 x4 x5 x6 x7 x8 x9))) ∧ (Bx wx wo.heap.size [.int .i64 x0, .bool x1, .string x2, .int .i64 x3, .slice xa1 x4.length xk1, .int .i64 x5, .int .i64 x6, .string x7, .int .i64 x8, .int .i64 x9] ∧ Bx wx w.heap.size [.int .i64 ck, .slice a1 nc k1, .slice (some ⟨xg, xoff, none⟩) no k2] ∧ Below wo.heap.size wo wx))
          case first =>
            refine wp_region_lit ?_
            refine wpI.start (l := ops13) (fun A E hA hV _ _ => ?_)
            have hzA : ∀ d, d < 229 → d < A.tmps.size := fun d hd => by rw [hA]; exact hd
            refine reg13 x0 x1 x2 x3 x4 xa1 xk1 x5 x6 x7 x8 x9 ck nc no a1 (some ⟨xg, xoff, none⟩) k1 k2 wo.heap.size w.heap.size wo w0 A E _ HV.out.1 HV.out.2.1 hck HV.out.2.2 hnc ⟨HB1.out.1, HB1.out.2.1, HB0w.out⟩ hV hzA (by rw [← hV.at, hA]; rfl) (by rw [← hV.at, hA]; rfl) (by rw [← hV.at, hA]; rfl) (fun B E' w' hx hv he hB => ?_)
            obtain ⟨us, hl, rfl⟩ := hx.last hv he (hzA 134 (by decide)) rfl
            obtain ⟨p0, q0, rfl, h0p, h0q⟩ := split_len 20 63 hl
            obtain ⟨v0, v1, v2, v3, v4, v5, v6, v7, v8, v9, v10, v11, v12, v13, v14, v15, v16, v17, v18, v19, rfl⟩ := list_of20 h0p
            obtain ⟨p1, q1, rfl, h1p, h1q⟩ := split_len 20 43 h0q
            obtain ⟨v20, v21, v22, v23, v24, v25, v26, v27, v28, v29, v30, v31, v32, v33, v34, v35, v36, v37, v38, v39, rfl⟩ := list_of20 h1p
            obtain ⟨p2, q2, rfl, h2p, h2q⟩ := split_len 20 23 h1q
            obtain ⟨v40, v41, v42, v43, v44, v45, v46, v47, v48, v49, v50, v51, v52, v53, v54, v55, v56, v57, v58, v59, rfl⟩ := list_of20 h2p
            obtain ⟨p3, q3, rfl, h3p, h3q⟩ := split_len 20 3 h2q
            obtain ⟨v60, v61, v62, v63, v64, v65, v66, v67, v68, v69, v70, v71, v72, v73, v74, v75, v76, v77, v78, v79, rfl⟩ := list_of20 h3p
            obtain ⟨v80, v81, v82, rfl⟩ := list_of3 h3q
            clear hx hv he hV hzA
            rw [hA]
            clear hA
            simp only [List.take_succ_cons, List.take_zero, List.drop_succ_cons, List.drop_zero, List.cons_append, List.nil_append]
            go_wp2_with fail
            go_meet
            exact ⟨rfl, hB⟩
          case rest =>
            obtain ⟨rfl, hq1, hq2, hq3⟩ := hcut
            obtain ⟨w1, hw1⟩ : ∃ x, x = wc := ⟨wc, rfl⟩
            subst hw1
            have HB2 : Hid (Bx w1 wo.heap.size [.int .i64 x0, .bool x1, .string x2, .int .i64 x3, .slice xa1 x4.length xk1, .int .i64 x5, .int .i64 x6, .string x7, .int .i64 x8, .int .i64 x9] ∧ Bx w1 w.heap.size [.int .i64 ck, .slice a1 nc k1, .slice (some ⟨xg, xoff, none⟩) no k2] ∧ Below w.heap.size w w1) := ⟨hq1, hq2, below_next HA.out.2.2 hq3⟩
            have HBC : Hid (Below wo.heap.size wo w1) := hq3
            clear hq1 hq2 hq3 HB1 d0 d1 d2 d3 d4 d5 d6 d7 d8 d9 dz s0 s1 s2 sz
            by_cases e : opR ck nc x0 x1 x2 x3 x4 x5 x6 x7 x8 x9
            case neg =>
              rw [tf_no e]
              have HN : Hid (¬ goodR ck cp os) := Hid.intro (bad_op hlx HNC.out.1 xH.out (fun q => e (opQ_R.1 q).1))
              clear e
              go_wp2
              go_ret
              exact ⟨good_none HN.out, HB2.out.2.2⟩
            rw [tf_yes e]
            have HOR : Hid (opR ck nc x0 x1 x2 x3 x4 x5 x6 x7 x8 x9) := e
            clear e
            have HX4 : Hid (Lies wo (.list .int) [.slice xa1 x4.length xk1] x4) := HXQ.out
            have HBW : Hid (Below wo.heap.size wo w1) := HBC.out
            have d0 := (HB2.out.1).cell 0 rfl; have d1 := (HB2.out.1).cell 1 rfl; have d2 := (HB2.out.1).cell 2 rfl; have d3 := (HB2.out.1).cell 3 rfl; have d4 := (HB2.out.1).cell 4 rfl; have d5 := (HB2.out.1).cell 5 rfl; have d6 := (HB2.out.1).cell 6 rfl; have d7 := (HB2.out.1).cell 7 rfl; have d8 := (HB2.out.1).cell 8 rfl; have d9 := (HB2.out.1).cell 9 rfl; have dz := (HB2.out.1).2
            go_wp2
            clear d0 d1 d2 d3 d4 d5 d6 d7 d8 d9 dz
            go_loopw [138] (fun i wr => ∃ j : Nat, j ≤ x4.length ∧ i = .int .i64 j ∧ grP (atI x4) nc j ∧ wr = w1) (fun i _ => x4.length - (intOf i).toNat)
            case atStart => exact ⟨0, Nat.zero_le _, rfl, fun i hi => absurd hi (by omega), rfl⟩
            case round =>
              obtain ⟨j, hj, rfl, hgr, rfl⟩ := hrel
              have HGR : Hid (grP (atI x4) nc j) := hgr
              clear hgr
              by_cases hjl : j < x4.length
              · have hjl' : (j : Int) < (x4.length : Int) := by omega
                obtain ⟨sg, soff, hgo, hsg, ec, hel, hec, hle⟩ := Lies.elem (HX4.out.next HBW.out) hjl
                subst hgo
                have hev : ec = [.int .i64 x4[j]] := hle
                subst hev
                have cj : wr.cell? ⟨sg, soff + j, none⟩ = some (.int .i64 x4[j]) := by have := hec 0 (by simp); simpa [Sh.c] using this
                have HZ2 : Hid (0 < j → wr.cell? ⟨sg, soff + (j - 1), none⟩ = some (.int .i64 (atI x4 (j - 1)))) := Hid.intro (fun h0 => by
                  have hsl := lies_sl (HX4.out.next HBW.out)
                  rcases hsl with h | ⟨b, off, e1, _, hE⟩
                  · omega
                  · simp only [Option.some.injEq, Addr.mk.injEq, and_true] at e1
                    obtain ⟨rfl, rfl⟩ := e1
                    have := hE (j - 1) (by omega) 0 (by omega)
                    simpa [intF] using this)
                clear hec hel hle
                have HXJ : Hid (x4[j] = atI x4 j) := Hid.intro (atI_lt hjl).symm
                generalize x4[j] = y at *
                go_upto_region 18 with fail
                go_cut [163] (fun s163 wx => s163 = .bool (!(tf ((0 ≤ y ∧ y ≤ (nc : Int) - 1) ∧ (0 < j → atI x4 (j - 1) < y)))) ∧ wx = wr)
                case first =>
                  refine wp_region_lit ?_
                  refine wpI.start (l := ops18) (fun A E hA hV _ _ => ?_)
                  have hzA : ∀ d, d < 229 → d < A.tmps.size := fun d hd => by rw [hA]; exact hd
                  refine reg18 x0 x1 x2 x3 x4 sg soff xk1 x5 x6 x7 x8 x9 ck y (atI x4 (j - 1)) nc no j a1 (some ⟨xg, xoff, none⟩) k1 k2 wo.heap.size w.heap.size wr A E _ HV.out.2.2 hnc hjl hsg HZ2.out HB2.out.1 HB2.out.2.1 hV hzA (by rw [← hV.at, hA]; rfl) (by rw [← hV.at, hA]; rfl) (by rw [← hV.at, hA]; rfl) (by rw [← hV.at, hA]; rfl) (fun B E' hx hv he => ?_)
                  obtain ⟨us, hl, rfl⟩ := hx.last hv he (hzA 163 (by decide)) rfl
                  obtain ⟨v0, v1, v2, v3, v4, v5, v6, v7, v8, v9, v10, v11, v12, v13, v14, v15, v16, v17, v18, v19, rfl⟩ := list_of20 hl
                  clear hx hv he hV hzA
                  rw [hA]
                  clear hA
                  simp only [List.take_succ_cons, List.take_zero, List.drop_succ_cons, List.drop_zero, List.cons_append, List.nil_append]
                  go_wp2_with fail
                  go_meet
                  exact ⟨rfl, rfl⟩
                case rest =>
                  obtain ⟨rfl, hwc⟩ := hcut
                  subst hwc
                  by_cases e : (0 ≤ y ∧ y ≤ (nc : Int) - 1) ∧ (0 < j → atI x4 (j - 1) < y)
                  · rw [tf_yes e]
                    have HG2 : Hid (grP (atI x4) nc (j + 1)) := Hid.intro (grP_succ HGR.out (by rw [← HXJ.out]; exact e))
                    clear e
                    go_wp2
                    go_roundw
                    case rel => exact ⟨j + 1, by omega, by go_num, HG2.out, trivial⟩
                    case measure => simp [intOf]; omega
                  · rw [tf_no e]
                    have HN : Hid (¬ goodR ck cp os) := Hid.intro (bad_op hlx HNC.out.1 xH.out (fun q => e (by
                      have h1 := (opQ_R.1 q).2 j hjl
                      rw [← HXJ.out] at h1
                      exact h1)))
                    clear e
                    go_wp2
                    go_ret
                    exact ⟨good_none HN.out, HB2.out.2.2⟩
              · have hjn : j = x4.length := by omega
                have HOP : Hid (opP ck cp.length os[k]) := Hid.intro (by
                  rw [xH.out, ← HNC.out.1]
                  exact opQ_R.2 ⟨HOR.out, by have := HGR.out; rwa [hjn] at this⟩)
                clear hjn
                have s0 := (HB2.out.2.1).cell 0 rfl; have s1 := (HB2.out.2.1).cell 1 rfl; have s2 := (HB2.out.2.1).cell 2 rfl; have sz := (HB2.out.2.1).2
                have hkk : k ≤ k2 := by omega
                go_wp2
                clear s0 s1 s2 sz
                go_loopw [170] (fun i wr => ∃ m : Nat, m ≤ k ∧ i = .int .i64 m ∧ (∀ o ∈ os.take m, prP o os[k]) ∧ Bx wr wo.heap.size [.int .i64 x0, .bool x1, .string x2, .int .i64 x3, .slice xa1 x4.length xk1, .int .i64 x5, .int .i64 x6, .string x7, .int .i64 x8, .int .i64 x9] ∧ Bx wr w.heap.size [.int .i64 ck, .slice a1 nc k1, .slice (some ⟨xg, xoff, none⟩) no k2] ∧ Below w.heap.size w wr) (fun i _ => k - (intOf i).toNat)
                case atStart => exact ⟨0, Nat.zero_le _, rfl, fun o ho => by simp at ho, HB2.out⟩
                case round =>
                  obtain ⟨m, hm, rfl, hpr, hq1, hq2, hq3⟩ := hrel
                  have HR : Hid ((∀ o ∈ os.take m, prP o os[k]) ∧ Bx wr wo.heap.size [.int .i64 x0, .bool x1, .string x2, .int .i64 x3, .slice xa1 x4.length xk1, .int .i64 x5, .int .i64 x6, .string x7, .int .i64 x8, .int .i64 x9] ∧ Bx wr w.heap.size [.int .i64 ck, .slice a1 nc k1, .slice (some ⟨xg, xoff, none⟩) no k2] ∧ Below w.heap.size w wr) := ⟨hpr, hq1, hq2, hq3⟩
                  clear hpr hq1 hq2
                  by_cases hml : m < k
                  · have hmx : m < os.length := by have := HNC.out.2; omega
                    have hml' : (m : Int) < (k : Int) := by omega
                    have HLE2 : Hid (Lies wr (.list shRegOp) [.slice (some ⟨xg, xoff, none⟩) os.length k2] os) := HL.out.2.next hq3
                    clear hq3
                    obtain ⟨yg, yoff, ygo, ygs, yec, yel, yhec, yle⟩ := Lies.elem HLE2.out hmx
                    simp only [Option.some.injEq, Addr.mk.injEq, and_true] at ygo
                    obtain ⟨rfl, rfl⟩ := ygo
                    rcases yX : os[m] with ⟨y0, y1, y2, y3, y4, ⟨y5, y6, y7, ⟨⟩⟩, y8, y9, ⟨⟩⟩
                    rw [yX] at yle
                    have yH : Hid (os[m] = (y0, y1, y2, y3, y4, (y5, y6, y7, ()), y8, y9, ())) := yX
                    clear yX
                    obtain ⟨ya1, yk1, yev, yq1⟩ := lies_RegOp yle
                    subst yev
                    have yc0 : wr.cell? ⟨xg, xoff + m * 10, none⟩ = some (.int .i64 y0) := yhec 0 (by simp)
                    have yc1 : wr.cell? ⟨xg, xoff + m * 10 + 1, none⟩ = some (.bool y1) := yhec 1 (by simp)
                    have yc2 : wr.cell? ⟨xg, xoff + m * 10 + 2, none⟩ = some (.string y2) := yhec 2 (by simp)
                    have yc3 : wr.cell? ⟨xg, xoff + m * 10 + 3, none⟩ = some (.int .i64 y3) := yhec 3 (by simp)
                    have yc4 : wr.cell? ⟨xg, xoff + m * 10 + 4, none⟩ = some (.slice ya1 y4.length yk1) := yhec 4 (by simp)
                    have yc5 : wr.cell? ⟨xg, xoff + m * 10 + 5, none⟩ = some (.int .i64 y5) := yhec 5 (by simp)
                    have yc6 : wr.cell? ⟨xg, xoff + m * 10 + 6, none⟩ = some (.int .i64 y6) := yhec 6 (by simp)
                    have yc7 : wr.cell? ⟨xg, xoff + m * 10 + 7, none⟩ = some (.string y7) := yhec 7 (by simp)
                    have yc8 : wr.cell? ⟨xg, xoff + m * 10 + 8, none⟩ = some (.int .i64 y8) := yhec 8 (by simp)
                    have yc9 : wr.cell? ⟨xg, xoff + m * 10 + 9, none⟩ = some (.int .i64 y9) := yhec 9 (by simp)
                    clear yhec yel yle yq1 HLE2
                    obtain ⟨w2, hw2⟩ : ∃ x, x = wr.alloc (.cells #[.int .i64 y0, .bool y1, .string y2, .int .i64 y3, .slice ya1 y4.length yk1, .int .i64 y5, .int .i64 y6, .string y7, .int .i64 y8, .int .i64 y9] 53) := ⟨_, rfl⟩
                    have hb2 : Below wr.heap.size wr w2 := hw2 ▸ Go.Joins.below_alloc1 _ _
                    have HB3 : Hid (Bx w2 wr.heap.size [.int .i64 y0, .bool y1, .string y2, .int .i64 y3, .slice ya1 y4.length yk1, .int .i64 y5, .int .i64 y6, .string y7, .int .i64 y8, .int .i64 y9] ∧ Bx w2 wo.heap.size [.int .i64 x0, .bool x1, .string x2, .int .i64 x3, .slice xa1 x4.length xk1, .int .i64 x5, .int .i64 x6, .string x7, .int .i64 x8, .int .i64 x9] ∧ Bx w2 w.heap.size [.int .i64 ck, .slice a1 nc k1, .slice (some ⟨xg, xoff, none⟩) no k2] ∧ Below w.heap.size w w2) := ⟨hw2 ▸ Bx.new wr [_, _, _, _, _, _, _, _, _, _] _, HR.out.2.1.next hb2, HR.out.2.2.1.next hb2, below_next HR.out.2.2.2 hb2⟩
                    go_upto_region 24 with fail
                    rw [← hw2]
                    clear hw2 hb2 yc0 yc1 yc2 yc3 yc4 yc5 yc6 yc7 yc8 yc9
                    go_cut [226] (fun s226 wx => s226 = .bool (!(tf (prR y0 y3 y8 y9 x0 x3 x8 x9))) ∧ wx = w2)
                    case first =>
                      refine wp_region_lit ?_
                      refine wpI.start (l := ops24) (fun A E hA hV _ _ => ?_)
                      have hzA : ∀ d, d < 229 → d < A.tmps.size := fun d hd => by rw [hA]; exact hd
                      refine reg24 x0 x1 x2 x3 x4 _ _ x5 x6 x7 x8 x9 y0 y1 y2 y3 y4 _ _ y5 y6 y7 y8 y9 wo.heap.size wr.heap.size w2 A E _ HB3.out.2.1 HB3.out.1 hV hzA (by rw [← hV.at, hA]; rfl) (by rw [← hV.at, hA]; rfl) (by rw [← hV.at, hA]; rfl) (fun B E' hx hv he => ?_)
                      obtain ⟨us, hl, rfl⟩ := hx.last hv he (hzA 226 (by decide)) rfl
                      obtain ⟨p0, q0, rfl, h0p, h0q⟩ := split_len 20 32 hl
                      obtain ⟨v0, v1, v2, v3, v4, v5, v6, v7, v8, v9, v10, v11, v12, v13, v14, v15, v16, v17, v18, v19, rfl⟩ := list_of20 h0p
                      obtain ⟨p1, q1, rfl, h1p, h1q⟩ := split_len 20 12 h0q
                      obtain ⟨v20, v21, v22, v23, v24, v25, v26, v27, v28, v29, v30, v31, v32, v33, v34, v35, v36, v37, v38, v39, rfl⟩ := list_of20 h1p
                      obtain ⟨v40, v41, v42, v43, v44, v45, v46, v47, v48, v49, v50, v51, rfl⟩ := list_of12 h1q
                      clear hx hv he hV hzA
                      rw [hA]
                      clear hA
                      simp only [List.take_succ_cons, List.take_zero, List.drop_succ_cons, List.drop_zero, List.cons_append, List.nil_append]
                      go_wp2_with fail
                      go_meet
                      exact ⟨rfl, rfl⟩
                    case rest =>
                      obtain ⟨rfl, hwc⟩ := hcut
                      subst hwc
                      have HPI : Hid (prP os[m] os[k] ↔ prR y0 y3 y8 y9 x0 x3 x8 x9) := Hid.intro (pr_iff (by rw [yH.out]; rfl) (by rw [yH.out]; rfl) (by rw [yH.out]; rfl) (by rw [yH.out]; rfl) (by rw [xH.out]; rfl) (by rw [xH.out]; rfl) (by rw [xH.out]; rfl) (by rw [xH.out]; rfl))
                      by_cases e : prR y0 y3 y8 y9 x0 x3 x8 x9
                      · rw [tf_yes e]
                        have HS : Hid (prP os[m] os[k]) := Hid.intro (HPI.out.2 e)
                        clear e
                        go_wp2
                        go_roundw
                        case rel => exact ⟨m + 1, by omega, by go_num, mem_take_succ hmx HR.out.1 HS.out, HB3.out.2.1, HB3.out.2.2.1, HB3.out.2.2.2⟩
                        case measure => simp [intOf]; omega
                      · rw [tf_no e]
                        have HN : Hid (¬ goodR ck cp os) := Hid.intro (fun q => pair_take_no (R := prP) hlx (o := os[m]) (List.mem_take_iff_getElem.2 ⟨m, by omega, rfl⟩) (fun q2 => e (HPI.out.1 q2)) q.2.2.2.2.2)
                        clear e
                        go_wp2
                        go_ret
                        exact ⟨good_none HN.out, HB3.out.2.2.2⟩
                  · have hmk : m = k := by omega
                    have HK2 : Hid (rgS ck cp os (k + 1)) := Hid.intro ⟨mem_take_succ hlx HA.out.1.1 HOP.out, pair_take_succ hlx HA.out.1.2 (by have := HR.out.1; rwa [hmk] at this)⟩
                    clear hmk hq3
                    go_wp2
                    go_roundw
                    case rel => exact ⟨k + 1, by omega, by go_num, HK2.out, HR.out.2.2⟩
                    case measure => simp [intOf]; omega
        · have hkn : k = no := by omega
          have HF : Hid (tf (goodR ck cp os) = true) := Hid.intro (tf_yes (by
            have h1 := HA.out.1
            unfold rgS at h1
            rw [hkn, HNC.out.2, List.take_length] at h1
            refine ⟨inR_iff.1 HC.out.1, ?_, by have := HNC.out.2; omega, HCP.out, h1.1, h1.2⟩
            have := inR_iff.1 HC.out.2
            have := HNC.out.1
            omega))
          clear hkn hbx s0 s1 s2 sz
          have HBB : Hid (Below w.heap.size w wo) := hBr
          clear hBr
          go_wp2
          go_ret
          exact ⟨ret_bool HF.out.symm, HBB.out⟩
end Go.Proofs.Ytaofolbnommpgaa
