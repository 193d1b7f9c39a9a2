/- Nets: the program's GoodNet. -/
import Derived.Test.YtcklpcdgckkahaaNeC
namespace Go.Proofs.Ytcklpcdgckkahaa
open Go.RowKit
set_option linter.unusedVariables false
set_option linter.unusedSimpArgs false

/-- A bank's cells in its row. -/
def BkC (W : World) (g o k : Nat) (x0 : Int) (x1 : Bool) (x2 : Int) : Prop := W.cell? ⟨g, o + k * 3, none⟩ = some (.int .i64 x0) ∧ W.cell? ⟨g, o + k * 3 + 1, none⟩ = some (.bool x1) ∧ W.cell? ⟨g, o + k * 3 + 2, none⟩ = some (.int .i64 x2) ∧ g < W.heap.size
theorem BkC.next {W W' : World} {g o k : Nat} {x0 : Int} {x1 : Bool} {x2 : Int} (h : BkC W g o k x0 x1 x2) (hb : Below W.heap.size W W') : BkC W' g o k x0 x1 x2 := by
  obtain ⟨h0, h1, h2, h3⟩ := h
  refine ⟨?_, ?_, ?_, Nat.lt_of_lt_of_le h3 hb.size⟩
  · rw [← h0]; exact hb.cell h3
  · rw [← h1]; exact hb.cell h3
  · rw [← h2]; exact hb.cell h3
theorem BkC.of {W : World} {a : Option Addr} {cap k : Nat} {bs : List (Sh.T shBank)} (h : Lies W (.list shBank) [.slice a bs.length cap] bs) (hk : k < bs.length) : ∃ g o, a = some ⟨g, o, none⟩ ∧ ∀ j (hj : j < bs.length), BkC W g o j (bam bs[j]) (bmk bs[j]) (bnt bs[j]) := by
  obtain ⟨g, o, e, hg, _⟩ := Lies.elem h hk
  refine ⟨g, o, e, fun j hj => ?_⟩
  obtain ⟨g', o', e', hg', ec, hl, hc, hle⟩ := Lies.elem h hj
  rw [e] at e'
  simp only [Option.some.injEq, Addr.mk.injEq, and_true] at e'
  obtain ⟨rfl, rfl⟩ := e'
  obtain ⟨x0, x1, x2, hm⟩ : ∃ (x0 : Int) (x1 : Bool) (x2 : Int), bs[j] = (x0, x1, x2, ()) := ⟨_, _, _, rfl⟩
  rw [hm] at hle ⊢
  have := lies_Bank hle
  subst this
  exact ⟨hc 0 (by simp), hc 1 (by simp), hc 2 (by simp), hg⟩

theorem bk_elem {bs : List (Sh.T shBank)} {k : Nat} (h : k < bs.length) : bs[k] = mkBk (bam bs[k]) (bmk bs[k]) (bnt bs[k]) := rfl
set_option maxRecDepth 100000 in
set_option maxHeartbeats 8000000 in
theorem goodNet_n (cs : List Value) (bs : List (Sh.T shBank)) (ws : List (Sh.T shWay)) (w : World) (hz : szD shNet (bs, ws, ()) ≤ 1073741824) (h : Lies w shNet cs (bs, ws, ())) :
    Calls Try.prog 18 #[.agg cs.toArray] w fun r w' => r = .returned (.bool (tf (goodN bs ws))) ∧ Below w.heap.size w w' := by
  obtain ⟨a1, k1, a2, k2, rfl, h1, h2⟩ := lies_Net h
  have HL : Hid (Lies w (.list shBank) [.slice a1 bs.length k1] bs ∧ Lies w (.list shWay) [.slice a2 ws.length k2] ws) := ⟨h1, h2⟩
  have hsz := net_sizes hz
  have HZ := Hid.intro hsz.2.2
  have hnb := hsz.1
  have hnw := hsz.2.1
  clear h h1 h2 hz hsz
  obtain ⟨nb, hnbE⟩ : ∃ n, n = bs.length := ⟨_, rfl⟩
  obtain ⟨nw, hnwE⟩ : ∃ n, n = ws.length := ⟨_, rfl⟩
  have HNE : Hid (nb = bs.length ∧ nw = ws.length) := ⟨hnbE, hnwE⟩
  rw [← hnbE] at hnb ⊢
  rw [← hnwE] at hnw ⊢
  clear hnbE hnwE
  have HB0 : Hid (Bx (w.alloc (.cells #[.slice a1 nb k1, .slice a2 nw k2] 30)) w.heap.size [.slice a1 nb k1, .slice a2 nw k2] ∧ Below w.heap.size w (w.alloc (.cells #[.slice a1 nb k1, .slice a2 nw k2] 30))) := ⟨Bx.new w [_, _] _, Go.Joins.below_alloc1 _ _⟩
  cases c0 : inR (nb : Int) 2 5
  · have HN : Hid (¬ goodN bs ws) := Hid.intro (fun q => by
      have h1 := q.1
      rw [← HNE.out.1] at h1
      rw [inR_iff.2 h1] at c0; cases c0)
    go_enter Try.func18, Try.ntmps18
    go_wp2_with (first | (go_at_call 50; refine (inRange_any _ _ _ _).mono ?_; rintro e w' ⟨rfl, rfl⟩))
    go_ret
    exact ⟨goodN_no HN.out, HB0.out.2⟩
  have hm := inR_iff.1 c0
  obtain ⟨hm1, hm2⟩ := hm
  have hw1 : IntKind.i64.wrap ((nb : Int) - 1) = (nb : Int) - 1 := w64f (by omega) (by omega)
  have hml : (nb : Int) * ((nb : Int) - 1) ≤ 20 ∧ 0 ≤ (nb : Int) * ((nb : Int) - 1) := ⟨Int.le_trans (Int.mul_le_mul (show (nb : Int) ≤ 5 by omega) (show (nb : Int) - 1 ≤ 4 by omega) (by omega) (by decide)) (by decide), Int.mul_nonneg (by omega) (by omega)⟩
  obtain ⟨hml1, hml2⟩ := hml
  have hw2 : IntKind.i64.wrap ((nb : Int) * ((nb : Int) - 1)) = (nb : Int) * ((nb : Int) - 1) := w64f (by omega) (by omega)
  obtain ⟨mm, hmm⟩ : ∃ x, x = (nb : Int) * ((nb : Int) - 1) := ⟨_, rfl⟩
  have HMM := Hid.intro hmm
  rw [← hmm] at hml1 hml2 hw2
  by_cases c1 : (nw : Int) = mm
  case neg =>
    have HN : Hid (¬ goodN bs ws) := Hid.intro (fun q => c1 (by have h1 := q.2.1; rw [← HNE.out.1, ← HNE.out.2, ← hmm] at h1; exact h1))
    have d1 : ((nw : Int) != mm) = true := by simpa using c1
    have d2 : ((nw : Int) == mm) = false := by simpa using c1
    rw [hmm] at d1 d2 c1 hw2
    clear hmm
    go_enter Try.func18, Try.ntmps18
    go_wp2_with (first | (go_at_call 50; refine (inRange_any _ _ _ _).mono ?_; rintro e w' ⟨rfl, rfl⟩))
    go_ret
    exact ⟨goodN_no HN.out, HB0.out.2⟩
  have d1 : ((nw : Int) != mm) = false := by simpa using c1
  have HC1 := Hid.intro c1
  rw [hmm] at d1 hw2
  have c1' := c1.trans hmm
  clear hmm c1
  go_enter Try.func18, Try.ntmps18
  go_upto_region 4 with (first | (go_at_call 50; refine (inRange_any _ _ _ _).mono ?_; rintro e w' ⟨rfl, rfl⟩))
  clear d1 hw2 c1' c0
  go_wp2
  go_loopw [27] (fun i wr => ∃ k : Nat, k ≤ nb ∧ i = .int .i64 k ∧ (∀ c ∈ bs.take k, bankP c) ∧ Bx wr w.heap.size [.slice a1 nb k1, .slice a2 nw k2] ∧ Below w.heap.size w wr) (fun i _ => nb - (intOf i).toNat)
  case atStart => exact ⟨0, Nat.zero_le _, rfl, fun o ho => by simp at ho, HB0.out⟩
  case round =>
    obtain ⟨k, hk, rfl, hall, hbx, hBr⟩ := hrel
    clear HB0
    have HA : Hid ((∀ c ∈ bs.take k, bankP c) ∧ Bx wr w.heap.size [.slice a1 nb k1, .slice a2 nw k2] ∧ Below w.heap.size w wr) := ⟨hall, hbx, hBr⟩
    clear hall hBr
    have s0 := (hbx).cell 0 rfl; have s1 := (hbx).cell 1 rfl; have sz := (hbx).2
    clear hbx
    by_cases hlt : k < nb
    · have hlx : k < bs.length := by have := HNE.out.1; omega
      have hlt' : (k : Int) < (nb : Int) := by omega
      have HLE : Hid (Lies wr (.list shBank) [.slice a1 bs.length k1] bs) := HL.out.1.next HA.out.2.2
      obtain ⟨xg, xoff, xgo, xgs, xec, xel, xhec, xle⟩ := Lies.elem (HLE.out) hlx
      subst xgo
      rcases xX : bs[k] with ⟨x0, x1, x2, ⟨⟩⟩
      rw [xX] at xle
      have xH : Hid (bs[k] = (x0, x1, x2, ())) := xX
      clear xX
      obtain xev := lies_Bank xle
      subst xev
      have xc0 : wr.cell? ⟨xg, xoff + k * 3, none⟩ = some (.int .i64 x0) := xhec 0 (by simp)
      have xc1 : wr.cell? ⟨xg, xoff + k * 3 + 1, none⟩ = some (.bool x1) := xhec 1 (by simp)
      have xc2 : wr.cell? ⟨xg, xoff + k * 3 + 2, none⟩ = some (.int .i64 x2) := xhec 2 (by simp)
      clear xhec xel xle
      have HX : Hid (bs[k] = mkBk x0 x1 x2) := xH
      clear xH HLE
      have HB1 : Hid (Bx (wr.alloc (.cells #[.int .i64 x0, .bool x1, .int .i64 x2] 80)) w.heap.size [.slice (some ⟨xg, xoff, none⟩) nb k1, .slice a2 nw k2] ∧ Below w.heap.size w (wr.alloc (.cells #[.int .i64 x0, .bool x1, .int .i64 x2] 80))) := ⟨HA.out.2.1.alloc _, HA.out.2.2.alloc HA.out.2.2.size _⟩
      by_cases e : bankP (mkBk x0 x1 x2)
      · have HT : Hid (tf (bankP (mkBk x0 x1 x2)) = true) := tf_yes e
        have HS : Hid (bankP bs[k]) := Hid.intro (by rw [HX.out]; exact e)
        clear e
        go_wp2_with (first | (go_at_call 51; refine (HT.out ▸ isBank_n x0 x1 x2 _).mono ?_; rintro e W2 ⟨rfl, hb⟩; have HB2 : Hid (Bx W2 w.heap.size [.slice (some ⟨xg, xoff, none⟩) nb k1, .slice a2 nw k2] ∧ Below w.heap.size w W2) := ⟨HB1.out.1.next hb, below_next HB1.out.2 hb⟩; clear hb))
        go_roundw
        case rel => exact ⟨k + 1, by omega, by go_num, mem_take_succ hlx HA.out.1 HS.out, HB2.out⟩
        case measure => simp [intOf]; omega
      · have HT : Hid (tf (bankP (mkBk x0 x1 x2)) = false) := tf_no e
        have HN : Hid (¬ goodN bs ws) := Hid.intro (fun q => e (by have := q.2.2.1 bs[k] (List.getElem_mem hlx); rwa [HX.out] at this))
        clear e
        go_wp2_with (first | (go_at_call 51; refine (HT.out ▸ isBank_n x0 x1 x2 _).mono ?_; rintro e W2 ⟨rfl, hb⟩; have HB2 : Hid (Below w.heap.size w W2) := below_next HB1.out.2 hb; clear hb))
        go_ret
        exact ⟨goodN_no HN.out, HB2.out⟩
    · have hkn : k = nb := by omega
      have HCP : Hid (∀ c ∈ bs, bankP c) := Hid.intro (by have := HA.out.1; rwa [hkn, HNE.out.1, List.take_length] at this)
      have HB1 : Hid (Bx wr w.heap.size [.slice a1 nb k1, .slice a2 nw k2] ∧ Below w.heap.size w wr) := HA.out.2
      clear HA hkn
      go_wp2
      clear s0 s1 sz
      have hl0 : 0 < bs.length := by have := HNE.out.1; omega
      obtain ⟨g1, o1, ha1, hbk⟩ := BkC.of (HL.out.1.next HB1.out.2) hl0
      subst ha1
      have HBK := Hid.intro hbk
      have HWR := Hid.intro HB1.out.2
      clear hbk
      obtain ⟨wo, hwo⟩ : ∃ x, x = wr := ⟨_, rfl⟩
      subst hwo
      go_loopw [38] (fun i wr => ∃ k : Nat, k ≤ nw ∧ i = .int .i64 k ∧ waysP bs ws k ∧ Bx wr w.heap.size [.slice (some ⟨g1, o1, none⟩) nb k1, .slice a2 nw k2] ∧ Below wo.heap.size wo wr) (fun i _ => nw - (intOf i).toNat)
      case atStart => exact ⟨0, Nat.zero_le _, rfl, fun i _ hi => absurd hi (by omega), HB1.out.1, Below.refl _ _⟩
      case round =>
        obtain ⟨j, hj, rfl, hall, hbx, hBx⟩ := hrel
        have HA : Hid (waysP bs ws j ∧ Bx wr w.heap.size [.slice (some ⟨g1, o1, none⟩) nb k1, .slice a2 nw k2] ∧ Below wo.heap.size wo wr) := ⟨hall, hbx, hBx⟩
        clear hall hBx HB1
        have s0 := (hbx).cell 0 rfl; have s1 := (hbx).cell 1 rfl; have sz := (hbx).2
        by_cases hlt2 : j < nw
        · have hlx : j < ws.length := by have := HNE.out.2; omega
          have hlt' : (j : Int) < (nw : Int) := by omega
          have HLE : Hid (Lies wr (.list shWay) [.slice a2 ws.length k2] ws) := (HL.out.2.next HWR.out).next HA.out.2.2
          obtain ⟨xg, xoff, xgo, xgs, xec, xel, xhec, xle⟩ := Lies.elem (HLE.out) hlx
          subst xgo
          rcases xX : ws[j] with ⟨x0, x1, x2, x3, x4, ⟨⟩⟩
          rw [xX] at xle
          have xH : Hid (ws[j] = (x0, x1, x2, x3, x4, ())) := xX
          clear xX
          obtain ⟨xa1, xk1, xa2, xk2, xev, xq1, xq2⟩ := lies_Way xle
          subst xev
          have xc0 : wr.cell? ⟨xg, xoff + j * 5, none⟩ = some (.int .i64 x0) := xhec 0 (by simp)
          have xc1 : wr.cell? ⟨xg, xoff + j * 5 + 1, none⟩ = some (.int .i64 x1) := xhec 1 (by simp)
          have xc2 : wr.cell? ⟨xg, xoff + j * 5 + 2, none⟩ = some (.slice xa1 x2.length xk1) := xhec 2 (by simp)
          have xc3 : wr.cell? ⟨xg, xoff + j * 5 + 3, none⟩ = some (.bool x3) := xhec 3 (by simp)
          have xc4 : wr.cell? ⟨xg, xoff + j * 5 + 4, none⟩ = some (.slice xa2 x4.length xk2) := xhec 4 (by simp)
          clear xhec xel xle
          have HX : Hid (ws[j] = mkWy x0 x1 x2 x3 x4) := xH
          have hzz := HZ.out ws[j] (List.getElem_mem hlx)
          rw [HX.out] at hzz
          have hz1 : x2.length ≤ 1073741824 := hzz.1
          have hz2 : x4.length ≤ 1073741824 := hzz.2
          clear xH HLE hzz
          obtain ⟨W0, hW0⟩ : ∃ x, x = wr.alloc (.cells #[.int .i64 x0, .int .i64 x1, .slice xa1 x2.length xk1, .bool x3, .slice xa2 x4.length xk2] 83) := ⟨_, rfl⟩
          have hb0 : Below wr.heap.size wr W0 := hW0 ▸ Go.Joins.below_alloc1 _ _
          obtain ⟨pb, hpb⟩ : ∃ p, p = wr.heap.size := ⟨_, rfl⟩
          have HB1 : Hid (Bx W0 w.heap.size [.slice (some ⟨g1, o1, none⟩) nb k1, .slice (some ⟨xg, xoff, none⟩) nw k2] ∧ Bx W0 pb [.int .i64 x0, .int .i64 x1, .slice xa1 x2.length xk1, .bool x3, .slice xa2 x4.length xk2] ∧ Below wo.heap.size wo W0 ∧ Lies W0 (.list shParcel) [.slice xa1 x2.length xk1] x2 ∧ Lies W0 (.list .int) [.slice xa2 x4.length xk2] x4) := ⟨HA.out.2.1.next hb0, by rw [hpb]; exact hW0 ▸ Bx.new wr [_, _, _, _, _] _, below_next HA.out.2.2 hb0, xq1.next hb0, xq2.next hb0⟩
          clear hbx xq1 xq2
          go_upto_region 13 with fail
          rw [← hW0]
          have hps : pb = wr.heap.size := hpb
          rw [← hps]
          clear hW0 hb0 s0 s1 sz xc0 xc1 xc2 xc3 xc4 hpb hps
          obtain ⟨y0, hy0⟩ : ∃ y : Int, y = x0 := ⟨_, rfl⟩
          obtain ⟨y1, hy1⟩ : ∃ y : Int, y = x1 := ⟨_, rfl⟩
          subst hy0 hy1
          have HPL : Hid (∀ W, Calls Try.prog 52 #[.agg #[.slice (some ⟨g1, o1, none⟩) nb k1, .slice (some ⟨xg, xoff, none⟩) nw k2], .int .i64 y0, .int .i64 y1] W fun r w' => r = .returned (.int .i64 (plc nb y0 y1)) ∧ Below W.heap.size W w') := Hid.intro (fun W => placeOf_n _ nb k1 _ y0 y1 W (by omega) ⟨_, _, _, rfl⟩)
          obtain ⟨pl, hpl⟩ : ∃ p, p = plc nb y0 y1 := ⟨_, rfl⟩
          rw [← hpl] at HPL
          have HPI : Hid (pl = (j : Int) ↔ y0 = (frA bs.length j : Nat) ∧ y1 = (toA bs.length j : Nat)) := Hid.intro (by
            rw [hpl, HNE.out.1]
            have h1 := HNE.out
            refine plc_iff (by omega) ?_
            have h3 : nb = 2 ∨ nb = 3 ∨ nb = 4 ∨ nb = 5 := by omega
            have h2 := HC1.out
            rw [HMM.out] at h2
            rw [← h1.1]
            rcases h3 with q | q | q | q <;> (rw [q] at h2 ⊢; omega))
          clear hpl
          have HD : Hid (Bx W0.drew w.heap.size [.slice (some ⟨g1, o1, none⟩) nb k1, .slice (some ⟨xg, xoff, none⟩) nw k2] ∧ Bx W0.drew pb [.int .i64 y0, .int .i64 y1, .slice xa1 x2.length xk1, .bool x3, .slice xa2 x4.length xk2] ∧ Below wo.heap.size wo W0.drew) := ⟨HB1.out.1.next (below_drew _), HB1.out.2.1.next (below_drew _), below_next HB1.out.2.2.1 (below_drew _)⟩
          by_cases c : pl = (j : Int)
          case neg =>
            have d1 : (pl != (j : Int)) = true := by simpa using c
            have d2 : (pl == (j : Int)) = false := by simpa using c
            have d3 : decide (pl = (j : Int)) = false := decide_eq_false c
            have HN : Hid (¬ goodN bs ws) := Hid.intro (fun q => by
              have h1 := q.2.2.2 j hlx hlx
              rw [HX.out] at h1
              exact c (HPI.out.2 h1.1))
            clear c HPI HA HB1
            refine wp_region_noPanic ?_
            refine wp_region_held_drew (S := fun W => Bx W w.heap.size [.slice (some ⟨g1, o1, none⟩) nb k1, .slice (some ⟨xg, xoff, none⟩) nw k2] ∧ Bx W pb [.int .i64 y0, .int .i64 y1, .slice xa1 x2.length xk1, .bool x3, .slice xa2 x4.length xk2]) (by kernel_rfl) ⟨HD.out.1, HD.out.2.1⟩ (fun hHeld => ?_)
            refine take_v (v := ?_) 0 ⟨some 43, Op.load 30 (Operand.tmp 1), _, _, _, none⟩ rfl (fun _ _ _ h => h) ?_ hHeld ?_
            rotate_left
            · (intro W hSW; (have s0 := hSW.1.cell 0 rfl; have s1 := hSW.1.cell 1 rfl; have sz := hSW.1.2; have m0 := hSW.2.cell 0 rfl; have m1 := hSW.2.cell 1 rfl; have m2 := hSW.2.cell 2 rfl; have m3 := hSW.2.cell 3 rfl; have m4 := hSW.2.cell 4 rfl; have mz := hSW.2.2); go_simp <;> (try with_reducible rfl))
            refine take_v (v := ?_) 1 ⟨some 44, Op.fieldAddr 83 (Operand.tmp 7) 0, _, _, _, none⟩ rfl (fun _ _ _ h => h) ?_ hHeld ?_
            rotate_left
            · (intro W _; go_simp <;> (try with_reducible rfl))
            refine take_v (v := ?_) 2 ⟨some 45, Op.load 3 (Operand.tmp 44), _, _, _, none⟩ rfl (fun _ _ _ h => h) ?_ hHeld ?_
            rotate_left
            · (intro W hSW; (have s0 := hSW.1.cell 0 rfl; have s1 := hSW.1.cell 1 rfl; have sz := hSW.1.2; have m0 := hSW.2.cell 0 rfl; have m1 := hSW.2.cell 1 rfl; have m2 := hSW.2.cell 2 rfl; have m3 := hSW.2.cell 3 rfl; have m4 := hSW.2.cell 4 rfl; have mz := hSW.2.2); go_simp <;> (try with_reducible rfl))
            refine take_v (v := ?_) 3 ⟨some 46, Op.fieldAddr 83 (Operand.tmp 7) 1, _, _, _, none⟩ rfl (fun _ _ _ h => h) ?_ hHeld ?_
            rotate_left
            · (intro W _; go_simp <;> (try with_reducible rfl))
            refine take_v (v := ?_) 4 ⟨some 47, Op.load 3 (Operand.tmp 46), _, _, _, none⟩ rfl (fun _ _ _ h => h) ?_ hHeld ?_
            rotate_left
            · (intro W hSW; (have s0 := hSW.1.cell 0 rfl; have s1 := hSW.1.cell 1 rfl; have sz := hSW.1.2; have m0 := hSW.2.cell 0 rfl; have m1 := hSW.2.cell 1 rfl; have m2 := hSW.2.cell 2 rfl; have m3 := hSW.2.cell 3 rfl; have m4 := hSW.2.cell 4 rfl; have mz := hSW.2.2); go_simp <;> (try with_reducible rfl))
            refine take_v (v := ?_) 6 ⟨some 49, Op.move (Operand.tmp 6), _, _, _, none⟩ rfl (fun _ _ _ h => h) ?_ hHeld ?_
            rotate_left
            · (intro W _; go_simp <;> (try with_reducible rfl))
            refine ready_call 5 ⟨some 48, Op.call { callee := Callee.value (Operand.func 52), args := #[Operand.tmp 43, Operand.tmp 45, Operand.tmp 47], argTypes := #[30, 3, 3] }, _, _, _, none⟩ (by kernel_rfl) rfl (by kernel_rfl) (fun KC hK => ?_)
            go_wp2_with fail
            refine (HPL.out _).mono ?_
            rintro r w2 ⟨rfl, hb⟩
            have HB2 : Hid (Bx w2 w.heap.size [.slice (some ⟨g1, o1, none⟩) nb k1, .slice (some ⟨xg, xoff, none⟩) nw k2] ∧ Bx w2 pb [.int .i64 y0, .int .i64 y1, .slice xa1 x2.length xk1, .bool x3, .slice xa2 x4.length xk2] ∧ Below wo.heap.size wo w2) := ⟨HD.out.1.next hb, HD.out.2.1.next hb, below_next HD.out.2.2 hb⟩
            clear hb
            refine hK.out _ _ ⟨HB2.out.1, HB2.out.2.1⟩ (fun hHeld => ?_)
            clear hK KC
            refine take_v (v := ?_) 7 ⟨some 50, Op.binOp BinOp.neq 3 (Operand.tmp 48) (Operand.tmp 49) 3, _, _, _, none⟩ rfl (fun _ _ _ h => h) ?_ hHeld ?_
            rotate_left
            · (intro W _; go_simp <;> (try with_reducible rfl))
            refine take_v (v := ?_) 8 ⟨some 51, Op.move (Operand.tmp 50), _, _, _, none⟩ rfl (fun _ _ _ h => h) ?_ hHeld ?_
            rotate_left
            · (intro W _; go_simp <;> (try with_reducible rfl))
            refine take_n 9 ⟨some 52, Op.load 83 (Operand.tmp 7), _, _, _, some (8, false)⟩ rfl (fun _ _ _ h => h) hHeld ?_
            refine take_n 10 ⟨some 53, Op.fieldAddr 30 (Operand.tmp 1) 0, _, _, _, some (8, false)⟩ rfl (fun _ _ _ h => h) hHeld ?_
            refine take_n 11 ⟨some 54, Op.load 27 (Operand.tmp 53), _, _, _, some (8, false)⟩ rfl (fun _ _ _ h => h) hHeld ?_
            refine take_n 12 ⟨some 55, Op.fieldAddr 83 (Operand.tmp 7) 0, _, _, _, some (8, false)⟩ rfl (fun _ _ _ h => h) hHeld ?_
            refine take_n 13 ⟨some 56, Op.load 3 (Operand.tmp 55), _, _, _, some (8, false)⟩ rfl (fun _ _ _ h => h) hHeld ?_
            refine take_n 14 ⟨some 57, Op.indexAddr 27 (Operand.tmp 54) (Operand.tmp 56), _, _, _, some (8, false)⟩ rfl (fun _ _ _ h => h) hHeld ?_
            refine take_n 15 ⟨some 58, Op.load 80 (Operand.tmp 57), _, _, _, some (8, false)⟩ rfl (fun _ _ _ h => h) hHeld ?_
            refine take_n 16 ⟨some 59, Op.fieldAddr 30 (Operand.tmp 1) 0, _, _, _, some (8, false)⟩ rfl (fun _ _ _ h => h) hHeld ?_
            refine take_n 17 ⟨some 60, Op.load 27 (Operand.tmp 59), _, _, _, some (8, false)⟩ rfl (fun _ _ _ h => h) hHeld ?_
            refine take_n 18 ⟨some 61, Op.fieldAddr 83 (Operand.tmp 7) 1, _, _, _, some (8, false)⟩ rfl (fun _ _ _ h => h) hHeld ?_
            refine take_n 19 ⟨some 62, Op.load 3 (Operand.tmp 61), _, _, _, some (8, false)⟩ rfl (fun _ _ _ h => h) hHeld ?_
            refine take_n 20 ⟨some 63, Op.indexAddr 27 (Operand.tmp 60) (Operand.tmp 62), _, _, _, some (8, false)⟩ rfl (fun _ _ _ h => h) hHeld ?_
            refine take_n 21 ⟨some 64, Op.load 80 (Operand.tmp 63), _, _, _, some (8, false)⟩ rfl (fun _ _ _ h => h) hHeld ?_
            refine take_n 22 ⟨some 65, Op.call { callee := Callee.value (Operand.func 53), args := #[Operand.tmp 52, Operand.tmp 58, Operand.tmp 64], argTypes := #[83, 80, 80] }, _, _, _, some (8, false)⟩ rfl (fun _ _ _ h => h) hHeld ?_
            refine take_n 23 ⟨some 66, Op.unOp UnOp.not 4 (Operand.tmp 65), _, _, _, some (8, false)⟩ rfl (fun _ _ _ h => h) hHeld ?_
            refine take_v (v := ?_) 24 ⟨some 67, Op.pick (Operand.tmp 51) (Operand.const (Value.bool true)) (Operand.tmp 66), _, _, _, none⟩ rfl (fun _ _ _ h => h) ?_ hHeld ?_
            rotate_left
            · (intro W _; go_simp <;> (try with_reducible rfl))
            refine wpAnyH_done (by kernel_rfl) ?_ _
            refine NoPanic.normal ?_
            clear hHeld
            go_wp2
            go_ret
            exact ⟨goodN_no HN.out, below_next HWR.out HB2.out.2.2⟩
          subst c
          have hft := HPI.out.1 rfl
          have hfl := frA_lt (m := bs.length) (i := j) (by have := HNE.out.1; omega) (by
            have h1 := HNE.out
            have h3 : nb = 2 ∨ nb = 3 ∨ nb = 4 ∨ nb = 5 := by omega
            have h2 := HC1.out
            rw [HMM.out] at h2
            rw [← h1.1]
            rcases h3 with q | q | q | q <;> (rw [q] at h2 ⊢; omega))
          have HWQ : Hid (wayP bs j ws[j] ↔ wayK (mkA bs (frA bs.length j)) (mkA bs (toA bs.length j)) x2 x3 x4) := Hid.intro (by
            rw [HX.out]
            exact ⟨fun q => q.2, fun q => ⟨hft, q⟩⟩)
          obtain ⟨f, hf⟩ : ∃ f, f = frA bs.length j := ⟨_, rfl⟩
          obtain ⟨t, ht⟩ : ∃ t, t = toA bs.length j := ⟨_, rfl⟩
          rw [← hf, ← ht] at hft hfl HWQ
          clear hf ht HPI
          obtain ⟨q0, q1⟩ := hft
          subst q0 q1
          rw [mkA_lt hfl.1, mkA_lt hfl.2.1] at HWQ
          have hf' : (f : Int) < (nb : Int) := by have := HNE.out.1; omega
          have ht' : (t : Int) < (nb : Int) := by have := HNE.out.1; omega
          have HBF := Hid.intro (HBK.out f hfl.1)
          have HBT := Hid.intro (HBK.out t hfl.2.1)
          generalize bam bs[f] = fa at HBF
          generalize bmk bs[f] = fm at HBF HWQ
          generalize bnt bs[f] = fn at HBF
          generalize bam bs[t] = ta at HBT
          generalize bmk bs[t] = tm at HBT HWQ
          generalize bnt bs[t] = tn at HBT
          have HD2 : Hid (BkC W0.drew g1 o1 f fa fm fn ∧ BkC W0.drew g1 o1 t ta tm tn) := ⟨(HBF.out.next HB1.out.2.2.1).next (below_drew _), (HBT.out.next HB1.out.2.2.1).next (below_drew _)⟩
          have HLW : Hid (Lies W0.drew (.list shParcel) [.slice xa1 x2.length xk1] x2 ∧ Lies W0.drew (.list .int) [.slice xa2 x4.length xk2] x4) := ⟨HB1.out.2.2.2.1.next (below_drew _), HB1.out.2.2.2.2.next (below_drew _)⟩
          clear HBF HBT HB1
          obtain ⟨gb, hgb⟩ : ∃ b, b = tf (wayK fm tm x2 x3 x4) := ⟨_, rfl⟩
          have HGB := Hid.intro hgb
          have HIW : Hid (∀ W, Below W0.drew.heap.size W0.drew W → Calls Try.prog 53 #[.agg #[.int .i64 f, .int .i64 t, .slice xa1 x2.length xk1, .bool x3, .slice xa2 x4.length xk2], .agg #[.int .i64 fa, .bool fm, .int .i64 fn], .agg #[.int .i64 ta, .bool tm, .int .i64 tn]] W fun r w' => r = .returned (.bool gb) ∧ Below W.heap.size W w') := Hid.intro (fun W hW => by rw [hgb]; exact isWay_n f t xa1 xk1 x2 x3 xa2 xk2 x4 fa fn ta tn fm tm W hz1 hz2 (HLW.out.1.next hW) (HLW.out.2.next hW))
          have d1 : ((j : Int) != (j : Int)) = false := by simp
          have d2 : ((j : Int) == (j : Int)) = true := by simp
          have d3 : decide ((j : Int) = (j : Int)) = true := by simp
          clear hgb hfl HBK
          generalize x2.length = n2 at *
          generalize x4.length = n4 at *
          refine wp_region_noPanic ?_
          refine wp_region_held_drew (S := fun W => (Bx W w.heap.size [.slice (some ⟨g1, o1, none⟩) nb k1, .slice (some ⟨xg, xoff, none⟩) nw k2] ∧ Bx W pb [.int .i64 f, .int .i64 t, .slice xa1 n2 xk1, .bool x3, .slice xa2 n4 xk2]) ∧ BkC W g1 o1 f fa fm fn ∧ BkC W g1 o1 t ta tm tn) (by kernel_rfl) ⟨⟨HD.out.1, HD.out.2.1⟩, HD2.out⟩ (fun hHeld => ?_)
          refine take_v (v := ?_) 0 ⟨some 43, Op.load 30 (Operand.tmp 1), _, _, _, none⟩ rfl (fun _ _ _ h => h) ?_ hHeld ?_
          rotate_left
          · (intro W hSW; (have s0 := hSW.1.1.cell 0 rfl; have s1 := hSW.1.1.cell 1 rfl; have sz := hSW.1.1.2; have m0 := hSW.1.2.cell 0 rfl; have m1 := hSW.1.2.cell 1 rfl; have m2 := hSW.1.2.cell 2 rfl; have m3 := hSW.1.2.cell 3 rfl; have m4 := hSW.1.2.cell 4 rfl; have mz := hSW.1.2.2; have f0 := hSW.2.1.1; have f1 := hSW.2.1.2.1; have f2 := hSW.2.1.2.2.1; have fz := hSW.2.1.2.2.2; have t0 := hSW.2.2.1; have t1 := hSW.2.2.2.1; have t2 := hSW.2.2.2.2.1); go_simp <;> (try with_reducible rfl))
          refine take_v (v := ?_) 1 ⟨some 44, Op.fieldAddr 83 (Operand.tmp 7) 0, _, _, _, none⟩ rfl (fun _ _ _ h => h) ?_ hHeld ?_
          rotate_left
          · (intro W _; go_simp <;> (try with_reducible rfl))
          refine take_v (v := ?_) 2 ⟨some 45, Op.load 3 (Operand.tmp 44), _, _, _, none⟩ rfl (fun _ _ _ h => h) ?_ hHeld ?_
          rotate_left
          · (intro W hSW; (have s0 := hSW.1.1.cell 0 rfl; have s1 := hSW.1.1.cell 1 rfl; have sz := hSW.1.1.2; have m0 := hSW.1.2.cell 0 rfl; have m1 := hSW.1.2.cell 1 rfl; have m2 := hSW.1.2.cell 2 rfl; have m3 := hSW.1.2.cell 3 rfl; have m4 := hSW.1.2.cell 4 rfl; have mz := hSW.1.2.2; have f0 := hSW.2.1.1; have f1 := hSW.2.1.2.1; have f2 := hSW.2.1.2.2.1; have fz := hSW.2.1.2.2.2; have t0 := hSW.2.2.1; have t1 := hSW.2.2.2.1; have t2 := hSW.2.2.2.2.1); go_simp <;> (try with_reducible rfl))
          refine take_v (v := ?_) 3 ⟨some 46, Op.fieldAddr 83 (Operand.tmp 7) 1, _, _, _, none⟩ rfl (fun _ _ _ h => h) ?_ hHeld ?_
          rotate_left
          · (intro W _; go_simp <;> (try with_reducible rfl))
          refine take_v (v := ?_) 4 ⟨some 47, Op.load 3 (Operand.tmp 46), _, _, _, none⟩ rfl (fun _ _ _ h => h) ?_ hHeld ?_
          rotate_left
          · (intro W hSW; (have s0 := hSW.1.1.cell 0 rfl; have s1 := hSW.1.1.cell 1 rfl; have sz := hSW.1.1.2; have m0 := hSW.1.2.cell 0 rfl; have m1 := hSW.1.2.cell 1 rfl; have m2 := hSW.1.2.cell 2 rfl; have m3 := hSW.1.2.cell 3 rfl; have m4 := hSW.1.2.cell 4 rfl; have mz := hSW.1.2.2; have f0 := hSW.2.1.1; have f1 := hSW.2.1.2.1; have f2 := hSW.2.1.2.2.1; have fz := hSW.2.1.2.2.2; have t0 := hSW.2.2.1; have t1 := hSW.2.2.2.1; have t2 := hSW.2.2.2.2.1); go_simp <;> (try with_reducible rfl))
          refine take_v (v := ?_) 6 ⟨some 49, Op.move (Operand.tmp 6), _, _, _, none⟩ rfl (fun _ _ _ h => h) ?_ hHeld ?_
          rotate_left
          · (intro W _; go_simp <;> (try with_reducible rfl))
          refine ready_call 5 ⟨some 48, Op.call { callee := Callee.value (Operand.func 52), args := #[Operand.tmp 43, Operand.tmp 45, Operand.tmp 47], argTypes := #[30, 3, 3] }, _, _, _, none⟩ (by kernel_rfl) rfl (by kernel_rfl) (fun KC hK => ?_)
          go_wp2_with fail
          refine (HPL.out _).mono ?_
          rintro r w2 ⟨rfl, hb⟩
          have HB2 : Hid ((Bx w2 w.heap.size [.slice (some ⟨g1, o1, none⟩) nb k1, .slice (some ⟨xg, xoff, none⟩) nw k2] ∧ Bx w2 pb [.int .i64 f, .int .i64 t, .slice xa1 n2 xk1, .bool x3, .slice xa2 n4 xk2]) ∧ (BkC w2 g1 o1 f fa fm fn ∧ BkC w2 g1 o1 t ta tm tn) ∧ Below wo.heap.size wo w2 ∧ Below W0.drew.heap.size W0.drew w2) := ⟨⟨HD.out.1.next hb, HD.out.2.1.next hb⟩, ⟨HD2.out.1.next hb, HD2.out.2.next hb⟩, below_next HD.out.2.2 hb, hb⟩
          clear hb
          refine hK.out _ _ ⟨HB2.out.1, HB2.out.2.1⟩ (fun hHeld => ?_)
          clear hK KC
          refine take_v (v := ?_) 7 ⟨some 50, Op.binOp BinOp.neq 3 (Operand.tmp 48) (Operand.tmp 49) 3, _, _, _, none⟩ rfl (fun _ _ _ h => h) ?_ hHeld ?_
          rotate_left
          · (intro W _; go_simp <;> (try with_reducible rfl))
          refine take_v (v := ?_) 8 ⟨some 51, Op.move (Operand.tmp 50), _, _, _, none⟩ rfl (fun _ _ _ h => h) ?_ hHeld ?_
          rotate_left
          · (intro W _; go_simp <;> (try with_reducible rfl))
          refine take_v (v := ?_) 9 ⟨some 52, Op.load 83 (Operand.tmp 7), _, _, _, some (8, false)⟩ rfl (fun _ _ _ h => h) ?_ hHeld ?_
          rotate_left
          · (intro W hSW; (have s0 := hSW.1.1.cell 0 rfl; have s1 := hSW.1.1.cell 1 rfl; have sz := hSW.1.1.2; have m0 := hSW.1.2.cell 0 rfl; have m1 := hSW.1.2.cell 1 rfl; have m2 := hSW.1.2.cell 2 rfl; have m3 := hSW.1.2.cell 3 rfl; have m4 := hSW.1.2.cell 4 rfl; have mz := hSW.1.2.2; have f0 := hSW.2.1.1; have f1 := hSW.2.1.2.1; have f2 := hSW.2.1.2.2.1; have fz := hSW.2.1.2.2.2; have t0 := hSW.2.2.1; have t1 := hSW.2.2.2.1; have t2 := hSW.2.2.2.2.1); go_simp <;> (try with_reducible rfl))
          refine take_v (v := ?_) 10 ⟨some 53, Op.fieldAddr 30 (Operand.tmp 1) 0, _, _, _, some (8, false)⟩ rfl (fun _ _ _ h => h) ?_ hHeld ?_
          rotate_left
          · (intro W _; go_simp <;> (try with_reducible rfl))
          refine take_v (v := ?_) 11 ⟨some 54, Op.load 27 (Operand.tmp 53), _, _, _, some (8, false)⟩ rfl (fun _ _ _ h => h) ?_ hHeld ?_
          rotate_left
          · (intro W hSW; (have s0 := hSW.1.1.cell 0 rfl; have s1 := hSW.1.1.cell 1 rfl; have sz := hSW.1.1.2; have m0 := hSW.1.2.cell 0 rfl; have m1 := hSW.1.2.cell 1 rfl; have m2 := hSW.1.2.cell 2 rfl; have m3 := hSW.1.2.cell 3 rfl; have m4 := hSW.1.2.cell 4 rfl; have mz := hSW.1.2.2; have f0 := hSW.2.1.1; have f1 := hSW.2.1.2.1; have f2 := hSW.2.1.2.2.1; have fz := hSW.2.1.2.2.2; have t0 := hSW.2.2.1; have t1 := hSW.2.2.2.1; have t2 := hSW.2.2.2.2.1); go_simp <;> (try with_reducible rfl))
          refine take_v (v := ?_) 12 ⟨some 55, Op.fieldAddr 83 (Operand.tmp 7) 0, _, _, _, some (8, false)⟩ rfl (fun _ _ _ h => h) ?_ hHeld ?_
          rotate_left
          · (intro W _; go_simp <;> (try with_reducible rfl))
          refine take_v (v := ?_) 13 ⟨some 56, Op.load 3 (Operand.tmp 55), _, _, _, some (8, false)⟩ rfl (fun _ _ _ h => h) ?_ hHeld ?_
          rotate_left
          · (intro W hSW; (have s0 := hSW.1.1.cell 0 rfl; have s1 := hSW.1.1.cell 1 rfl; have sz := hSW.1.1.2; have m0 := hSW.1.2.cell 0 rfl; have m1 := hSW.1.2.cell 1 rfl; have m2 := hSW.1.2.cell 2 rfl; have m3 := hSW.1.2.cell 3 rfl; have m4 := hSW.1.2.cell 4 rfl; have mz := hSW.1.2.2; have f0 := hSW.2.1.1; have f1 := hSW.2.1.2.1; have f2 := hSW.2.1.2.2.1; have fz := hSW.2.1.2.2.2; have t0 := hSW.2.2.1; have t1 := hSW.2.2.2.1; have t2 := hSW.2.2.2.2.1); go_simp <;> (try with_reducible rfl))
          refine take_v (v := ?_) 14 ⟨some 57, Op.indexAddr 27 (Operand.tmp 54) (Operand.tmp 56), _, _, _, some (8, false)⟩ rfl (fun _ _ _ h => h) ?_ hHeld ?_
          rotate_left
          · (intro W _; go_simp <;> (try with_reducible rfl))
          refine take_v (v := ?_) 15 ⟨some 58, Op.load 80 (Operand.tmp 57), _, _, _, some (8, false)⟩ rfl (fun _ _ _ h => h) ?_ hHeld ?_
          rotate_left
          · (intro W hSW; (have s0 := hSW.1.1.cell 0 rfl; have s1 := hSW.1.1.cell 1 rfl; have sz := hSW.1.1.2; have m0 := hSW.1.2.cell 0 rfl; have m1 := hSW.1.2.cell 1 rfl; have m2 := hSW.1.2.cell 2 rfl; have m3 := hSW.1.2.cell 3 rfl; have m4 := hSW.1.2.cell 4 rfl; have mz := hSW.1.2.2; have f0 := hSW.2.1.1; have f1 := hSW.2.1.2.1; have f2 := hSW.2.1.2.2.1; have fz := hSW.2.1.2.2.2; have t0 := hSW.2.2.1; have t1 := hSW.2.2.2.1; have t2 := hSW.2.2.2.2.1); go_simp <;> (try with_reducible rfl))
          refine take_v (v := ?_) 16 ⟨some 59, Op.fieldAddr 30 (Operand.tmp 1) 0, _, _, _, some (8, false)⟩ rfl (fun _ _ _ h => h) ?_ hHeld ?_
          rotate_left
          · (intro W _; go_simp <;> (try with_reducible rfl))
          refine take_v (v := ?_) 17 ⟨some 60, Op.load 27 (Operand.tmp 59), _, _, _, some (8, false)⟩ rfl (fun _ _ _ h => h) ?_ hHeld ?_
          rotate_left
          · (intro W hSW; (have s0 := hSW.1.1.cell 0 rfl; have s1 := hSW.1.1.cell 1 rfl; have sz := hSW.1.1.2; have m0 := hSW.1.2.cell 0 rfl; have m1 := hSW.1.2.cell 1 rfl; have m2 := hSW.1.2.cell 2 rfl; have m3 := hSW.1.2.cell 3 rfl; have m4 := hSW.1.2.cell 4 rfl; have mz := hSW.1.2.2; have f0 := hSW.2.1.1; have f1 := hSW.2.1.2.1; have f2 := hSW.2.1.2.2.1; have fz := hSW.2.1.2.2.2; have t0 := hSW.2.2.1; have t1 := hSW.2.2.2.1; have t2 := hSW.2.2.2.2.1); go_simp <;> (try with_reducible rfl))
          refine take_v (v := ?_) 18 ⟨some 61, Op.fieldAddr 83 (Operand.tmp 7) 1, _, _, _, some (8, false)⟩ rfl (fun _ _ _ h => h) ?_ hHeld ?_
          rotate_left
          · (intro W _; go_simp <;> (try with_reducible rfl))
          refine take_v (v := ?_) 19 ⟨some 62, Op.load 3 (Operand.tmp 61), _, _, _, some (8, false)⟩ rfl (fun _ _ _ h => h) ?_ hHeld ?_
          rotate_left
          · (intro W hSW; (have s0 := hSW.1.1.cell 0 rfl; have s1 := hSW.1.1.cell 1 rfl; have sz := hSW.1.1.2; have m0 := hSW.1.2.cell 0 rfl; have m1 := hSW.1.2.cell 1 rfl; have m2 := hSW.1.2.cell 2 rfl; have m3 := hSW.1.2.cell 3 rfl; have m4 := hSW.1.2.cell 4 rfl; have mz := hSW.1.2.2; have f0 := hSW.2.1.1; have f1 := hSW.2.1.2.1; have f2 := hSW.2.1.2.2.1; have fz := hSW.2.1.2.2.2; have t0 := hSW.2.2.1; have t1 := hSW.2.2.2.1; have t2 := hSW.2.2.2.2.1); go_simp <;> (try with_reducible rfl))
          refine take_v (v := ?_) 20 ⟨some 63, Op.indexAddr 27 (Operand.tmp 60) (Operand.tmp 62), _, _, _, some (8, false)⟩ rfl (fun _ _ _ h => h) ?_ hHeld ?_
          rotate_left
          · (intro W _; go_simp <;> (try with_reducible rfl))
          refine take_v (v := ?_) 21 ⟨some 64, Op.load 80 (Operand.tmp 63), _, _, _, some (8, false)⟩ rfl (fun _ _ _ h => h) ?_ hHeld ?_
          rotate_left
          · (intro W hSW; (have s0 := hSW.1.1.cell 0 rfl; have s1 := hSW.1.1.cell 1 rfl; have sz := hSW.1.1.2; have m0 := hSW.1.2.cell 0 rfl; have m1 := hSW.1.2.cell 1 rfl; have m2 := hSW.1.2.cell 2 rfl; have m3 := hSW.1.2.cell 3 rfl; have m4 := hSW.1.2.cell 4 rfl; have mz := hSW.1.2.2; have f0 := hSW.2.1.1; have f1 := hSW.2.1.2.1; have f2 := hSW.2.1.2.2.1; have fz := hSW.2.1.2.2.2; have t0 := hSW.2.2.1; have t1 := hSW.2.2.2.1; have t2 := hSW.2.2.2.2.1); go_simp <;> (try with_reducible rfl))
          refine ready_call 22 ⟨some 65, Op.call { callee := Callee.value (Operand.func 53), args := #[Operand.tmp 52, Operand.tmp 58, Operand.tmp 64], argTypes := #[83, 80, 80] }, _, _, _, some (8, false)⟩ (by kernel_rfl) rfl (by kernel_rfl) (fun KC hK => ?_)
          go_wp2_with fail
          refine (HIW.out _ HB2.out.2.2.2).mono ?_
          rintro r w3 ⟨rfl, hb⟩
          have HB3 : Hid ((Bx w3 w.heap.size [.slice (some ⟨g1, o1, none⟩) nb k1, .slice (some ⟨xg, xoff, none⟩) nw k2] ∧ Bx w3 pb [.int .i64 f, .int .i64 t, .slice xa1 n2 xk1, .bool x3, .slice xa2 n4 xk2]) ∧ (BkC w3 g1 o1 f fa fm fn ∧ BkC w3 g1 o1 t ta tm tn) ∧ Below wo.heap.size wo w3) := ⟨⟨HB2.out.1.1.next hb, HB2.out.1.2.next hb⟩, ⟨HB2.out.2.1.1.next hb, HB2.out.2.1.2.next hb⟩, below_next HB2.out.2.2.1 hb⟩
          clear hb
          refine hK.out _ _ ⟨HB3.out.1, HB3.out.2.1⟩ (fun hHeld => ?_)
          clear hK KC
          refine take_v (v := ?_) 23 ⟨some 66, Op.unOp UnOp.not 4 (Operand.tmp 65), _, _, _, some (8, false)⟩ rfl (fun _ _ _ h => h) ?_ hHeld ?_
          rotate_left
          · (intro W _; go_simp <;> (try with_reducible rfl))
          refine take_v (v := ?_) 24 ⟨some 67, Op.pick (Operand.tmp 51) (Operand.const (Value.bool true)) (Operand.tmp 66), _, _, _, none⟩ rfl (fun _ _ _ h => h) ?_ hHeld ?_
          rotate_left
          · (intro W _; go_simp <;> (try with_reducible rfl))
          refine wpAnyH_done (by kernel_rfl) ?_ _
          refine NoPanic.normal ?_
          clear hHeld
          cases gb
          · have HN : Hid (¬ goodN bs ws) := Hid.intro (fun q => by
              have h1 := HWQ.out.1 (q.2.2.2 j hlx hlx)
              have h2 := HGB.out
              rw [tf_yes h1] at h2; cases h2)
            go_wp2
            go_ret
            exact ⟨goodN_no HN.out, below_next HWR.out HB3.out.2.2⟩
          · have HS : Hid (waysP bs ws (j + 1)) := Hid.intro (waysP_succ hlx HA.out.1 (HWQ.out.2 (tf_iff.1 HGB.out.symm)))
            go_wp2
            go_roundw
            case rel => exact ⟨j + 1, by omega, by go_num, HS.out, HB3.out.1.1, HB3.out.2.2⟩
            case measure => simp [intOf]; omega
        · have hjn : j = nw := by omega
          have HF : Hid (goodN bs ws) := Hid.intro (by
            have h1 := HA.out.1
            rw [hjn, HNE.out.2] at h1
            exact ⟨by have := HNE.out.1; omega, by rw [← HNE.out.1, ← HNE.out.2]; exact HC1.out.trans HMM.out, HCP.out, h1⟩)
          clear hjn hbx
          go_wp2
          go_ret
          exact ⟨goodN_yes HF.out, below_next HWR.out HA.out.2.2⟩
end Go.Proofs.Ytcklpcdgckkahaa
