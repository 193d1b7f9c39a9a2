/- Bags: the specification's GoodBag. -/
import Derived.Test.YtnglgndocmkbfaaBgC
namespace Go.Proofs.Ytnglgndocmkbfaa
open Go.RowKit
set_option linter.unusedVariables false
set_option linter.unusedSimpArgs false

set_option maxRecDepth 100000 in
set_option maxHeartbeats 4000000 in
theorem specGoodBag_n (cs : List Value) (A G : List AdV) (w : World) (hz : szD shBag (A, G, ()) ≤ 1073741824) (h : Lies w shBag cs (A, G, ())) :
    Calls Try.prog 51 #[.agg cs.toArray] w fun r w' => r = .returned (.bool (tf (goodB A G))) ∧ Below w.heap.size w w' := by
  obtain ⟨t1, c1, s2, c2, rfl, h1, h2⟩ := lies_Bag h
  have HL : Hid (Lies w (.list shAdd) [.slice t1 A.length c1] A ∧ Lies w (.list shAdd) [.slice s2 G.length c2] G) := ⟨h1, h2⟩
  have HS := Hid.intro (bg_sizes hz)
  have hA30 := (bg_sizes hz).1.1
  have hG30 := (bg_sizes hz).2.1
  clear h h1 h2 hz
  obtain ⟨w0, hw0⟩ : ∃ x, x = w.alloc (.cells #[.slice t1 A.length c1, .slice s2 G.length c2] 46) := ⟨_, rfl⟩
  have HB0 : Hid (Bx w0 w.heap.size [.slice t1 A.length c1, .slice s2 G.length c2] ∧ Below w.heap.size w w0) := ⟨hw0 ▸ Bx.new w [_, _] _, hw0 ▸ Go.Joins.below_alloc1 _ _⟩
  have s0 := (HB0.out.1).cell 0 rfl; have s1 := (HB0.out.1).cell 1 rfl; have sz := (HB0.out.1).2
  go_enter Try.func51, Try.ntmps51
  go_upto_region 1 with fail
  rw [← hw0]
  clear hw0
  go_wp2
  clear s0 s1 sz
  go_loopw [10] (fun i wr => ∃ k : Nat, k ≤ A.length ∧ i = .int .i64 k ∧ (∀ i (h : i < A.length), i < k → ∀ y ∈ G, plc A[i] ≠ plc y) ∧ Bx wr w.heap.size [.slice t1 A.length c1, .slice s2 G.length c2] ∧ Below w.heap.size w wr) (fun i _ => A.length - (intOf i).toNat)
  case atStart => exact ⟨0, Nat.zero_le _, rfl, fun i _ h => absurd h (Nat.not_lt_zero i), HB0.out⟩
  case round =>
    obtain ⟨k, hk, rfl, hall, hbx, hBr⟩ := hrel
    have HA : Hid ((∀ i (h : i < A.length), i < k → ∀ y ∈ G, plc A[i] ≠ plc y) ∧ Bx wr w.heap.size [.slice t1 A.length c1, .slice s2 G.length c2] ∧ Below w.heap.size w wr) := ⟨hall, hbx, hBr⟩
    clear hall hbx hBr HB0
    by_cases hlt : k < A.length
    case neg =>
      have hkl : k = A.length := by omega
      have HDJ : Hid (∀ x ∈ A, ∀ y ∈ G, plc x ≠ plc y) := Hid.intro (fun x hx y hy => by
        obtain ⟨i, hi, rfl⟩ := List.getElem_of_mem hx
        exact HA.out.1 i hi (by omega) y hy)
      clear hlt
      subst hkl
      have HC1 : Hid (Calls Try.prog 101 #[.slice t1 A.length c1] wr (fun r w' => r = .returned (.bool (tf (adsP A))) ∧ Below wr.heap.size wr w')) := Hid.intro (l14Adds_n t1 c1 A wr HS.out.1 (HL.out.1.next HA.out.2.2))
      have q0 := (HA.out.2.1).cell 0 rfl; have q1 := (HA.out.2.1).cell 1 rfl; have qz := (HA.out.2.1).2
      cases e1 : tf (adsP A)
      · have HN : Hid (tf (goodB A G) = false) := tf_no (fun q => by rw [tf_yes q.1.1] at e1; cases e1)
        rw [e1] at HC1
        clear e1
        go_wp2_with (go_at_call 101; refine HC1.out.mono ?_; rintro r w4 ⟨rfl, hb⟩; have HE := Hid.intro (below_next HA.out.2.2 hb); clear hb)
        go_ret
        exact ⟨ret_bool HN.out.symm, HE.out⟩
      · have HG1 := Hid.intro (tf_iff.1 e1)
        rw [e1] at HC1
        clear e1
        go_wp2_with fail
        refine HC1.out.mono ?_
        rintro r w4 ⟨rfl, hb⟩
        have HE : Hid (Bx w4 w.heap.size [.slice t1 A.length c1, .slice s2 G.length c2] ∧ Below w.heap.size w w4) := ⟨HA.out.2.1.next hb, below_next HA.out.2.2 hb⟩
        clear hb q0 q1 qz
        have q0 := (HE.out.1).cell 0 rfl; have q1 := (HE.out.1).cell 1 rfl; have qz := (HE.out.1).2
        go_wp2_with fail
        refine (l14Adds_n s2 c2 G w4 HS.out.2 (HL.out.2.next HE.out.2)).mono ?_
        rintro r w5 ⟨rfl, hb⟩
        have HN : Hid (tf (adsP G) = tf (goodB A G)) := tf_eq ⟨fun q => ⟨⟨HG1.out, q⟩, HDJ.out⟩, fun q => q.1.2⟩
        have HE2 := Hid.intro (below_next HE.out.2 hb)
        clear hb
        go_wp2
        go_ret
        exact ⟨ret_bool HN.out, HE2.out⟩
    have hlt' : (k : Int) < (A.length : Int) := by omega
    have HLE : Hid (Lies wr (.list shAdd) [.slice t1 A.length c1] A) := HL.out.1.next HA.out.2.2
    obtain ⟨xg, xoff, xgo, xgs, xec, xel, xhec, xle⟩ := Lies.elem (HLE.out) hlt
    subst xgo
    rcases xX : A[k] with ⟨x0, x1, x2, ⟨⟩⟩
    rw [xX] at xle
    have xH : Hid (A[k] = (x0, x1, x2, ())) := xX
    clear xX
    obtain xev := lies_Add xle
    subst xev
    have xc0 : wr.cell? ⟨xg, xoff + k * 3, none⟩ = some (.string x0) := xhec 0 (by simp)
    have xc1 : wr.cell? ⟨xg, xoff + k * 3 + 1, none⟩ = some (.int .i64 x1) := xhec 1 (by simp)
    have xc2 : wr.cell? ⟨xg, xoff + k * 3 + 2, none⟩ = some (.int .i64 x2) := xhec 2 (by simp)
    clear xhec xel xle
    obtain ⟨w1, hw1⟩ : ∃ q, q = wr.alloc (.cells #[.string x0, .int .i64 x1, .int .i64 x2] 113) := ⟨_, rfl⟩
    obtain ⟨bx, hbx⟩ : ∃ q, q = wr.heap.size := ⟨_, rfl⟩
    have hb1 : Below wr.heap.size wr w1 := hw1 ▸ Go.Joins.below_alloc1 _ _
    have H1 : Hid (Bx w1 bx [.string x0, .int .i64 x1, .int .i64 x2] ∧ Bx w1 w.heap.size [.slice (some ⟨xg, xoff, none⟩) A.length c1, .slice s2 G.length c2] ∧ Below w.heap.size w w1) := ⟨hbx ▸ hw1 ▸ Bx.new wr [_, _, _] _, HA.out.2.1.next hb1, below_next HA.out.2.2 hb1⟩
    have q0 := (H1.out.2.1).cell 0 rfl; have q1 := (H1.out.2.1).cell 1 rfl; have qz := (H1.out.2.1).2
    clear hb1
    go_upto_region 4 with fail
    rw [← hw1, ← hbx]
    clear hw1 hbx xc0 xc1 xc2
    go_wp2
    clear q0 q1 qz
    obtain ⟨wo, hwo⟩ : ∃ x, x = wr := ⟨_, rfl⟩
    subst hwo
    go_loopw [17] (fun i wr => ∃ j : Nat, j ≤ G.length ∧ i = .int .i64 j ∧ (∀ i (h : i < G.length), i < j → plc A[k] ≠ plc G[i]) ∧ Bx wr bx [.string x0, .int .i64 x1, .int .i64 x2] ∧ Bx wr w.heap.size [.slice (some ⟨xg, xoff, none⟩) A.length c1, .slice s2 G.length c2] ∧ Below w.heap.size w wr) (fun i _ => G.length - (intOf i).toNat)
    case atStart => exact ⟨0, Nat.zero_le _, rfl, fun i _ h => absurd h (Nat.not_lt_zero i), H1.out⟩
    case round =>
      obtain ⟨j, hj, rfl, hall, hb2, hb3, hBr⟩ := hrel
      have HI : Hid ((∀ i (h : i < G.length), i < j → plc A[k] ≠ plc G[i]) ∧ Bx wr bx [.string x0, .int .i64 x1, .int .i64 x2] ∧ Bx wr w.heap.size [.slice (some ⟨xg, xoff, none⟩) A.length c1, .slice s2 G.length c2] ∧ Below w.heap.size w wr) := ⟨hall, hb2, hb3, hBr⟩
      clear hall hb2 hb3 hBr
      by_cases hltj : j < G.length
      case neg =>
        have HF : Hid (∀ i (h : i < A.length), i < k + 1 → ∀ y ∈ G, plc A[i] ≠ plc y) := Hid.intro (by
          intro i hi hik y hy
          by_cases e : i = k
          · subst e
            obtain ⟨q, hq, rfl⟩ := List.getElem_of_mem hy
            exact HI.out.1 q hq (by omega)
          · exact HA.out.1 i hi (by omega) y hy)
        go_wp2
        go_roundw
        case rel => exact ⟨k + 1, by omega, by go_num, HF.out, HI.out.2.2.1, HI.out.2.2.2⟩
        case measure => simp [intOf]; omega
      have hltj' : (j : Int) < (G.length : Int) := by omega
      have HLG : Hid (Lies wr (.list shAdd) [.slice s2 G.length c2] G) := HL.out.2.next HI.out.2.2.2
      obtain ⟨yg, yoff, ygo, ygs, yec, yel, yhec, yle⟩ := Lies.elem (HLG.out) hltj
      subst ygo
      rcases yX : G[j] with ⟨y0, y1, y2, ⟨⟩⟩
      rw [yX] at yle
      have yH : Hid (G[j] = (y0, y1, y2, ())) := yX
      clear yX
      obtain yev := lies_Add yle
      subst yev
      have yc0 : wr.cell? ⟨yg, yoff + j * 3, none⟩ = some (.string y0) := yhec 0 (by simp)
      have yc1 : wr.cell? ⟨yg, yoff + j * 3 + 1, none⟩ = some (.int .i64 y1) := yhec 1 (by simp)
      have yc2 : wr.cell? ⟨yg, yoff + j * 3 + 2, none⟩ = some (.int .i64 y2) := yhec 2 (by simp)
      clear yhec yel yle
      have HXY : Hid (samA x1 x2 y1 y2 ↔ plc A[k] = plc G[j]) := Hid.intro (by
        rw [xH.out, yH.out]
        unfold samA plc
        constructor
        · rintro ⟨e1, e2⟩; show (x1, x2) = (y1, y2); rw [e1, e2]
        · intro e; exact ⟨congrArg Prod.fst e, congrArg Prod.snd e⟩)
      obtain ⟨w2, hw2⟩ : ∃ q, q = wr.alloc (.cells #[.string y0, .int .i64 y1, .int .i64 y2] 113) := ⟨_, rfl⟩
      obtain ⟨by_, hby⟩ : ∃ q, q = wr.heap.size := ⟨_, rfl⟩
      have hb1 : Below wr.heap.size wr w2 := hw2 ▸ Go.Joins.below_alloc1 _ _
      have H2 : Hid (Bx w2 by_ [.string y0, .int .i64 y1, .int .i64 y2] ∧ Bx w2 bx [.string x0, .int .i64 x1, .int .i64 x2] ∧ Bx w2 w.heap.size [.slice (some ⟨xg, xoff, none⟩) A.length c1, .slice (some ⟨yg, yoff, none⟩) G.length c2] ∧ Below w.heap.size w w2) := ⟨hby ▸ hw2 ▸ Bx.new wr [_, _, _] _, HI.out.2.1.next hb1, HI.out.2.2.1.next hb1, below_next HI.out.2.2.2 hb1⟩
      clear hb1
      go_upto_region 7 with fail
      rw [← hw2, ← hby]
      clear hw2 hby yc0 yc1 yc2
      have q0 := (H2.out.1).cell 0 rfl; have q1 := (H2.out.1).cell 1 rfl; have q2 := (H2.out.1).cell 2 rfl; have qz := (H2.out.1).2
      have r0 := (H2.out.2.1).cell 0 rfl; have r1 := (H2.out.2.1).cell 1 rfl; have r2 := (H2.out.2.1).cell 2 rfl; have rz := (H2.out.2.1).2
      go_wp2_with fail
      refine (l14Same_n x0 x1 x2 y0 y1 y2 w2).mono ?_
      rintro r w3 ⟨rfl, hb⟩
      have H3 : Hid (Bx w3 bx [.string x0, .int .i64 x1, .int .i64 x2] ∧ Bx w3 w.heap.size [.slice (some ⟨xg, xoff, none⟩) A.length c1, .slice (some ⟨yg, yoff, none⟩) G.length c2] ∧ Below w.heap.size w w3) := ⟨H2.out.2.1.next hb, H2.out.2.2.1.next hb, below_next H2.out.2.2.2 hb⟩
      clear hb q0 q1 q2 qz r0 r1 r2 rz
      by_cases c : samA x1 x2 y1 y2
      · have HN : Hid (tf (goodB A G) = false) := tf_no (fun q => q.2 _ (List.getElem_mem hlt) _ (List.getElem_mem hltj) (HXY.out.1 c))
        rw [tf_yes c]
        clear c
        go_wp2
        go_ret
        exact ⟨ret_bool HN.out.symm, H3.out.2.2⟩
      · have HF : Hid (∀ i (h : i < G.length), i < j + 1 → plc A[k] ≠ plc G[i]) := Hid.intro (by
          intro i hi hij
          by_cases e : i = j
          · subst e; exact fun q => c (HXY.out.2 q)
          · exact HI.out.1 i hi (by omega))
        rw [tf_no c]
        clear c
        go_wp2
        go_roundw
        case rel => exact ⟨j + 1, by omega, by go_num, HF.out, H3.out⟩
        case measure => simp [intOf]; omega
end Go.Proofs.Ytnglgndocmkbfaa
