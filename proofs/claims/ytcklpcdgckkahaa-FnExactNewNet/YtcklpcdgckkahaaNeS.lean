/- Nets: the specification's GoodNet. -/
import Derived.Test.YtcklpcdgckkahaaNeT
namespace Go.Proofs.Ytcklpcdgckkahaa
open Go.RowKit
set_option linter.unusedVariables false
set_option linter.unusedSimpArgs false

theorem l13Amount_n (a : Int) (w : World) : Calls Try.prog 55 #[.int .i64 a] w fun r w' => r = .returned (.bool (inR a 1 1000000)) ∧ w' = w := by
  go_enter Try.func55, Try.ntmps55
  go_wp2_with (first | (go_at_call 54; refine (l1In_any _ _ _ _).mono ?_; rintro e w' ⟨rfl, rfl⟩))
  go_ret
  exact ⟨rfl, rfl⟩
theorem list_of20 {α : Type} {l : List α} (h : l.length = 20) : ∃ v0 v1 v2 v3 v4 v5 v6 v7 v8 v9 v10 v11 v12 v13 v14 v15 v16 v17 v18 v19, l = [v0, v1, v2, v3, v4, v5, v6, v7, v8, v9, v10, v11, v12, v13, v14, v15, v16, v17, v18, v19] := by
  match l, h with
  | [v0, v1, v2, v3, v4, v5, v6, v7, v8, v9, v10, v11, v12, v13, v14, v15, v16, v17, v18, v19], _ => exact ⟨v0, v1, v2, v3, v4, v5, v6, v7, v8, v9, v10, v11, v12, v13, v14, v15, v16, v17, v18, v19, rfl⟩
theorem split_len {α : Type} {l : List α} (a b : Nat) (h : l.length = a + b) : ∃ l1 l2, l = l1 ++ l2 ∧ l1.length = a ∧ l2.length = b :=
  ⟨l.take a, l.drop a, (List.take_append_drop a l).symm, by rw [List.length_take]; omega, by rw [List.length_drop]; omega⟩
/-- Which way stands next, t ends behind From f. -/
def wAt (m f t : Nat) : Nat := f * (m - 1) + (if t ≤ f then t else t - 1)
theorem wAt_zero {m f : Nat} : wAt m f 0 = f * (m - 1) := by unfold wAt; simp
theorem wAt_end {m f : Nat} (hf : f < m) : wAt m f m = (f + 1) * (m - 1) := by unfold wAt; rw [if_neg (by omega), Nat.add_mul, Nat.one_mul]
theorem wAt_same {m f : Nat} : wAt m f (f + 1) = wAt m f f := by unfold wAt; rw [if_neg (by omega), if_pos (by omega)]; simp
theorem wAt_succ {m f t : Nat} (h : t ≠ f) : wAt m f (t + 1) = wAt m f t + 1 := by
  unfold wAt
  by_cases q : t < f
  · rw [if_pos (by omega), if_pos (by omega)]; omega
  · rw [if_neg (by omega), if_neg (by omega)]; omega
theorem wAt_fr {m f t : Nat} (hm : 2 ≤ m ∧ m ≤ 5) (hf : f < m) (ht : t < m) (h : t ≠ f) : wAt m f t < m * (m - 1) ∧ frA m (wAt m f t) = f ∧ toA m (wAt m f t) = t := by
  refine frA_at hm hf ht (fun q => h q.symm) ?_
  unfold wAt
  by_cases q : t ≤ f
  · rw [if_pos q, if_neg (by omega)]
  · rw [if_neg q, if_pos (by omega)]
theorem wayP_R {bs : List (Sh.T shBank)} {i f t : Nat} {x0 x1 : Int} {x2 : List (Sh.T shParcel)} {x3 : Bool} {x4 : List (Sh.T .int)} (hf : frA bs.length i = f) (ht : toA bs.length i = t) (hp : ∀ p ∈ x2, parP p) (hs : ∀ k, k < x4.length → amtP (atI x4 k)) :
    wayP bs i (mkWy x0 x1 x2 x3 x4) ↔ netR x0 x1 f t x2.length x4.length (marks x2) (mkA bs f) (mkA bs t) x3 (mkA bs t && (!mkA bs f || decide (0 < marks x2))) := by
  unfold wayP wayK netR
  rw [hf, ht]
  show (x0 = (f : Int) ∧ x1 = (t : Int)) ∧ pcsP x2 ∧ seeP x4 ∧ wayQ (mkA bs f) (mkA bs t) (hasM x2) x3 x4.length ↔ _
  unfold wayQ hasM
  generalize mkA bs f = fm
  generalize mkA bs t = tm
  constructor
  · rintro ⟨h1, h2, h3, h4, h5, h6⟩
    refine ⟨h1, h2.1, h3.1, h2.2.2, fun q => h4 (decide_eq_true q), ?_, fun q => ?_⟩
    · cases tm
      · rw [(h6 rfl).1]; rfl
      · rw [h5 rfl, Bool.or_comm]; rfl
    · obtain ⟨g1, g2, g3⟩ := h6 q
      refine ⟨g2, fun r => ?_⟩
      subst r
      simpa using g3
  · rintro ⟨h1, h2, h3, h4, h5, h6, h7⟩
    refine ⟨h1, ⟨h2, hp, h4⟩, ⟨h3, hs⟩, fun q => h5 (of_decide_eq_true q), fun q => ?_, fun q => ?_⟩
    · rw [h6, q, Bool.or_comm]; rfl
    · subst q
      refine ⟨by rw [h6]; rfl, (h7 rfl).1, ?_⟩
      cases fm
      · simp
      · have := (h7 rfl).2 rfl
        simp [this]

set_option maxRecDepth 100000 in
set_option maxHeartbeats 16000000 in
theorem specGoodNet_n (cs : List Value) (bs : List (Sh.T shBank)) (ws : List (Sh.T shWay)) (w : World) (hz : szD shNet (bs, ws, ()) ≤ 1073741824) (h : Lies w shNet cs (bs, ws, ())) :
    Calls Try.prog 19 #[.agg cs.toArray] w fun r w' => r = .returned (.bool (tf (goodN bs ws))) ∧ Below w.heap.size w w' := by
  obtain ⟨a1, k1, a2, k2, rfl, h1, h2⟩ := lies_Net h
  have HL : Hid (Lies w (.list shBank) [.slice a1 bs.length k1] bs ∧ Lies w (.list shWay) [.slice a2 ws.length k2] ws) := ⟨h1, h2⟩
  have hsz := net_sizes hz
  have HZ := Hid.intro hsz.2.2
  have hnb := hsz.1
  have hnw := hsz.2.1
  clear h h1 h2 hz hsz
  obtain ⟨nb, hnbE⟩ : ∃ n, n = bs.length := ⟨_, rfl⟩
  obtain ⟨nw, hnwE⟩ : ∃ n, n = ws.length := ⟨_, rfl⟩
  have HNE : Hid (nb = bs.length ∧ nw = ws.length) := ⟨hnbE, hnwE⟩
  rw [← hnbE] at hnb ⊢
  rw [← hnwE] at hnw ⊢
  clear hnbE hnwE
  have HB0 : Hid (Bx (w.alloc (.cells #[.slice a1 nb k1, .slice a2 nw k2] 30)) w.heap.size [.slice a1 nb k1, .slice a2 nw k2] ∧ Below w.heap.size w (w.alloc (.cells #[.slice a1 nb k1, .slice a2 nw k2] 30))) := ⟨Bx.new w [_, _] _, Go.Joins.below_alloc1 _ _⟩
  cases c0 : inR (nb : Int) 2 5
  · have HN : Hid (¬ goodN bs ws) := Hid.intro (fun q => by
      have h1 := q.1
      rw [← HNE.out.1] at h1
      rw [inR_iff.2 h1] at c0; cases c0)
    go_enter Try.func19, Try.ntmps19
    go_wp2_with (first | (go_at_call 54; refine (l1In_any _ _ _ _).mono ?_; rintro e w' ⟨rfl, rfl⟩))
    go_ret
    exact ⟨goodN_no HN.out, HB0.out.2⟩
  have hm := inR_iff.1 c0
  obtain ⟨hm1, hm2⟩ := hm
  have hw1 : IntKind.i64.wrap ((nb : Int) - 1) = (nb : Int) - 1 := w64f (by omega) (by omega)
  have hml : (nb : Int) * ((nb : Int) - 1) ≤ 20 ∧ 0 ≤ (nb : Int) * ((nb : Int) - 1) := ⟨Int.le_trans (Int.mul_le_mul (show (nb : Int) ≤ 5 by omega) (show (nb : Int) - 1 ≤ 4 by omega) (by omega) (by decide)) (by decide), Int.mul_nonneg (by omega) (by omega)⟩
  obtain ⟨hml1, hml2⟩ := hml
  have hw2 : IntKind.i64.wrap ((nb : Int) * ((nb : Int) - 1)) = (nb : Int) * ((nb : Int) - 1) := w64f (by omega) (by omega)
  obtain ⟨mm, hmm⟩ : ∃ x, x = (nb : Int) * ((nb : Int) - 1) := ⟨_, rfl⟩
  have HMM := Hid.intro hmm
  rw [← hmm] at hml1 hml2 hw2
  by_cases c1 : (nw : Int) = mm
  case neg =>
    have HN : Hid (¬ goodN bs ws) := Hid.intro (fun q => c1 (by have h1 := q.2.1; rw [← HNE.out.1, ← HNE.out.2, ← hmm] at h1; exact h1))
    have d1 : ((nw : Int) != mm) = true := by simpa using c1
    have d2 : ((nw : Int) == mm) = false := by simpa using c1
    rw [hmm] at d1 d2 c1 hw2
    clear hmm
    go_enter Try.func19, Try.ntmps19
    go_wp2_with (first | (go_at_call 54; refine (l1In_any _ _ _ _).mono ?_; rintro e w' ⟨rfl, rfl⟩))
    go_ret
    exact ⟨goodN_no HN.out, HB0.out.2⟩
  have d1 : ((nw : Int) != mm) = false := by simpa using c1
  have HC1 : Hid ((nw : Int) = (nb : Int) * ((nb : Int) - 1)) := c1.trans hmm
  have HNW : Hid (nw = nb * (nb - 1)) := Hid.intro (by
    have h2 := HC1.out
    have h3 : nb = 2 ∨ nb = 3 ∨ nb = 4 ∨ nb = 5 := by omega
    rcases h3 with q | q | q | q <;> (rw [q] at h2 ⊢; omega))
  rw [hmm] at d1 hw2
  have c1' := c1.trans hmm
  clear hmm c1 HMM
  go_enter Try.func19, Try.ntmps19
  go_upto_region 4 with (first | (go_at_call 54; refine (l1In_any _ _ _ _).mono ?_; rintro e w' ⟨rfl, rfl⟩))
  clear d1 hw2 c1' c0 hml1 hml2 hw1
  go_wp2
  go_loopw [36] (fun i wr => ∃ k : Nat, k ≤ nb ∧ i = .int .i64 k ∧ (∀ c ∈ bs.take k, bankP c) ∧ Bx wr w.heap.size [.slice a1 nb k1, .slice a2 nw k2] ∧ Below w.heap.size w wr) (fun i _ => nb - (intOf i).toNat)
  case atStart => exact ⟨0, Nat.zero_le _, rfl, fun o ho => by simp at ho, HB0.out⟩
  case round =>
    obtain ⟨k, hk, rfl, hall, hbx, hBr⟩ := hrel
    clear HB0
    have HA : Hid ((∀ c ∈ bs.take k, bankP c) ∧ Bx wr w.heap.size [.slice a1 nb k1, .slice a2 nw k2] ∧ Below w.heap.size w wr) := ⟨hall, hbx, hBr⟩
    clear hall hBr
    have s0 := (hbx).cell 0 rfl; have s1 := (hbx).cell 1 rfl; have sz := (hbx).2
    clear hbx
    by_cases hlt : k < nb
    · have hlx : k < bs.length := by have := HNE.out.1; omega
      have hlt' : (k : Int) < (nb : Int) := by omega
      have HLE : Hid (Lies wr (.list shBank) [.slice a1 bs.length k1] bs) := HL.out.1.next HA.out.2.2
      obtain ⟨xg, xoff, xgo, xgs, xec, xel, xhec, xle⟩ := Lies.elem (HLE.out) hlx
      subst xgo
      rcases xX : bs[k] with ⟨x0, x1, x2, ⟨⟩⟩
      rw [xX] at xle
      have xH : Hid (bs[k] = (x0, x1, x2, ())) := xX
      clear xX
      obtain xev := lies_Bank xle
      subst xev
      have xc0 : wr.cell? ⟨xg, xoff + k * 3, none⟩ = some (.int .i64 x0) := xhec 0 (by simp)
      have xc1 : wr.cell? ⟨xg, xoff + k * 3 + 1, none⟩ = some (.bool x1) := xhec 1 (by simp)
      have xc2 : wr.cell? ⟨xg, xoff + k * 3 + 2, none⟩ = some (.int .i64 x2) := xhec 2 (by simp)
      clear xhec xel xle
      have HX : Hid (bs[k] = mkBk x0 x1 x2) := xH
      clear xH HLE
      have HB1 : Hid (Bx (wr.alloc (.cells #[.int .i64 x0, .bool x1, .int .i64 x2] 80)) w.heap.size [.slice (some ⟨xg, xoff, none⟩) nb k1, .slice a2 nw k2] ∧ Below w.heap.size w (wr.alloc (.cells #[.int .i64 x0, .bool x1, .int .i64 x2] 80))) := ⟨HA.out.2.1.alloc _, HA.out.2.2.alloc HA.out.2.2.size _⟩
      obtain ⟨y0, hy0⟩ : ∃ y : Int, y = x0 := ⟨_, rfl⟩
      obtain ⟨y2, hy2⟩ : ∃ y : Int, y = x2 := ⟨_, rfl⟩
      subst hy0 hy2
      by_cases e : bankP (mkBk y0 x1 y2)
      · have HS : Hid (bankP bs[k]) := Hid.intro (by rw [HX.out]; exact e)
        obtain ⟨e0, e2, e1⟩ := bankP_iff.1 e
        cases x1
        · have e3 : y2 = 0 := by rcases e1 with q | q; cases q; exact q
          subst e3
          clear e e1
          go_wp2_with (first | (go_at_call 54; refine (l1In_any _ _ _ _).mono ?_; rintro e w' ⟨rfl, rfl⟩))
          go_roundw
          case rel => exact ⟨k + 1, by omega, by go_num, mem_take_succ hlx HA.out.1 HS.out, HB1.out⟩
          case measure => simp [intOf]; omega
        · clear e e1
          go_wp2_with (first | (go_at_call 54; refine (l1In_any _ _ _ _).mono ?_; rintro e w' ⟨rfl, rfl⟩))
          go_roundw
          case rel => exact ⟨k + 1, by omega, by go_num, mem_take_succ hlx HA.out.1 HS.out, HB1.out⟩
          case measure => simp [intOf]; omega
      · have HN : Hid (¬ goodN bs ws) := Hid.intro (fun q => e (by have := q.2.2.1 bs[k] (List.getElem_mem hlx); rwa [HX.out] at this))
        cases e0 : inR y0 0 1000000
        · clear e
          go_wp2_with (first | (go_at_call 54; refine (l1In_any _ _ _ _).mono ?_; rintro e w' ⟨rfl, rfl⟩))
          go_ret
          exact ⟨goodN_no HN.out, HB1.out.2⟩
        cases e2 : inR y2 0 1000000
        · clear e
          go_wp2_with (first | (go_at_call 54; refine (l1In_any _ _ _ _).mono ?_; rintro e w' ⟨rfl, rfl⟩))
          go_ret
          exact ⟨goodN_no HN.out, HB1.out.2⟩
        have e3 : x1 = false := by
          cases x1
          · rfl
          · exact absurd (bankP_iff.2 ⟨e0, e2, Or.inl rfl⟩) e
        subst e3
        have e4 : ¬ y2 = 0 := fun q => e (bankP_iff.2 ⟨e0, e2, Or.inr q⟩)
        have e5 : (y2 != 0) = true := by simpa using e4
        have e6 : (y2 == 0) = false := by simpa using e4
        clear e
        go_wp2_with (first | (go_at_call 54; refine (l1In_any _ _ _ _).mono ?_; rintro e w' ⟨rfl, rfl⟩))
        go_ret
        exact ⟨goodN_no HN.out, HB1.out.2⟩
    · have hkn : k = nb := by omega
      have HCP : Hid (∀ c ∈ bs, bankP c) := Hid.intro (by have := HA.out.1; rwa [hkn, HNE.out.1, List.take_length] at this)
      have HB1 : Hid (Bx wr w.heap.size [.slice a1 nb k1, .slice a2 nw k2] ∧ Below w.heap.size w wr) := HA.out.2
      clear HA hkn
      go_upto_region 10 with fail
      clear hlt
      have hl0 : 0 < bs.length := by have := HNE.out.1; omega
      obtain ⟨g1, o1, ha1, hbk⟩ := BkC.of (HL.out.1.next HB1.out.2) hl0
      subst ha1
      have HBK := Hid.intro hbk
      have HWR := Hid.intro HB1.out.2
      clear hbk s0 s1 sz
      obtain ⟨wo, hwo⟩ : ∃ x, x = wr := ⟨_, rfl⟩
      subst hwo
      go_wp2
      go_loopw [7, 6] (fun v7 v6 wr => ∃ f i : Nat, f ≤ nb ∧ v7 = .int .i64 f ∧ v6 = .int .i64 i ∧ i = f * (nb - 1) ∧ waysP bs ws i ∧ Bx wr w.heap.size [.slice (some ⟨g1, o1, none⟩) nb k1, .slice a2 nw k2] ∧ Below wo.heap.size wo wr) (fun v7 _ _ => nb - (intOf v7).toNat)
      case atStart => exact ⟨0, 0, Nat.zero_le _, rfl, rfl, by simp, fun i _ hi => absurd hi (by omega), HB1.out.1, Below.refl _ _⟩
      case round =>
        obtain ⟨f, i, hf, rfl, rfl, hi, hall, hbx, hBx⟩ := hrel
        have HA : Hid (i = f * (nb - 1) ∧ waysP bs ws i ∧ Bx wr w.heap.size [.slice (some ⟨g1, o1, none⟩) nb k1, .slice a2 nw k2] ∧ Below wo.heap.size wo wr) := ⟨hi, hall, hbx, hBx⟩
        clear hi hall hBx hbx HB1
        by_cases hlf : f < nb
        case neg =>
          have HF : Hid (goodN bs ws) := Hid.intro (by
            have h1 := HA.out.2.1
            have h2 := HA.out.1
            have h3 : f = nb := by omega
            rw [h2, h3, ← HNW.out, HNE.out.2] at h1
            exact ⟨by have := HNE.out.1; omega, by rw [← HNE.out.1, ← HNE.out.2]; exact HC1.out, HCP.out, h1⟩)
          go_wp2
          go_ret
          exact ⟨goodN_yes HF.out, below_next HWR.out HA.out.2.2.2⟩
        have hf' : (f : Int) < (nb : Int) := by omega
        have hwf : IntKind.i64.wrap (f : Int) = (f : Int) := w64f (by omega) (by omega)
        obtain ⟨wa, hwa⟩ : ∃ x, x = wr := ⟨_, rfl⟩
        subst hwa
        go_wp2
        go_loopw [8, 6] (fun v8 v6 wr => ∃ t i : Nat, t ≤ nb ∧ v8 = .int .i64 t ∧ v6 = .int .i64 i ∧ i = wAt nb f t ∧ waysP bs ws i ∧ Bx wr w.heap.size [.slice (some ⟨g1, o1, none⟩) nb k1, .slice a2 nw k2] ∧ Below wo.heap.size wo wr) (fun v8 _ _ => nb - (intOf v8).toNat)
        case atStart => exact ⟨0, i, Nat.zero_le _, rfl, rfl, HA.out.1.trans wAt_zero.symm, HA.out.2.1, HA.out.2.2⟩
        case round =>
          obtain ⟨t, i, ht, rfl, rfl, hi, hall, hbx, hBx⟩ := hrel
          have HAi : Hid (i = wAt nb f t ∧ waysP bs ws i ∧ Bx wr w.heap.size [.slice (some ⟨g1, o1, none⟩) nb k1, .slice a2 nw k2] ∧ Below wo.heap.size wo wr) := ⟨hi, hall, hbx, hBx⟩
          clear hi hall hBx HA
          by_cases hlt : t < nb
          case neg =>
            have HE : Hid (i = (f + 1) * (nb - 1)) := Hid.intro (by
              have h3 : t = nb := by omega
              have h2 := HAi.out.1
              rw [h3] at h2
              exact h2.trans (wAt_end hlf))
            clear hbx
            go_wp2
            go_roundw
            case rel => exact ⟨f + 1, i, by omega, by go_num, rfl, HE.out, HAi.out.2⟩
            case measure => simp [intOf]; omega
          have ht' : (t : Int) < (nb : Int) := by omega
          have hwt : IntKind.i64.wrap (t : Int) = (t : Int) := w64f (by omega) (by omega)
          by_cases hft : t = f
          · have e1 : ((f : Int) == (t : Int)) = true := by simp; omega
            have HE : Hid (i = wAt nb f (t + 1)) := Hid.intro (by rw [HAi.out.1, hft]; exact wAt_same.symm)
            clear hbx
            go_wp2
            go_roundw
            case rel => exact ⟨t + 1, i, by omega, by go_num, rfl, HE.out, HAi.out.2⟩
            case measure => simp [intOf]; omega
          have e1 : ((f : Int) == (t : Int)) = false := by simp; omega
          have hwa := wAt_fr ⟨by omega, by omega⟩ hlf hlt hft
          rw [← HAi.out.1, ← HNW.out] at hwa
          have HFT : Hid (frA bs.length i = f ∧ toA bs.length i = t) := by rw [← HNE.out.1]; exact hwa.2
          have HE : Hid (i + 1 = wAt nb f (t + 1)) := Hid.intro (by rw [HAi.out.1]; exact (wAt_succ hft).symm)
          have hin := hwa.1
          have hin20 : nw ≤ 20 := by
            have h2 := HNW.out
            have h3 : nb = 2 ∨ nb = 3 ∨ nb = 4 ∨ nb = 5 := by omega
            rcases h3 with q | q | q | q <;> (rw [q] at h2; omega)
          clear hwa hft
          have hlx : i < ws.length := by have := HNE.out.2; omega
          have hlt' : (i : Int) < (nw : Int) := by omega
          have hwi : IntKind.i64.wrap (i : Int) = (i : Int) := w64f (by omega) (by omega)
          have HLE : Hid (Lies wr (.list shWay) [.slice a2 ws.length k2] ws) := (HL.out.2.next HWR.out).next HAi.out.2.2.2
          obtain ⟨xg, xoff, xgo, xgs, xec, xel, xhec, xle⟩ := Lies.elem (HLE.out) hlx
          subst xgo
          rcases xX : ws[i] with ⟨x0, x1, x2, x3, x4, ⟨⟩⟩
          rw [xX] at xle
          have xH : Hid (ws[i] = (x0, x1, x2, x3, x4, ())) := xX
          clear xX
          obtain ⟨xa1, xk1, xa2, xk2, xev, xq1, xq2⟩ := lies_Way xle
          subst xev
          have xc0 : wr.cell? ⟨xg, xoff + i * 5, none⟩ = some (.int .i64 x0) := xhec 0 (by simp)
          have xc1 : wr.cell? ⟨xg, xoff + i * 5 + 1, none⟩ = some (.int .i64 x1) := xhec 1 (by simp)
          have xc2 : wr.cell? ⟨xg, xoff + i * 5 + 2, none⟩ = some (.slice xa1 x2.length xk1) := xhec 2 (by simp)
          have xc3 : wr.cell? ⟨xg, xoff + i * 5 + 3, none⟩ = some (.bool x3) := xhec 3 (by simp)
          have xc4 : wr.cell? ⟨xg, xoff + i * 5 + 4, none⟩ = some (.slice xa2 x4.length xk2) := xhec 4 (by simp)
          clear xhec xel xle
          have HX : Hid (ws[i] = mkWy x0 x1 x2 x3 x4) := xH
          have hzz := HZ.out ws[i] (List.getElem_mem hlx)
          rw [HX.out] at hzz
          have hz1 : x2.length ≤ 1073741824 := hzz.1
          have hz2 : x4.length ≤ 1073741824 := hzz.2
          clear xH HLE hzz
          obtain ⟨y0, hy0⟩ : ∃ y : Int, y = x0 := ⟨_, rfl⟩
          obtain ⟨y1, hy1⟩ : ∃ y : Int, y = x1 := ⟨_, rfl⟩
          subst hy0 hy1
          obtain ⟨W0, hW0⟩ : ∃ x, x = wr.alloc (.cells #[.int .i64 y0, .int .i64 y1, .slice xa1 x2.length xk1, .bool x3, .slice xa2 x4.length xk2] 83) := ⟨_, rfl⟩
          have hb0 : Below wr.heap.size wr W0 := hW0 ▸ Go.Joins.below_alloc1 _ _
          obtain ⟨pb, hpb⟩ : ∃ p, p = wr.heap.size := ⟨_, rfl⟩
          have HB1 : Hid (Bx W0 w.heap.size [.slice (some ⟨g1, o1, none⟩) nb k1, .slice (some ⟨xg, xoff, none⟩) nw k2] ∧ Bx W0 pb [.int .i64 y0, .int .i64 y1, .slice xa1 x2.length xk1, .bool x3, .slice xa2 x4.length xk2] ∧ Below wo.heap.size wo W0 ∧ Lies W0 (.list shParcel) [.slice xa1 x2.length xk1] x2 ∧ Lies W0 (.list .int) [.slice xa2 x4.length xk2] x4) := ⟨HAi.out.2.2.1.next hb0, by rw [hpb]; exact hW0 ▸ Bx.new wr [_, _, _, _, _] _, below_next HAi.out.2.2.2 hb0, xq1.next hb0, xq2.next hb0⟩
          have HALL := Hid.intro HAi.out.2.1
          have s0 := (hbx).cell 0 rfl; have s1 := (hbx).cell 1 rfl; have sz := (hbx).2
          clear hbx xq1 xq2 HAi
          go_upto_region 19 with fail
          rw [← hW0]
          have hps : pb = wr.heap.size := hpb
          rw [← hps]
          clear hW0 hb0 s0 s1 sz xc0 xc1 xc2 xc3 xc4 hpb hps
          clear xgs
          obtain ⟨wi, hwi2⟩ : ∃ x, x = wr := ⟨_, rfl⟩
          subst hwi2
          obtain ⟨n2, hn2⟩ : ∃ n, n = x2.length := ⟨_, rfl⟩
          obtain ⟨n4, hn4⟩ : ∃ n, n = x4.length := ⟨_, rfl⟩
          have HNN : Hid (n2 = x2.length ∧ n4 = x4.length) := ⟨hn2, hn4⟩
          rw [← hn2, ← hn4] at HB1 ⊢
          rw [← hn2] at hz1
          rw [← hn4] at hz2
          clear hn2 hn4
          have m0 := (HB1.out.2.1).cell 0 rfl; have m1 := (HB1.out.2.1).cell 1 rfl; have m2 := (HB1.out.2.1).cell 2 rfl; have m3 := (HB1.out.2.1).cell 3 rfl; have m4 := (HB1.out.2.1).cell 4 rfl; have mz := (HB1.out.2.1).2
          go_wp2
          go_loopw [84, 10] (fun v84 v10 wr => ∃ j : Nat, j ≤ n2 ∧ v84 = .int .i64 j ∧ v10 = .int .i64 (marks (x2.take j) : Nat) ∧ (∀ p ∈ x2.take j, parP p) ∧ Below W0.heap.size W0 wr) (fun v84 _ _ => n2 - (intOf v84).toNat)
          case atStart => exact ⟨0, Nat.zero_le _, rfl, rfl, fun p hp => by simp at hp, Below.refl _ _⟩
          case round =>
            obtain ⟨j, hj, rfl, rfl, hpar, hBr⟩ := hrel
            have HB := Hid.intro hBr
            have HP := Hid.intro hpar
            clear hpar hBr
            clear m0 m1 m2 m3 m4 mz
            have hmk : marks (x2.take j) ≤ n2 := Nat.le_trans (marks_le _) (by rw [List.length_take, ← HNN.out.1]; omega)
            have HB2 : Hid (Bx wr w.heap.size [.slice (some ⟨g1, o1, none⟩) nb k1, .slice (some ⟨xg, xoff, none⟩) nw k2] ∧ Bx wr pb [.int .i64 y0, .int .i64 y1, .slice xa1 n2 xk1, .bool x3, .slice xa2 n4 xk2] ∧ Below wo.heap.size wo wr) := ⟨HB1.out.1.next HB.out, HB1.out.2.1.next HB.out, below_next HB1.out.2.2.1 HB.out⟩
            by_cases hjn : j < n2
            · have hjx : j < x2.length := by have := HNN.out.1; omega
              have hjn' : (j : Int) < (n2 : Int) := by omega
              have HLE : Hid (Lies wr (.list shParcel) [.slice xa1 x2.length xk1] x2) := (HNN.out.1 ▸ HB1.out.2.2.2.1 : Lies W0 (.list shParcel) [.slice xa1 x2.length xk1] x2).next HB.out
              obtain ⟨zg, zoff, zgo, zgs, zec, zel, zhec, zle⟩ := Lies.elem (HLE.out) hjx
              subst zgo
              rcases zX : x2[j] with ⟨z0, z1, ⟨⟩⟩
              rw [zX] at zle
              have zH : Hid (x2[j] = (z0, z1, ())) := zX
              clear zX
              obtain zev := lies_Parcel zle
              subst zev
              have zc0 : wr.cell? ⟨zg, zoff + j * 2, none⟩ = some (.bool z0) := zhec 0 (by simp)
              have zc1 : wr.cell? ⟨zg, zoff + j * 2 + 1, none⟩ = some (.int .i64 z1) := zhec 1 (by simp)
              clear zhec zel zle
              have HZX : Hid (x2[j] = mkPc z0 z1) := zH
              have HM : Hid (marks (x2.take (j + 1)) = marks (x2.take j) + (if z0 = true then 1 else 0)) := Hid.intro (pcs_mark hjx HZX.out)
              have HBN := Hid.intro (HB.out.alloc HB.out.size (.cells #[.bool z0, .int .i64 z1] 85))
              have HMEM : Hid (x2[j] ∈ x2) := Hid.intro (List.getElem_mem hjx)
              clear HLE zH
              obtain ⟨y, hy⟩ : ∃ y : Int, y = z1 := ⟨_, rfl⟩
              subst hy
              have HNP : Hid (¬ parP x2[j] → ¬ goodN bs ws) := Hid.intro (fun q g => q (by
                have h1 := (g.2.2.2 i hlx hlx).2.1
                rw [HX.out] at h1
                exact h1.2.1 _ HMEM.out))
              have HBW : Hid (Below w.heap.size w (wr.alloc (.cells #[.bool z0, .int .i64 y] 85))) := Hid.intro (below_next HWR.out (below_next HB1.out.2.2.1 HBN.out))
              generalize marks (x2.take j) = q at hmk HM ⊢
              cases z0
              · cases c : inR y 1 1000000
                · have HN : Hid (¬ goodN bs ws) := Hid.intro (HNP.out (fun g => by
                    rw [HZX.out] at g
                    have h2 : amtP y := g.2 rfl
                    rw [inR_iff.2 h2] at c; cases c))
                  go_wp2_with (go_at_call 55; refine (l13Amount_n _ _).mono ?_; rintro e w' ⟨rfl, hw⟩; have hw := hw.symm; subst hw; rw [c])
                  go_ret
                  exact ⟨goodN_no HN.out, HBW.out⟩
                · have HS : Hid (parP x2[j]) := Hid.intro (by rw [HZX.out]; exact ⟨(fun q => by cases q), fun _ => inR_iff.1 c⟩)
                  have HM : Hid (marks (x2.take (j + 1)) = q) := Hid.intro (HM.out.trans (by simp))
                  go_wp2_with (go_at_call 55; refine (l13Amount_n _ _).mono ?_; rintro e w' ⟨rfl, hw⟩; have hw := hw.symm; subst hw; rw [c])
                  go_roundw
                  case rel => exact ⟨j + 1, by omega, by go_num, by rw [HM.out], mem_take_succ hjx HP.out HS.out, HBN.out⟩
                  case measure => simp [intOf]; omega
              · by_cases c : y = 0
                · have HS : Hid (parP x2[j]) := Hid.intro (by rw [HZX.out]; exact ⟨fun _ => c, (fun q => by cases q)⟩)
                  have HM : Hid (marks (x2.take (j + 1)) = q + 1) := Hid.intro (HM.out.trans (by simp))
                  subst c
                  go_wp2
                  go_roundw
                  case rel => exact ⟨j + 1, by omega, by go_num, by rw [HM.out]; go_num, mem_take_succ hjx HP.out HS.out, HBN.out⟩
                  case measure => simp [intOf]; omega
                · have HN : Hid (¬ goodN bs ws) := Hid.intro (HNP.out (fun g => by
                    rw [HZX.out] at g
                    exact c (g.1 rfl)))
                  have c1 : (y != 0) = true := by simpa using c
                  have c2 : (y == 0) = false := by simpa using c
                  go_wp2
                  go_ret
                  exact ⟨goodN_no HN.out, HBW.out⟩
            · have hjE : j = n2 := by omega
              have HPA : Hid (∀ p ∈ x2, parP p) := Hid.intro (by have := HP.out; rwa [hjE, HNN.out.1, List.take_length] at this)
              have HMQ : Hid (marks (x2.take j) = marks x2) := Hid.intro (by rw [hjE, HNN.out.1, List.take_length])
              clear hjE HP
              obtain ⟨q, hq⟩ : ∃ q, q = marks (x2.take j) := ⟨_, rfl⟩
              have HQ : Hid (q = marks x2) := Hid.intro (hq.trans HMQ.out)
              rw [← hq] at hmk ⊢
              clear hq HMQ
              have m0 := (HB2.out.2.1).cell 0 rfl; have m1 := (HB2.out.2.1).cell 1 rfl; have m2 := (HB2.out.2.1).cell 2 rfl; have m3 := (HB2.out.2.1).cell 3 rfl; have m4 := (HB2.out.2.1).cell 4 rfl; have mz := (HB2.out.2.1).2
              go_wp2
              clear m0 m1 m2 m3 m4 mz
              obtain ⟨wq, hwq⟩ : ∃ x, x = wr := ⟨_, rfl⟩
              subst hwq
              have HL4 : Hid (Lies wq (.list .int) [.slice xa2 x4.length xk2] x4) := (HNN.out.2 ▸ HB1.out.2.2.2.2 : Lies W0 (.list .int) [.slice xa2 x4.length xk2] x4).next HB.out
              go_loopw [114] (fun v114 wr => ∃ j : Nat, j ≤ n4 ∧ v114 = .int .i64 j ∧ (∀ k, k < j → amtP (atI x4 k)) ∧ wr = wq) (fun v114 _ => n4 - (intOf v114).toNat)
              case atStart => exact ⟨0, Nat.zero_le _, rfl, fun k hk => absurd hk (Nat.not_lt_zero k), rfl⟩
              case round =>
                obtain ⟨l, hl, rfl, hamt, rfl⟩ := hrel
                have HAM := Hid.intro hamt
                clear hamt
                by_cases hln : l < n4
                · have hlx4 : l < x4.length := by have := HNN.out.2; omega
                  have hln' : (l : Int) < (n4 : Int) := by omega
                  obtain ⟨gr, og, har, hcr, hgr⟩ := lies_at HL4.out hlx4
                  subst har
                  obtain ⟨y, hy⟩ : ∃ y, y = atI x4 l := ⟨_, rfl⟩
                  have HY := Hid.intro hy
                  rw [← hy] at hcr
                  clear hy
                  cases c : inR y 1 1000000
                  · have HN : Hid (¬ goodN bs ws) := Hid.intro (fun g => by
                      have h1 := (g.2.2.2 i hlx hlx).2.2.1
                      rw [HX.out] at h1
                      have h2 := h1.2 l hlx4
                      have h3 : amtP (atI x4 l) := h2
                      rw [← HY.out] at h3
                      rw [inR_iff.2 h3] at c; cases c)
                    go_wp2_with (go_at_call 55; refine (l13Amount_n _ _).mono ?_; rintro e w' ⟨rfl, hw⟩; have hw := hw.symm; subst hw; rw [c])
                    go_ret
                    exact ⟨goodN_no HN.out, below_next HWR.out HB2.out.2.2⟩
                  · have HS : Hid (amtP (atI x4 l)) := Hid.intro (by rw [← HY.out]; exact inR_iff.1 c)
                    go_wp2_with (go_at_call 55; refine (l13Amount_n _ _).mono ?_; rintro e w' ⟨rfl, hw⟩; have hw := hw.symm; subst hw; rw [c])
                    go_roundw
                    case rel => exact ⟨l + 1, by omega, by go_num, fun k hk => (by by_cases e : k = l; exact e ▸ HS.out; exact HAM.out k (by omega)), trivial⟩
                    case measure => simp [intOf]; omega
                · have hlE : l = n4 := by omega
                  have HSE : Hid (∀ k, k < x4.length → amtP (atI x4 k)) := Hid.intro (by have := HAM.out; rwa [hlE, HNN.out.2] at this)
                  clear hlE HAM
                  have hfl : f < bs.length := by have := HNE.out.1; omega
                  have htl : t < bs.length := by have := HNE.out.1; omega
                  have HWQ : Hid (wayP bs i ws[i] ↔ netR y0 y1 f t n2 n4 q (bmk bs[f]) (bmk bs[t]) x3 (bmk bs[t] && (!bmk bs[f] || decide (0 < q)))) := Hid.intro (by
                    rw [HX.out, HNN.out.1, HNN.out.2, HQ.out, ← mkA_lt hfl, ← mkA_lt htl]
                    exact wayP_R HFT.out.1 HFT.out.2 HPA.out HSE.out)
                  have hb9 := HB2.out.2.2
                  have cf := ((HBK.out f hfl).next hb9).2.1
                  have ct := ((HBK.out t htl).next hb9).2.1
                  have cg := ((HBK.out t htl).next hb9).2.2.2
                  clear hb9
                  generalize bmk bs[f] = fm at cf HWQ
                  generalize bmk bs[t] = tm at ct HWQ
                  have s0 := (HB2.out.1).cell 0 rfl; have s1 := (HB2.out.1).cell 1 rfl; have sz := (HB2.out.1).2
                  go_upto_region 36 with fail
                  go_cut [16] (fun s16 wx => s16 = .bool (tm && (!fm || decide (0 < q))) ∧ wx = wr)
                  case first =>
                    cases tm
                    · go_wp2
                      go_meet
                      exact ⟨rfl, rfl⟩
                    · cases fm
                      · go_wp2
                        go_meet
                        exact ⟨rfl, rfl⟩
                      · by_cases c : 0 < q
                        · have c1 : decide (0 < q) = true := decide_eq_true c
                          go_wp2
                          go_meet
                          exact ⟨by simp [c], rfl⟩
                        · have c1 : decide (0 < q) = false := decide_eq_false c
                          go_wp2
                          go_meet
                          exact ⟨by simp [c], rfl⟩
                  case rest =>
                    obtain ⟨rfl, hwc⟩ := hcut
                    have hwc := hwc.symm
                    subst hwc
                    generalize (tm && (!fm || decide (0 < q))) = wb at HWQ ⊢
                    clear s0 s1 sz
                    go_upto_region 37 with fail
                    go_cut [208] (fun s208 wx => s208 = .bool (!(tf (netR y0 y1 f t n2 n4 q fm tm x3 wb))) ∧ wx = wr)
                    case first =>
                      refine wp_region_lit ?_
                      refine wpI.start (l := ops37) (fun A E hA hV _ _ => ?_)
                      have hzA : ∀ d, d < 209 → d < A.tmps.size := fun d hd => by rw [hA]; exact hd
                      refine reg37 y0 y1 f t n2 n4 q nb nw g1 o1 k1 k2 (some ⟨xg, xoff, none⟩) xa1 xa2 xk1 xk2 fm tm x3 wb w.heap.size pb wr A E _ hf' hz1 hz2 hwf ⟨HB2.out.2.1, HB2.out.1⟩ cf cg hV hzA (by rw [← hV.at, hA]; rfl) (by rw [← hV.at, hA]; rfl) (by rw [← hV.at, hA]; rfl) (by rw [← hV.at, hA]; rfl) (by rw [← hV.at, hA]; rfl) (by rw [← hV.at, hA]; rfl) (by rw [← hV.at, hA]; rfl) (fun B E' hx hv he => ?_)
                      obtain ⟨us, hl, rfl⟩ := hx.last hv he (hzA 208 (by decide)) rfl
                      obtain ⟨p0, r0, rfl, h0p, h0q⟩ := split_len 20 46 hl
                      obtain ⟨v0, v1, v2, v3, v4, v5, v6, v7, v8, v9, v10, v11, v12, v13, v14, v15, v16, v17, v18, v19, rfl⟩ := list_of20 h0p
                      obtain ⟨p1, r1, rfl, h1p, h1q⟩ := split_len 20 26 h0q
                      obtain ⟨v20, v21, v22, v23, v24, v25, v26, v27, v28, v29, v30, v31, v32, v33, v34, v35, v36, v37, v38, v39, rfl⟩ := list_of20 h1p
                      obtain ⟨p2, r2, rfl, h2p, h2q⟩ := split_len 20 6 h1q
                      obtain ⟨v40, v41, v42, v43, v44, v45, v46, v47, v48, v49, v50, v51, v52, v53, v54, v55, v56, v57, v58, v59, rfl⟩ := list_of20 h2p
                      obtain ⟨v60, v61, v62, v63, v64, v65, rfl⟩ := list_of6 h2q
                      clear hx hv he hV hzA
                      rw [hA]
                      clear hA
                      simp only [List.take_succ_cons, List.take_zero, List.drop_succ_cons, List.drop_zero, List.cons_append, List.nil_append]
                      go_wp2_with fail
                      go_meet
                      exact ⟨rfl, rfl⟩
                    case rest =>
                      obtain ⟨rfl, hwc⟩ := hcut
                      subst hwc
                      by_cases e : netR y0 y1 f t n2 n4 q fm tm x3 wb
                      · rw [tf_yes e]
                        have HS : Hid (waysP bs ws (i + 1)) := Hid.intro (waysP_succ hlx HALL.out (HWQ.out.2 e))
                        clear e
                        go_wp2
                        go_roundw
                        case rel => exact ⟨t + 1, i + 1, by omega, by go_num, by go_num, HE.out, HS.out, HB2.out.1, HB2.out.2.2⟩
                        case measure => simp [intOf]; omega
                      · rw [tf_no e]
                        have HN : Hid (¬ goodN bs ws) := Hid.intro (fun g => e (HWQ.out.1 (g.2.2.2 i hlx hlx)))
                        clear e
                        go_wp2
                        go_ret
                        exact ⟨goodN_no HN.out, below_next HWR.out HB2.out.2.2⟩
end Go.Proofs.Ytcklpcdgckkahaa
