/- The contract of the specification's VectorOf. -/
import Derived.Test.YtjophhiccbkpjaaVcP
namespace Go.Proofs.Ytjophhiccbkpjaa
open Go.RowKit
set_option linter.unusedVariables false

set_option maxRecDepth 100000 in
set_option maxHeartbeats 4000000 in
theorem specVectorOf_any (a : Option Addr) (n cap : Nat) (K P M : Nat → Int) (w : World) (hn : n ≤ 1048576) (hcap : n ≤ cap) (hs : Sl w a n 3 (evF K P M)) :
    Calls Try.prog 22 #[.slice a n cap] w fun r w' => VoPost K P M n w r w' := by
  have HS : Hid (Sl w a n 3 (evF K P M)) := hs
  clear hs
  obtain ⟨i0, hi, hz0, hzs, hz2⟩ := info_parts info_clock
  obtain ⟨j0, hj, hy0, hy1, hy2⟩ := info_parts info_int
  go_enter Try.func22, Try.ntmps22
  go_wp2_with fail
  refine (specGoodEvents_any _ _ _ K P M _ hn hcap HS.out).mono ?_
  rintro r w1 ⟨rfl, hb1⟩
  have HB1 : Hid (Below w.heap.size w w1) := hb1
  clear hb1
  cases hg : goodE K P M n
  · have HN : Hid (goodE K P M n = false) := hg
    go_wp2
    exact bodyPost_ret (v := .tuple #[.slice none 0 0, .bool false]) (by simp [results, Try.results22, go_sem]) rfl (vo_no HN.out HB1.out)
  have HG : Hid (goodE K P M n = true) := hg
  obtain ⟨h60, hev⟩ := good_ev hg
  have HE : Hid (∀ i, i < n → evOk K P M i = true) := hev
  clear hg hev
  go_wp2
  go_loopw [17, 4] (fun i v wr => ∃ k : Nat, k ≤ n ∧ i = .int .i64 k ∧ ClkB wr w.heap.size v k (fun i p => vc K P M (i + 1) p) ∧ (∀ j, v.ownBlock = some j → j < wr.heap.size) ∧ Below w.heap.size w wr) (fun i _ _ => n - (intOf i).toNat)
  case atStart => exact ⟨0, Nat.zero_le _, rfl, ClkB.nil _ _ _, (fun j hj => by simp [Value.ownBlock] at hj), HB1.out⟩
  case round =>
    obtain ⟨k, hk, rfl, hC, hO, hB⟩ := hrel
    clear HB1
    by_cases hlt : k < n
    · have hlt' : (k : Int) < (n : Int) := by omega
      obtain ⟨wo, hwo⟩ : ∃ x, x = wr := ⟨wr, rfl⟩
      subst hwo
      rcases HS.out.kept hB with h | ⟨b, off, rfl, hbs, hEl⟩
      · omega
      obtain ⟨c0, c1, c2⟩ := ev_cells hEl hlt
      obtain ⟨⟨q, hq, hq6⟩, _⟩ := ev_kind (HE.out k hlt)
      have hq6' : (q : Int) < 6 := by omega
      rw [hq] at c1
      obtain ⟨hh, cp, h1, h2, h3⟩ := hC
      have HQ : Hid (P k = (q : Int)) := hq
      have HL : Hid (wo.ownsRow w.heap.size 36 1 u4 k (slL hh cp k) ∧ (∀ i, i < k → w.heap.size ≤ hh i ∧ Vec wo (hh i) (fun p => vc K P M (i + 1) p)) ∧ (∀ i j, i < j → j < k → hh i < hh j) ∧ (∀ j, u4.ownBlock = some j → j < wo.heap.size) ∧ Below w.heap.size w wo) := ⟨h1, h2, h3, hO, hB⟩
      have hz : w.heap.size ≤ wo.heap.size := hB.size
      clear h1 h2 h3 hO hB hEl hq
      go_wp2_with (at_make; refine wpList_make_full _ rfl (.const (.int .i64 6)) (.const (.int .i64 6)) 25 rfl (wo.heap.size + 1) 3 j0 (.int .i64 0) 1 Try.underlying25 hj hy0 hy1 .i64 .i64 _ _ 6 rfl rfl rfl rfl (by rw [hy2]; omega) (by unfold maxLen; omega) (by simp) ?_; intro wm hown hgrow)
      have hVm : Vec wm (wo.heap.size + 1) (fun _ => 0) := vec_made (by simpa using hown)
      have hbm : Below wo.heap.size wo wm := ((Below.refl wo.heap.size wo).alloc (Nat.le_refl _) _).grown hgrow (by simp) (fun k hk => by cases hk)
      have hEm : Ev1 wm wo.heap.size (K k) q (M k) := by
        have h0 := Ev1.new wo (K k) q (M k) 49
        have e := hgrow.block wo.heap.size (by simp) (by simp)
        exact ⟨(World.cell?_of_block (a := ⟨wo.heap.size, 0, none⟩) e).trans h0.1, (World.cell?_of_block (a := ⟨wo.heap.size, 1, none⟩) e).trans h0.2.1, (World.cell?_of_block (a := ⟨wo.heap.size, 2, none⟩) e).trans h0.2.2.1, Nat.lt_of_lt_of_le h0.2.2.2 hgrow.size⟩
      have HMm : Hid (Vec wm (wo.heap.size + 1) (fun _ => 0) ∧ Below wo.heap.size wo wm ∧ Ev1 wm wo.heap.size (K k) q (M k)) := ⟨hVm, hbm, hEm⟩
      clear hown hgrow hVm hbm hEm c0 c1 c2
      go_wp2_with fail
      refine (causes_any _ _ _ k K P M _ hn hcap hlt (HS.out.kept (below_next HL.out.2.2.2.2 HMm.out.2.1))).mono ?_
      rintro r w2 ⟨rfl, hb2⟩
      have H2 : Hid (Vec w2 (wo.heap.size + 1) (fun _ => 0) ∧ Below wo.heap.size wo w2 ∧ Ev1 w2 wo.heap.size (K k) q (M k)) := ⟨HMm.out.1.below hb2 HMm.out.1.2, HMm.out.2.1.trans (hb2.mono HMm.out.2.1.size), HMm.out.2.2.next hb2⟩
      clear hb2 HMm
      obtain ⟨o, ho⟩ : ∃ o, o = own P k := ⟨_, rfl⟩
      obtain ⟨s, hs⟩ : ∃ s, s = snt K M k := ⟨_, rfl⟩
      have hok : o ≤ k := by rw [ho]; exact own_le P k
      have hsk : s ≤ k := by rw [hs]; exact snt_le K M k
      obtain ⟨vo, hvo⟩ : ∃ v, v = vc K P M o := ⟨_, rfl⟩
      obtain ⟨vs, hvs⟩ : ∃ v, v = vc K P M s := ⟨_, rfl⟩
      have HX : Hid (vo = vc K P M o ∧ vs = vc K P M s) := ⟨hvo, hvs⟩
      have HXb : Hid (∀ i, 0 ≤ vo i ∧ 0 ≤ vs i ∧ vo i ≤ 60 ∧ vs i ≤ 60) := fun i => by
        rw [hvo, hvs]
        have h1 := vc_bd K P M o i
        have h2 := vc_bd K P M s i
        omega
      have HU : Hid (∀ p, vc K P M (k + 1) p = max (vo p) (vs p) + (if p = q then 1 else 0)) := fun p => by
        rw [vc_succ, ← ho, ← hs, ← hvo, ← hvs, HQ.out]
        congr 1
        by_cases e : p = q
        · subst e; simp
        · have : ¬ ((q : Int) = (p : Int)) := by omega
          simp [e, this]
      rw [← ho, ← hs]
      clear ho hs hvo hvs
      obtain ⟨p1, hp1⟩ : ∃ p, p = (o : Int) - 1 := ⟨_, rfl⟩
      obtain ⟨p2, hp2⟩ : ∃ p, p = (s : Int) - 1 := ⟨_, rfl⟩
      rw [← hp1, ← hp2]
      have HP : Hid (p1 = (o : Int) - 1 ∧ p2 = (s : Int) - 1) := ⟨hp1, hp2⟩
      clear hp1 hp2
      have HA : Hid (∀ c : Nat, c < k → ∃ g cap4 hh0 cp0, u4 = .slice (some ⟨g, 0, none⟩) k cap4 ∧ w2.cell? ⟨g, c, none⟩ = some (.slice (some ⟨hh0, 0, none⟩) 6 cp0) ∧ g < w2.heap.size ∧ Vec w2 hh0 (fun p => vc K P M (c + 1) p)) := fun c hc => by
        have h1 := own_keep HL.out.1 H2.out.2.1
        obtain ⟨g, cap, e⟩ := Go.Joins.ownsRow_form h1 (by omega)
        rw [e] at h1
        refine ⟨g, cap, hh c, cp c, e, ?_, (h1.lt g rfl).2, (HL.out.2.1 c hc).2.below H2.out.2.1 (HL.out.2.1 c hc).2.2⟩
        rw [World.ownsRow.cellAt h1 c (by simpa using hc)]; simp [slL, hc]
      obtain ⟨WL, hWL⟩ : ∃ z, z = w2.alloc (.cells #[.int .i64 p1, .int .i64 p2] 3) := ⟨_, rfl⟩
      have HWL : Hid (WL = w2.alloc (.cells #[.int .i64 p1, .int .i64 p2] 3) ∧ Below w2.heap.size w2 WL) := ⟨hWL, by rw [hWL]; exact Go.Joins.below_alloc1 _ _⟩
      have hl0 : WL.cell? ⟨w2.heap.size, 0, none⟩ = some (.int .i64 p1) := by rw [hWL]; simp
      have hl1 : WL.cell? ⟨w2.heap.size, 1, none⟩ = some (.int .i64 p2) := by rw [hWL]; simp
      have hlz : w2.heap.size < WL.heap.size := by rw [hWL]; simp
      go_wp2
      rw [← hWL]
      clear hWL
      go_loopw [33, 7] (fun i v wr => ∃ j : Nat, j ≤ 2 ∧ i = .int .i64 j ∧ ∃ ga ca, v = .slice (some ⟨ga, 0, none⟩) 6 ca ∧ wo.heap.size < ga ∧ Vec wr ga (accV vo vs j) ∧ Below WL.heap.size WL wr) (fun i _ _ => 2 - (intOf i).toNat)
      case atStart => exact ⟨0, by omega, rfl, wo.heap.size + 1, 6, rfl, by omega, (H2.out.1.below HWL.out.2 H2.out.1.2).congr (fun _ _ => rfl), Below.refl _ _⟩
      case round =>
        obtain ⟨j, hj, rfl, ga, ca, rfl, hga, hVa, hBx⟩ := hrel
        have hc0 := (hBx.cell (p := ⟨w2.heap.size, 0, none⟩) hlz).trans hl0
        have hc1 := (hBx.cell (p := ⟨w2.heap.size, 1, none⟩) hlz).trans hl1
        have hlx : w2.heap.size < wr.heap.size := Nat.lt_of_lt_of_le hlz hBx.size
        have hj3 : j = 0 ∨ j = 1 ∨ j = 2 := by omega
        rcases hj3 with rfl | rfl | rfl
        · rcases Nat.eq_zero_or_pos o with h0 | h0
          · have hpm : p1 = -1 := by have := HP.out.1; omega
            subst hpm
            have HZ : Hid (∀ i, i < 6 → accV vo vs 0 i = accV vo vs 1 i) := fun i _ => by
              have e : vo i = 0 := by rw [HX.out.1, h0]; exact vc_zero K P M i
              have b := HXb.out i
              simp only [accV]; omega
            have HV2 : Hid (Vec wr ga (accV vo vs 1) ∧ Below WL.heap.size WL wr) := ⟨hVa.congr HZ.out, hBx⟩
            clear hVa hBx
            go_wp2
            go_roundw
            case rel => exact ⟨1, by omega, by go_num, ga, ca, rfl, hga, HV2.out⟩
            case measure => simp [intOf]
          · obtain ⟨c, hc⟩ : ∃ c, o = c + 1 := ⟨o - 1, by omega⟩
            have hpm : p1 = (c : Int) := by have := HP.out.1; omega
            have hck : (c : Int) < (k : Int) := by omega
            obtain ⟨g, cap4, hh0, cp0, rfl, eg, hgl, hEl⟩ := HA.out c (by omega)
            have hbW : Below w2.heap.size w2 wr := HWL.out.2.trans (hBx.mono HWL.out.2.size)
            have c1 := (hbW.cell (p := ⟨g, c, none⟩) hgl).trans eg
            have hVc := hEl.below hbW hEl.2
            have hgx : g < wr.heap.size := Nat.lt_of_lt_of_le hgl hbW.size
            subst hpm
            have HV2 : Hid (Vec wr ga (accV vo vs 0) ∧ Vec wr hh0 (fun p => vc K P M (c + 1) p) ∧ Below WL.heap.size WL wr) := ⟨hVa, hVc, hBx⟩
            clear hVa hVc hBx eg hEl hbW
            go_wp2_with fail
            refine (l2MergeV_any ga hh0 (accV vo vs 0) (fun p => vc K P M (c + 1) p) ca cp0 _ HV2.out.1 HV2.out.2.1).mono ?_
            rintro r w5 ⟨⟨ga5, ca5, rfl, hg5, hV5⟩, hb5⟩
            have HF : Hid (Vec w5 ga5 (accV vo vs 1) ∧ Below WL.heap.size WL w5 ∧ wo.heap.size < ga5) := by
              refine ⟨hV5.congr (fun i _ => ?_), HV2.out.2.2.trans (hb5.mono HV2.out.2.2.size), by have := HV2.out.2.2.size; have := H2.out.2.1.size; omega⟩
              have e : vo i = vc K P M (c + 1) i := by rw [HX.out.1, hc]
              have b := HXb.out i
              simp only [accV]; omega
            clear hV5 hb5 hg5 HV2 c1
            go_wp2
            go_roundw
            case rel => exact ⟨1, by omega, by go_num, ga5, ca5, rfl, HF.out.2.2, HF.out.1, HF.out.2.1⟩
            case measure => simp [intOf]
        · rcases Nat.eq_zero_or_pos s with h0 | h0
          · have hpm : p2 = -1 := by have := HP.out.2; omega
            subst hpm
            have HZ : Hid (∀ i, i < 6 → accV vo vs 1 i = accV vo vs 2 i) := fun i _ => by
              have e : vs i = 0 := by rw [HX.out.2, h0]; exact vc_zero K P M i
              have b := HXb.out i
              simp only [accV]; omega
            have HV2 : Hid (Vec wr ga (accV vo vs 2) ∧ Below WL.heap.size WL wr) := ⟨hVa.congr HZ.out, hBx⟩
            clear hVa hBx
            go_wp2
            go_roundw
            case rel => exact ⟨2, by omega, by go_num, ga, ca, rfl, hga, HV2.out⟩
            case measure => simp [intOf]
          · obtain ⟨c, hc⟩ : ∃ c, s = c + 1 := ⟨s - 1, by omega⟩
            have hpm : p2 = (c : Int) := by have := HP.out.2; omega
            have hck : (c : Int) < (k : Int) := by omega
            obtain ⟨g, cap4, hh0, cp0, rfl, eg, hgl, hEl⟩ := HA.out c (by omega)
            have hbW : Below w2.heap.size w2 wr := HWL.out.2.trans (hBx.mono HWL.out.2.size)
            have c1 := (hbW.cell (p := ⟨g, c, none⟩) hgl).trans eg
            have hVc := hEl.below hbW hEl.2
            have hgx : g < wr.heap.size := Nat.lt_of_lt_of_le hgl hbW.size
            subst hpm
            have HV2 : Hid (Vec wr ga (accV vo vs 1) ∧ Vec wr hh0 (fun p => vc K P M (c + 1) p) ∧ Below WL.heap.size WL wr) := ⟨hVa, hVc, hBx⟩
            clear hVa hVc hBx eg hEl hbW
            go_wp2_with fail
            refine (l2MergeV_any ga hh0 (accV vo vs 1) (fun p => vc K P M (c + 1) p) ca cp0 _ HV2.out.1 HV2.out.2.1).mono ?_
            rintro r w5 ⟨⟨ga5, ca5, rfl, hg5, hV5⟩, hb5⟩
            have HF : Hid (Vec w5 ga5 (accV vo vs 2) ∧ Below WL.heap.size WL w5 ∧ wo.heap.size < ga5) := by
              refine ⟨hV5.congr (fun i _ => ?_), HV2.out.2.2.trans (hb5.mono HV2.out.2.2.size), by have := HV2.out.2.2.size; have := H2.out.2.1.size; omega⟩
              have e : vs i = vc K P M (c + 1) i := by rw [HX.out.2, hc]
              have b := HXb.out i
              simp only [accV]; omega
            clear hV5 hb5 hg5 HV2 c1
            go_wp2
            go_roundw
            case rel => exact ⟨2, by omega, by go_num, ga5, ca5, rfl, HF.out.2.2, HF.out.1, HF.out.2.1⟩
            case measure => simp [intOf]
        · have hbW : Below w2.heap.size w2 wr := HWL.out.2.trans (hBx.mono HWL.out.2.size)
          have hbO : Below wo.heap.size wo wr := H2.out.2.1.trans (hbW.mono H2.out.2.1.size)
          have hc6 := (H2.out.2.2.next hbW).2.1
          have hz6 : wo.heap.size < wr.heap.size := (H2.out.2.2.next hbW).2.2.2
          obtain ⟨X, hX⟩ : ∃ X, X = max (vo q) (vs q) := ⟨_, rfl⟩
          have hX0 : 0 ≤ X ∧ X ≤ 60 := by have := HXb.out q; omega
          have hcq : wr.cell? ⟨ga, q, none⟩ = some (.int .i64 X) := by rw [hX]; exact (hVa.1 q hq6).1
          have hfq := (hVa.1 q hq6).2
          have hgz := hVa.2
          have hV5 : Vec (wr.setCell ⟨ga, q, none⟩ (.int .i64 (X + 1))) ga (vc K P M (k + 1)) := (hVa.set hq6 _).congr (fun p _ => by
            rw [HU.out p]
            by_cases e : p = q
            · subst e; simp [hX]
            · simp [e, accV])
          have hbS : Below wo.heap.size wo (wr.setCell ⟨ga, q, none⟩ (.int .i64 (X + 1))) := hbO.setCell (p := ⟨ga, q, none⟩) (by simp; omega) _
          obtain ⟨W5, hW5⟩ : ∃ z, z = wr.setCell ⟨ga, q, none⟩ (.int .i64 (X + 1)) := ⟨_, rfl⟩
          rw [← hW5] at hV5 hbS
          have HW : Hid (W5.ownsRow w.heap.size 36 1 u4 k (slL hh cp k) ∧ (∀ i, i < k → w.heap.size ≤ hh i ∧ Vec W5 (hh i) (fun p => vc K P M (i + 1) p)) ∧ Below w.heap.size w W5 ∧ Vec W5 ga (vc K P M (k + 1)) ∧ (∀ i, i < k → hh i < ga) ∧ u4.ownBlock ≠ some ga) :=
            ⟨own_keep HL.out.1 hbS, fun i hi => ⟨(HL.out.2.1 i hi).1, (HL.out.2.1 i hi).2.below hbS (HL.out.2.1 i hi).2.2⟩, below_next HL.out.2.2.2.2 hbS, hV5, fun i hi => by have := (HL.out.2.1 i hi).2.2; omega, fun e => by have := HL.out.2.2.2.1 ga e; omega⟩
          have hz5 : wo.heap.size ≤ W5.heap.size := hbS.size
          clear hV5 hbS hbO hbW hVa hBx hc0 hc1 hX
          go_wp2_with (first
            | (at_builtin; refine wpList_append_own _ rfl (.tmp 54) (.tmp 57) 32 rfl w.heap.size 36 i0 (.agg #[.slice none 0 0]) 1 24 Try.underlying32 hi hz0 hzs hz2 rfl (by decide) u4 k (slL hh cp k) rfl (by rw [← hW5]; exact World.ownsRow.alloc HW.out.1 _) ⟨_, 0, none⟩ 1 1 [.slice (some ⟨ga, 0, none⟩) 6 ca] rfl rfl (one_at (by first | rfl | simp) _ _) (by intro z hz; simp at hz; subst hz; rfl) (by unfold maxLen; omega) (by omega) (by simp <;> omega) ?_; intro v4 w4 hown hgrow hnil)
            | go_in)
          rw [← hW5] at hgrow
          have HF : Hid (ClkB w4 w.heap.size v4 (k + 1) (fun i p => vc K P M (i + 1) p) ∧ (∀ j, v4.ownBlock = some j → j < w4.heap.size) ∧ Below w.heap.size w w4) := by
            refine ⟨clk_push HW.out.1 HW.out.2.1 HL.out.2.2.1 HW.out.2.2.2.2.1 HW.out.2.2.2.1 (by omega) HW.out.2.2.2.2.2 (fun p _ => rfl) hown hgrow, fun j hj => (hown.lt j hj).2, (HW.out.2.2.1.alloc HW.out.2.2.1.size _).grown hgrow (by have := HW.out.2.2.1.size; simp at this ⊢; omega) (fun j hj => by have := (HW.out.1.lt j hj).1; omega)⟩
          clear hown hgrow hnil
          go_wp2
          go_roundw
          case rel => exact ⟨k + 1, by omega, by go_num, HF.out⟩
          case measure => simp [intOf]; omega
    · have hkn : k = n := by omega
      subst hkn
      obtain ⟨a4, cap4, rfl, hx⟩ := hC.form
      have HF : Hid (ClkR wr w.heap.size wr.heap.size a4 k (fun i p => vc K P M (i + 1) p) ∧ Below w.heap.size w wr) := ⟨hx, hB⟩
      clear hC hO hB hx
      go_wp2
      exact bodyPost_ret (v := .tuple #[.slice a4 k cap4, .bool true]) (by simp [results, Try.results22, go_sem]) rfl (vo_yes HG.out HF.out.1 HF.out.2)
end Go.Proofs.Ytjophhiccbkpjaa
