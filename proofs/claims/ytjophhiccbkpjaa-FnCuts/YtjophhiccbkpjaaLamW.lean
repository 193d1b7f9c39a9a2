/- The contract of LamportOf: the walk. -/
import Derived.Test.YtjophhiccbkpjaaLamI
namespace Go.Proofs.Ytjophhiccbkpjaa
open Go.RowKit Go.Maps
set_option linter.unusedVariables false

theorem ev_kind {K P M : Nat → Int} {k : Nat} (h : evOk K P M k = true) : (∃ q : Nat, P k = (q : Int) ∧ q < 6) ∧ (K k = 1 ∨ K k = 2 ∨ K k = 3) := by
  simp only [evOk, Bool.and_eq_true] at h
  obtain ⟨h1, h2⟩ := h
  have := inR_iff.1 h1
  refine ⟨⟨(P k).toNat, by omega, by omega⟩, ?_⟩
  by_cases k1 : K k = 1
  · exact Or.inl k1
  · right
    simp [k1] at h2
    rcases h2.2 with h | h
    · exact Or.inl h.1
    · exact Or.inr h.1
theorem good_ev {K P M : Nat → Int} {n : Nat} (h : goodE K P M n = true) : n ≤ 60 ∧ ∀ i, i < n → evOk K P M i = true := by
  simp only [goodE, Bool.and_eq_true, decide_eq_true_eq] at h
  exact ⟨h.1, (allEv_iff K P M n).1 h.2⟩

set_option maxHeartbeats 4000000 in
theorem lamport_any (a : Option Addr) (n cap : Nat) (K P M : Nat → Int) (w : World) (hn : n ≤ 1048576) (hM : ∀ i, i < n → -9223372036854775808 ≤ M i ∧ M i ≤ 9223372036854775807) (hs : Sl w a n 3 (evF K P M)) :
    Calls Try.prog 15 #[.slice a n cap] w fun r w' => LamPost K P M n w r w' := by
  have HM : Hid (∀ i, i < n → -9223372036854775808 ≤ M i ∧ M i ≤ 9223372036854775807) := hM
  have HS : Hid (Sl w a n 3 (evF K P M)) := hs
  clear hs hM
  have hmm := @run_makeMap Try.prog
  obtain ⟨i0, hi, hz0, hz1, hz2⟩ := info_parts info_int
  go_enter Try.func15, Try.ntmps15
  go_wp2_with fail
  refine (goodEvents_any _ _ _ K P M _ hn HM.out HS.out).mono ?_
  rintro r w1 ⟨rfl, hb1⟩
  have HB1 : Hid (Below w.heap.size w w1) := hb1
  have hz : w.heap.size ≤ w1.heap.size := hb1.size
  clear hb1
  cases hg : goodE K P M n
  · have HN : Hid (goodE K P M n = false) := hg
    go_wp2
    exact bodyPost_ret (v := .tuple #[.slice none 0 0, .bool false]) (by simp [results, Try.results15, go_sem]) rfl (lam_no HN.out HB1.out)
  have HG : Hid (goodE K P M n = true) := hg
  obtain ⟨h60, hev⟩ := good_ev hg
  have HE : Hid (∀ i, i < n → evOk K P M i = true) := hev
  clear hg hev
  obtain ⟨g, hgd⟩ : ∃ g, g = w1.heap.size := ⟨_, rfl⟩
  go_wp2_with (at_make; refine wpList_make_own _ rfl (.const (.int .i64 0)) (.tmp 15) 25 rfl (g + 2) 3 i0 (.int .i64 0) 1 Try.underlying25 hi hz0 hz1 .i64 .i64 _ n rfl rfl rfl (by rw [hz2]; omega) (by unfold maxLen; omega) (by simp <;> omega) ?_; intro w2 hown hgrow)
  have hv0 : Vec w2 g (lastN K P M 0) := by
    rw [hgd]
    have := ((Vec.new w1 (fun _ => 0) 73).below (Go.Joins.below_alloc1 _ (.map #[] 0)) (by simp)).grown hgrow (by simp)
    exact this.congr (fun i _ => by simp [lastN, lastB, lam_zero])
  have hm0 : IMap w2 (g + 1) 0 (sentN K P M 0) := by
    rw [hgd]
    have := (IMap.made (w1.alloc (.cells #[.int .i64 0, .int .i64 0, .int .i64 0, .int .i64 0, .int .i64 0, .int .i64 0] 73))).grown hgrow (by simp)
    have := this.congr (f' := sentN K P M 0) (fun m => by simp [sentN, lastB, lam_zero])
    simpa using this
  have hb0 : Below w.heap.size w w2 := ((HB1.out.alloc hz _).alloc (by simp; omega) _).grown hgrow (by simp; omega) (fun k hk => by cases hk)
  have hl0 : w2.ownsRow (g + 2) 3 1 (.slice (some ⟨w1.heap.size + 1 + 1, 0, none⟩) 0 n) 0 (ints (lmV K P M) 0) := by simpa [ints] using hown
  have H0 : Hid (LamS K P M w w2 g 0 (.slice (some ⟨w1.heap.size + 1 + 1, 0, none⟩) 0 n)) := ⟨hv0, hm0, hl0, hb0⟩
  have HGd : Hid (g = w1.heap.size) := hgd
  have hwg : w.heap.size ≤ g := by omega
  rw [← hgd]
  rw [← hgd] at H0
  clear hv0 hm0 hl0 hb0 hown hgrow hmm hgd HB1
  go_wp2
  go_loopw [19, 6] (fun i v wr => ∃ k : Nat, k ≤ n ∧ i = .int .i64 k ∧ LamS K P M w wr g k v) (fun i _ _ => n - (intOf i).toNat)
  case atStart => exact ⟨0, Nat.zero_le _, rfl, H0.out⟩
  case round =>
    obtain ⟨k, hk, rfl, hL⟩ := hrel
    clear H0
    by_cases hlt : k < n
    · rcases HS.out.below hL.2.2.2 (Nat.le_refl _) with h | ⟨b, off, rfl, hbs, hEl⟩
      · omega
      have hlt' : (k : Int) < (n : Int) := by omega
      obtain ⟨⟨q, hp, hq⟩, hkd⟩ := ev_kind (HE.out k hlt)
      obtain ⟨c0, c1, c2⟩ := ev_cells hEl hlt
      rw [hp] at c1
      have hv := (hL.1.1 q hq).1
      have hf := (hL.1.1 q hq).2
      have hgl := hL.1.2
      have hil := hL.2.1.lt
      have hq' : (q : Int) < 6 := by omega
      have hx0 : 0 ≤ lastN K P M k q ∧ lastN K P M k q ≤ 60 := by
        have h1 := lam_bd K P M (lastB (fun j => P j == (q : Int)) k)
        have h2 := lastB_le (fun j => P j == (q : Int)) k
        simp only [lastN]; omega
      have HP : Hid (P k = (q : Int)) := hp
      have HL : Hid (LamS K P M w wr g k u6) := hL
      have hkey : keyOf Try.prog 3 (.int .i64 (M k)) = some (.int .i64 (M k)) := keyOf_int_mk Try.underlying3 (WalkArith.wf_i64 (by have := HM.out k hlt; omega))
      clear hEl hL hp
      obtain ⟨x, hx⟩ : ∃ x, x = lastN K P M k q := ⟨_, rfl⟩
      rw [← hx] at hv hx0
      have HX : Hid (x = lastN K P M k q) := hx
      clear hx
      have hs : w.heap.size ≤ wr.heap.size := HL.out.2.2.2.size
      rcases hkd with h1 | h2 | h3
      · have e3 : (K k == 3) = false := by simp [h1]
        have e2 : (K k == 2) = false := by simp [h1]
        have HK : Hid (K k = 1) := h1
        clear h1
        obtain ⟨y, hy⟩ : ∃ y, y = x + 1 := ⟨_, rfl⟩
        have HY : Hid (y = lam K P M (k + 1)) := by show y = _; rw [hy, HX.out]; exact (lam_else HP.out (by rw [HK.out]; omega)).symm
        have hMid := lam_mid (o := .cells #[.int .i64 (K k), .int .i64 q, .int .i64 (M k)] 49) HL.out hwg HP.out hq HY.out
        have HMid : Hid (Vec ((wr.setCell ⟨g, q, none⟩ (.int .i64 y)).alloc (.cells #[.int .i64 (K k), .int .i64 q, .int .i64 (M k)] 49)) g (lastN K P M (k + 1)) ∧ IMap ((wr.setCell ⟨g, q, none⟩ (.int .i64 y)).alloc (.cells #[.int .i64 (K k), .int .i64 q, .int .i64 (M k)] 49)) (g + 1) k (sentN K P M k) ∧ ((wr.setCell ⟨g, q, none⟩ (.int .i64 y)).alloc (.cells #[.int .i64 (K k), .int .i64 q, .int .i64 (M k)] 49)).ownsRow (g + 2) 3 1 u6 k (ints (lmV K P M) k) ∧ Below w.heap.size w ((wr.setCell ⟨g, q, none⟩ (.int .i64 y)).alloc (.cells #[.int .i64 (K k), .int .i64 q, .int .i64 (M k)] 49))) := hMid
        clear hMid
        subst hy
        go_wp2_with (first
          | (at_builtin; refine wpList_append_own _ rfl (.tmp 49) (.tmp 51) 25 rfl (g + 2) 3 i0 (.int .i64 0) 1 8 Try.underlying25 hi hz0 hz1 hz2 rfl (by decide) u6 k (ints (lmV K P M) k) rfl (World.ownsRow.alloc HMid.out.2.2.1 _) ⟨_, 0, none⟩ 1 1 [.int .i64 (x + 1)] rfl rfl (one_at (by simp) _ _) (by intro u hu; simp at hu; subst hu; rfl) (by unfold maxLen; omega) (by omega) (by simp <;> omega) ?_; intro v4 w4 hown hgrow hnil)
          | go_in)
        have HF : Hid (LamS K P M w w4 g (k + 1) v4) := lam_end hwg HMid.out.1 ((HMid.out.2.1.mono (Nat.le_succ _)).congr (fun m => (sentN_keep (by rw [HK.out]; omega) m).symm)) HMid.out.2.2.1 HMid.out.2.2.2 HY.out hown hgrow
        clear hown hgrow hnil
        go_wp2
        go_roundw
        case rel => exact ⟨k + 1, by omega, by go_num, HF.out⟩
        case measure => simp [intOf]; omega
      · have e3 : (K k == 3) = false := by simp [h2]
        have e2 : (K k == 2) = true := by simp [h2]
        have HK : Hid (K k = 2) := h2
        clear h2
        obtain ⟨y, hy⟩ : ∃ y, y = x + 1 := ⟨_, rfl⟩
        have HY : Hid (y = lam K P M (k + 1)) := by show y = _; rw [hy, HX.out]; exact (lam_else HP.out (by rw [HK.out]; omega)).symm
        have HMid : Hid (Vec ((wr.setCell ⟨g, q, none⟩ (.int .i64 y)).alloc (.cells #[.int .i64 (K k), .int .i64 q, .int .i64 (M k)] 49)) g (lastN K P M (k + 1)) ∧ IMap ((wr.setCell ⟨g, q, none⟩ (.int .i64 y)).alloc (.cells #[.int .i64 (K k), .int .i64 q, .int .i64 (M k)] 49)) (g + 1) k (sentN K P M k) ∧ ((wr.setCell ⟨g, q, none⟩ (.int .i64 y)).alloc (.cells #[.int .i64 (K k), .int .i64 q, .int .i64 (M k)] 49)).ownsRow (g + 2) 3 1 u6 k (ints (lmV K P M) k) ∧ Below w.heap.size w ((wr.setCell ⟨g, q, none⟩ (.int .i64 y)).alloc (.cells #[.int .i64 (K k), .int .i64 q, .int .i64 (M k)] 49))) := lam_mid HL.out hwg HP.out hq HY.out
        obtain ⟨D, hoD, hfD⟩ := HMid.out.2.1
        have HD : Hid (((wr.setCell ⟨g, q, none⟩ (.int .i64 y)).alloc (.cells #[.int .i64 (K k), .int .i64 q, .int .i64 (M k)] 49)).ownsMap Try.prog 3 (plainElem Try.prog 3) (g + 1) k D ∧ ∀ m, D.atKey (.int .i64 m) (.lit (.int .i64 0)) = .lit (.int .i64 (sentN K P M k m))) := ⟨hoD, hfD⟩
        clear hoD hfD
        subst hy
        go_wp2_with (first
          | (at_mapUpdate; refine wpList_mapUpdate_own _ rfl _ _ _ 74 rfl 3 3 keyI Try.underlying74 _ (g + 1) k D rfl HD.out.1 (by unfold maxLen; omega) _ _ _ rfl rfl hkey _ [] (plainElem_int Try.underlying3 (WalkArith.wf_i64 (by omega))) ?_; intro w3 hown1 hgrow1; have H3 : Hid (Vec w3 g (lastN K P M (k + 1)) ∧ IMap w3 (g + 1) (k + 1) (sentN K P M (k + 1)) ∧ w3.ownsRow (g + 2) 3 1 u6 k (ints (lmV K P M) k) ∧ Below w.heap.size w w3) := ⟨HMid.out.1.grown hgrow1 (by simp), IMap.put HD.out.2 HD.out.1.isMap hown1 (fun m => by rw [HY.out]; exact sentN_put HK.out m), own_grown HMid.out.2.2.1 hgrow1 (by omega), HMid.out.2.2.2.grown hgrow1 HMid.out.2.2.2.size (fun j hj => by cases hj; omega)⟩; have hs3 : g + 2 ≤ w3.heap.size := (by have := H3.out.2.1.lt; omega); clear hown1 hgrow1)
          | (at_builtin; refine wpList_append_own _ rfl (.tmp 49) (.tmp 51) 25 rfl (g + 2) 3 i0 (.int .i64 0) 1 8 Try.underlying25 hi hz0 hz1 hz2 rfl (by decide) u6 k (ints (lmV K P M) k) rfl (World.ownsRow.alloc H3.out.2.2.1 _) ⟨_, 0, none⟩ 1 1 [.int .i64 (x + 1)] rfl rfl (one_at (by first | rfl | simp) _ _) (by intro u hu; simp at hu; subst hu; rfl) (by unfold maxLen; omega) (by omega) (by simp <;> omega) ?_; intro v4 w4 hown hgrow hnil)
          | go_in)
        have HF : Hid (LamS K P M w w4 g (k + 1) v4) := lam_end hwg H3.out.1 H3.out.2.1 H3.out.2.2.1 H3.out.2.2.2 HY.out hown hgrow
        clear hown hgrow hnil
        go_wp2
        go_roundw
        case rel => exact ⟨k + 1, by omega, by go_num, HF.out⟩
        case measure => simp [intOf]; omega
      · have e3 : (K k == 3) = true := by simp [h3]
        have e2 : (K k == 2) = false := by simp [h3]
        have HK : Hid (K k = 3) := h3
        clear h3
        obtain ⟨D, hoD, hfD⟩ := HL.out.2.1
        have HD : Hid (wr.ownsMap Try.prog 3 (plainElem Try.prog 3) (g + 1) k D ∧ ∀ m, D.atKey (.int .i64 m) (.lit (.int .i64 0)) = .lit (.int .i64 (sentN K P M k m))) := ⟨hoD, hfD⟩
        clear hoD hfD
        have hz0' : 0 ≤ sentN K P M k (M k) ∧ sentN K P M k (M k) ≤ 60 := by
          have h1 := lam_bd K P M (lastB (fun j => K j == 2 && M j == M k) k)
          have h2 := lastB_le (fun j => K j == 2 && M j == M k) k
          simp only [sentN]; omega
        obtain ⟨z, hz'⟩ : ∃ z, z = sentN K P M k (M k) := ⟨_, rfl⟩
        rw [← hz'] at hz0'
        have HZ : Hid (z = sentN K P M k (M k)) := hz'
        clear hz'
        by_cases hm : x < z
        · obtain ⟨y, hy⟩ : ∃ y, y = z + 1 := ⟨_, rfl⟩
          have HY : Hid (y = lam K P M (k + 1)) := by show y = _; rw [hy, lam_take HP.out HK.out, ← HX.out, ← HZ.out]; omega
          have HMid : Hid (Vec ((wr.setCell ⟨g, q, none⟩ (.int .i64 y)).alloc (.cells #[.int .i64 (K k), .int .i64 q, .int .i64 (M k)] 49)) g (lastN K P M (k + 1)) ∧ IMap ((wr.setCell ⟨g, q, none⟩ (.int .i64 y)).alloc (.cells #[.int .i64 (K k), .int .i64 q, .int .i64 (M k)] 49)) (g + 1) k (sentN K P M k) ∧ ((wr.setCell ⟨g, q, none⟩ (.int .i64 y)).alloc (.cells #[.int .i64 (K k), .int .i64 q, .int .i64 (M k)] 49)).ownsRow (g + 2) 3 1 u6 k (ints (lmV K P M) k) ∧ Below w.heap.size w ((wr.setCell ⟨g, q, none⟩ (.int .i64 y)).alloc (.cells #[.int .i64 (K k), .int .i64 q, .int .i64 (M k)] 49))) := lam_mid HL.out hwg HP.out hq HY.out
          subst hy
          go_wp2_with (first
            | (at_lookup; refine wpList_lookup_own_int _ rfl _ _ 74 rfl 3 3 .i64 keyI Try.underlying74 Try.underlying3 (zeroI _) (g + 1) k D rfl (HD.out.1.alloc _) _ _ rfl hkey ?_; intro c hat hwc; have hc : z = c := (by have := (HD.out.2 (M k)).symm.trans hat; rw [← HZ.out] at this; simpa using this); subst hc; clear hat hwc)
            | (at_builtin; refine wpList_append_own _ rfl (.tmp 49) (.tmp 51) 25 rfl (g + 2) 3 i0 (.int .i64 0) 1 8 Try.underlying25 hi hz0 hz1 hz2 rfl (by decide) u6 k (ints (lmV K P M) k) rfl (World.ownsRow.alloc HMid.out.2.2.1 _) ⟨_, 0, none⟩ 1 1 [.int .i64 (z + 1)] rfl rfl (one_at (by first | rfl | simp) _ _) (by intro u hu; simp at hu; subst hu; rfl) (by unfold maxLen; omega) (by omega) (by simp <;> omega) ?_; intro v4 w4 hown hgrow hnil)
            | go_in)
          have HF : Hid (LamS K P M w w4 g (k + 1) v4) := lam_end hwg HMid.out.1 ((HMid.out.2.1.mono (Nat.le_succ _)).congr (fun m => (sentN_keep (by rw [HK.out]; omega) m).symm)) HMid.out.2.2.1 HMid.out.2.2.2 HY.out hown hgrow
          clear hown hgrow hnil
          go_wp2
          go_roundw
          case rel => exact ⟨k + 1, by omega, by go_num, HF.out⟩
          case measure => simp [intOf]; omega
        · obtain ⟨y, hy⟩ : ∃ y, y = x + 1 := ⟨_, rfl⟩
          have HY : Hid (y = lam K P M (k + 1)) := by show y = _; rw [hy, lam_take HP.out HK.out, ← HX.out, ← HZ.out]; omega
          have HMid : Hid (Vec ((wr.setCell ⟨g, q, none⟩ (.int .i64 y)).alloc (.cells #[.int .i64 (K k), .int .i64 q, .int .i64 (M k)] 49)) g (lastN K P M (k + 1)) ∧ IMap ((wr.setCell ⟨g, q, none⟩ (.int .i64 y)).alloc (.cells #[.int .i64 (K k), .int .i64 q, .int .i64 (M k)] 49)) (g + 1) k (sentN K P M k) ∧ ((wr.setCell ⟨g, q, none⟩ (.int .i64 y)).alloc (.cells #[.int .i64 (K k), .int .i64 q, .int .i64 (M k)] 49)).ownsRow (g + 2) 3 1 u6 k (ints (lmV K P M) k) ∧ Below w.heap.size w ((wr.setCell ⟨g, q, none⟩ (.int .i64 y)).alloc (.cells #[.int .i64 (K k), .int .i64 q, .int .i64 (M k)] 49))) := lam_mid HL.out hwg HP.out hq HY.out
          subst hy
          go_wp2_with (first
            | (at_lookup; refine wpList_lookup_own_int _ rfl _ _ 74 rfl 3 3 .i64 keyI Try.underlying74 Try.underlying3 (zeroI _) (g + 1) k D rfl (HD.out.1.alloc _) _ _ rfl hkey ?_; intro c hat hwc; have hc : z = c := (by have := (HD.out.2 (M k)).symm.trans hat; rw [← HZ.out] at this; simpa using this); subst hc; clear hat hwc)
            | (at_builtin; refine wpList_append_own _ rfl (.tmp 49) (.tmp 51) 25 rfl (g + 2) 3 i0 (.int .i64 0) 1 8 Try.underlying25 hi hz0 hz1 hz2 rfl (by decide) u6 k (ints (lmV K P M) k) rfl (World.ownsRow.alloc HMid.out.2.2.1 _) ⟨_, 0, none⟩ 1 1 [.int .i64 (x + 1)] rfl rfl (one_at (by first | rfl | simp) _ _) (by intro u hu; simp at hu; subst hu; rfl) (by unfold maxLen; omega) (by omega) (by simp <;> omega) ?_; intro v4 w4 hown hgrow hnil)
            | go_in)
          have HF : Hid (LamS K P M w w4 g (k + 1) v4) := lam_end hwg HMid.out.1 ((HMid.out.2.1.mono (Nat.le_succ _)).congr (fun m => (sentN_keep (by rw [HK.out]; omega) m).symm)) HMid.out.2.2.1 HMid.out.2.2.2 HY.out hown hgrow
          clear hown hgrow hnil
          go_wp2
          go_roundw
          case rel => exact ⟨k + 1, by omega, by go_num, HF.out⟩
          case measure => simp [intOf]; omega
    · have hkn : k = n := by omega
      subst hkn
      obtain ⟨a4, cap4, rfl, hx⟩ := ints_row hL.2.2.1
      have HF : Hid (IntS wr w.heap.size wr.heap.size a4 k (lmV K P M) ∧ Below w.heap.size w wr) := ⟨hx.wide (by omega) (Nat.le_refl _), hL.2.2.2⟩
      clear hL hx
      go_wp2
      exact bodyPost_ret (v := .tuple #[.slice a4 k cap4, .bool true]) (by simp [results, Try.results15, go_sem]) rfl (lam_yes HG.out HF.out.1 HF.out.2)
end Go.Proofs.Ytjophhiccbkpjaa
