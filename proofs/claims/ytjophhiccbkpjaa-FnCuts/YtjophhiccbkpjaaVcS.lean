/- The contracts of the specification's l2Before and AheadOf. -/
import Derived.Test.YtjophhiccbkpjaaVcA
import Derived.Test.YtjophhiccbkpjaaCau
namespace Go.Proofs.Ytjophhiccbkpjaa
open Go.RowKit
set_option linter.unusedVariables false

def boolF (X : Nat → Bool) (i _ : Nat) : Value := .bool (X i)
/-- Block g holds n bools and may be written. -/
def BRow (w : World) (g n : Nat) (X : Nat → Bool) : Prop := (∀ i, i < n → w.cell? ⟨g, i, none⟩ = some (.bool (X i)) ∧ w.frozen? ⟨g, i, none⟩ = false) ∧ g < w.heap.size
theorem BRow.below {B : Nat} {w w' : World} {g n : Nat} {x : Nat → Bool} (h : BRow w g n x) (hb : Below B w w') (hg : g < B) : BRow w' g n x :=
  ⟨fun i hi => ⟨(hb.cell (p := ⟨g, i, none⟩) hg).trans (h.1 i hi).1, (hb.frozen (p := ⟨g, i, none⟩) hg).trans (h.1 i hi).2⟩, Nat.lt_of_lt_of_le h.2 hb.size⟩
theorem BRow.congr {w : World} {g n : Nat} {x y : Nat → Bool} (h : BRow w g n x) (e : ∀ i, i < n → x i = y i) : BRow w g n y :=
  ⟨fun i hi => ⟨by rw [← e i hi]; exact (h.1 i hi).1, (h.1 i hi).2⟩, h.2⟩
theorem BRow.set {w : World} {g n k : Nat} {x : Nat → Bool} (h : BRow w g n x) (hk : k < n) (b : Bool) : BRow (w.setCell ⟨g, k, none⟩ (.bool b)) g n (fun i => if i = k then b else x i) := by
  refine ⟨fun i hi => ⟨?_, by simpa using (h.1 i hi).2⟩, by simpa using h.2⟩
  by_cases e : i = k
  · subst e; simp only [if_true]; exact World.cell?_setCell_same _ _ _ (h.1 i hi).1
  · rw [World.cell?_setCell_other _ _ _ _ (addr_ne (fun q => e q.symm))]; simp only [if_neg e]; exact (h.1 i hi).1
theorem info_bool : (Try.prog.info? 4).map (fun i => (i.zero, i.size, i.bytes)) = some (some (.bool false), 1, 1) := by kernel_rfl
theorem brow_made {w : World} {g n : Nat} {e : TypeId} {cap : Nat} (h : w.ownsRow g e 1 (.slice (some ⟨g, 0, none⟩) n cap) n (madeCells (Value.bool false).cells (n * 1)).toList) : BRow w g n (fun _ => false) := by
  have e0 : (madeCells (Value.bool false).cells (n * 1)).toList = List.replicate n (.bool false) := by rw [Nat.mul_one]; exact toList_madeCells_one _ _
  rw [e0] at h
  have hl := (h.lt g rfl).2
  refine ⟨fun i hi => ⟨?_, ?_⟩, hl⟩
  · rw [World.ownsRow.cellAt h i (by simpa using hi)]; simp [hi]
  · obtain ⟨_, h | ⟨g', cap', cur, hv, hb, hh, hn, hm, hs, ht⟩⟩ := h
    · exact absurd h.1 (by simp)
    · simp only [Value.slice.injEq, Option.some.injEq, Addr.mk.injEq, and_true, true_and] at hv
      obtain ⟨rfl, rfl⟩ := hv
      exact Go.Joins.unfrozen_of_block hh i
theorem mkd_step0 {K P M : Nat → Int} {j d t : Nat} (h : mkd K P M j d (j - d) = false) : mkd K P M j (d + 1) t = mkd K P M j d t := by simp [mkd, h]
theorem mkd_step1 {K P M : Nat → Int} {j d t : Nat} (h : mkd K P M j d (j - d) = true) : mkd K P M j (d + 1) t = (mkd K P M j d t || (decide (own P (j - d) = t + 1) || decide (snt K M (j - d) = t + 1))) := by simp [mkd, h]
theorem mkd_set0 {K P M : Nat → Int} {j d : Nat} (h : mkd K P M j d (j - d) = true) {o s : Nat} (ho : own P (j - d) = o) (hs : snt K M (j - d) = s) (t : Nat) : mkd K P M j (d + 1) t = if 0 < s ∧ t = s - 1 then true else if 0 < o ∧ t = o - 1 then true else mkd K P M j d t := by
  rw [mkd_step1 h, ho, hs]
  by_cases h1 : s = t + 1
  · rw [if_pos (by omega)]; simp [h1]
  · rw [if_neg (by omega)]
    by_cases h2 : o = t + 1
    · rw [if_pos (by omega)]; simp [h2]
    · rw [if_neg (by omega)]; simp [h1, h2]

set_option maxRecDepth 100000 in
set_option maxHeartbeats 4000000 in
theorem before_any (a : Option Addr) (n cap j : Nat) (K P M : Nat → Int) (w : World) (hn : n ≤ 1048576) (hcap : n ≤ cap) (hj : j < n) (hs : Sl w a n 3 (evF K P M)) :
    Calls Try.prog 58 #[.slice a n cap, .int .i64 j] w fun r w' => r = .returned (.slice (some ⟨w.heap.size, 0, none⟩) n n) ∧ BRow w' w.heap.size n (fun i => ahd K P M i j) ∧ Below w.heap.size w w' := by
  have HS : Hid (Sl w a n 3 (evF K P M)) := hs
  clear hs
  obtain ⟨i0, hi, hz0, hz1, hz2⟩ := info_parts info_bool
  have hj' : (j : Int) < (n : Int) := by omega
  go_enter Try.func58, Try.ntmps58
  go_wp2_with (at_make; refine wpList_make_full _ rfl (.tmp 10) (.tmp 10) 50 rfl w.heap.size 4 i0 (.bool false) 1 Try.underlying50 hi hz0 hz1 .i64 .i64 _ _ n rfl rfl rfl rfl (by rw [hz2]; omega) (by unfold maxLen; omega) (Nat.le_refl _) ?_; intro w1 hown hgrow; have hR := brow_made hown; have hc := (hR.1 j hj).1; have hf := (hR.1 j hj).2; have hg1 := hR.2; have H1 : Hid (BRow w1 w.heap.size n (fun _ => false) ∧ Below w.heap.size w w1) := ⟨hR, (Below.refl _ _).grown hgrow (Nat.le_refl _) (fun k hk => by cases hk)⟩; clear hown hgrow hR)
  clear hi hz0 hz1 hz2
  go_loopw [6] (fun kk wr => ∃ d : Nat, d ≤ j + 1 ∧ kk = .int .i64 ((j : Int) - d) ∧ BRow wr w.heap.size n (mkd K P M j d) ∧ Below w.heap.size w wr) (fun kk _ => ((intOf kk) + 1).toNat)
  case atStart => exact ⟨0, by omega, by simp, (H1.out.1.set hj true).congr (fun i _ => by by_cases e : i = j <;> simp [mkd, e]), H1.out.2.setCell (p := ⟨w.heap.size, j, none⟩) (by simp) _⟩
  case round =>
    obtain ⟨d, hd, rfl, hR, hB⟩ := hrel
    clear H1 hc hf hg1
    by_cases hlt : d ≤ j
    · obtain ⟨k, hk⟩ : ∃ k, k = j - d := ⟨_, rfl⟩
      have e1 : ((j : Int) - (d : Int)) = (k : Int) := by omega
      have hkn : (k : Int) < (n : Int) := by omega
      rw [e1]
      have hkd : k + d = j := by omega
      have HK : Hid (k = j - d) := hk
      clear hk e1
      have hc := (hR.1 k (by omega)).1
      have hf := (hR.1 k (by omega)).2
      have hgl := hR.2
      have HR : Hid (BRow wr w.heap.size n (mkd K P M j d) ∧ Below w.heap.size w wr) := ⟨hR, hB⟩
      clear hR hB
      cases hm : mkd K P M j d k
      · rw [hm] at hc
        go_wp2
        go_roundw
        case rel => exact ⟨d + 1, by omega, by go_num, HR.out.1.congr (fun t _ => (mkd_step0 (by rw [← HK.out]; exact hm)).symm), HR.out.2⟩
        case measure => simp [intOf]
      · rw [hm] at hc
        have HD : Hid (mkd K P M j d (j - d) = true) := by show _ = _; rw [← HK.out]; exact hm
        go_wp2_with fail
        refine (causes_any _ _ _ k K P M _ hn hcap (by omega) (HS.out.kept HR.out.2)).mono ?_
        rintro r w2 ⟨rfl, hb2⟩
        have hR2 := HR.out.1.below hb2 HR.out.1.2
        have HB2 : Hid (Below w.heap.size w w2) := below_next HR.out.2 hb2
        have hg2 := hR2.2
        clear hb2 hc hf hm
        obtain ⟨o, ho⟩ : ∃ o, own P (j - d) = o := ⟨_, rfl⟩
        obtain ⟨s, hs2⟩ : ∃ s, snt K M (j - d) = s := ⟨_, rfl⟩
        have hok : o ≤ k := by rw [← ho, ← HK.out]; exact own_le P k
        have hsk : s ≤ k := by rw [← hs2, ← HK.out]; exact snt_le K M k
        have eo : own P k = o := by rw [HK.out]; exact ho
        have es : snt K M k = s := by rw [HK.out]; exact hs2
        rw [eo, es]
        have HO : Hid (own P (j - d) = o ∧ snt K M (j - d) = s) := ⟨ho, hs2⟩
        clear eo es ho hs2
        rcases Nat.eq_zero_or_pos o with h0 | h0
        · rcases Nat.eq_zero_or_pos s with h9 | h9
          · skip
            have hpm : (o : Int) - 1 = -1 := by omega
            have hpn : (s : Int) - 1 = -1 := by omega
            rw [hpm, hpn]
            have HF : Hid (_ ∧ _) := ⟨BRow.congr hR2 (y := mkd K P M j (d + 1)) (fun t _ => by rw [mkd_set0 HD.out HO.out.1 HO.out.2 t]; simp_all), HB2.out⟩
            clear hR2
            go_wp2
            go_roundw
            case rel => exact ⟨d + 1, by omega, by go_num, HF.out.1, HF.out.2⟩
            case measure => simp [intOf]
          · skip
            have hpm : (o : Int) - 1 = -1 := by omega
            obtain ⟨e, he⟩ : ∃ e, s = e + 1 := ⟨s - 1, by omega⟩
            have hpn : (s : Int) - 1 = (e : Int) := by omega
            have hen : (e : Int) < (n : Int) := by omega
            have r2 := (hR2.1 e (by omega)).1
            have q2 := (hR2.1 e (by omega)).2
            rw [hpm, hpn]
            have HF : Hid (_ ∧ _) := ⟨BRow.congr (hR2.set (k := e) (by omega) true) (y := mkd K P M j (d + 1)) (fun t _ => by rw [mkd_set0 HD.out HO.out.1 HO.out.2 t]; by_cases h1 : t = e <;> simp_all), (HB2.out.setCell (p := ⟨w.heap.size, e, none⟩) (by simp) (.bool true))⟩
            clear hR2
            go_wp2
            go_roundw
            case rel => exact ⟨d + 1, by omega, by go_num, HF.out.1, HF.out.2⟩
            case measure => simp [intOf]
        · rcases Nat.eq_zero_or_pos s with h9 | h9
          · skip
            obtain ⟨c, hc⟩ : ∃ c, o = c + 1 := ⟨o - 1, by omega⟩
            have hpm : (o : Int) - 1 = (c : Int) := by omega
            have hcn : (c : Int) < (n : Int) := by omega
            have r1 := (hR2.1 c (by omega)).1
            have q1 := (hR2.1 c (by omega)).2
            have hpn : (s : Int) - 1 = -1 := by omega
            rw [hpm, hpn]
            have HF : Hid (_ ∧ _) := ⟨BRow.congr (hR2.set (k := c) (by omega) true) (y := mkd K P M j (d + 1)) (fun t _ => by rw [mkd_set0 HD.out HO.out.1 HO.out.2 t]; by_cases h2 : t = c <;> simp_all), (HB2.out.setCell (p := ⟨w.heap.size, c, none⟩) (by simp) (.bool true))⟩
            clear hR2
            go_wp2
            go_roundw
            case rel => exact ⟨d + 1, by omega, by go_num, HF.out.1, HF.out.2⟩
            case measure => simp [intOf]
          · skip
            obtain ⟨c, hc⟩ : ∃ c, o = c + 1 := ⟨o - 1, by omega⟩
            have hpm : (o : Int) - 1 = (c : Int) := by omega
            have hcn : (c : Int) < (n : Int) := by omega
            have r1 := (hR2.1 c (by omega)).1
            have q1 := (hR2.1 c (by omega)).2
            obtain ⟨e, he⟩ : ∃ e, s = e + 1 := ⟨s - 1, by omega⟩
            have hpn : (s : Int) - 1 = (e : Int) := by omega
            have hen : (e : Int) < (n : Int) := by omega
            have hR3 := hR2.set (k := c) (by omega) true
            have r2 := (hR3.1 e (by omega)).1
            have q2 := (hR3.1 e (by omega)).2
            rw [hpm, hpn]
            have HF : Hid (_ ∧ _) := ⟨BRow.congr ((hR2.set (k := c) (by omega) true).set (k := e) (by omega) true) (y := mkd K P M j (d + 1)) (fun t _ => by rw [mkd_set0 HD.out HO.out.1 HO.out.2 t]; by_cases h1 : t = e <;> by_cases h2 : t = c <;> simp_all), ((HB2.out.setCell (p := ⟨w.heap.size, c, none⟩) (by simp) (.bool true)).setCell (p := ⟨w.heap.size, e, none⟩) (by simp) (.bool true))⟩
            clear hR2 hR3
            go_wp2
            go_roundw
            case rel => exact ⟨d + 1, by omega, by go_num, HF.out.1, HF.out.2⟩
            case measure => simp [intOf]
    · have e1 : ((j : Int) - (d : Int)) = -1 := by omega
      have hdj : d = j + 1 := by omega
      subst hdj
      rw [e1]
      have hc := (hR.1 j hj).1
      have hf := (hR.1 j hj).2
      have hgl := hR.2
      have HF : Hid (BRow (wr.setCell ⟨w.heap.size, j, none⟩ (.bool false)) w.heap.size n (fun i => ahd K P M i j) ∧ Below w.heap.size w (wr.setCell ⟨w.heap.size, j, none⟩ (.bool false))) := ⟨(hR.set hj false).congr (fun i _ => by by_cases e : i = j <;> simp [ahd, e]), hB.setCell (p := ⟨w.heap.size, j, none⟩) (by simp) _⟩
      clear hR hB
      go_wp2
      go_ret
      exact ⟨rfl, HF.out⟩
set_option maxRecDepth 100000 in
set_option maxHeartbeats 4000000 in
theorem specAheadOf_any (a : Option Addr) (n cap : Nat) (K P M : Nat → Int) (i j : Int) (w : World) (hn : n ≤ 1048576) (hcap : n ≤ cap) (hs : Sl w a n 3 (evF K P M)) :
    Calls Try.prog 19 #[.slice a n cap, .int .i64 i, .int .i64 j] w fun r w' => AhPost K P M n i j w r w' := by
  have HS : Hid (Sl w a n 3 (evF K P M)) := hs
  clear hs
  go_enter Try.func19, Try.ntmps19
  go_wp2_with fail
  refine (specGoodEvents_any _ _ _ K P M _ hn hcap HS.out).mono ?_
  rintro r w1 ⟨rfl, hb1⟩
  have HB1 : Hid (Below w.heap.size w w1) := hb1
  clear hb1
  cases hg : goodE K P M n
  · have HN : Hid (ahOk K P M n i j = false) := by show _ = _; simp [ahOk, hg]
    go_wp2
    exact bodyPost_ret (v := .tuple #[.bool false, .bool false]) (by simp [results, Try.results19, go_sem]) rfl (ah_no HN.out HB1.out)
  cases hi : inR i 0 ((n : Int) - 1)
  · have HN : Hid (ahOk K P M n i j = false) := by show _ = _; simp [ahOk, hi]
    go_wp2_with (go_at_call 57; refine (l1In_any _ _ _ _).mono ?_; rintro e w' ⟨rfl, rfl⟩)
    exact bodyPost_ret (v := .tuple #[.bool false, .bool false]) (by simp [results, Try.results19, go_sem]) rfl (ah_no HN.out HB1.out)
  cases hj : inR j 0 ((n : Int) - 1)
  · have HN : Hid (ahOk K P M n i j = false) := by show _ = _; simp [ahOk, hj]
    go_wp2_with (go_at_call 57; refine (l1In_any _ _ _ _).mono ?_; rintro e w' ⟨rfl, rfl⟩)
    exact bodyPost_ret (v := .tuple #[.bool false, .bool false]) (by simp [results, Try.results19, go_sem]) rfl (ah_no HN.out HB1.out)
  have HY : Hid (ahOk K P M n i j = true) := by show _ = _; simp [ahOk, hg, hi, hj]
  have bi := inR_iff.1 hi
  have bj := inR_iff.1 hj
  obtain ⟨i', rfl⟩ : ∃ i' : Nat, i = i' := ⟨i.toNat, by omega⟩
  obtain ⟨j', rfl⟩ : ∃ j' : Nat, j = j' := ⟨j.toNat, by omega⟩
  clear hg
  go_wp2_with (go_at_call 57; refine (l1In_any _ _ _ _).mono ?_; rintro e w' ⟨rfl, hw⟩; have hw := hw.symm; subst hw)
  refine (before_any _ _ _ j' K P M _ hn hcap (by omega) (HS.out.kept HB1.out)).mono ?_
  rintro r w2 ⟨rfl, hR, hb2⟩
  have hc : w2.cell? ⟨w1.heap.size, i', none⟩ = some (.bool (ahd K P M i' j')) := (hR.1 i' (by omega)).1
  have hgl := hR.2
  have HF : Hid (Below w.heap.size w w2) := below_next HB1.out hb2
  have hi' : (i' : Int) < (n : Int) := by omega
  have HA : Hid (ahd K P M i' j' = ahd K P M i' j') := rfl
  clear hR hb2 hi hj bi bj
  obtain ⟨b, hb⟩ : ∃ b, b = ahd K P M i' j' := ⟨_, rfl⟩
  rw [← hb] at hc
  have HBb : Hid (b = ahd K P M i' j') := hb
  clear hb HA
  go_wp2
  exact bodyPost_ret (v := .tuple #[.bool b, .bool true]) (by simp [results, Try.results19, go_sem]) rfl (ah_yes HY.out HBb.out HF.out)
end Go.Proofs.Ytjophhiccbkpjaa
