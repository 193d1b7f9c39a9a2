/- The contracts of AllMeet, on both sides. -/
import Derived.Test.YtalnmollgielcaaAmI
namespace Go.Proofs.Ytalnmollgielcaa
open Go.RowKit
set_option linter.unusedVariables false

theorem w_tail {w : World} {b off n k : Nat} {S : Nat → Nat} (h : Elems w b off n 1 (wF S)) (hk : k ≤ n) : Elems w b (off + k) (n - k) 1 (wF (fun j => S (k + j))) := by
  intro i hi j hj
  have := h (k + i) (by omega) j hj
  rw [show off + k + i * 1 + j = off + (k + i) * 1 + j by omega, this]
  rfl
set_option maxRecDepth 100000 in
set_option maxHeartbeats 2000000 in
theorem allMeet_any (m : Int) (a : Option Addr) (n cap : Nat) (V : Nat → GV) (A : Nat → GA) (w : World) (hn : n ≤ 1048576) (hz : ∀ i, i < n → (V i).n ≤ 1048576) (hs : GsS w a n V A) :
    Calls Try.prog 27 #[.int .i64 m, .slice a n cap] w fun r w' => r = .returned (.tuple #[.bool (amB V n m), .bool (gsB V n m)]) ∧ Below w.heap.size w w' := by
  have hmf : ∀ (fn : Fn) (first cap : Array Value) (w : World), (Instr.makeFunc fn first cap).run Try.prog w = .ok (.func fn first cap) w := fun _ _ _ _ => rfl
  go_enter Try.func27, Try.ntmps27
  go_wp2_with fail
  refine (setsFrom_any _ _ _ V A m _ hn hz hs).mono ?_
  clear hz hs
  rintro r w1 ⟨⟨hg, rfl⟩ | ⟨hg, a1, cap1, rfl, hS, hc, hcm⟩, hb⟩
  · have HN : Hid (gsB V n m = false ∧ Below w.heap.size w w1) := ⟨hg, hb⟩
    clear hg hb
    go_wp2
    go_ret2
    exact ⟨am_no HN.out.1, HN.out.2⟩
  have HG : Hid (gsB V n m = true ∧ Below w.heap.size w w1 ∧ Sl w1 a1 n 1 (wF (sw V))) := ⟨hg, hb, hS⟩
  clear hg hb hS
  unfold maxLen at hcm
  go_wp2
  go_loop [20, 8, 9] (fun x _ _ => ∃ i : Nat, i ≤ n ∧ x = .int .i64 i ∧ (∀ j, j < i → ∀ k, j ≤ k → k < n → (sw V j &&& sw V k) ≠ 0)) (fun x _ _ => n - (intOf x).toNat)
  case atStart => exact ⟨0, Nat.zero_le _, rfl, fun j hj => absurd hj (by omega)⟩
  case round =>
    obtain ⟨i, hi, rfl, hall⟩ := hrel
    have HA : Hid (∀ j, j < i → ∀ k, j ≤ k → k < n → (sw V j &&& sw V k) ≠ 0) := hall
    clear hall
    by_cases hlt : i < n
    · rcases HG.out.2.2 with h | ⟨b, off, rfl, hbs, hE⟩
      · omega
      have hlt' : (i : Int) < (n : Int) := by omega
      have c0 := w_cell hE hlt
      have hle1 : (i : Int) ≤ (n : Int) := by omega
      have hle2 : (i : Int) ≤ (cap1 : Int) := by omega
      have hne : ¬ cap1 = i := by omega
      have hne' : ¬ i = cap1 := by omega
      have HT : Hid (Sl w1 (some ⟨b, off + i, none⟩) (n - i) 1 (wF (fun j => sw V (i + j)))) := Or.inr ⟨b, off + i, rfl, hbs, w_tail hE (by omega)⟩
      have HL : Hid (sw V i < 65536 ∧ ∀ j, j < n - i → sw V (i + j) < 65536) := ⟨Nat.lt_trans (sw_lt HG.out.1 hlt) (by omega), fun j hj => Nat.lt_trans (sw_lt HG.out.1 (show i + j < n by omega)) (by omega)⟩
      clear hE
      cases hany : anyN (fun j => (sw V i &&& sw V (i + j)) == 0) (n - i)
      · have HN : Hid (∀ j, j < i + 1 → ∀ k, j ≤ k → k < n → (sw V j &&& sw V k) ≠ 0) := upto_more HA.out (fun k h1 h2 e => by
          have := anyN_no.1 hany (k - i) (by omega)
          rw [show i + (k - i) = k by omega] at this
          simp [e] at this)
        have HY := Hid.intro hany
        clear hany
        generalize sw V i = s at *
        go_wp2_with (go_at_call 64; refine (containsMiss_any _ _ _ (fun j => sw V (i + j)) s _ (by omega) HL.out.2 HL.out.1 HT.out).mono ?_; rintro e w' ⟨rfl, hw⟩; have hw := hw.symm; subst hw; rw [HY.out])
        go_round
        case rel => exact ⟨i + 1, by omega, by go_num, HN.out⟩
        case measure => simp [intOf]; omega
      · have HN : Hid (Ending.returned (.tuple #[.bool false, .bool true]) = .returned (.tuple #[.bool (amB V n m), .bool (gsB V n m)])) := by
          obtain ⟨j, hj, e⟩ := anyN_iff.1 hany
          exact am_bad HG.out.1 hlt (show i + j < n by omega) (by simpa using e)
        have HY := Hid.intro hany
        clear hany
        generalize sw V i = s at *
        go_wp2_with (go_at_call 64; refine (containsMiss_any _ _ _ (fun j => sw V (i + j)) s _ (by omega) HL.out.2 HL.out.1 HT.out).mono ?_; rintro e w' ⟨rfl, hw⟩; have hw := hw.symm; subst hw; rw [HY.out])
        go_ret2
        exact ⟨HN.out, HG.out.2.1⟩
    · have hin : i = n := by omega
      subst hin
      have HN : Hid (Ending.returned (.tuple #[.bool true, .bool true]) = .returned (.tuple #[.bool (amB V i m), .bool (gsB V i m)])) := am_yes HG.out.1 (half_all HA.out)
      go_wp2
      go_ret2
      exact ⟨HN.out, HG.out.2.1⟩

set_option maxRecDepth 100000 in
set_option maxHeartbeats 2000000 in
theorem l8Sets_any (m : Int) (a : Option Addr) (n cap : Nat) (V : Nat → GV) (A : Nat → GA) (w : World) (hn : n ≤ 1048576) (hm0 : -9223372036854775808 ≤ m) (hm1 : m ≤ 9223372036854775807) (hz : ∀ i, i < n → (V i).n ≤ 1048576) (hs : GsS w a n V A) :
    Calls Try.prog 66 #[.int .i64 m, .slice a n cap] w fun r w' => r = .returned (.bool (gsB V n m)) ∧ Below w.heap.size w w' := by
  have HS : Hid (GsS w a n V A ∧ ∀ i, i < n → (V i).n ≤ 1048576) := ⟨hs, hz⟩
  clear hs hz
  go_enter Try.func66, Try.ntmps66
  go_wp2
  go_loopw [9, 6] (fun x _ wr => ∃ k : Nat, k ≤ n ∧ x = .int .i64 k ∧ (∀ i, i < k → grB (V i).x (V i).n m = true) ∧ Below w.heap.size w wr) (fun x _ _ => n - (intOf x).toNat)
  case atStart => exact ⟨0, Nat.zero_le _, rfl, fun i hi => absurd hi (by omega), Below.refl _ _⟩
  case round =>
    obtain ⟨k, hk, rfl, hall, hBr⟩ := hrel
    have HH : Hid ((∀ i, i < k → grB (V i).x (V i).n m = true) ∧ Below w.heap.size w wr) := ⟨hall, hBr⟩
    clear hall
    by_cases hlt : k < n
    · have h1 := (HS.out.1.next hBr).2 k hlt
      rcases (HS.out.1.next hBr).1 with h | ⟨b, off, rfl, hbs, hE⟩
      · omega
      have hlt' : (k : Int) < (n : Int) := by omega
      have c0 := gs_cell hE hlt
      have HT : Hid (Sl (wr.alloc (.cells #[.slice (A k).a (V k).n (A k).c] 25)) (A k).a (V k).n 1 (intF (V k).x) ∧ (V k).n ≤ 1073741824) := ⟨h1.kept (Go.Joins.below_alloc1 _ _), by have := HS.out.2 k hlt; omega⟩
      clear h1 hE hBr
      go_wp2_with fail
      refine (specGoodGroup_any _ _ _ (V k).x m _ HT.out.2 hm0 hm1 HT.out.1).mono ?_
      rintro r w1 ⟨rfl, hb1⟩
      have H1 : Hid (Below w.heap.size w w1) := below_next HH.out.2 ((Go.Joins.below_alloc1 _ _).trans (hb1.mono (by simp)))
      clear hb1 HT c0
      cases hg : grB (V k).x (V k).n m
      · have HN : Hid (gsB V n m = false) := gsB_no (fun q => by rw [q.2.2 k hlt] at hg; cases hg)
        go_wp2
        go_ret
        exact ⟨ret_bool HN.out.symm, H1.out⟩
      · have HN : Hid (∀ i, i < k + 1 → grB (V i).x (V i).n m = true) := upto_more HH.out.1 hg
        clear hg
        go_wp2
        go_roundw
        case rel => exact ⟨k + 1, by omega, by go_num, HN.out, H1.out⟩
        case measure => simp [intOf]; omega
    · have hkn : k = n := by omega
      subst hkn
      clear hBr
      cases hm : inR m 1 12
      · have HN : Hid (gsB V k m = false) := gsB_no (fun q => by rw [inR_iff.2 q.2.1] at hm; cases hm)
        go_wp2_with (go_at_call 75; refine (l8Nodes_any _ _).mono ?_; rintro e w' ⟨rfl, hw⟩; have hw := hw.symm; subst hw; rw [hm])
        go_ret
        exact ⟨ret_bool HN.out.symm, HH.out.2⟩
      · have HN : Hid (decide ((k : Int) ≤ 40) = gsB V k m) := Hid.intro (by
          rw [Bool.eq_iff_iff, gsB_iff, decide_eq_true_eq]
          exact ⟨fun q => ⟨by omega, inR_iff.1 hm, HH.out.1⟩, fun q => by omega⟩)
        go_wp2_with (go_at_call 75; refine (l8Nodes_any _ _).mono ?_; rintro e w' ⟨rfl, hw⟩; have hw := hw.symm; subst hw; rw [hm])
        go_ret
        exact ⟨ret_bool HN.out, HH.out.2⟩

theorem group_field (v : Value) (W : World) : (Instr.field 25 (.agg #[v]) 0).run Try.prog W = .ok v W := by kernel_rfl
set_option maxRecDepth 100000 in
set_option maxHeartbeats 4000000 in
theorem specAllMeet_any (m : Int) (a : Option Addr) (n cap : Nat) (V : Nat → GV) (A : Nat → GA) (w : World) (hn : n ≤ 1048576) (hcap : n ≤ cap) (hcm : cap ≤ maxLen) (hm0 : -9223372036854775808 ≤ m) (hm1 : m ≤ 9223372036854775807) (hz : ∀ i, i < n → (V i).n ≤ 1048576) (hs : GsS w a n V A) :
    Calls Try.prog 28 #[.int .i64 m, .slice a n cap] w fun r w' => r = .returned (.tuple #[.bool (amB V n m), .bool (gsB V n m)]) ∧ Below w.heap.size w w' := by
  have HS : Hid (GsS w a n V A ∧ ∀ i, i < n → (V i).n ≤ 1048576) := ⟨hs, hz⟩
  clear hs hz
  unfold maxLen at hcm
  go_enter Try.func28, Try.ntmps28
  go_wp2_with fail
  refine (l8Sets_any m _ _ _ V A _ hn hm0 hm1 HS.out.2 HS.out.1).mono ?_
  rintro r w1 ⟨rfl, hb⟩
  have H1 : Hid (Below w.heap.size w w1) := hb
  clear hb
  cases hg : gsB V n m
  · have HN : Hid (gsB V n m = false) := hg
    clear hg
    go_wp2
    go_ret2
    exact ⟨am_no HN.out, H1.out⟩
  have HG : Hid (gsB V n m = true) := hg
  clear hg
  go_wp2
  go_loopw [16, 6, 7, 9] (fun x _ _ _ wr => ∃ i : Nat, i ≤ n ∧ x = .int .i64 i ∧ (∀ j, j < i → ∀ k, k ≤ j → (sw V j &&& sw V k) ≠ 0) ∧ Below w.heap.size w wr) (fun x _ _ _ _ => n - (intOf x).toNat)
  case atStart => exact ⟨0, Nat.zero_le _, rfl, fun j hj => absurd hj (by omega), H1.out⟩
  case round =>
    obtain ⟨i, hi, rfl, hall, hBr⟩ := hrel
    obtain ⟨wo, hwo⟩ : ∃ x, x = wr := ⟨wr, rfl⟩
    subst hwo
    have HA : Hid ((∀ j, j < i → ∀ k, k ≤ j → (sw V j &&& sw V k) ≠ 0) ∧ Below w.heap.size w wo) := ⟨hall, hBr⟩
    clear hall H1
    by_cases hlt : i < n
    · rcases (HS.out.1.next hBr).1 with h | ⟨b, off, rfl, hbs, hE⟩
      · omega
      have hlt' : (i : Int) < (n : Int) := by omega
      have c0 := gs_cell hE hlt
      have hle1 : (i : Int) + 1 ≤ (cap : Int) := by omega
      obtain ⟨g, hgx⟩ : ∃ g, g = wo.heap.size := ⟨_, rfl⟩
      have HO : Hid (BoxS (wo.alloc (.cells #[.slice (A i).a (V i).n (A i).c] 25)) g (.slice (A i).a (V i).n (A i).c) ∧ Below w.heap.size w (wo.alloc (.cells #[.slice (A i).a (V i).n (A i).c] 25))) := ⟨hgx ▸ BoxS.new _ _ _, below_next hBr (Go.Joins.below_alloc1 _ _)⟩
      clear hE hBr
      go_wp2
      rw [← hgx]
      clear hgx
      go_loopw [26, 9] (fun x _ wr => ∃ k : Nat, k ≤ i + 1 ∧ x = .int .i64 k ∧ (∀ j, j < k → (sw V i &&& sw V j) ≠ 0) ∧ BoxS wr g (.slice (A i).a (V i).n (A i).c) ∧ Below w.heap.size w wr) (fun x _ _ => i + 1 - (intOf x).toNat)
      case atStart => exact ⟨0, Nat.zero_le _, rfl, fun j hj => absurd hj (by omega), HO.out⟩
      case round =>
        obtain ⟨k, hk, rfl, hall, hbx, hBr⟩ := hrel
        have HK : Hid ((∀ j, j < k → (sw V i &&& sw V j) ≠ 0) ∧ BoxS wr g (.slice (A i).a (V i).n (A i).c) ∧ Below w.heap.size w wr) := ⟨hall, hbx, hBr⟩
        clear hall hbx HO c0
        by_cases hlk : k < i + 1
        · have hlk' : (k : Int) < (i : Int) + 1 := by omega
          have hlk2 : (k : Int) < ((i + 1 : Nat) : Int) := by omega
          have hsr := HS.out.1.next hBr
          have hkn : k < n := by omega
          rcases hsr.1 with h | ⟨b', off', hbo, hbs', hE⟩
          · omega
          simp only [Option.some.injEq, Addr.mk.injEq, and_true] at hbo
          obtain ⟨rfl, rfl⟩ := hbo
          have c1 := gs_cell hE hkn
          have x0 := HK.out.2.1.1
          have x0z := HK.out.2.1.2
          have hbw : Below wr.heap.size wr (wr.alloc (.cells #[.slice (A k).a (V k).n (A k).c] 25)) := Go.Joins.below_alloc1 _ _
          have HT : Hid (Sl (wr.alloc (.cells #[.slice (A k).a (V k).n (A k).c] 25)) (A i).a (V i).n 1 (intF (V i).x) ∧ Sl (wr.alloc (.cells #[.slice (A k).a (V k).n (A k).c] 25)) (A k).a (V k).n 1 (intF (V k).x) ∧ (V i).n ≤ 1048576 ∧ (V k).n ≤ 1048576) := ⟨(hsr.2 i hlt).kept hbw, (hsr.2 k hkn).kept hbw, HS.out.2 i hlt, HS.out.2 k hkn⟩
          clear hsr hE hBr hbw
          go_wp2_with fail
          refine (l8Meet_any _ _ _ (V i).x _ _ _ (V k).x _ HT.out.2.2.1 HT.out.2.2.2 HT.out.1 HT.out.2.1).mono ?_
          rintro r w2 ⟨⟨a5, cap5, rfl, hi5⟩, hb2⟩
          have hb3 : Below wr.heap.size wr w2 := (Go.Joins.below_alloc1 _ _).trans (hb2.mono (by simp))
          have H2 : Hid (BoxS w2 g (.slice (A i).a (V i).n (A i).c) ∧ Below w.heap.size w w2) := ⟨HK.out.2.1.next hb3, below_next HK.out.2.2 hb3⟩
          have HMN : Hid (mtTo (V i).x (V k).x (V k).n (V i).n = [] ↔ (sw V i &&& sw V k) = 0) := meet_nil HG.out hlt hkn
          clear hb2 hb3 hi5 HT x0 x0z c1
          have hfd : ∀ (v : Value) (W : World), (Instr.field 25 (.agg #[v]) 0).run Try.prog W = .ok v W := group_field
          by_cases he : mtTo (V i).x (V k).x (V k).n (V i).n = []
          · have HN : Hid (Ending.returned (.tuple #[.bool false, .bool true]) = .returned (.tuple #[.bool (amB V n m), .bool (gsB V n m)])) := am_bad HG.out hlt hkn (HMN.out.1 he)
            have hl0 : (mtTo (V i).x (V k).x (V k).n (V i).n).length = 0 := by rw [he]; rfl
            clear he HMN
            generalize (mtTo (V i).x (V k).x (V k).n (V i).n).length = l at *
            subst hl0
            go_wp2
            go_ret2
            exact ⟨HN.out, H2.out.2⟩
          · have HN : Hid (∀ j, j < k + 1 → (sw V i &&& sw V j) ≠ 0) := upto_more HK.out.1 (fun e => he (HMN.out.2 e))
            have hl0 : 0 < (mtTo (V i).x (V k).x (V k).n (V i).n).length := List.length_pos_iff.2 he
            clear he HMN
            generalize (mtTo (V i).x (V k).x (V k).n (V i).n).length = l at *
            have hl1 : ((l : Int) == 0) = false := by simp; omega
            have hl2 : ¬ (l : Int) = 0 := by omega
            have hl3 : ¬ l = 0 := by omega
            go_wp2
            go_roundw
            case rel => exact ⟨k + 1, by omega, by go_num, HN.out, H2.out⟩
            case measure => simp [intOf]; omega
        · have hki : k = i + 1 := by omega
          subst hki
          have HN : Hid (∀ j, j < i + 1 → ∀ q, q ≤ j → (sw V j &&& sw V q) ≠ 0) := upto_more HA.out.1 (fun q hq => HK.out.1 q (by omega))
          clear hBr
          go_wp2
          go_roundw
          case rel => exact ⟨i + 1, by omega, by go_num, HN.out, HK.out.2.2⟩
          case measure => simp [intOf]; omega
    · have hin : i = n := by omega
      subst hin
      have HN : Hid (Ending.returned (.tuple #[.bool true, .bool true]) = .returned (.tuple #[.bool (amB V i m), .bool (gsB V i m)])) := am_yes HG.out (fun j hj k hk => by
        rcases Nat.le_total k j with q | q
        · exact HA.out.1 j hj k q
        · rw [Nat.and_comm]; exact HA.out.1 k hk j q)
      clear hBr
      go_wp2
      go_ret2
      exact ⟨HN.out, HA.out.2⟩
end Go.Proofs.Ytalnmollgielcaa
