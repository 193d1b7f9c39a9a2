/- A group that has enough to read and one that has enough to write meet, where both thresholds together are more than all votes (Gifford), for drawn votes and groups: the law FnGifford, at every two lists of bytes. No condition. -/
import Derived.Test.YtalnmollgielcaaDvE
import Derived.Test.YtalnmollgielcaaGfG
import Derived.Test.YtalnmollgielcaaWtS
import Derived.Test.YtalnmollgielcaaMtO
import Derived.Test.YtalnmollgielcaaOpenBE
import Derived.Test.YtalnmollgielcaaWords
import Derived.ProofKit
import Derived.OpenShut
import Derived.ShutString
import Derived.ChangeOld
import Derived.Below
import Derived.Lib.SmallJoins
namespace Go.Proofs.Ytalnmollgielcaa.fGifford
open Go.ChangeShapes Go.WideShapes Go.ChangeAt Go.RowKit
open Go.ChangeMaps (open_string shut_string)
set_option linter.unusedVariables false

/-- What stands from the draws on: both lists of the first, the box of its group. -/
def St1 (W : World) (lo hi : Nat) (LV : List Int) (aV : Option Addr) (LG : List Int) (aG : Option Addr) (cG bA : Nat) : Prop := VgAt W lo hi LV aV LG aG cG ∧ BoxS W bA (.slice aG LG.length cG) ∧ hi ≤ bA
theorem St1.next {W W' : World} {lo hi : Nat} {LV : List Int} {aV : Option Addr} {LG : List Int} {aG : Option Addr} {cG bA : Nat} (h : St1 W lo hi LV aV LG aG cG bA) (hb : Below W.heap.size W W') : St1 W' lo hi LV aV LG aG cG bA := ⟨h.1.next hb, h.2.1.next hb, h.2.2⟩
theorem St1.set {W : World} {lo hi g : Nat} {v : Value} {LV : List Int} {aV : Option Addr} {LG : List Int} {aG : Option Addr} {cG bA : Nat} (h : St1 W lo hi LV aV LG aG cG bA) (hg : bA < g) : St1 (W.setCell ⟨g, 0, none⟩ v) lo hi LV aV LG aG cG bA := ⟨vg_set h.1 (Or.inr (by have := h.2.2; omega)), box_set h.2.1 (by omega), h.2.2⟩

set_option maxRecDepth 100000 in
set_option maxHeartbeats 8000000 in
theorem walk (a : Option Addr) (n cap : Nat) (X : Nat → Int) (w : World) (hm : n ≤ maxLen) (hs : Sl w a n 1 (byF X)) (hX : ∀ i, i < n → 0 ≤ X i ∧ X i ≤ 255)
    (a' : Option Addr) (n' cap' : Nat) (Y : Nat → Int) (hm' : n' ≤ maxLen) (hs' : Sl w a' n' 1 (byF Y)) (hY : ∀ i, i < n' → 0 ≤ Y i ∧ Y i ≤ 255) :
    Calls Try.prog 3 #[.slice a n cap, .slice a' n' cap'] w fun r w' => r = .returned (.bool true) ∧ Below w.heap.size w w' := by
  unfold maxLen at hm hm'
  have HS : Hid ((Sl w a n 1 (byF X) ∧ ∀ i, i < n → 0 ≤ X i ∧ X i ≤ 255) ∧ Sl w a' n' 1 (byF Y) ∧ ∀ i, i < n' → 0 ≤ Y i ∧ Y i ≤ 255) := ⟨⟨hs, hX⟩, hs', hY⟩
  clear hs hs' hX hY
  by_cases hlt : (1048576 : Int) < wrap64 ((n : Int) + (n' : Int))
  case pos =>
    go_enter Try.func3, Try.ntmps3
    go_wp2
    go_ret
    exact ⟨rfl, Below.refl _ _⟩
  case neg =>
  go_enter Try.func3, Try.ntmps3
  go_wp2_with fail
  refine (drawRead_any _ _ _ X _ hm HS.out.1.1 HS.out.1.2).mono ?_
  rintro _ w1 ⟨LV, aV, cV, t, LG, aG, cG, hi1, ht, rfl, hV, hb⟩
  obtain ⟨w2, hw2⟩ : ∃ x, x = w1.alloc (.cells #[.slice aG LG.length cG] 25) := ⟨_, rfl⟩
  obtain ⟨bA, hbA⟩ : ∃ x, x = w1.heap.size := ⟨_, rfl⟩
  have H2 : Hid (St1 w2 w.heap.size hi1 LV aV LG aG cG bA ∧ Below w.heap.size w w2) := by
    rw [hw2, hbA]
    exact ⟨⟨hV.next (Go.Joins.below_alloc1 _ _), BoxS.new _ _ _, hV.2.2.2.2.2⟩, below_next hb (Go.Joins.below_alloc1 _ _)⟩
  clear hV hb
  have hLV : LV.length ≤ 7 := H2.out.1.1.1
  have hLG : LG.length ≤ 14 := H2.out.1.1.2.1
  go_wp2_with fail
  rw [← hw2, ← hbA]
  clear hw2 hbA
  refine (isRead_any _ _ _ (atZ LV) t _ _ _ (atZ LG) _ (by omega) (by omega) H2.out.1.1.2.2.1.sl H2.out.1.1.2.2.2.1.sl).mono ?_
  rintro _ w3 ⟨rfl, hb⟩
  have H3 : Hid (St1 w3 w.heap.size hi1 LV aV LG aG cG bA ∧ Below w.heap.size w w3) := ⟨H2.out.1.next hb, below_next H2.out.2 hb⟩
  clear hb H2
  have cA := H3.out.1.2.1.1
  have zA := H3.out.1.2.1.2
  go_wp2_with fail
  clear cA zA
  refine (specIsRead_any _ _ _ (atZ LV) t _ _ _ (atZ LG) _ (by omega) (by omega) H3.out.1.1.2.2.1.sl H3.out.1.1.2.2.2.1.sl).mono ?_
  rintro _ w4 ⟨rfl, hb⟩
  have H4 : Hid (St1 w4 w.heap.size hi1 LV aV LG aG cG bA ∧ Below w.heap.size w w4) := ⟨H3.out.1.next hb, below_next H3.out.2 hb⟩
  clear hb H3
  obtain ⟨x, hx⟩ : ∃ x, x = enB (atZ LV) LV.length t (atZ LG) LG.length := ⟨_, rfl⟩
  obtain ⟨ok, hok⟩ : ∃ x, x = enOk (atZ LV) LV.length t (atZ LG) LG.length := ⟨_, rfl⟩
  have HX : Hid (x = enB (atZ LV) LV.length t (atZ LG) LG.length ∧ ok = enOk (atZ LV) LV.length t (atZ LG) LG.length) := ⟨hx, hok⟩
  rw [← hx, ← hok]
  clear hx hok
  cases ok
  · have hx0 : x = false := by rw [HX.out.1]; exact en_not HX.out.2.symm
    subst hx0
    go_wp2
    go_ret
    exact ⟨rfl, H4.out.2⟩
  have HW : Hid (wtB (atZ LV) LV.length (atZ LG) LG.length = true ∧ decide (t ≤ wtN (atZ LV) LV.length (atZ LG) LG.length) = x ∧ allV (atZ LV) LV.length) := by
    obtain ⟨q1, q2, q3⟩ := en_wt HX.out.2.symm
    exact ⟨q1, q2.trans HX.out.1.symm, q3⟩
  go_wp2_with fail
  refine (drawWrite_any _ _ _ Y _ hm' (HS.out.2.1.kept H4.out.2) HS.out.2.2).mono ?_
  rintro _ w5 ⟨LV2, aV2, cV2, t2, LG2, aG2, cG2, hi2, ht2, rfl, hV2, hb⟩
  obtain ⟨w6, hw6⟩ : ∃ x, x = w5.alloc (.cells #[.slice aG2 LG2.length cG2] 25) := ⟨_, rfl⟩
  obtain ⟨bB, hbB⟩ : ∃ x, x = w5.heap.size := ⟨_, rfl⟩
  have hAB : bA < bB := by
    have := (H4.out.1.next hb).2.1.2
    omega
  have H6 : Hid (St1 w6 w.heap.size hi1 LV aV LG aG cG bA ∧ Below w.heap.size w w6 ∧ VgAt w6 w4.heap.size hi2 LV2 aV2 LG2 aG2 cG2 ∧ hi2 ≤ bB ∧ Bx w6 bB [.slice aG2 LG2.length cG2]) := by
    rw [hw6, hbB]
    exact ⟨(H4.out.1.next hb).next (Go.Joins.below_alloc1 _ _), below_next (below_next H4.out.2 hb) (Go.Joins.below_alloc1 _ _), hV2.next (Go.Joins.below_alloc1 _ _), hV2.2.2.2.2.2, Bx.new _ [.slice aG2 LG2.length cG2] _⟩
  have hLG2 : LG2.length ≤ 14 := hV2.2.1
  have hF2 := hV2.2.2.2.2.1.2
  unfold maxLen at hF2
  have hwB : w.heap.size ≤ bB := by
    have := (below_next H4.out.2 hb).size
    omega
  clear hV2 hb H4
  generalize LV2.length = lv2 at *
  go_wp2
  rw [← hw6, ← hbB]
  clear hw6 hbB
  obtain ⟨lg2, hlg2⟩ : ∃ l, l = LG2.length := ⟨_, rfl⟩
  have HL2 : Hid (lg2 = LG2.length) := hlg2
  rw [← hlg2] at H6 hLG2 hF2 ⊢
  clear hlg2
  have HK : Hid (∀ (W : World) (q : Nat), q ≤ lg2 → VgAt W w4.heap.size hi2 LV2 aV2 LG2 aG2 cG2 → Sl W aV2 0 1 (intF (atZ LV2)) ∧ Sl W aG2 q 1 (intF (atZ LG2))) := fun W q hq h => ⟨Or.inl rfl, (h.2.2.2.1.sl).less (by rw [← HL2.out]; exact hq)⟩
  go_loopw [70] (fun _ wr => ∃ q : Nat, q ≤ lg2 ∧ St1 wr w.heap.size hi1 LV aV LG aG cG bA ∧ Below w.heap.size w wr ∧ VgAt wr w4.heap.size hi2 LV2 aV2 LG2 aG2 cG2 ∧ Bx wr bB [.slice aG2 q cG2]) (fun _ wr => match wr.cell? ⟨bB, 0, none⟩ with | some (.slice _ q _) => q | _ => 0)
  case atStart => exact ⟨lg2, Nat.le_refl _, H6.out.1, H6.out.2.1, H6.out.2.2.1, H6.out.2.2.2.2⟩
  case round =>
    obtain ⟨q, hq, h1, h2, h3, h4⟩ := hrel
    have H7 : Hid (St1 wr w.heap.size hi1 LV aV LG aG cG bA ∧ Below w.heap.size w wr ∧ VgAt wr w4.heap.size hi2 LV2 aV2 LG2 aG2 cG2 ∧ Bx wr bB [.slice aG2 q cG2] ∧ hi2 ≤ bB) := ⟨h1, h2, h3, h4, H6.out.2.2.2.1⟩
    clear h1 h2 h3 h4 H6
    have cB := H7.out.2.2.2.1.cell 0 rfl
    have fB := H7.out.2.2.2.1.frz 0 (by simp)
    have zB := H7.out.2.2.2.1.2

    by_cases hq0 : 0 < q
    · have hq1 : (0 : Int) < (q : Int) := by omega
      have hnz : aG2 ≠ none ∧ ∃ g, aG2 = some ⟨g, 0, none⟩ ∧ g < wr.heap.size ∧ g ≠ bB ∧ wr.cell? ⟨g, q - 1, none⟩ = some (.int .i64 (atZ LG2 (q - 1))) := by
        rcases H7.out.2.2.1.2.2.2.1 with h | ⟨g, e, g1, g2, g3, gc⟩
        · have := HL2.out; omega
        · refine ⟨by rw [e]; simp, g, e, g3, ?_, (gc (q - 1) (by have := HL2.out; omega)).1⟩
          have := H7.out.2.2.2.2
          omega
      obtain ⟨_, g, rfl, hg1, hg2, hgc⟩ := hnz
      obtain ⟨q1, rfl⟩ : ∃ k, q = k + 1 := ⟨q - 1, by omega⟩
      simp only [Nat.add_sub_cancel] at hgc
      have hq1e : ((q1 + 1 : Nat) : Int) - 1 = (q1 : Int) := by omega
      have hqc : (q1 : Int) ≤ (cG2 : Int) := by omega
      have hqd : (q1 : Int) < ((q1 + 1 : Nat) : Int) := by omega
      by_cases hge : (LV.length : Int) ≤ atZ LG2 q1
      · have HF : Hid (St1 (wr.setCell ⟨bB, 0, none⟩ (.slice (some ⟨g, 0, none⟩) q1 cG2)) w.heap.size hi1 LV aV LG aG cG bA ∧ Below w.heap.size w (wr.setCell ⟨bB, 0, none⟩ (.slice (some ⟨g, 0, none⟩) q1 cG2)) ∧ VgAt (wr.setCell ⟨bB, 0, none⟩ (.slice (some ⟨g, 0, none⟩) q1 cG2)) w4.heap.size hi2 LV2 aV2 LG2 (some ⟨g, 0, none⟩) cG2 ∧ Bx (wr.setCell ⟨bB, 0, none⟩ (.slice (some ⟨g, 0, none⟩) q1 cG2)) bB [.slice (some ⟨g, 0, none⟩) q1 cG2]) :=
          ⟨H7.out.1.set hAB, H7.out.2.1.setCell (p := ⟨bB, 0, none⟩) hwB _, vg_set H7.out.2.2.1 (Or.inr H7.out.2.2.2.2), H7.out.2.2.2.1.set (k := 0) (by simp) _⟩
        generalize atZ LG2 q1 = e at *
        go_wp2
        go_roundw
        case rel => exact ⟨q1, by omega, HF.out⟩
        case measure =>
          have e1 := HF.out.2.2.2.cell 0 rfl
          simp only [e1, cB]
          omega
      · generalize atZ LG2 q1 = e at *
        have hge' : ¬ (LV.length : Int) ≤ e := hge
        go_wp2_with fail
        clear hgc hge hge' hg1 hg2
        clear cB fB zB
        refine (isWrite_any _ _ _ (atZ LV) t2 _ _ _ (atZ LG2) _ (by omega) (by omega) H7.out.1.1.2.2.1.sl (HK.out _ (q1 + 1) hq H7.out.2.2.1).2).mono ?_
        rintro _ w8 ⟨rfl, hb⟩
        have H8 : Hid (St1 w8 w.heap.size hi1 LV aV LG aG cG bA ∧ Below w.heap.size w w8 ∧ VgAt w8 w4.heap.size hi2 LV2 aV2 LG2 (some ⟨g, 0, none⟩) cG2 ∧ Bx w8 bB [.slice (some ⟨g, 0, none⟩) (q1 + 1) cG2]) := ⟨H7.out.1.next hb, below_next H7.out.2.1 hb, H7.out.2.2.1.next hb, H7.out.2.2.2.1.next hb⟩
        clear hb H7
        have cB := H8.out.2.2.2.cell 0 rfl
        have zB := H8.out.2.2.2.2
        go_wp2_with fail
        clear cB zB
        refine (specIsWrite_any _ _ _ (atZ LV) t2 _ _ _ (atZ LG2) _ (by omega) (by omega) H8.out.1.1.2.2.1.sl (HK.out _ (q1 + 1) hq H8.out.2.2.1).2).mono ?_
        rintro _ w9 ⟨rfl, hb⟩
        have H9 : Hid (St1 w9 w.heap.size hi1 LV aV LG aG cG bA ∧ Below w.heap.size w w9 ∧ VgAt w9 w4.heap.size hi2 LV2 aV2 LG2 (some ⟨g, 0, none⟩) cG2 ∧ Bx w9 bB [.slice (some ⟨g, 0, none⟩) (q1 + 1) cG2]) := ⟨H8.out.1.next hb, below_next H8.out.2.1 hb, H8.out.2.2.1.next hb, H8.out.2.2.2.next hb⟩
        clear hb H8
        obtain ⟨y, hy⟩ : ∃ x, x = enB (atZ LV) LV.length t2 (atZ LG2) (q1 + 1) := ⟨_, rfl⟩
        obtain ⟨is, his⟩ : ∃ x, x = enOk (atZ LV) LV.length t2 (atZ LG2) (q1 + 1) := ⟨_, rfl⟩
        have HY : Hid (y = enB (atZ LV) LV.length t2 (atZ LG2) (q1 + 1) ∧ is = enOk (atZ LV) LV.length t2 (atZ LG2) (q1 + 1)) := ⟨hy, his⟩
        rw [← hy, ← his]
        clear hy his
        have cA := H9.out.1.2.1.1
        have zA := H9.out.1.2.1.2
        go_wp2_with fail
        clear cA zA
        refine (weightOf_any _ _ _ (atZ LV) _ _ _ (atZ LG) _ (by omega) (by omega) H9.out.1.1.2.2.1.sl H9.out.1.1.2.2.2.1.sl).mono ?_
        rintro _ w10 ⟨rfl, hb⟩
        have H10 : Hid (St1 w10 w.heap.size hi1 LV aV LG aG cG bA ∧ Below w.heap.size w w10 ∧ VgAt w10 w4.heap.size hi2 LV2 aV2 LG2 (some ⟨g, 0, none⟩) cG2 ∧ Bx w10 bB [.slice (some ⟨g, 0, none⟩) (q1 + 1) cG2]) := ⟨H9.out.1.next hb, below_next H9.out.2.1 hb, H9.out.2.2.1.next hb, H9.out.2.2.2.next hb⟩
        clear hb H9
        rw [HW.out.1]
        obtain ⟨wt, hwt⟩ : ∃ x, x = wtN (atZ LV) LV.length (atZ LG) LG.length := ⟨_, rfl⟩
        have hwx : decide (t ≤ wt) = x := by rw [hwt]; exact HW.out.2.1
        rw [← hwt]
        clear hwt
        obtain ⟨lv, hlv⟩ : ∃ l, l = LV.length := ⟨_, rfl⟩
        have HLV : Hid (lv = LV.length) := hlv
        rw [← hlv] at hLV ⊢
        clear hlv
        subst hwx
        go_wp2
        go_loop [134, 21, 23] (fun z s _ => ∃ k : Nat, k ≤ lv ∧ z = .int .i64 k ∧ s = .int .i64 (sumTo (atZ LV) k)) (fun z _ _ => lv - (intOf z).toNat)
        case atStart => exact ⟨0, Nat.zero_le _, rfl, rfl⟩
        case round =>
          obtain ⟨k, hk, rfl, rfl⟩ := hrel
          have hbd := sumTo_bd (V := atZ LV) (k := k) (fun i hi => HW.out.2.2 i (by have := HLV.out; omega))
          by_cases hkl : k < lv
          · have hsl := H10.out.1.1.2.2.1.sl
            rw [← HLV.out] at hsl
            rcases hsl with h | ⟨bx, off, rfl, hbs, hE⟩
            · omega
            have hkl' : (k : Int) < (lv : Int) := by omega
            have hc := int_cell hE hkl
            have hv := HW.out.2.2 k (by have := HLV.out; omega)
            have HN : Hid (sumTo (atZ LV) (k + 1) = sumTo (atZ LV) k + atZ LV k) := rfl
            clear hE
            generalize sumTo (atZ LV) k = sk at *
            generalize atZ LV k = vk at *
            go_wp2
            go_round
            case rel => exact ⟨k + 1, by omega, by go_num, by rw [HN.out]⟩
            case measure => simp [intOf]; omega
          · have hkv : k = lv := by omega
            have HSU : Hid (sumTo (atZ LV) k = sumTo (atZ LV) LV.length) := Hid.intro (by rw [hkv, HLV.out])
            clear hkv
            generalize sumTo (atZ LV) k = sk at *
            have hkl' : ¬ (k : Int) < (lv : Int) := by omega
            by_cases hall : is = true ∧ t ≤ wt ∧ y = true ∧ ¬ t + t2 ≤ sk
            · obtain ⟨g1, g2, g3, g4⟩ := hall
              subst g1 g3
              have hxt : decide (t ≤ wt) = true := decide_eq_true g2
              have HGF : Hid (meB (atZ LG) LG.length (atZ LG2) (q1 + 1) (lv : Int) = true ∧ 0 < (meL (atZ LG) LG.length (atZ LG2) (q1 + 1) (lv : Int)).length) := by
                have := gifford (V := atZ LV) (p := LV.length) (X := atZ LG) (n := LG.length) (Y := atZ LG2) (q := (q1 + 1)) (r := t) (w := t2) (by rw [← HX.out.1]; exact hxt) HY.out.1.symm (by have := HSU.out; omega)
                rw [HLV.out]
                exact ⟨this.1, List.length_pos_iff.2 this.2⟩
              have cA := H10.out.1.2.1.1
              have zA := H10.out.1.2.1.2
              have cB := H10.out.2.2.2.cell 0 rfl
              have zB := H10.out.2.2.2.2
              clear hxt
              go_wp2_with fail
              clear cA zA cB zB
              refine (meetOf_any _ _ _ (atZ LG) _ _ _ (atZ LG2) (lv : Int) _ (by omega) (by omega) H10.out.1.1.2.2.2.1.sl (HK.out _ (q1 + 1) hq H10.out.2.2.1).2).mono ?_
              rintro _ w11 ⟨⟨a11, c11, rfl, hi11⟩, hb⟩
              have H11 : Hid (Below w.heap.size w w11) := below_next H10.out.2.1 hb
              rw [HGF.out.1]
              have hml := HGF.out.2
              generalize (meL (atZ LG) LG.length (atZ LG2) (q1 + 1) (lv : Int)).length = ml at *
              have hml' : (0 : Int) < (ml : Int) := by omega
              clear hb hi11 H10 HGF
              go_wp2
              go_ret
              exact ⟨rfl, H11.out.alloc H11.out.size _⟩
            · cases is
              · go_wp2
                go_ret
                exact ⟨rfl, H10.out.2.1⟩
              by_cases g2 : t ≤ wt
              · cases y
                · go_wp2
                  go_ret
                  exact ⟨rfl, H10.out.2.1⟩
                · have g4 : t + t2 ≤ sk := by
                    by_cases e : t + t2 ≤ sk
                    · exact e
                    · exact absurd ⟨rfl, g2, rfl, e⟩ hall
                  clear hall
                  go_wp2
                  go_ret
                  exact ⟨rfl, H10.out.2.1⟩
              · clear hall
                go_wp2
                go_ret
                exact ⟨rfl, H10.out.2.1⟩
    · have hq1 : ¬ (0 : Int) < (q : Int) := by omega
      go_wp2_with fail
      clear hq1
      clear cB fB zB
      refine (isWrite_any _ _ _ (atZ LV) t2 _ _ _ (atZ LG2) _ (by omega) (by omega) H7.out.1.1.2.2.1.sl (HK.out _ q hq H7.out.2.2.1).2).mono ?_
      rintro _ w8 ⟨rfl, hb⟩
      have H8 : Hid (St1 w8 w.heap.size hi1 LV aV LG aG cG bA ∧ Below w.heap.size w w8 ∧ VgAt w8 w4.heap.size hi2 LV2 aV2 LG2 aG2 cG2 ∧ Bx w8 bB [.slice aG2 q cG2]) := ⟨H7.out.1.next hb, below_next H7.out.2.1 hb, H7.out.2.2.1.next hb, H7.out.2.2.2.1.next hb⟩
      clear hb H7
      have cB := H8.out.2.2.2.cell 0 rfl
      have zB := H8.out.2.2.2.2
      go_wp2_with fail
      clear cB zB
      refine (specIsWrite_any _ _ _ (atZ LV) t2 _ _ _ (atZ LG2) _ (by omega) (by omega) H8.out.1.1.2.2.1.sl (HK.out _ q hq H8.out.2.2.1).2).mono ?_
      rintro _ w9 ⟨rfl, hb⟩
      have H9 : Hid (St1 w9 w.heap.size hi1 LV aV LG aG cG bA ∧ Below w.heap.size w w9 ∧ VgAt w9 w4.heap.size hi2 LV2 aV2 LG2 aG2 cG2 ∧ Bx w9 bB [.slice aG2 q cG2]) := ⟨H8.out.1.next hb, below_next H8.out.2.1 hb, H8.out.2.2.1.next hb, H8.out.2.2.2.next hb⟩
      clear hb H8
      obtain ⟨y, hy⟩ : ∃ x, x = enB (atZ LV) LV.length t2 (atZ LG2) q := ⟨_, rfl⟩
      obtain ⟨is, his⟩ : ∃ x, x = enOk (atZ LV) LV.length t2 (atZ LG2) q := ⟨_, rfl⟩
      have HY : Hid (y = enB (atZ LV) LV.length t2 (atZ LG2) q ∧ is = enOk (atZ LV) LV.length t2 (atZ LG2) q) := ⟨hy, his⟩
      rw [← hy, ← his]
      clear hy his
      have cA := H9.out.1.2.1.1
      have zA := H9.out.1.2.1.2
      go_wp2_with fail
      clear cA zA
      refine (weightOf_any _ _ _ (atZ LV) _ _ _ (atZ LG) _ (by omega) (by omega) H9.out.1.1.2.2.1.sl H9.out.1.1.2.2.2.1.sl).mono ?_
      rintro _ w10 ⟨rfl, hb⟩
      have H10 : Hid (St1 w10 w.heap.size hi1 LV aV LG aG cG bA ∧ Below w.heap.size w w10 ∧ VgAt w10 w4.heap.size hi2 LV2 aV2 LG2 aG2 cG2 ∧ Bx w10 bB [.slice aG2 q cG2]) := ⟨H9.out.1.next hb, below_next H9.out.2.1 hb, H9.out.2.2.1.next hb, H9.out.2.2.2.next hb⟩
      clear hb H9
      rw [HW.out.1]
      obtain ⟨wt, hwt⟩ : ∃ x, x = wtN (atZ LV) LV.length (atZ LG) LG.length := ⟨_, rfl⟩
      have hwx : decide (t ≤ wt) = x := by rw [hwt]; exact HW.out.2.1
      rw [← hwt]
      clear hwt
      obtain ⟨lv, hlv⟩ : ∃ l, l = LV.length := ⟨_, rfl⟩
      have HLV : Hid (lv = LV.length) := hlv
      rw [← hlv] at hLV ⊢
      clear hlv
      subst hwx
      go_wp2
      go_loop [134, 21, 23] (fun z s _ => ∃ k : Nat, k ≤ lv ∧ z = .int .i64 k ∧ s = .int .i64 (sumTo (atZ LV) k)) (fun z _ _ => lv - (intOf z).toNat)
      case atStart => exact ⟨0, Nat.zero_le _, rfl, rfl⟩
      case round =>
        obtain ⟨k, hk, rfl, rfl⟩ := hrel
        have hbd := sumTo_bd (V := atZ LV) (k := k) (fun i hi => HW.out.2.2 i (by have := HLV.out; omega))
        by_cases hkl : k < lv
        · have hsl := H10.out.1.1.2.2.1.sl
          rw [← HLV.out] at hsl
          rcases hsl with h | ⟨bx, off, rfl, hbs, hE⟩
          · omega
          have hkl' : (k : Int) < (lv : Int) := by omega
          have hc := int_cell hE hkl
          have hv := HW.out.2.2 k (by have := HLV.out; omega)
          have HN : Hid (sumTo (atZ LV) (k + 1) = sumTo (atZ LV) k + atZ LV k) := rfl
          clear hE
          generalize sumTo (atZ LV) k = sk at *
          generalize atZ LV k = vk at *
          go_wp2
          go_round
          case rel => exact ⟨k + 1, by omega, by go_num, by rw [HN.out]⟩
          case measure => simp [intOf]; omega
        · have hkv : k = lv := by omega
          have HSU : Hid (sumTo (atZ LV) k = sumTo (atZ LV) LV.length) := Hid.intro (by rw [hkv, HLV.out])
          clear hkv
          generalize sumTo (atZ LV) k = sk at *
          have hkl' : ¬ (k : Int) < (lv : Int) := by omega
          by_cases hall : is = true ∧ t ≤ wt ∧ y = true ∧ ¬ t + t2 ≤ sk
          · obtain ⟨g1, g2, g3, g4⟩ := hall
            subst g1 g3
            have hxt : decide (t ≤ wt) = true := decide_eq_true g2
            have HGF : Hid (meB (atZ LG) LG.length (atZ LG2) q (lv : Int) = true ∧ 0 < (meL (atZ LG) LG.length (atZ LG2) q (lv : Int)).length) := by
              have := gifford (V := atZ LV) (p := LV.length) (X := atZ LG) (n := LG.length) (Y := atZ LG2) (q := q) (r := t) (w := t2) (by rw [← HX.out.1]; exact hxt) HY.out.1.symm (by have := HSU.out; omega)
              rw [HLV.out]
              exact ⟨this.1, List.length_pos_iff.2 this.2⟩
            have cA := H10.out.1.2.1.1
            have zA := H10.out.1.2.1.2
            have cB := H10.out.2.2.2.cell 0 rfl
            have zB := H10.out.2.2.2.2
            clear hxt
            go_wp2_with fail
            clear cA zA cB zB
            refine (meetOf_any _ _ _ (atZ LG) _ _ _ (atZ LG2) (lv : Int) _ (by omega) (by omega) H10.out.1.1.2.2.2.1.sl (HK.out _ q hq H10.out.2.2.1).2).mono ?_
            rintro _ w11 ⟨⟨a11, c11, rfl, hi11⟩, hb⟩
            have H11 : Hid (Below w.heap.size w w11) := below_next H10.out.2.1 hb
            rw [HGF.out.1]
            have hml := HGF.out.2
            generalize (meL (atZ LG) LG.length (atZ LG2) q (lv : Int)).length = ml at *
            have hml' : (0 : Int) < (ml : Int) := by omega
            clear hb hi11 H10 HGF
            go_wp2
            go_ret
            exact ⟨rfl, H11.out.alloc H11.out.size _⟩
          · cases is
            · go_wp2
              go_ret
              exact ⟨rfl, H10.out.2.1⟩
            by_cases g2 : t ≤ wt
            · cases y
              · go_wp2
                go_ret
                exact ⟨rfl, H10.out.2.1⟩
              · have g4 : t + t2 ≤ sk := by
                  by_cases e : t + t2 ≤ sk
                  · exact e
                  · exact absurd ⟨rfl, g2, rfl, e⟩ hall
                clear hall
                go_wp2
                go_ret
                exact ⟨rfl, H10.out.2.1⟩
            · clear hall
              go_wp2
              go_ret
              exact ⟨rfl, H10.out.2.1⟩


theorem own : ownKnob Try.prog.godebug = none := by kernel_rfl
theorem laidOut : laidOutB Try.prog = true := by kernel_rfl

set_option maxRecDepth 100000 in
theorem lifted (os : Os) (started : os.Started) (H : Type) (enc : TypeId × Value → H) :
    ReturnsInHanded {} Try.checked os 3 .any (Rows.fnGiffordSpec.pre6 enc Try.prog Try.f3 Rows.fnGiffordRow.domain false) (Rows.fnGiffordSpec.post enc Try.prog Try.f3 false true false false) := by
  refine returnsInHanded_of_change (C := Try.checked) own started (by kernel_rfl) Try.func3
    (ChangeSpec.witness6 (enc := enc) (C := Try.checked) false ⟨#[], #[.slice none 0 0, .slice none 0 0], []⟩ 8 (by kernel_rfl) (by kernel_rfl) (by kernel_rfl) (by kernel_rfl)) ?_
  intro W base args ds gs before hval0 hW hcnd _
  have hval : ∀ (j : Nat) t v, Try.f3.params[j]? = some t → args[j]? = some v → Value.okWide Try.prog W .any base t v := hval0
  have hW' := hW
  obtain ⟨p, q, hA0, hV, rfl, hfz, hnd⟩ := hW
  have hA : DataW.TrodAll enc Try.prog W 0 (fun _ => true) true Try.f3.params.toList args.toList ds p := hA0
  rw [Try.params3] at hA hval
  obtain ⟨v0, vs0, d0, ds0, p0, q0, hargs, rfl, rfl, h0, r0⟩ := trodAll_cons hA
  obtain ⟨v1, vs1, d1, ds1, p1, q1, rfl, rfl, rfl, h1, r1⟩ := trodAll_cons r0
  obtain ⟨rfl, rfl, rfl⟩ := trodAll_nil r1
  obtain rfl : args = #[v0, v1] := by cases args; simp_all
  obtain ⟨rfl, rfl⟩ := trodVars_none hV
  have k0 := h0
  have lt0 : ∀ x ∈ p0, x.block < W.heap.size := by obtain ⟨m, hm⟩ := k0; exact DataW.trod_lt m _ _ _ hm
  obtain ⟨a0, len0, cap0, rfl⟩ := okWide_slice Try.underlying22 (hval 0 22 v0 rfl rfl)
  obtain ⟨n0, X0, s0, b0⟩ := open_bytes h0
  have k1 := h1
  have lt1 : ∀ x ∈ p1, x.block < W.heap.size := by obtain ⟨m, hm⟩ := k1; exact DataW.trod_lt m _ _ _ hm
  obtain ⟨a1, len1, cap1, rfl⟩ := okWide_slice Try.underlying22 (hval 1 22 v1 rfl rfl)
  obtain ⟨n1, X1, s1, b1⟩ := open_bytes h1
  clear hA0 hval0
  refine (walk (w := W) a0 len0 cap0 X0 n0 s0 b0 a1 len1 cap1 X1 n1 s1 b1).mono fun e W' ⟨he, bel⟩ => ?_
  subst he
  exact ⟨_, rfl, _, _, _, [], _, [], hW', trodAll_mk1 (shut_bool Try.underlying4 _), (trodAll_cons_mk (Below.trod laidOut (by kernel_rfl) (of_decide_eq_true (by kernel_rfl)) k0 bel lt0) (trodAll_cons_mk (Below.trod laidOut (by kernel_rfl) (of_decide_eq_true (by kernel_rfl)) k1 bel lt1) trodAll_mk0)), rfl, bel.frame _, fun h => by cases h⟩

set_option maxHeartbeats 40000000 in
theorem closed : joinedFacts Try.pinned.checked.prog 3 Try.f3 Rows.fnGiffordSpec Rows.fnGiffordRow = true := by
  unfold joinedFacts
  repeat' (first | (with_reducible refine both ?_ ?_) | (with_reducible exact may_enter') | (with_reducible refine lifts_eq ?_) | (with_reducible refine make_eq ?_) | as_aux_lemma => kernel_rfl)
theorem named : Try.pinned.checked.prog.funcNamed Rows.fnGiffordRow.func = some 3 := by kernel_rfl
theorem over : Rows.fnGiffordRow.holds Try.pinned (OpenSpec.ofChange Rows.fnGiffordSpec) :=
  OpenClaim.holds_of_wide 3 Try.f3 rfl rfl rfl rfl rfl rfl rfl ⟨rfl, rfl, rfl, rfl, rfl⟩ rfl rfl rfl rfl rfl named Try.func3 closed
    (of_decide_eq_true (by as_aux_lemma => kernel_rfl)) (by unfold Func.isWrapper; first | (rw [if_pos (by decide +kernel)]; kernel_rfl) | (rw [if_neg (by decide +kernel)]; exact ⟨rfl, rfl⟩))
    (fun os started H enc _ => lifted os started H enc)

end Go.Proofs.Ytalnmollgielcaa.fGifford
namespace Go.Proofs.Ytalnmollgielcaa
theorem fGifford_holds : Rows.FnGiffordSaid := fGifford.over
#print axioms fGifford_holds


end Go.Proofs.Ytalnmollgielcaa
