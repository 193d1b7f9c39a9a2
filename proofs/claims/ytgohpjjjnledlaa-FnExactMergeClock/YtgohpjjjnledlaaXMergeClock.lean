/- At every two clocks impl.MergeClock answers as the specification does, writes into no argument, its answer owns its memory, and each argument reads behind the call as it read before. No condition. -/
import Derived.Test.YtgohpjjjnledlaaMrgC
import Derived.Test.YtgohpjjjnledlaaClkL
import Derived.Test.YtgohpjjjnledlaaOpenC
import Derived.Test.YtgohpjjjnledlaaWords
import Derived.Deep.RegionHeld3
import Derived.ProofKit
import Derived.OpenShut
import Derived.ShutString
import Derived.ChangeOld
import Derived.Below
import Derived.Lib.SmallJoins
namespace Go.Proofs.Ytgohpjjjnledlaa.xMergeClock
open Go.ChangeShapes Go.WideShapes Go.ChangeAt Go.RowKit
open Go.ChangeMaps (open_string shut_string)
set_option linter.unusedVariables false

set_option maxRecDepth 100000 in
set_option maxHeartbeats 40000000 in
theorem walk (a : Option Addr) (n cap : Nat) (X : Nat → Int) (w : World) (hm : n ≤ maxLen) (hs : Sl w a n 1 (intF X)) (a' : Option Addr) (n' cap' : Nat) (Y : Nat → Int) (hm' : n' ≤ maxLen) (hs' : Sl w a' n' 1 (intF Y)) :
    Calls Try.prog 12 #[.agg #[.slice a n cap], .agg #[.slice a' n' cap']] w fun r w' => r = .returned (.bool true) ∧ Below w.heap.size w w' := by
  have HS : Hid (Sl w a n 1 (intF X) ∧ Sl w a' n' 1 (intF Y)) := ⟨hs, hs'⟩
  clear hs hs'
  go_enter Try.func12, Try.ntmps12
  go_wp2_with fail
  refine (szClock_any _ _ _ _ _ hm (by omega) (by omega)).mono ?_
  rintro r w1 ⟨rfl, hb⟩
  have HB1 : Hid (Below w.heap.size w w1) := (((Below.refl _ _).alloc (Nat.le_refl _) _).alloc (by simp) _).trans (hb.mono (by simp; omega))
  have A_1 : Hid (BoxS w1 w.heap.size (.slice a n cap)) := ((BoxS.new w (.slice a n cap) 84).next (Go.Joins.below_alloc1 _ (.cells #[.slice a' n' cap'] 84))).next hb
  have D_1 : Hid (BoxS w1 (w.heap.size + 1) (.slice a' n' cap')) := by
    have := (BoxS.new (w.alloc (.cells #[.slice a n cap] 84)) (.slice a' n' cap') 84).next hb
    show BoxS w1 (w.heap.size + 1) (.slice a' n' cap')
    simpa using this
  clear hb
  by_cases hn : n ≤ 1048576
  case neg =>
    have hlt : (1048576 : Int) < (n : Int) := by omega
    rw [if_pos hlt]
    go_wp2
    go_ret
    exact ⟨rfl, HB1.out⟩
  case pos =>
  have hlt : ¬ (1048576 : Int) - (n : Int) < 0 := by omega
  rw [if_neg (by omega)]
  have cD := D_1.out.1
  go_wp2_with fail
  refine (szClock_any _ _ _ _ _ hm' (by omega) (by omega)).mono ?_
  rintro r w2 ⟨rfl, hb⟩
  have HB2 : Hid (Below w.heap.size w w2) := below_next HB1.out hb
  have A_2 : Hid (BoxS w2 w.heap.size (.slice a n cap)) := A_1.out.next hb
  have D_2 : Hid (BoxS w2 (w.heap.size + 1) (.slice a' n' cap')) := D_1.out.next hb
  clear hb HB1 A_1 D_1 cD
  by_cases hn' : (1048576 : Int) - (n : Int) < (n' : Int)
  · rw [if_pos hn']
    go_wp2
    go_ret
    exact ⟨rfl, HB2.out⟩
  have hlt' : ¬ (1048576 : Int) - (n : Int) - (n' : Int) < 0 := by omega
  rw [if_neg hn']
  have hq' : n' ≤ 1048576 := by omega
  have cA := A_2.out.1
  have cD := D_2.out.1
  have zD : w.heap.size + 1 < w2.heap.size := D_2.out.2
  have zA : w.heap.size < w2.heap.size := A_2.out.2
  have sz2 : w.heap.size ≤ w2.heap.size := HB2.out.size
  have hb2 : Below w.heap.size w w2 := HB2.out
  have zw2 : w.heap.size + 1 < w2.heap.size := zD
  clear cA cD zA zD hb2
  have cA := A_2.out.1
  have zA := A_2.out.2
  have cD := D_2.out.1
  have zD := D_2.out.2
  have hbo := HB2.out
  have szo : w.heap.size ≤ w2.heap.size := hbo.size
  have tok : True := trivial
  go_upto_region 8 with fail
  go_cut [6, 7] (fun s0 s1 wx => ∃ blk a5 cap5, s0 = .pointer (some ⟨blk, 0, none⟩) ∧ s1 = .bool (ccOk X n Y n') ∧ w2.heap.size ≤ blk ∧ BoxS wx blk (.slice a5 (mgN X n Y n') cap5) ∧ RowS wx w2.heap.size wx.heap.size a5 (mgN X n Y n') (mgV X Y) ∧ Below w2.heap.size w2 wx)
  case first =>
    go_region_held3 (fun W => W.cell? ⟨w.heap.size, 0, none⟩ = some (.slice a n cap) ∧ W.cell? ⟨w.heap.size + 1, 0, none⟩ = some (.slice a' n' cap')) (first | exact ⟨cA5, cD5⟩ | exact ⟨keepA cA5 zA5 _, keepA cD5 zD5 _⟩ | exact ⟨keepS cA5 (by omega), keepS cD5 (by omega)⟩ | exact ⟨cA4, cD4⟩ | exact ⟨keepA cA4 zA4 _, keepA cD4 zD4 _⟩ | exact ⟨cA3, c3⟩ | exact ⟨keepA cA3 zA3 _, keepA c3 zD3 _⟩ | exact ⟨cA, cD⟩ | exact ⟨keepA cA zA _, keepA cD zD _⟩) (first
        | (go_at_call 69; have tok1 := tok; clear tok; refine (toClock_any a n cap X _ hn (HS.out.1.kept (by first | exact hbo | exact (hbo).drew | exact (hbo).drew.drew | exact (hbo).alloc (by omega) _ | exact (hbo).drew.alloc (by simp; omega) _ | exact ((hbo).alloc (by omega) _).drew))).mono ?_; rintro r v3 ⟨⟨g3, rfl, hi3⟩, hb3⟩; have HI3 : Hid (RowS v3 w2.heap.size v3.heap.size (some ⟨g3, 0, none⟩) n X) := ⟨hi3.wide (by first | exact Nat.le_refl _ | (simp <;> omega) | omega) (Nat.le_refl _), Nat.le_refl _⟩; have HB3 : Below w2.heap.size w2 v3 := (by first | exact hb3 | exact (below_drew w2).trans hb3 | exact Below.trans ((below_drew w2).alloc (Nat.le_refl _) _) (hb3.mono (by simp)) | exact Below.trans ((Below.refl w2.heap.size w2).alloc (Nat.le_refl _) _) (hb3.mono (by simp)) | exact Below.trans ((Below.refl w2.heap.size w2).alloc (Nat.le_refl _) _).drew (hb3.mono (by simp))); have c3 : v3.cell? ⟨w.heap.size + 1, 0, none⟩ = some (.slice a' n' cap') := (HB3.cell (p := ⟨w.heap.size + 1, 0, none⟩) zD).trans cD; have z3 : w2.heap.size ≤ v3.heap.size := HB3.size; have zD3 : w.heap.size + 1 < v3.heap.size := Nat.lt_of_lt_of_le zD z3; have cA3 : v3.cell? ⟨w.heap.size, 0, none⟩ = some (.slice a n cap) := (HB3.cell (p := ⟨w.heap.size, 0, none⟩) zA).trans cA; have zA3 : w.heap.size < v3.heap.size := Nat.lt_of_lt_of_le zA z3; (try obtain ⟨nc_v3, nf_v3, y3⟩ := new_zero (w := w2) (v := .slice none 0 0) (t := 36) rfl hb3); clear hi3 hb3)
        | (go_at_call 69; refine (toClock_any a' n' cap' Y _ hq' (HS.out.2.kept (by first | exact below_next hbo HB3 | exact (below_next hbo HB3).drew | exact (below_next hbo HB3).drew.drew | exact (below_next hbo HB3).alloc (by omega) _ | exact (below_next hbo HB3).drew.alloc (by simp; omega) _ | exact ((below_next hbo HB3).alloc (by omega) _).drew))).mono ?_; rintro r v4 ⟨⟨g4, rfl, hi4⟩, hb4⟩; have HI4 : Hid (RowS v4 v3.heap.size v4.heap.size (some ⟨g4, 0, none⟩) n' Y) := ⟨hi4.wide (by first | exact Nat.le_refl _ | (simp <;> omega) | omega) (Nat.le_refl _), Nat.le_refl _⟩; have HB4 : Below v3.heap.size v3 v4 := (by first | exact hb4 | exact (below_drew v3).trans hb4 | exact Below.trans ((below_drew v3).alloc (Nat.le_refl _) _) (hb4.mono (by simp)) | exact Below.trans ((Below.refl v3.heap.size v3).alloc (Nat.le_refl _) _) (hb4.mono (by simp)) | exact Below.trans ((Below.refl v3.heap.size v3).alloc (Nat.le_refl _) _).drew (hb4.mono (by simp))); have HI5 : Hid (RowS v4 w2.heap.size v3.heap.size (some ⟨g3, 0, none⟩) n X) := HI3.out.next HB4; have z4 : v3.heap.size ≤ v4.heap.size := HB4.size; have cA4 := (HB4.cell (p := ⟨w.heap.size, 0, none⟩) zA3).trans cA3; have cD4 := (HB4.cell (p := ⟨w.heap.size + 1, 0, none⟩) zD3).trans c3; have zA4 := Nat.lt_of_lt_of_le zA3 z4; have zD4 := Nat.lt_of_lt_of_le zD3 z4; (try obtain ⟨nc_v4, nf_v4, y4⟩ := new_zero (w := v3) (v := .slice none 0 0) (t := 36) rfl hb4); (try have oc_b4 := (HB4.cell (p := ⟨w2.heap.size, 0, none⟩) y3).trans nc_v3); (try have of_b4 := (HB4.frozen (p := ⟨w2.heap.size, 0, none⟩) y3).trans nf_v3); (try have ol_b4 := Nat.lt_of_lt_of_le y3 HB4.size); clear hi4 hb4)
        | (go_at_call 33; refine (specMergeClock_any _ _ _ X _ _ _ Y _ hn hq' (by first | exact HI5.out.sl | exact (HI5.out.next (below_drew _)).sl | exact (HI5.out.next (Go.Joins.below_alloc1 _ _)).sl | exact ((HI5.out.next (below_drew _)).next (Go.Joins.below_alloc1 _ _)).sl) (by first | exact HI4.out.sl | exact (HI4.out.next (below_drew _)).sl | exact (HI4.out.next (Go.Joins.below_alloc1 _ _)).sl | exact ((HI4.out.next (below_drew _)).next (Go.Joins.below_alloc1 _ _)).sl)).mono ?_; rintro r v5 ⟨⟨a5, cap5, rfl, hi5⟩, hb5⟩; have HI6 : Hid (RowS v5 v4.heap.size v5.heap.size a5 (mgN X n Y n') (mgV X Y)) := ⟨hi5.wide (by first | exact Nat.le_refl _ | (simp <;> omega) | omega) (Nat.le_refl _), Nat.le_refl _⟩; (try have HI7 : Hid (RowS v5 (v4.heap.size + 1) v5.heap.size a5 (mgN X n Y n') (mgV X Y)) := row_new (w := v4) (v := .slice none 0 0) (t := 36) rfl hi5); have HB5 : Below v4.heap.size v4 v5 := (by first | exact hb5 | exact (below_drew v4).trans hb5 | exact Below.trans ((below_drew v4).alloc (Nat.le_refl _) _) (hb5.mono (by simp)) | exact Below.trans ((Below.refl v4.heap.size v4).alloc (Nat.le_refl _) _) (hb5.mono (by simp)) | exact Below.trans ((Below.refl v4.heap.size v4).alloc (Nat.le_refl _) _).drew (hb5.mono (by simp))); have z5 : v4.heap.size ≤ v5.heap.size := HB5.size; have cA5 := (HB5.cell (p := ⟨w.heap.size, 0, none⟩) zA4).trans cA4; have cD5 := (HB5.cell (p := ⟨w.heap.size + 1, 0, none⟩) zD4).trans cD4; have zA5 := Nat.lt_of_lt_of_le zA4 z5; have zD5 := Nat.lt_of_lt_of_le zD4 z5; (try obtain ⟨nc_v5, nf_v5, y5⟩ := new_zero (w := v4) (v := .slice none 0 0) (t := 36) rfl hb5); (try have oc_d5 := (HB5.cell (p := ⟨v3.heap.size, 0, none⟩) y4).trans nc_v4); (try have of_d5 := (HB5.frozen (p := ⟨v3.heap.size, 0, none⟩) y4).trans nf_v4); (try have ol_d5 := Nat.lt_of_lt_of_le y4 HB5.size); (try have oc_b5 := (HB5.cell (p := ⟨w2.heap.size, 0, none⟩) ol_b4).trans oc_b4); (try have of_b5 := (HB5.frozen (p := ⟨w2.heap.size, 0, none⟩) ol_b4).trans of_b4); (try have ol_b5 := Nat.lt_of_lt_of_le ol_b4 HB5.size); clear hi5 hb5))
    all_goals (go_wp2_with fail; go_meet; have hb25 : Below w2.heap.size w2 v5 := (HB3.trans (HB4.mono z3)).trans (HB5.mono (Nat.le_trans z3 z4)))
    all_goals first
      | exact ⟨_, a5, cap5, rfl, rfl, by omega, BoxS.new _ _ _, ⟨(HI6.out.next (Go.Joins.below_alloc1 _ _)).1.wide (by omega) (by simp), Nat.le_refl _⟩, hb25.alloc (by omega) _⟩
      | exact ⟨w2.heap.size, a5, cap5, rfl, rfl, by omega, ⟨World.cell?_setCell_same _ _ _ oc_b5, by simp <;> omega⟩, ⟨(ints_set HI6.out.1 (by omega)).wide (by omega) (by simp), Nat.le_refl _⟩, hb25.setCell (p := ⟨w2.heap.size, 0, none⟩) (by show w2.heap.size ≤ w2.heap.size; omega) _⟩
      | exact ⟨v3.heap.size, a5, cap5, rfl, rfl, by omega, ⟨World.cell?_setCell_same _ _ _ oc_d5, by simp <;> omega⟩, ⟨(ints_set HI6.out.1 (by omega)).wide (by omega) (by simp), Nat.le_refl _⟩, hb25.setCell (p := ⟨v3.heap.size, 0, none⟩) (by show w2.heap.size ≤ v3.heap.size; omega) _⟩
      | exact ⟨v4.heap.size, a5, cap5, rfl, rfl, by omega, ⟨World.cell?_setCell_same _ _ _ nc_v5, by simp <;> omega⟩, ⟨(ints_set HI7.out.1 (by omega)).wide (by omega) (by simp), Nat.le_refl _⟩, hb25.setCell (p := ⟨v4.heap.size, 0, none⟩) (by show w2.heap.size ≤ v4.heap.size; omega) _⟩
  case rest =>
    obtain ⟨blkS, aS, capS, rfl, rfl, hloS, hbx, hrw, hb⟩ := hcut
    obtain ⟨y3, hy⟩ : ∃ x, x = wc := ⟨wc, rfl⟩
    subst hy
    have hblS : blkS < y3.heap.size := hbx.2
    have HB3 : Hid (Below w.heap.size w y3) := below_next HB2.out hb
    have sz3 : w2.heap.size ≤ y3.heap.size := hb.size
    have A_3 : Hid (BoxS y3 w.heap.size (.slice a n cap)) := A_2.out.next hb
    have D_3 : Hid (BoxS y3 (w.heap.size + 1) (.slice a' n' cap')) := D_2.out.next hb
    have SB_3 : Hid (BoxS y3 blkS (.slice aS (mgN X n Y n') capS)) := hbx
    have SR_3 : Hid (RowS y3 w2.heap.size y3.heap.size aS (mgN X n Y n') (mgV X Y)) := hrw
    clear hb hbx hrw tok cA zA cD zD hbo szo A_2 D_2 HB2
    have hN : mgN X n Y n' ≤ 6 := by unfold mgN; split <;> omega
    have cA := A_3.out.1
    have zA := A_3.out.2
    go_wp2_with fail
    refine (toClock_any _ _ _ X _ hn (HS.out.1.kept HB3.out)).mono ?_
    rintro r w4 ⟨⟨g4, rfl, hi⟩, hb⟩
    have HB4 : Hid (Below w.heap.size w w4) := below_next HB3.out hb
    have sz4 : y3.heap.size ≤ w4.heap.size := hb.size
    have A_4 : Hid (BoxS w4 w.heap.size (.slice a n cap)) := A_3.out.next hb
    have D_4 : Hid (BoxS w4 (w.heap.size + 1) (.slice a' n' cap')) := D_3.out.next hb
    have SB_4 : Hid (BoxS w4 blkS (.slice aS (mgN X n Y n') capS)) := SB_3.out.next hb
    have SR_4 : Hid (RowS w4 w2.heap.size y3.heap.size aS (mgN X n Y n') (mgV X Y)) := SR_3.out.next hb
    have P_4 : Hid (RowS w4 y3.heap.size w4.heap.size (some ⟨g4, 0, none⟩) n X) := RowS.of hi
    clear hb hi cA zA A_3 D_3 SB_3 SR_3 HB3
    have cD := D_4.out.1
    have zD := D_4.out.2
    go_wp2_with fail
    obtain ⟨w5, hw5⟩ : ∃ x, x = w4.alloc (.cells #[.slice (some ⟨g4, 0, none⟩) n n] 36) := ⟨_, rfl⟩
    have hb : Below w4.heap.size w4 w5 := hw5 ▸ Go.Joins.below_alloc1 _ _
    have HB5 : Hid (Below w.heap.size w w5) := below_next HB4.out hb
    have sz5 : w4.heap.size < w5.heap.size := by rw [hw5]; simp
    have A_5 : Hid (BoxS w5 w.heap.size (.slice a n cap)) := A_4.out.next hb
    have D_5 : Hid (BoxS w5 (w.heap.size + 1) (.slice a' n' cap')) := D_4.out.next hb
    have SB_5 : Hid (BoxS w5 blkS (.slice aS (mgN X n Y n') capS)) := SB_4.out.next hb
    have SR_5 : Hid (RowS w5 w2.heap.size y3.heap.size aS (mgN X n Y n') (mgV X Y)) := SR_4.out.next hb
    have P_5 : Hid (RowS w5 y3.heap.size w4.heap.size (some ⟨g4, 0, none⟩) n X) := P_4.out.next hb
    have U_5 : Hid (BoxS w5 w4.heap.size (.slice (some ⟨g4, 0, none⟩) n n)) := hw5 ▸ BoxS.new _ _ _
    rw [← hw5]
    clear hb hw5 cD zD A_4 D_4 SB_4 SR_4 P_4 HB4
    refine (toClock_any _ _ _ Y _ hq' (HS.out.2.kept HB5.out)).mono ?_
    rintro r w6 ⟨⟨g6, rfl, hi⟩, hb⟩
    have HB6 : Hid (Below w.heap.size w w6) := below_next HB5.out hb
    have sz6 : w5.heap.size ≤ w6.heap.size := hb.size
    have A_6 : Hid (BoxS w6 w.heap.size (.slice a n cap)) := A_5.out.next hb
    have D_6 : Hid (BoxS w6 (w.heap.size + 1) (.slice a' n' cap')) := D_5.out.next hb
    have SB_6 : Hid (BoxS w6 blkS (.slice aS (mgN X n Y n') capS)) := SB_5.out.next hb
    have SR_6 : Hid (RowS w6 w2.heap.size y3.heap.size aS (mgN X n Y n') (mgV X Y)) := SR_5.out.next hb
    have P_6 : Hid (RowS w6 y3.heap.size w4.heap.size (some ⟨g4, 0, none⟩) n X) := P_5.out.next hb
    have U_6 : Hid (BoxS w6 w4.heap.size (.slice (some ⟨g4, 0, none⟩) n n)) := U_5.out.next hb
    have Q_6 : Hid (RowS w6 w5.heap.size w6.heap.size (some ⟨g6, 0, none⟩) n' Y) := RowS.of hi
    clear hb hi A_5 D_5 SB_5 SR_5 P_5 U_5 HB5
    have cU := U_6.out.1
    have zU := U_6.out.2
    go_wp2_with fail
    obtain ⟨w7, hw7⟩ : ∃ x, x = w6.alloc (.cells #[.slice (some ⟨g6, 0, none⟩) n' n'] 36) := ⟨_, rfl⟩
    have hb : Below w6.heap.size w6 w7 := hw7 ▸ Go.Joins.below_alloc1 _ _
    have HB7 : Hid (Below w.heap.size w w7) := below_next HB6.out hb
    have sz7 : w6.heap.size < w7.heap.size := by rw [hw7]; simp
    have A_7 : Hid (BoxS w7 w.heap.size (.slice a n cap)) := A_6.out.next hb
    have D_7 : Hid (BoxS w7 (w.heap.size + 1) (.slice a' n' cap')) := D_6.out.next hb
    have SB_7 : Hid (BoxS w7 blkS (.slice aS (mgN X n Y n') capS)) := SB_6.out.next hb
    have SR_7 : Hid (RowS w7 w2.heap.size y3.heap.size aS (mgN X n Y n') (mgV X Y)) := SR_6.out.next hb
    have P_7 : Hid (RowS w7 y3.heap.size w4.heap.size (some ⟨g4, 0, none⟩) n X) := P_6.out.next hb
    have U_7 : Hid (BoxS w7 w4.heap.size (.slice (some ⟨g4, 0, none⟩) n n)) := U_6.out.next hb
    have Q_7 : Hid (RowS w7 w5.heap.size w6.heap.size (some ⟨g6, 0, none⟩) n' Y) := Q_6.out.next hb
    have V_7 : Hid (BoxS w7 w6.heap.size (.slice (some ⟨g6, 0, none⟩) n' n')) := hw7 ▸ BoxS.new _ _ _
    rw [← hw7]
    clear hb hw7 cU zU A_6 D_6 SB_6 SR_6 P_6 U_6 Q_6 HB6
    refine (mergeClock_any _ _ _ X _ _ _ Y _ hn hq' P_7.out.sl Q_7.out.sl).mono ?_
    rintro r w8 ⟨⟨aG, capG, rfl, hi⟩, hb⟩
    have HB8 : Hid (Below w.heap.size w w8) := below_next HB7.out hb
    have sz8 : w7.heap.size ≤ w8.heap.size := hb.size
    have A_8 : Hid (BoxS w8 w.heap.size (.slice a n cap)) := A_7.out.next hb
    have D_8 : Hid (BoxS w8 (w.heap.size + 1) (.slice a' n' cap')) := D_7.out.next hb
    have SB_8 : Hid (BoxS w8 blkS (.slice aS (mgN X n Y n') capS)) := SB_7.out.next hb
    have SR_8 : Hid (RowS w8 w2.heap.size y3.heap.size aS (mgN X n Y n') (mgV X Y)) := SR_7.out.next hb
    have P_8 : Hid (RowS w8 y3.heap.size w4.heap.size (some ⟨g4, 0, none⟩) n X) := P_7.out.next hb
    have U_8 : Hid (BoxS w8 w4.heap.size (.slice (some ⟨g4, 0, none⟩) n n)) := U_7.out.next hb
    have Q_8 : Hid (RowS w8 w5.heap.size w6.heap.size (some ⟨g6, 0, none⟩) n' Y) := Q_7.out.next hb
    have V_8 : Hid (BoxS w8 w6.heap.size (.slice (some ⟨g6, 0, none⟩) n' n')) := V_7.out.next hb
    have G_8 : Hid (RowS w8 w7.heap.size w8.heap.size aG (mgN X n Y n') (mgV X Y)) := RowS.of hi
    clear hb hi A_7 D_7 SB_7 SR_7 P_7 U_7 Q_7 V_7 HB7
    have cSB := SB_8.out.1
    have zSB := SB_8.out.2
    go_wp2_with fail
    obtain ⟨w9, hw9⟩ : ∃ x, x = w8.alloc (.cells #[.slice aG (mgN X n Y n') capG] 36) := ⟨_, rfl⟩
    have hb : Below w8.heap.size w8 w9 := hw9 ▸ Go.Joins.below_alloc1 _ _
    have HB9 : Hid (Below w.heap.size w w9) := below_next HB8.out hb
    have sz9 : w8.heap.size < w9.heap.size := by rw [hw9]; simp
    have A_9 : Hid (BoxS w9 w.heap.size (.slice a n cap)) := A_8.out.next hb
    have D_9 : Hid (BoxS w9 (w.heap.size + 1) (.slice a' n' cap')) := D_8.out.next hb
    have SB_9 : Hid (BoxS w9 blkS (.slice aS (mgN X n Y n') capS)) := SB_8.out.next hb
    have SR_9 : Hid (RowS w9 w2.heap.size y3.heap.size aS (mgN X n Y n') (mgV X Y)) := SR_8.out.next hb
    have P_9 : Hid (RowS w9 y3.heap.size w4.heap.size (some ⟨g4, 0, none⟩) n X) := P_8.out.next hb
    have U_9 : Hid (BoxS w9 w4.heap.size (.slice (some ⟨g4, 0, none⟩) n n)) := U_8.out.next hb
    have Q_9 : Hid (RowS w9 w5.heap.size w6.heap.size (some ⟨g6, 0, none⟩) n' Y) := Q_8.out.next hb
    have V_9 : Hid (BoxS w9 w6.heap.size (.slice (some ⟨g6, 0, none⟩) n' n')) := V_8.out.next hb
    have G_9 : Hid (RowS w9 w7.heap.size w8.heap.size aG (mgN X n Y n') (mgV X Y)) := G_8.out.next hb
    have GB_9 : Hid (BoxS w9 w8.heap.size (.slice aG (mgN X n Y n') capG)) := hw9 ▸ BoxS.new _ _ _
    rw [← hw9]
    clear hb hw9 cSB zSB A_8 D_8 SB_8 SR_8 P_8 U_8 Q_8 V_8 G_8 HB8
    refine (eqClock_same _ _ _ _ _ (mgV X Y) _ (by omega) G_9.out.sl SR_9.out.sl).mono ?_
    rintro r w10 ⟨rfl, hb⟩
    have HB10 : Hid (Below w.heap.size w w10) := below_next HB9.out hb
    have sz10 : w9.heap.size ≤ w10.heap.size := hb.size
    have A_10 : Hid (BoxS w10 w.heap.size (.slice a n cap)) := A_9.out.next hb
    have D_10 : Hid (BoxS w10 (w.heap.size + 1) (.slice a' n' cap')) := D_9.out.next hb
    have SB_10 : Hid (BoxS w10 blkS (.slice aS (mgN X n Y n') capS)) := SB_9.out.next hb
    have SR_10 : Hid (RowS w10 w2.heap.size y3.heap.size aS (mgN X n Y n') (mgV X Y)) := SR_9.out.next hb
    have P_10 : Hid (RowS w10 y3.heap.size w4.heap.size (some ⟨g4, 0, none⟩) n X) := P_9.out.next hb
    have U_10 : Hid (BoxS w10 w4.heap.size (.slice (some ⟨g4, 0, none⟩) n n)) := U_9.out.next hb
    have Q_10 : Hid (RowS w10 w5.heap.size w6.heap.size (some ⟨g6, 0, none⟩) n' Y) := Q_9.out.next hb
    have V_10 : Hid (BoxS w10 w6.heap.size (.slice (some ⟨g6, 0, none⟩) n' n')) := V_9.out.next hb
    have G_10 : Hid (RowS w10 w7.heap.size w8.heap.size aG (mgN X n Y n') (mgV X Y)) := G_9.out.next hb
    have GB_10 : Hid (BoxS w10 w8.heap.size (.slice aG (mgN X n Y n') capG)) := GB_9.out.next hb
    clear hb A_9 D_9 SB_9 SR_9 P_9 U_9 Q_9 V_9 G_9 GB_9 HB9
    have cU := U_10.out.1
    have zU := U_10.out.2
    have cA := A_10.out.1
    have zA := A_10.out.2
    have HQ := P_10.out
    have hbq := HB10.out
    go_upto_region 14 with fail
    go_cut [58] (fun s0 wx => s0 = .bool false ∧ Below w10.heap.size w10 wx)
    case first =>
      go_region_with (first
          | (go_at_call 69; refine (toClock_any a n cap X _ hn (HS.out.1.kept (by first | exact hbq | exact hbq.drew | exact hbq.drew.drew))).mono ?_; rintro r wp ⟨⟨gp, rfl, hip⟩, hbp⟩; have HIp : Hid (RowS wp w10.heap.size wp.heap.size (some ⟨gp, 0, none⟩) n X) := RowS.of hip; have HBp : Below w10.heap.size w10 wp := (by first | exact hbp | exact (below_drew w10).trans hbp); have HQp := Hid.intro (RowS.next HQ HBp); have cp := (HBp.cell (p := ⟨w4.heap.size, 0, none⟩) zU).trans cU; have zp : w10.heap.size ≤ wp.heap.size := HBp.size; clear hip hbp)
          | (go_at_call 70; refine (eqClock_same _ _ _ _ _ X _ hn HQp.out.sl HIp.out.sl).mono ?_; rintro r wq ⟨rfl, hbq2⟩; have HBq : Below wp.heap.size wp wq := (by first | exact hbq2 | exact (below_drew wp).trans hbq2); clear hbq2))
      all_goals (go_wp2_with fail; go_meet; exact ⟨rfl, HBp.trans (HBq.mono zp)⟩)
    case rest =>
      obtain ⟨rfl, hb⟩ := hcut
      obtain ⟨y11, hy⟩ : ∃ x, x = wc := ⟨wc, rfl⟩
      subst hy
      have HB11 : Hid (Below w.heap.size w y11) := below_next HB10.out hb
      have sz11 : w10.heap.size ≤ y11.heap.size := hb.size
      have A_11 : Hid (BoxS y11 w.heap.size (.slice a n cap)) := A_10.out.next hb
      have D_11 : Hid (BoxS y11 (w.heap.size + 1) (.slice a' n' cap')) := D_10.out.next hb
      have SB_11 : Hid (BoxS y11 blkS (.slice aS (mgN X n Y n') capS)) := SB_10.out.next hb
      have SR_11 : Hid (RowS y11 w2.heap.size y3.heap.size aS (mgN X n Y n') (mgV X Y)) := SR_10.out.next hb
      have P_11 : Hid (RowS y11 y3.heap.size w4.heap.size (some ⟨g4, 0, none⟩) n X) := P_10.out.next hb
      have U_11 : Hid (BoxS y11 w4.heap.size (.slice (some ⟨g4, 0, none⟩) n n)) := U_10.out.next hb
      have Q_11 : Hid (RowS y11 w5.heap.size w6.heap.size (some ⟨g6, 0, none⟩) n' Y) := Q_10.out.next hb
      have V_11 : Hid (BoxS y11 w6.heap.size (.slice (some ⟨g6, 0, none⟩) n' n')) := V_10.out.next hb
      have G_11 : Hid (RowS y11 w7.heap.size w8.heap.size aG (mgN X n Y n') (mgV X Y)) := G_10.out.next hb
      have GB_11 : Hid (BoxS y11 w8.heap.size (.slice aG (mgN X n Y n') capG)) := GB_10.out.next hb
      clear hb A_10 D_10 SB_10 SR_10 P_10 U_10 Q_10 V_10 G_10 GB_10 HB10
      clear cU cA zU zA HQ hbq
      have cV := V_11.out.1
      have zV := V_11.out.2
      have cD := D_11.out.1
      have zD := D_11.out.2
      have HQ := Q_11.out
      have hbq := HB11.out
      go_upto_region 16 with fail
      go_cut [63] (fun s0 wx => s0 = .bool false ∧ Below y11.heap.size y11 wx)
      case first =>
        go_region_with (first
            | (go_at_call 69; refine (toClock_any a' n' cap' Y _ hq' (HS.out.2.kept (by first | exact hbq | exact hbq.drew | exact hbq.drew.drew))).mono ?_; rintro r wp ⟨⟨gp, rfl, hip⟩, hbp⟩; have HIp : Hid (RowS wp y11.heap.size wp.heap.size (some ⟨gp, 0, none⟩) n' Y) := RowS.of hip; have HBp : Below y11.heap.size y11 wp := (by first | exact hbp | exact (below_drew y11).trans hbp); have HQp := Hid.intro (RowS.next HQ HBp); have cp := (HBp.cell (p := ⟨w6.heap.size, 0, none⟩) zV).trans cV; have zp : y11.heap.size ≤ wp.heap.size := HBp.size; clear hip hbp)
            | (go_at_call 70; refine (eqClock_same _ _ _ _ _ Y _ hq' HQp.out.sl HIp.out.sl).mono ?_; rintro r wq ⟨rfl, hbq2⟩; have HBq : Below wp.heap.size wp wq := (by first | exact hbq2 | exact (below_drew wp).trans hbq2); clear hbq2))
        all_goals (go_wp2_with fail; go_meet; exact ⟨rfl, HBp.trans (HBq.mono zp)⟩)
      case rest =>
        obtain ⟨rfl, hb⟩ := hcut
        obtain ⟨y12, hy⟩ : ∃ x, x = wc := ⟨wc, rfl⟩
        subst hy
        have HB12 : Hid (Below w.heap.size w y12) := below_next HB11.out hb
        have sz12 : y11.heap.size ≤ y12.heap.size := hb.size
        have A_12 : Hid (BoxS y12 w.heap.size (.slice a n cap)) := A_11.out.next hb
        have D_12 : Hid (BoxS y12 (w.heap.size + 1) (.slice a' n' cap')) := D_11.out.next hb
        have SB_12 : Hid (BoxS y12 blkS (.slice aS (mgN X n Y n') capS)) := SB_11.out.next hb
        have SR_12 : Hid (RowS y12 w2.heap.size y3.heap.size aS (mgN X n Y n') (mgV X Y)) := SR_11.out.next hb
        have P_12 : Hid (RowS y12 y3.heap.size w4.heap.size (some ⟨g4, 0, none⟩) n X) := P_11.out.next hb
        have U_12 : Hid (BoxS y12 w4.heap.size (.slice (some ⟨g4, 0, none⟩) n n)) := U_11.out.next hb
        have Q_12 : Hid (RowS y12 w5.heap.size w6.heap.size (some ⟨g6, 0, none⟩) n' Y) := Q_11.out.next hb
        have V_12 : Hid (BoxS y12 w6.heap.size (.slice (some ⟨g6, 0, none⟩) n' n')) := V_11.out.next hb
        have G_12 : Hid (RowS y12 w7.heap.size w8.heap.size aG (mgN X n Y n') (mgV X Y)) := G_11.out.next hb
        have GB_12 : Hid (BoxS y12 w8.heap.size (.slice aG (mgN X n Y n') capG)) := GB_11.out.next hb
        clear hb A_11 D_11 SB_11 SR_11 P_11 U_11 Q_11 V_11 G_11 GB_11 HB11
        clear cV cD zV zD HQ hbq
        have cU := U_12.out.1
        have zU := U_12.out.2
        go_wp2_with fail
        refine (markClock_any _ _ _ X _ _ _ _ hn (by omega) (by omega) P_12.out.2 P_12.out.1).mono ?_
        rintro r w13 ⟨rfl, hi, ht⟩
        have HB13 : Hid (Below w.heap.size w w13) := below_turn HB12.out ht (by omega)
        have sz13 : y12.heap.size ≤ w13.heap.size := ht.2.2.2.1
        have A_13 : Hid (BoxS w13 w.heap.size (.slice a n cap)) := A_12.out.turn ht (by omega)
        have D_13 : Hid (BoxS w13 (w.heap.size + 1) (.slice a' n' cap')) := D_12.out.turn ht (by omega)
        have SB_13 : Hid (BoxS w13 blkS (.slice aS (mgN X n Y n') capS)) := SB_12.out.turn ht (by omega)
        have SR_13 : Hid (RowS w13 w2.heap.size y3.heap.size aS (mgN X n Y n') (mgV X Y)) := SR_12.out.turn ht (by omega)
        have P_13 : Hid (RowS w13 y3.heap.size w4.heap.size (some ⟨g4, 0, none⟩) n (fun i => 1 + (i : Int))) := ⟨hi, Nat.le_trans P_12.out.2 sz13⟩
        have U_13 : Hid (BoxS w13 w4.heap.size (.slice (some ⟨g4, 0, none⟩) n n)) := U_12.out.turn ht (by omega)
        have Q_13 : Hid (RowS w13 w5.heap.size w6.heap.size (some ⟨g6, 0, none⟩) n' Y) := Q_12.out.turn ht (by omega)
        have V_13 : Hid (BoxS w13 w6.heap.size (.slice (some ⟨g6, 0, none⟩) n' n')) := V_12.out.turn ht (by omega)
        have G_13 : Hid (RowS w13 w7.heap.size w8.heap.size aG (mgN X n Y n') (mgV X Y)) := G_12.out.turn ht (by omega)
        have GB_13 : Hid (BoxS w13 w8.heap.size (.slice aG (mgN X n Y n') capG)) := GB_12.out.turn ht (by omega)
        clear ht hi cU zU A_12 D_12 SB_12 SR_12 P_12 U_12 Q_12 V_12 G_12 GB_12 HB12
        have cV := V_13.out.1
        have zV := V_13.out.2
        go_wp2_with fail
        refine (markClock_any _ _ _ Y _ _ _ _ hq' (by omega) (by omega) Q_13.out.2 Q_13.out.1).mono ?_
        rintro r w14 ⟨rfl, hi, ht⟩
        have HB14 : Hid (Below w.heap.size w w14) := below_turn HB13.out ht (by omega)
        have sz14 : w13.heap.size ≤ w14.heap.size := ht.2.2.2.1
        have A_14 : Hid (BoxS w14 w.heap.size (.slice a n cap)) := A_13.out.turn ht (by omega)
        have D_14 : Hid (BoxS w14 (w.heap.size + 1) (.slice a' n' cap')) := D_13.out.turn ht (by omega)
        have SB_14 : Hid (BoxS w14 blkS (.slice aS (mgN X n Y n') capS)) := SB_13.out.turn ht (by omega)
        have SR_14 : Hid (RowS w14 w2.heap.size y3.heap.size aS (mgN X n Y n') (mgV X Y)) := SR_13.out.turn ht (by omega)
        have P_14 : Hid (RowS w14 y3.heap.size w4.heap.size (some ⟨g4, 0, none⟩) n (fun i => 1 + (i : Int))) := P_13.out.turn ht (by omega)
        have U_14 : Hid (BoxS w14 w4.heap.size (.slice (some ⟨g4, 0, none⟩) n n)) := U_13.out.turn ht (by omega)
        have Q_14 : Hid (RowS w14 w5.heap.size w6.heap.size (some ⟨g6, 0, none⟩) n' (fun i => 1 + (n : Int) + (i : Int))) := ⟨hi, Nat.le_trans Q_13.out.2 sz14⟩
        have V_14 : Hid (BoxS w14 w6.heap.size (.slice (some ⟨g6, 0, none⟩) n' n')) := V_13.out.turn ht (by omega)
        have G_14 : Hid (RowS w14 w7.heap.size w8.heap.size aG (mgN X n Y n') (mgV X Y)) := G_13.out.turn ht (by omega)
        have GB_14 : Hid (BoxS w14 w8.heap.size (.slice aG (mgN X n Y n') capG)) := GB_13.out.turn ht (by omega)
        clear ht hi cV zV A_13 D_13 SB_13 SR_13 P_13 U_13 Q_13 V_13 G_13 GB_13 HB13
        clear P_14
        clear Q_14
        clear U_14
        clear V_14
        have cGB := GB_14.out.1
        have zGB := GB_14.out.2
        have cSB := SB_14.out.1
        have zSB := SB_14.out.2
        go_wp2_with fail
        refine (eqClock_same _ _ _ _ _ (mgV X Y) _ (by omega) G_14.out.sl SR_14.out.sl).mono ?_
        rintro r w15 ⟨rfl, hb⟩
        have HB15 : Hid (Below w.heap.size w w15) := below_next HB14.out hb
        have sz15 : w14.heap.size ≤ w15.heap.size := hb.size
        have A_15 : Hid (BoxS w15 w.heap.size (.slice a n cap)) := A_14.out.next hb
        have D_15 : Hid (BoxS w15 (w.heap.size + 1) (.slice a' n' cap')) := D_14.out.next hb
        have SB_15 : Hid (BoxS w15 blkS (.slice aS (mgN X n Y n') capS)) := SB_14.out.next hb
        have SR_15 : Hid (RowS w15 w2.heap.size y3.heap.size aS (mgN X n Y n') (mgV X Y)) := SR_14.out.next hb
        have G_15 : Hid (RowS w15 w7.heap.size w8.heap.size aG (mgN X n Y n') (mgV X Y)) := G_14.out.next hb
        have GB_15 : Hid (BoxS w15 w8.heap.size (.slice aG (mgN X n Y n') capG)) := GB_14.out.next hb
        clear hb cGB zGB cSB zSB A_14 D_14 SB_14 SR_14 G_14 GB_14 HB14
        have cGB := GB_15.out.1
        have zGB := GB_15.out.2
        go_wp2_with fail
        refine (markClock_any _ _ _ (mgV X Y) _ _ _ _ (by omega) (by omega) (by omega) G_15.out.2 G_15.out.1).mono ?_
        rintro r w16 ⟨rfl, hi, ht⟩
        have HB16 : Hid (Below w.heap.size w w16) := below_turn HB15.out ht (by omega)
        have sz16 : w15.heap.size ≤ w16.heap.size := ht.2.2.2.1
        have A_16 : Hid (BoxS w16 w.heap.size (.slice a n cap)) := A_15.out.turn ht (by omega)
        have D_16 : Hid (BoxS w16 (w.heap.size + 1) (.slice a' n' cap')) := D_15.out.turn ht (by omega)
        have SB_16 : Hid (BoxS w16 blkS (.slice aS (mgN X n Y n') capS)) := SB_15.out.turn ht (by omega)
        have SR_16 : Hid (RowS w16 w2.heap.size y3.heap.size aS (mgN X n Y n') (mgV X Y)) := SR_15.out.turn ht (by omega)
        have G_16 : Hid (RowS w16 w7.heap.size w8.heap.size aG (mgN X n Y n') (fun i => 1 + (i : Int))) := ⟨hi, Nat.le_trans G_15.out.2 sz16⟩
        have GB_16 : Hid (BoxS w16 w8.heap.size (.slice aG (mgN X n Y n') capG)) := GB_15.out.turn ht (by omega)
        clear ht hi cGB zGB A_15 D_15 SB_15 SR_15 G_15 GB_15 HB15
        have cGB := GB_16.out.1
        have zGB := GB_16.out.2
        go_wp2_with fail
        refine (heldClock_any _ _ _ 1 _ (by omega) (by omega) (by omega) G_16.out.sl).mono ?_
        rintro r w17 ⟨rfl, hb⟩
        have HB17 : Hid (Below w.heap.size w w17) := below_next HB16.out hb
        have sz17 : w16.heap.size ≤ w17.heap.size := hb.size
        have A_17 : Hid (BoxS w17 w.heap.size (.slice a n cap)) := A_16.out.next hb
        have D_17 : Hid (BoxS w17 (w.heap.size + 1) (.slice a' n' cap')) := D_16.out.next hb
        have SB_17 : Hid (BoxS w17 blkS (.slice aS (mgN X n Y n') capS)) := SB_16.out.next hb
        have SR_17 : Hid (RowS w17 w2.heap.size y3.heap.size aS (mgN X n Y n') (mgV X Y)) := SR_16.out.next hb
        have G_17 : Hid (RowS w17 w7.heap.size w8.heap.size aG (mgN X n Y n') (fun i => 1 + (i : Int))) := G_16.out.next hb
        have GB_17 : Hid (BoxS w17 w8.heap.size (.slice aG (mgN X n Y n') capG)) := GB_16.out.next hb
        clear hb cGB zGB A_16 D_16 SB_16 SR_16 G_16 GB_16 HB16
        have cA := A_17.out.1
        have zA := A_17.out.2
        have cD := D_17.out.1
        have zD := D_17.out.2
        have hbo := HB17.out
        have szo : w.heap.size ≤ w17.heap.size := hbo.size
        have tok : True := trivial
        go_upto_region 31 with fail
        go_cut [15, 16] (fun s0 s1 wx => ∃ blk a5 cap5, s0 = .pointer (some ⟨blk, 0, none⟩) ∧ s1 = .bool (ccOk X n Y n') ∧ w17.heap.size ≤ blk ∧ BoxS wx blk (.slice a5 (mgN X n Y n') cap5) ∧ RowS wx w17.heap.size wx.heap.size a5 (mgN X n Y n') (mgV X Y) ∧ Below w17.heap.size w17 wx)
        case first =>
          go_region_held3 (fun W => W.cell? ⟨w.heap.size, 0, none⟩ = some (.slice a n cap) ∧ W.cell? ⟨w.heap.size + 1, 0, none⟩ = some (.slice a' n' cap')) (first | exact ⟨cA5, cD5⟩ | exact ⟨keepA cA5 zA5 _, keepA cD5 zD5 _⟩ | exact ⟨keepS cA5 (by omega), keepS cD5 (by omega)⟩ | exact ⟨cA4, cD4⟩ | exact ⟨keepA cA4 zA4 _, keepA cD4 zD4 _⟩ | exact ⟨cA3, c3⟩ | exact ⟨keepA cA3 zA3 _, keepA c3 zD3 _⟩ | exact ⟨cA, cD⟩ | exact ⟨keepA cA zA _, keepA cD zD _⟩) (first
              | (go_at_call 69; have tok1 := tok; clear tok; refine (toClock_any a n cap X _ hn (HS.out.1.kept (by first | exact hbo | exact (hbo).drew | exact (hbo).drew.drew | exact (hbo).alloc (by omega) _ | exact (hbo).drew.alloc (by simp; omega) _ | exact ((hbo).alloc (by omega) _).drew))).mono ?_; rintro r v3 ⟨⟨g3, rfl, hi3⟩, hb3⟩; have HI3 : Hid (RowS v3 w17.heap.size v3.heap.size (some ⟨g3, 0, none⟩) n X) := ⟨hi3.wide (by first | exact Nat.le_refl _ | (simp <;> omega) | omega) (Nat.le_refl _), Nat.le_refl _⟩; have HB3 : Below w17.heap.size w17 v3 := (by first | exact hb3 | exact (below_drew w17).trans hb3 | exact Below.trans ((below_drew w17).alloc (Nat.le_refl _) _) (hb3.mono (by simp)) | exact Below.trans ((Below.refl w17.heap.size w17).alloc (Nat.le_refl _) _) (hb3.mono (by simp)) | exact Below.trans ((Below.refl w17.heap.size w17).alloc (Nat.le_refl _) _).drew (hb3.mono (by simp))); have c3 : v3.cell? ⟨w.heap.size + 1, 0, none⟩ = some (.slice a' n' cap') := (HB3.cell (p := ⟨w.heap.size + 1, 0, none⟩) zD).trans cD; have z3 : w17.heap.size ≤ v3.heap.size := HB3.size; have zD3 : w.heap.size + 1 < v3.heap.size := Nat.lt_of_lt_of_le zD z3; have cA3 : v3.cell? ⟨w.heap.size, 0, none⟩ = some (.slice a n cap) := (HB3.cell (p := ⟨w.heap.size, 0, none⟩) zA).trans cA; have zA3 : w.heap.size < v3.heap.size := Nat.lt_of_lt_of_le zA z3; (try obtain ⟨nc_v3, nf_v3, y3⟩ := new_zero (w := w17) (v := .slice none 0 0) (t := 36) rfl hb3); clear hi3 hb3)
              | (go_at_call 69; refine (toClock_any a' n' cap' Y _ hq' (HS.out.2.kept (by first | exact below_next hbo HB3 | exact (below_next hbo HB3).drew | exact (below_next hbo HB3).drew.drew | exact (below_next hbo HB3).alloc (by omega) _ | exact (below_next hbo HB3).drew.alloc (by simp; omega) _ | exact ((below_next hbo HB3).alloc (by omega) _).drew))).mono ?_; rintro r v4 ⟨⟨g4, rfl, hi4⟩, hb4⟩; have HI4 : Hid (RowS v4 v3.heap.size v4.heap.size (some ⟨g4, 0, none⟩) n' Y) := ⟨hi4.wide (by first | exact Nat.le_refl _ | (simp <;> omega) | omega) (Nat.le_refl _), Nat.le_refl _⟩; have HB4 : Below v3.heap.size v3 v4 := (by first | exact hb4 | exact (below_drew v3).trans hb4 | exact Below.trans ((below_drew v3).alloc (Nat.le_refl _) _) (hb4.mono (by simp)) | exact Below.trans ((Below.refl v3.heap.size v3).alloc (Nat.le_refl _) _) (hb4.mono (by simp)) | exact Below.trans ((Below.refl v3.heap.size v3).alloc (Nat.le_refl _) _).drew (hb4.mono (by simp))); have HI5 : Hid (RowS v4 w17.heap.size v3.heap.size (some ⟨g3, 0, none⟩) n X) := HI3.out.next HB4; have z4 : v3.heap.size ≤ v4.heap.size := HB4.size; have cA4 := (HB4.cell (p := ⟨w.heap.size, 0, none⟩) zA3).trans cA3; have cD4 := (HB4.cell (p := ⟨w.heap.size + 1, 0, none⟩) zD3).trans c3; have zA4 := Nat.lt_of_lt_of_le zA3 z4; have zD4 := Nat.lt_of_lt_of_le zD3 z4; (try obtain ⟨nc_v4, nf_v4, y4⟩ := new_zero (w := v3) (v := .slice none 0 0) (t := 36) rfl hb4); (try have oc_b4 := (HB4.cell (p := ⟨w17.heap.size, 0, none⟩) y3).trans nc_v3); (try have of_b4 := (HB4.frozen (p := ⟨w17.heap.size, 0, none⟩) y3).trans nf_v3); (try have ol_b4 := Nat.lt_of_lt_of_le y3 HB4.size); clear hi4 hb4)
              | (go_at_call 32; refine (mergeClock_any _ _ _ X _ _ _ Y _ hn hq' (by first | exact HI5.out.sl | exact (HI5.out.next (below_drew _)).sl | exact (HI5.out.next (Go.Joins.below_alloc1 _ _)).sl | exact ((HI5.out.next (below_drew _)).next (Go.Joins.below_alloc1 _ _)).sl) (by first | exact HI4.out.sl | exact (HI4.out.next (below_drew _)).sl | exact (HI4.out.next (Go.Joins.below_alloc1 _ _)).sl | exact ((HI4.out.next (below_drew _)).next (Go.Joins.below_alloc1 _ _)).sl)).mono ?_; rintro r v5 ⟨⟨a5, cap5, rfl, hi5⟩, hb5⟩; have HI6 : Hid (RowS v5 v4.heap.size v5.heap.size a5 (mgN X n Y n') (mgV X Y)) := ⟨hi5.wide (by first | exact Nat.le_refl _ | (simp <;> omega) | omega) (Nat.le_refl _), Nat.le_refl _⟩; (try have HI7 : Hid (RowS v5 (v4.heap.size + 1) v5.heap.size a5 (mgN X n Y n') (mgV X Y)) := row_new (w := v4) (v := .slice none 0 0) (t := 36) rfl hi5); have HB5 : Below v4.heap.size v4 v5 := (by first | exact hb5 | exact (below_drew v4).trans hb5 | exact Below.trans ((below_drew v4).alloc (Nat.le_refl _) _) (hb5.mono (by simp)) | exact Below.trans ((Below.refl v4.heap.size v4).alloc (Nat.le_refl _) _) (hb5.mono (by simp)) | exact Below.trans ((Below.refl v4.heap.size v4).alloc (Nat.le_refl _) _).drew (hb5.mono (by simp))); have z5 : v4.heap.size ≤ v5.heap.size := HB5.size; have cA5 := (HB5.cell (p := ⟨w.heap.size, 0, none⟩) zA4).trans cA4; have cD5 := (HB5.cell (p := ⟨w.heap.size + 1, 0, none⟩) zD4).trans cD4; have zA5 := Nat.lt_of_lt_of_le zA4 z5; have zD5 := Nat.lt_of_lt_of_le zD4 z5; (try obtain ⟨nc_v5, nf_v5, y5⟩ := new_zero (w := v4) (v := .slice none 0 0) (t := 36) rfl hb5); (try have oc_d5 := (HB5.cell (p := ⟨v3.heap.size, 0, none⟩) y4).trans nc_v4); (try have of_d5 := (HB5.frozen (p := ⟨v3.heap.size, 0, none⟩) y4).trans nf_v4); (try have ol_d5 := Nat.lt_of_lt_of_le y4 HB5.size); (try have oc_b5 := (HB5.cell (p := ⟨w17.heap.size, 0, none⟩) ol_b4).trans oc_b4); (try have of_b5 := (HB5.frozen (p := ⟨w17.heap.size, 0, none⟩) ol_b4).trans of_b4); (try have ol_b5 := Nat.lt_of_lt_of_le ol_b4 HB5.size); clear hi5 hb5))
          all_goals (go_wp2_with fail; go_meet; have hb25 : Below w17.heap.size w17 v5 := (HB3.trans (HB4.mono z3)).trans (HB5.mono (Nat.le_trans z3 z4)))
          all_goals first
            | exact ⟨_, a5, cap5, rfl, rfl, by omega, BoxS.new _ _ _, ⟨(HI6.out.next (Go.Joins.below_alloc1 _ _)).1.wide (by omega) (by simp), Nat.le_refl _⟩, hb25.alloc (by omega) _⟩
            | exact ⟨w17.heap.size, a5, cap5, rfl, rfl, by omega, ⟨World.cell?_setCell_same _ _ _ oc_b5, by simp <;> omega⟩, ⟨(ints_set HI6.out.1 (by omega)).wide (by omega) (by simp), Nat.le_refl _⟩, hb25.setCell (p := ⟨w17.heap.size, 0, none⟩) (by show w17.heap.size ≤ w17.heap.size; omega) _⟩
            | exact ⟨v3.heap.size, a5, cap5, rfl, rfl, by omega, ⟨World.cell?_setCell_same _ _ _ oc_d5, by simp <;> omega⟩, ⟨(ints_set HI6.out.1 (by omega)).wide (by omega) (by simp), Nat.le_refl _⟩, hb25.setCell (p := ⟨v3.heap.size, 0, none⟩) (by show w17.heap.size ≤ v3.heap.size; omega) _⟩
            | exact ⟨v4.heap.size, a5, cap5, rfl, rfl, by omega, ⟨World.cell?_setCell_same _ _ _ nc_v5, by simp <;> omega⟩, ⟨(ints_set HI7.out.1 (by omega)).wide (by omega) (by simp), Nat.le_refl _⟩, hb25.setCell (p := ⟨v4.heap.size, 0, none⟩) (by show w17.heap.size ≤ v4.heap.size; omega) _⟩
        case rest =>
          obtain ⟨blkH, aH, capH, rfl, rfl, hloH, hbx, hrw, hb⟩ := hcut
          obtain ⟨y18, hy⟩ : ∃ x, x = wc := ⟨wc, rfl⟩
          subst hy
          have hblH : blkH < y18.heap.size := hbx.2
          have HB18 : Hid (Below w.heap.size w y18) := below_next HB17.out hb
          have sz18 : w17.heap.size ≤ y18.heap.size := hb.size
          have A_18 : Hid (BoxS y18 w.heap.size (.slice a n cap)) := A_17.out.next hb
          have D_18 : Hid (BoxS y18 (w.heap.size + 1) (.slice a' n' cap')) := D_17.out.next hb
          have SB_18 : Hid (BoxS y18 blkS (.slice aS (mgN X n Y n') capS)) := SB_17.out.next hb
          have SR_18 : Hid (RowS y18 w2.heap.size y3.heap.size aS (mgN X n Y n') (mgV X Y)) := SR_17.out.next hb
          have G_18 : Hid (RowS y18 w7.heap.size w8.heap.size aG (mgN X n Y n') (fun i => 1 + (i : Int))) := G_17.out.next hb
          have GB_18 : Hid (BoxS y18 w8.heap.size (.slice aG (mgN X n Y n') capG)) := GB_17.out.next hb
          have HB_18 : Hid (BoxS y18 blkH (.slice aH (mgN X n Y n') capH)) := hbx
          have HR_18 : Hid (RowS y18 w17.heap.size y18.heap.size aH (mgN X n Y n') (mgV X Y)) := hrw
          clear hb hbx hrw tok cA zA cD zD hbo szo A_17 D_17 SB_17 SR_17 G_17 GB_17 HB17
          have cHB := HB_18.out.1
          have zHB := HB_18.out.2
          have cSB := SB_18.out.1
          have zSB := SB_18.out.2
          go_wp2_with fail
          refine (eqClock_same _ _ _ _ _ (mgV X Y) _ (by omega) HR_18.out.sl SR_18.out.sl).mono ?_
          rintro r w19 ⟨rfl, hb⟩
          have HB19 : Hid (Below w.heap.size w w19) := below_next HB18.out hb
          have sz19 : y18.heap.size ≤ w19.heap.size := hb.size
          have A_19 : Hid (BoxS w19 w.heap.size (.slice a n cap)) := A_18.out.next hb
          have D_19 : Hid (BoxS w19 (w.heap.size + 1) (.slice a' n' cap')) := D_18.out.next hb
          have SB_19 : Hid (BoxS w19 blkS (.slice aS (mgN X n Y n') capS)) := SB_18.out.next hb
          have SR_19 : Hid (RowS w19 w2.heap.size y3.heap.size aS (mgN X n Y n') (mgV X Y)) := SR_18.out.next hb
          have G_19 : Hid (RowS w19 w7.heap.size w8.heap.size aG (mgN X n Y n') (fun i => 1 + (i : Int))) := G_18.out.next hb
          have GB_19 : Hid (BoxS w19 w8.heap.size (.slice aG (mgN X n Y n') capG)) := GB_18.out.next hb
          have HB_19 : Hid (BoxS w19 blkH (.slice aH (mgN X n Y n') capH)) := HB_18.out.next hb
          have HR_19 : Hid (RowS w19 w17.heap.size y18.heap.size aH (mgN X n Y n') (mgV X Y)) := HR_18.out.next hb
          clear hb cHB zHB cSB zSB A_18 D_18 SB_18 SR_18 G_18 GB_18 HB_18 HR_18 HB18
          have cGB := GB_19.out.1
          have zGB := GB_19.out.2
          go_wp2_with fail
          refine (heldClock_any _ _ _ 1 _ (by omega) (by omega) (by omega) G_19.out.sl).mono ?_
          rintro r w20 ⟨rfl, hb⟩
          have HB20 : Hid (Below w.heap.size w w20) := below_next HB19.out hb
          have sz20 : w19.heap.size ≤ w20.heap.size := hb.size
          have A_20 : Hid (BoxS w20 w.heap.size (.slice a n cap)) := A_19.out.next hb
          have D_20 : Hid (BoxS w20 (w.heap.size + 1) (.slice a' n' cap')) := D_19.out.next hb
          have SB_20 : Hid (BoxS w20 blkS (.slice aS (mgN X n Y n') capS)) := SB_19.out.next hb
          have SR_20 : Hid (RowS w20 w2.heap.size y3.heap.size aS (mgN X n Y n') (mgV X Y)) := SR_19.out.next hb
          have G_20 : Hid (RowS w20 w7.heap.size w8.heap.size aG (mgN X n Y n') (fun i => 1 + (i : Int))) := G_19.out.next hb
          have GB_20 : Hid (BoxS w20 w8.heap.size (.slice aG (mgN X n Y n') capG)) := GB_19.out.next hb
          have HB_20 : Hid (BoxS w20 blkH (.slice aH (mgN X n Y n') capH)) := HB_19.out.next hb
          have HR_20 : Hid (RowS w20 w17.heap.size y18.heap.size aH (mgN X n Y n') (mgV X Y)) := HR_19.out.next hb
          clear hb cGB zGB A_19 D_19 SB_19 SR_19 G_19 GB_19 HB_19 HR_19 HB19
          have HE := HB20
          go_wp2
          go_ret
          exact ⟨rfl, HE.out⟩


theorem own : ownKnob Try.prog.godebug = none := by kernel_rfl
theorem laidOut : laidOutB Try.prog = true := by kernel_rfl

set_option maxRecDepth 100000 in
theorem lifted (os : Os) (started : os.Started) (H : Type) (enc : TypeId × Value → H) :
    ReturnsInHanded {} Try.checked os 12 .any (Rows.fnExactMergeClockSpec.pre6 enc Try.prog Try.f12 Rows.fnExactMergeClockRow.domain false) (Rows.fnExactMergeClockSpec.post enc Try.prog Try.f12 false true false false) := by
  refine returnsInHanded_of_change (C := Try.checked) own started (by kernel_rfl) Try.func12
    (ChangeSpec.witness6 (enc := enc) (C := Try.checked) false ⟨#[], #[.agg #[.slice none 0 0], .agg #[.slice none 0 0]], []⟩ 8 (by kernel_rfl) (by kernel_rfl) (by kernel_rfl) (by kernel_rfl)) ?_
  intro W base args ds gs before hval0 hW hcnd _
  have hval : ∀ (j : Nat) t v, Try.f12.params[j]? = some t → args[j]? = some v → Value.okWide Try.prog W .any base t v := hval0
  have hW' := hW
  obtain ⟨p, q, hA0, hV, rfl, hfz, hnd⟩ := hW
  have hA : DataW.TrodAll enc Try.prog W 0 (fun _ => true) true Try.f12.params.toList args.toList ds p := hA0
  rw [Try.params12] at hA hval
  obtain ⟨v0, vs0, d0, ds0, p0, q0, hargs, rfl, rfl, h0, r0⟩ := trodAll_cons hA
  obtain ⟨v1, vs1, d1, ds1, p1, q1, rfl, rfl, rfl, h1, r1⟩ := trodAll_cons r0
  obtain ⟨rfl, rfl, rfl⟩ := trodAll_nil r1
  obtain rfl : args = #[v0, v1] := by cases args; simp_all
  obtain ⟨rfl, rfl⟩ := trodVars_none hV
  have k0 := h0
  have lt0 : ∀ x ∈ p0, x.block < W.heap.size := by obtain ⟨m, hm⟩ := k0; exact DataW.trod_lt m _ _ _ hm
  obtain ⟨a0, len0, cap0, rfl, n0, X0, s0⟩ := open_clock (hval 0 84 v0 rfl rfl) h0
  have k1 := h1
  have lt1 : ∀ x ∈ p1, x.block < W.heap.size := by obtain ⟨m, hm⟩ := k1; exact DataW.trod_lt m _ _ _ hm
  obtain ⟨a1, len1, cap1, rfl, n1, X1, s1⟩ := open_clock (hval 1 84 v1 rfl rfl) h1
  clear hA0 hval0
  refine (walk (w := W) a0 len0 cap0 X0 n0 s0 a1 len1 cap1 X1 n1 s1).mono fun e W' ⟨he, bel⟩ => ?_
  subst he
  exact ⟨_, rfl, _, _, _, [], _, [], hW', trodAll_mk1 (shut_bool Try.underlying4 _), (trodAll_cons_mk (Below.trod laidOut (by kernel_rfl) (of_decide_eq_true (by kernel_rfl)) k0 bel lt0) (trodAll_cons_mk (Below.trod laidOut (by kernel_rfl) (of_decide_eq_true (by kernel_rfl)) k1 bel lt1) trodAll_mk0)), rfl, bel.frame _, fun h => by cases h⟩

set_option maxHeartbeats 40000000 in
theorem closed : joinedFacts Try.pinned.checked.prog 12 Try.f12 Rows.fnExactMergeClockSpec Rows.fnExactMergeClockRow = true := by
  unfold joinedFacts
  repeat' (first | (with_reducible refine both ?_ ?_) | (with_reducible exact may_enter') | (with_reducible refine lifts_eq ?_) | (with_reducible refine make_eq ?_) | as_aux_lemma => kernel_rfl)
theorem named : Try.pinned.checked.prog.funcNamed Rows.fnExactMergeClockRow.func = some 12 := by kernel_rfl
theorem over : Rows.fnExactMergeClockRow.holds Try.pinned (OpenSpec.ofChange Rows.fnExactMergeClockSpec) :=
  OpenClaim.holds_of_wide 12 Try.f12 rfl rfl rfl rfl rfl rfl rfl ⟨rfl, rfl, rfl, rfl, rfl⟩ rfl rfl rfl rfl rfl named Try.func12 closed
    (of_decide_eq_true (by as_aux_lemma => kernel_rfl)) (by unfold Func.isWrapper; first | (rw [if_pos (by decide +kernel)]; kernel_rfl) | (rw [if_neg (by decide +kernel)]; exact ⟨rfl, rfl⟩))
    (fun os started H enc _ => lifted os started H enc)

end Go.Proofs.Ytgohpjjjnledlaa.xMergeClock
namespace Go.Proofs.Ytgohpjjjnledlaa
theorem xMergeClock_holds : Rows.FnExactMergeClockSaid := xMergeClock.over
#print axioms xMergeClock_holds
end Go.Proofs.Ytgohpjjjnledlaa
