/- Leases: the draw of steps. Written by tools/mkDlV.py. -/
import Derived.Test.YtidalpgkljafdaaShDv
import Derived.Test.YtidalpgkljafdaaLpG
namespace Go.Proofs.Ytidalpgkljafdaa
open Go.RowKit
set_option linter.unusedVariables false
set_option linter.unusedSimpArgs false

def mkLst (x y z : Int) : Sh.T shLeaseStep := (x, y, z, ())
def tyLStep : Ty := .pair .int (.pair .int (.pair .int .nil))
theorem inf_LStep : (Try.prog.info? 34).map (fun i => (i.zero, i.size, i.bytes)) = some (some (.agg #[.int .i64 0, .int .i64 0, .int .i64 0]), 3, 24) := by kernel_rfl
def StlP (g : Nat) (a : Option Addr) (n cap : Nat) (X : Nat → Int) (t : Nat) (w : World) (r : Ending) (w' : World) : Prop := ∃ (L : List (Sh.T shLeaseStep)) (v : Value), L.length ≤ 102 ∧ r = .returned v ∧ DvH tyLStep 34 w' w g a n cap X (t + 2000) v L

set_option maxRecDepth 100000 in
set_option maxHeartbeats 8000000 in
theorem leaseSteps_any (g : Nat) (a : Option Addr) (n cap : Nat) (X : Nat → Int) (t : Nat) (w : World) (ht : t ≤ 10000) (hc : Cur w g a n cap X t) :
    Calls Try.prog 40 #[.pointer (some ⟨g, 0, none⟩)] w (StlP g a n cap X t w) := by
  have hgw : g < w.heap.size := hc.2.2.2.2.2.1
  have HC : Hid (Cur w g a n cap X t) := hc
  clear hc
  obtain ⟨i0, hi0, hz0, hz1, hz2⟩ := info_parts inf_LStep
  go_enter Try.func40, Try.ntmps40
  go_wp2_with fail
  refine (pick_any _ _ _ _ _ _ _ _ (by omega) (by omega) HC.out).mono ?_
  rintro _ w1 ⟨x1, hx1, rfl, hd⟩
  have H1 : Hid (Drew g a n cap X (t + 2) w w1) := hd
  clear hd HC
  go_wp2_with fail
  refine (one_any _ _ _ _ _ _ _ _ (by omega) (by omega) H1.out.1).mono ?_
  rintro _ w2 ⟨b1, rfl, hd⟩
  have H2 : Hid (Drew g a n cap X (t + 4) w w2) := H1.out.trans hd
  clear hd H1
  cases b1
  · obtain ⟨M, hM, hMe⟩ : ∃ M : Nat, M ≤ 102 ∧ x1 = (M : Int) := ⟨x1.toNat, by omega, by omega⟩
    have HM : Hid (x1 = (M : Int)) := hMe
    have HD : Hid (DvH tyLStep 34 w2 w g a n cap X (t + 6) (.slice none 0 0) []) := ⟨OwnX.nil', H2.out.up (by omega)⟩
    clear hMe H2
    go_wp2
    go_loopw [4, 3] (fun y v wr => ∃ (k : Nat) (L : List (Sh.T shLeaseStep)), k ≤ M ∧ y = .int .i64 ((M : Int) - (k : Int)) ∧ L.length = k ∧ DvH tyLStep 34 wr w g a n cap X (t + 6 + 16 * k) v L) (fun y _ _ => (intOf y).toNat)
    case atStart => exact ⟨0, [], Nat.zero_le _, by have := HM.out; congr 1 <;> omega, rfl, HD.out⟩
    case round =>
      obtain ⟨k, L, hk, rfl, hL, hH⟩ := hrel
      have HH : Hid (DvH tyLStep 34 wr w g a n cap X (t + 6 + 16 * k) u3 L) := hH
      have HLL : Hid (L.length = k) := hL
      clear hH HD hL
      by_cases hlt : k < M
      · have hlt' : (0 : Int) < (M : Int) - (k : Int) := by omega
        have HA1 := Hid.intro (HH.out.alloc (.cells #[.int .i64 1, .int .i64 1, .int .i64 2, .int .i64 2, .int .i64 3, .int .i64 4, .int .i64 4, .int .i64 4] 3))
        have hgz : g < wr.heap.size := HH.out.2.1.2.2.2.2.2.1
        go_wp2_with fail
        refine (amongL_any g a n cap X _ wr.heap.size _ 8 (fun i => [1, 1, 2, 2, 3, 4, 4, 4].getD i 0) 10 _ (by omega) HA1.out.2.1 (by omega) (by simp) (by omega) (by omega) (int_new wr [1, 1, 2, 2, 3, 4, 4, 4] 3) (int_small (L := [1, 1, 2, 2, 3, 4, 4, 4]) (B := 10) rfl)).mono ?_
        rintro _ w4 ⟨kd, hkd, rfl, hd⟩
        have H4 : Hid (DvH tyLStep 34 w4 w g a n cap X (t + 6 + 16 * k + 2) u3 L) := HA1.out.draw hd hgw
        clear hd HA1 HH hgz hkd
        go_wp2_with fail
        refine (pick_any _ _ _ _ _ _ _ _ (by omega) (by omega) H4.out.2.1).mono ?_
        rintro _ w5 ⟨nd, hnd, rfl, hd⟩
        have H5 : Hid (DvH tyLStep 34 w5 w g a n cap X (t + 6 + 16 * k + 4) u3 L) := H4.out.draw hd hgw
        clear hd H4 hnd
        go_wp2_with fail
        refine (pick_any _ _ _ _ _ _ _ _ (by omega) (by omega) H5.out.2.1).mono ?_
        rintro _ w6 ⟨nn, hnn, rfl, hd⟩
        have H6 : Hid (DvH tyLStep 34 w6 w g a n cap X (t + 6 + 16 * k + 6) u3 L) := H5.out.draw hd hgw
        clear hd H5
        obtain ⟨b6, hb6⟩ : ∃ y, y = w6.heap.size := ⟨_, rfl⟩
        obtain ⟨Y, hY⟩ : ∃ x, x = w6.alloc (.cells #[.int .i64 (kd), .int .i64 (nd), .int .i64 (1 + nn)] 34) := ⟨_, rfl⟩
        have HY : Hid (DvH tyLStep 34 Y w g a n cap X (t + 6 + 16 * k + 6) u3 L ∧ Bx Y b6 [.int .i64 (kd), .int .i64 (nd), .int .i64 (1 + nn)] ∧ w.heap.size ≤ b6 ∧ u3.ownBlock ≠ some b6) := ⟨hY ▸ H6.out.alloc _, hb6 ▸ hY ▸ Bx.new w6 [_, _, _] _, hb6 ▸ H6.out.2.2.2.2.2.1, fun e => by have := (H6.out.1.flat rfl).1.lt _ e; omega⟩
        clear H6
        have y0 := HY.out.2.1.cell 0 rfl
        have y1 := HY.out.2.1.cell 1 rfl
        have y2 := HY.out.2.1.cell 2 rfl
        have yz := HY.out.2.1.2
        by_cases hk4 : kd = 4
        case neg =>
          have hk4' : ¬ kd = 4 := hk4
          go_wp2_with fail
          rw [← hY, ← hb6]
          clear hY hb6 y0 y1 y2 yz
          refine (one_any _ _ _ _ _ _ _ _ (by omega) (by omega) HY.out.1.2.1).mono ?_
          rintro _ w8 ⟨c4, rfl, hd⟩
          have HE : Hid (DvH tyLStep 34 w8 w g a n cap X (t + 6 + 16 * k + 6 + 2) u3 L) := HY.out.1.draw hd hgw
          have HX8 : Hid (Bx w8 b6 [.int .i64 (kd), .int .i64 (nd), .int .i64 (1 + nn)]) := Hid.intro (HY.out.2.1.keepB (fun hlt => hd.2.2.2.2.2 _ hlt (by have := HY.out.2.2.1; omega)) hd.2.2.2.2.1)
          clear hd
          have d0 := HX8.out.cell 0 rfl
          have d1 := HX8.out.cell 1 rfl
          have d2 := HX8.out.cell 2 rfl
          have dz := HX8.out.2
          cases c4
          · skip
            have hb1 : L.length + 1 ≤ maxLen := by have := HLL.out; unfold maxLen; omega
            have hc1 : (L.length + 1) * 24 ≤ 140737488355328 := by have := HLL.out; omega
            have HA := Hid.intro (HE.out.alloc (.cells #[.int .i64 (kd), .int .i64 (nd), .int .i64 (1 + nn)] 34))
            have HLO : Hid (Lies (w8.alloc (.cells #[.int .i64 (kd), .int .i64 (nd), .int .i64 (1 + nn)] 34)) (.list shLeaseStep) [.slice (some ⟨w8.heap.size, 0, none⟩) 1 1] [(kd, nd, 1 + nn, ())]) := Hid.intro (lies_one (w := w8) (e := shLeaseStep) (cs := [.int .i64 (kd), .int .i64 (nd), .int .i64 (1 + nn)]) (x := (kd, nd, 1 + nn, ())) 34 rfl mk_LeaseStep)
            go_wp2_with (first
              | (at_builtin; refine wpList_appx rfl (.tmp 48) (.tmp 50) 23 34 rfl i0 (.agg #[.int .i64 0, .int .i64 0, .int .i64 0]) 24 w.heap.size tyLStep rfl Try.underlying23 hi0 hz0 hz1 hz2 rfl (by decide) u3 L [(kd, nd, 1 + nn, ())] _ rfl HA.out.1 (some ⟨w8.heap.size, 0, none⟩) 1 rfl HLO.out hb1 hc1 HA.out.2.2.2.2.2.1 ?_; intro v9 w9 hO9 hg9 hwh9; have H9 := Hid.intro (HA.out.app (e := tyLStep) rfl hgw hO9 hg9); clear hO9 hg9 hwh9)
              | go_in)
            go_roundw
            case rel => exact ⟨k + 1, L ++ [mkLst (kd) (nd) (1 + nn)], by omega, by congr 1; omega, snoc_len HLL.out, ⟨H9.out.1, H9.out.2.up (by omega)⟩⟩
            case measure => simp [intOf]; omega
          · clear d0 d1 d2 dz
            go_wp2_with fail
            refine (pick_any _ _ _ _ _ _ _ _ (by omega) (by omega) HE.out.2.1).mono ?_
            rintro _ w9a ⟨z1, hz1', rfl, hd⟩
            have HE1 : Hid (DvH tyLStep 34 w9a w g a n cap X (t + 6 + 16 * k + 6 + 4) u3 L) := HE.out.draw hd hgw
            have HX9a : Hid (Bx w9a b6 [.int .i64 (kd), .int .i64 (nd), .int .i64 (1 + nn)]) := Hid.intro (HX8.out.keepB (fun hlt => hd.2.2.2.2.2 _ hlt (by have := HY.out.2.2.1; omega)) hd.2.2.2.2.1)
            clear hd HE HX8
            go_wp2_with fail
            refine (pick_any _ _ _ _ _ _ _ _ (by omega) (by omega) HE1.out.2.1).mono ?_
            rintro _ w9b ⟨z2, hz2', rfl, hd⟩
            have HE2 : Hid (DvH tyLStep 34 w9b w g a n cap X (t + 6 + 16 * k + 6 + 6) u3 L) := HE1.out.draw hd hgw
            have HX9b : Hid (Bx w9b b6 [.int .i64 (kd), .int .i64 (nd), .int .i64 (1 + nn)]) := Hid.intro (HX9a.out.keepB (fun hlt => hd.2.2.2.2.2 _ hlt (by have := HY.out.2.2.1; omega)) hd.2.2.2.2.1)
            clear hd HE1 HX9a
            have HE3 := Hid.intro (HE2.out.alloc (.cells #[.int .i64 0, .int .i64 1000000, .int .i64 1000001] 3))
            have HX9c := Hid.intro (HX9b.out.alloc (.cells #[.int .i64 0, .int .i64 1000000, .int .i64 1000001] 3))
            have hgz : g < w9b.heap.size := HE2.out.2.1.2.2.2.2.2.1
            go_wp2_with fail
            refine (amongL_any g a n cap X _ w9b.heap.size _ 3 (fun i => [0, 1000000, 1000001].getD i 0) 2000000 _ (by omega) HE3.out.2.1 (by omega) (by simp) (by omega) (by omega) (int_new w9b [0, 1000000, 1000001] 3) (int_small (L := [0, 1000000, 1000001]) (B := 2000000) rfl)).mono ?_
            rintro _ w9d ⟨z3, hz3, rfl, hd⟩
            have HE4 : Hid (DvH tyLStep 34 w9d w g a n cap X (t + 6 + 16 * k + 6 + 8) u3 L) := HE3.out.draw hd hgw
            have HX9d : Hid (Bx w9d b6 [.int .i64 (kd), .int .i64 (nd), .int .i64 (1 + nn)]) := Hid.intro (HX9c.out.keepB (fun hlt => hd.2.2.2.2.2 _ hlt (by have := HY.out.2.2.1; omega)) hd.2.2.2.2.1)
            clear hd HE3 HX9c HE2 HX9b hgz
            have d0 := HX9d.out.cell 0 rfl
            have d1 := HX9d.out.cell 1 rfl
            have d2 := HX9d.out.cell 2 rfl
            have dz := HX9d.out.2
            have df0 := HX9d.out.frz 0 (by simp)
            have df1 := HX9d.out.frz 1 (by simp)
            have df2 := HX9d.out.frz 2 (by simp)
            obtain ⟨Z, hZ⟩ : ∃ x, x = ((w9d.setCell ⟨b6, 0, none⟩ (.int .i64 z1)).setCell ⟨b6, 1, none⟩ (.int .i64 (z2 - 1))).setCell ⟨b6, 2, none⟩ (.int .i64 z3) := ⟨_, rfl⟩
            have HE : Hid (DvH tyLStep 34 Z w g a n cap X (t + 6 + 16 * k + 6 + 8) u3 L) := hZ ▸ ((HE4.out.set hgw HY.out.2.2.1 HY.out.2.2.2 rfl 0 _).set hgw HY.out.2.2.1 HY.out.2.2.2 rfl 1 _).set hgw HY.out.2.2.1 HY.out.2.2.2 rfl 2 _
            have hZz : Z.heap.size = w9d.heap.size := by rw [hZ]; simp
            have HZZ : Hid (Z.heap.size = w9d.heap.size) := hZz
            clear hZz HE4
            have hb1 : L.length + 1 ≤ maxLen := by have := HLL.out; unfold maxLen; omega
            have hc1 : (L.length + 1) * 24 ≤ 140737488355328 := by have := HLL.out; omega
            have HA := Hid.intro (HE.out.alloc (.cells #[.int .i64 (z1), .int .i64 (z2 - 1), .int .i64 (z3)] 34))
            have HLO : Hid (Lies (Z.alloc (.cells #[.int .i64 (z1), .int .i64 (z2 - 1), .int .i64 (z3)] 34)) (.list shLeaseStep) [.slice (some ⟨Z.heap.size, 0, none⟩) 1 1] [(z1, z2 - 1, z3, ())]) := Hid.intro (lies_one (w := Z) (e := shLeaseStep) (cs := [.int .i64 (z1), .int .i64 (z2 - 1), .int .i64 (z3)]) (x := (z1, z2 - 1, z3, ())) 34 rfl mk_LeaseStep)
            go_wp2_with (first
              | (at_builtin; rw [← hZ]; refine wpList_appx rfl (.tmp 48) (.tmp 50) 23 34 rfl i0 (.agg #[.int .i64 0, .int .i64 0, .int .i64 0]) 24 w.heap.size tyLStep rfl Try.underlying23 hi0 hz0 hz1 hz2 rfl (by decide) u3 L [(z1, z2 - 1, z3, ())] _ rfl HA.out.1 (some ⟨w9d.heap.size, 0, none⟩) 1 rfl (HZZ.out ▸ HLO.out) hb1 hc1 HA.out.2.2.2.2.2.1 ?_; intro v9 w9 hO9 hg9 hwh9; have H9 := Hid.intro (HA.out.app (e := tyLStep) rfl hgw hO9 hg9); clear hO9 hg9 hwh9)
              | go_in)
            go_roundw
            case rel => exact ⟨k + 1, L ++ [mkLst (z1) (z2 - 1) (z3)], by omega, by congr 1; omega, snoc_len HLL.out, ⟨H9.out.1, H9.out.2.up (by omega)⟩⟩
            case measure => simp [intOf]; omega
        case pos =>
          subst hk4
          go_wp2_with fail
          rw [← hY, ← hb6]
          clear hY hb6
          refine (one_any _ _ _ _ _ _ _ _ (by omega) (by omega) HY.out.1.2.1).mono ?_
          rintro _ w7 ⟨c3, rfl, hd⟩
          have HY7 : Hid (DvH tyLStep 34 w7 w g a n cap X (t + 6 + 16 * k + 8) u3 L ∧ Bx w7 b6 [.int .i64 (4), .int .i64 (nd), .int .i64 (1 + nn)] ∧ w.heap.size ≤ b6 ∧ u3.ownBlock ≠ some b6) := ⟨HY.out.1.draw hd hgw, HY.out.2.1.keepB (fun hlt => hd.2.2.2.2.2 _ hlt (by have := HY.out.2.2.1; omega)) hd.2.2.2.2.1, HY.out.2.2⟩
          clear hd HY y0 y1 y2 yz
          cases c3
          · have HY := HY7
            go_wp2_with fail
            skip
            refine (one_any _ _ _ _ _ _ _ _ (by omega) (by omega) HY.out.1.2.1).mono ?_
            rintro _ w8 ⟨c4, rfl, hd⟩
            have HE : Hid (DvH tyLStep 34 w8 w g a n cap X (t + 6 + 16 * k + 8 + 2) u3 L) := HY.out.1.draw hd hgw
            have HX8 : Hid (Bx w8 b6 [.int .i64 (4), .int .i64 (nd), .int .i64 (1 + nn)]) := Hid.intro (HY.out.2.1.keepB (fun hlt => hd.2.2.2.2.2 _ hlt (by have := HY.out.2.2.1; omega)) hd.2.2.2.2.1)
            clear hd
            have d0 := HX8.out.cell 0 rfl
            have d1 := HX8.out.cell 1 rfl
            have d2 := HX8.out.cell 2 rfl
            have dz := HX8.out.2
            cases c4
            · skip
              have hb1 : L.length + 1 ≤ maxLen := by have := HLL.out; unfold maxLen; omega
              have hc1 : (L.length + 1) * 24 ≤ 140737488355328 := by have := HLL.out; omega
              have HA := Hid.intro (HE.out.alloc (.cells #[.int .i64 (4), .int .i64 (nd), .int .i64 (1 + nn)] 34))
              have HLO : Hid (Lies (w8.alloc (.cells #[.int .i64 (4), .int .i64 (nd), .int .i64 (1 + nn)] 34)) (.list shLeaseStep) [.slice (some ⟨w8.heap.size, 0, none⟩) 1 1] [(4, nd, 1 + nn, ())]) := Hid.intro (lies_one (w := w8) (e := shLeaseStep) (cs := [.int .i64 (4), .int .i64 (nd), .int .i64 (1 + nn)]) (x := (4, nd, 1 + nn, ())) 34 rfl mk_LeaseStep)
              go_wp2_with (first
                | (at_builtin; refine wpList_appx rfl (.tmp 48) (.tmp 50) 23 34 rfl i0 (.agg #[.int .i64 0, .int .i64 0, .int .i64 0]) 24 w.heap.size tyLStep rfl Try.underlying23 hi0 hz0 hz1 hz2 rfl (by decide) u3 L [(4, nd, 1 + nn, ())] _ rfl HA.out.1 (some ⟨w8.heap.size, 0, none⟩) 1 rfl HLO.out hb1 hc1 HA.out.2.2.2.2.2.1 ?_; intro v9 w9 hO9 hg9 hwh9; have H9 := Hid.intro (HA.out.app (e := tyLStep) rfl hgw hO9 hg9); clear hO9 hg9 hwh9)
                | go_in)
              go_roundw
              case rel => exact ⟨k + 1, L ++ [mkLst (4) (nd) (1 + nn)], by omega, by congr 1; omega, snoc_len HLL.out, ⟨H9.out.1, H9.out.2.up (by omega)⟩⟩
              case measure => simp [intOf]; omega
            · clear d0 d1 d2 dz
              go_wp2_with fail
              refine (pick_any _ _ _ _ _ _ _ _ (by omega) (by omega) HE.out.2.1).mono ?_
              rintro _ w9a ⟨z1, hz1', rfl, hd⟩
              have HE1 : Hid (DvH tyLStep 34 w9a w g a n cap X (t + 6 + 16 * k + 8 + 4) u3 L) := HE.out.draw hd hgw
              have HX9a : Hid (Bx w9a b6 [.int .i64 (4), .int .i64 (nd), .int .i64 (1 + nn)]) := Hid.intro (HX8.out.keepB (fun hlt => hd.2.2.2.2.2 _ hlt (by have := HY.out.2.2.1; omega)) hd.2.2.2.2.1)
              clear hd HE HX8
              go_wp2_with fail
              refine (pick_any _ _ _ _ _ _ _ _ (by omega) (by omega) HE1.out.2.1).mono ?_
              rintro _ w9b ⟨z2, hz2', rfl, hd⟩
              have HE2 : Hid (DvH tyLStep 34 w9b w g a n cap X (t + 6 + 16 * k + 8 + 6) u3 L) := HE1.out.draw hd hgw
              have HX9b : Hid (Bx w9b b6 [.int .i64 (4), .int .i64 (nd), .int .i64 (1 + nn)]) := Hid.intro (HX9a.out.keepB (fun hlt => hd.2.2.2.2.2 _ hlt (by have := HY.out.2.2.1; omega)) hd.2.2.2.2.1)
              clear hd HE1 HX9a
              have HE3 := Hid.intro (HE2.out.alloc (.cells #[.int .i64 0, .int .i64 1000000, .int .i64 1000001] 3))
              have HX9c := Hid.intro (HX9b.out.alloc (.cells #[.int .i64 0, .int .i64 1000000, .int .i64 1000001] 3))
              have hgz : g < w9b.heap.size := HE2.out.2.1.2.2.2.2.2.1
              go_wp2_with fail
              refine (amongL_any g a n cap X _ w9b.heap.size _ 3 (fun i => [0, 1000000, 1000001].getD i 0) 2000000 _ (by omega) HE3.out.2.1 (by omega) (by simp) (by omega) (by omega) (int_new w9b [0, 1000000, 1000001] 3) (int_small (L := [0, 1000000, 1000001]) (B := 2000000) rfl)).mono ?_
              rintro _ w9d ⟨z3, hz3, rfl, hd⟩
              have HE4 : Hid (DvH tyLStep 34 w9d w g a n cap X (t + 6 + 16 * k + 8 + 8) u3 L) := HE3.out.draw hd hgw
              have HX9d : Hid (Bx w9d b6 [.int .i64 (4), .int .i64 (nd), .int .i64 (1 + nn)]) := Hid.intro (HX9c.out.keepB (fun hlt => hd.2.2.2.2.2 _ hlt (by have := HY.out.2.2.1; omega)) hd.2.2.2.2.1)
              clear hd HE3 HX9c HE2 HX9b hgz
              have d0 := HX9d.out.cell 0 rfl
              have d1 := HX9d.out.cell 1 rfl
              have d2 := HX9d.out.cell 2 rfl
              have dz := HX9d.out.2
              have df0 := HX9d.out.frz 0 (by simp)
              have df1 := HX9d.out.frz 1 (by simp)
              have df2 := HX9d.out.frz 2 (by simp)
              obtain ⟨Z, hZ⟩ : ∃ x, x = ((w9d.setCell ⟨b6, 0, none⟩ (.int .i64 z1)).setCell ⟨b6, 1, none⟩ (.int .i64 (z2 - 1))).setCell ⟨b6, 2, none⟩ (.int .i64 z3) := ⟨_, rfl⟩
              have HE : Hid (DvH tyLStep 34 Z w g a n cap X (t + 6 + 16 * k + 8 + 8) u3 L) := hZ ▸ ((HE4.out.set hgw HY.out.2.2.1 HY.out.2.2.2 rfl 0 _).set hgw HY.out.2.2.1 HY.out.2.2.2 rfl 1 _).set hgw HY.out.2.2.1 HY.out.2.2.2 rfl 2 _
              have hZz : Z.heap.size = w9d.heap.size := by rw [hZ]; simp
              have HZZ : Hid (Z.heap.size = w9d.heap.size) := hZz
              clear hZz HE4
              have hb1 : L.length + 1 ≤ maxLen := by have := HLL.out; unfold maxLen; omega
              have hc1 : (L.length + 1) * 24 ≤ 140737488355328 := by have := HLL.out; omega
              have HA := Hid.intro (HE.out.alloc (.cells #[.int .i64 (z1), .int .i64 (z2 - 1), .int .i64 (z3)] 34))
              have HLO : Hid (Lies (Z.alloc (.cells #[.int .i64 (z1), .int .i64 (z2 - 1), .int .i64 (z3)] 34)) (.list shLeaseStep) [.slice (some ⟨Z.heap.size, 0, none⟩) 1 1] [(z1, z2 - 1, z3, ())]) := Hid.intro (lies_one (w := Z) (e := shLeaseStep) (cs := [.int .i64 (z1), .int .i64 (z2 - 1), .int .i64 (z3)]) (x := (z1, z2 - 1, z3, ())) 34 rfl mk_LeaseStep)
              go_wp2_with (first
                | (at_builtin; rw [← hZ]; refine wpList_appx rfl (.tmp 48) (.tmp 50) 23 34 rfl i0 (.agg #[.int .i64 0, .int .i64 0, .int .i64 0]) 24 w.heap.size tyLStep rfl Try.underlying23 hi0 hz0 hz1 hz2 rfl (by decide) u3 L [(z1, z2 - 1, z3, ())] _ rfl HA.out.1 (some ⟨w9d.heap.size, 0, none⟩) 1 rfl (HZZ.out ▸ HLO.out) hb1 hc1 HA.out.2.2.2.2.2.1 ?_; intro v9 w9 hO9 hg9 hwh9; have H9 := Hid.intro (HA.out.app (e := tyLStep) rfl hgw hO9 hg9); clear hO9 hg9 hwh9)
                | go_in)
              go_roundw
              case rel => exact ⟨k + 1, L ++ [mkLst (z1) (z2 - 1) (z3)], by omega, by congr 1; omega, snoc_len HLL.out, ⟨H9.out.1, H9.out.2.up (by omega)⟩⟩
              case measure => simp [intOf]; omega
          · have y0 := HY7.out.2.1.cell 0 rfl
            have y1 := HY7.out.2.1.cell 1 rfl
            have y2 := HY7.out.2.1.cell 2 rfl
            have yz := HY7.out.2.1.2
            have yf := HY7.out.2.1.frz 2 (by simp)
            obtain ⟨Q, hQ⟩ : ∃ x, x = w7.setCell ⟨b6, 2, none⟩ (.int .i64 (-(1 + nn))) := ⟨_, rfl⟩
            have HY : Hid (DvH tyLStep 34 Q w g a n cap X (t + 6 + 16 * k + 8) u3 L ∧ Bx Q b6 [.int .i64 (4), .int .i64 (nd), .int .i64 (-(1 + nn))] ∧ w.heap.size ≤ b6 ∧ u3.ownBlock ≠ some b6) := Hid.intro (by rw [hQ]; exact ⟨HY7.out.1.set hgw HY7.out.2.2.1 HY7.out.2.2.2 rfl 2 _, HY7.out.2.1.set (k := 2) (by simp) _, HY7.out.2.2⟩)
            go_wp2_with fail
            rw [← hQ]
            clear hQ y0 y1 y2 yz yf HY7
            refine (one_any _ _ _ _ _ _ _ _ (by omega) (by omega) HY.out.1.2.1).mono ?_
            rintro _ w8 ⟨c4, rfl, hd⟩
            have HE : Hid (DvH tyLStep 34 w8 w g a n cap X (t + 6 + 16 * k + 8 + 2) u3 L) := HY.out.1.draw hd hgw
            have HX8 : Hid (Bx w8 b6 [.int .i64 (4), .int .i64 (nd), .int .i64 (-(1 + nn))]) := Hid.intro (HY.out.2.1.keepB (fun hlt => hd.2.2.2.2.2 _ hlt (by have := HY.out.2.2.1; omega)) hd.2.2.2.2.1)
            clear hd
            have d0 := HX8.out.cell 0 rfl
            have d1 := HX8.out.cell 1 rfl
            have d2 := HX8.out.cell 2 rfl
            have dz := HX8.out.2
            cases c4
            · skip
              have hb1 : L.length + 1 ≤ maxLen := by have := HLL.out; unfold maxLen; omega
              have hc1 : (L.length + 1) * 24 ≤ 140737488355328 := by have := HLL.out; omega
              have HA := Hid.intro (HE.out.alloc (.cells #[.int .i64 (4), .int .i64 (nd), .int .i64 (-(1 + nn))] 34))
              have HLO : Hid (Lies (w8.alloc (.cells #[.int .i64 (4), .int .i64 (nd), .int .i64 (-(1 + nn))] 34)) (.list shLeaseStep) [.slice (some ⟨w8.heap.size, 0, none⟩) 1 1] [(4, nd, -(1 + nn), ())]) := Hid.intro (lies_one (w := w8) (e := shLeaseStep) (cs := [.int .i64 (4), .int .i64 (nd), .int .i64 (-(1 + nn))]) (x := (4, nd, -(1 + nn), ())) 34 rfl mk_LeaseStep)
              go_wp2_with (first
                | (at_builtin; refine wpList_appx rfl (.tmp 48) (.tmp 50) 23 34 rfl i0 (.agg #[.int .i64 0, .int .i64 0, .int .i64 0]) 24 w.heap.size tyLStep rfl Try.underlying23 hi0 hz0 hz1 hz2 rfl (by decide) u3 L [(4, nd, -(1 + nn), ())] _ rfl HA.out.1 (some ⟨w8.heap.size, 0, none⟩) 1 rfl HLO.out hb1 hc1 HA.out.2.2.2.2.2.1 ?_; intro v9 w9 hO9 hg9 hwh9; have H9 := Hid.intro (HA.out.app (e := tyLStep) rfl hgw hO9 hg9); clear hO9 hg9 hwh9)
                | go_in)
              go_roundw
              case rel => exact ⟨k + 1, L ++ [mkLst (4) (nd) (-(1 + nn))], by omega, by congr 1; omega, snoc_len HLL.out, ⟨H9.out.1, H9.out.2.up (by omega)⟩⟩
              case measure => simp [intOf]; omega
            · clear d0 d1 d2 dz
              go_wp2_with fail
              refine (pick_any _ _ _ _ _ _ _ _ (by omega) (by omega) HE.out.2.1).mono ?_
              rintro _ w9a ⟨z1, hz1', rfl, hd⟩
              have HE1 : Hid (DvH tyLStep 34 w9a w g a n cap X (t + 6 + 16 * k + 8 + 4) u3 L) := HE.out.draw hd hgw
              have HX9a : Hid (Bx w9a b6 [.int .i64 (4), .int .i64 (nd), .int .i64 (-(1 + nn))]) := Hid.intro (HX8.out.keepB (fun hlt => hd.2.2.2.2.2 _ hlt (by have := HY.out.2.2.1; omega)) hd.2.2.2.2.1)
              clear hd HE HX8
              go_wp2_with fail
              refine (pick_any _ _ _ _ _ _ _ _ (by omega) (by omega) HE1.out.2.1).mono ?_
              rintro _ w9b ⟨z2, hz2', rfl, hd⟩
              have HE2 : Hid (DvH tyLStep 34 w9b w g a n cap X (t + 6 + 16 * k + 8 + 6) u3 L) := HE1.out.draw hd hgw
              have HX9b : Hid (Bx w9b b6 [.int .i64 (4), .int .i64 (nd), .int .i64 (-(1 + nn))]) := Hid.intro (HX9a.out.keepB (fun hlt => hd.2.2.2.2.2 _ hlt (by have := HY.out.2.2.1; omega)) hd.2.2.2.2.1)
              clear hd HE1 HX9a
              have HE3 := Hid.intro (HE2.out.alloc (.cells #[.int .i64 0, .int .i64 1000000, .int .i64 1000001] 3))
              have HX9c := Hid.intro (HX9b.out.alloc (.cells #[.int .i64 0, .int .i64 1000000, .int .i64 1000001] 3))
              have hgz : g < w9b.heap.size := HE2.out.2.1.2.2.2.2.2.1
              go_wp2_with fail
              refine (amongL_any g a n cap X _ w9b.heap.size _ 3 (fun i => [0, 1000000, 1000001].getD i 0) 2000000 _ (by omega) HE3.out.2.1 (by omega) (by simp) (by omega) (by omega) (int_new w9b [0, 1000000, 1000001] 3) (int_small (L := [0, 1000000, 1000001]) (B := 2000000) rfl)).mono ?_
              rintro _ w9d ⟨z3, hz3, rfl, hd⟩
              have HE4 : Hid (DvH tyLStep 34 w9d w g a n cap X (t + 6 + 16 * k + 8 + 8) u3 L) := HE3.out.draw hd hgw
              have HX9d : Hid (Bx w9d b6 [.int .i64 (4), .int .i64 (nd), .int .i64 (-(1 + nn))]) := Hid.intro (HX9c.out.keepB (fun hlt => hd.2.2.2.2.2 _ hlt (by have := HY.out.2.2.1; omega)) hd.2.2.2.2.1)
              clear hd HE3 HX9c HE2 HX9b hgz
              have d0 := HX9d.out.cell 0 rfl
              have d1 := HX9d.out.cell 1 rfl
              have d2 := HX9d.out.cell 2 rfl
              have dz := HX9d.out.2
              have df0 := HX9d.out.frz 0 (by simp)
              have df1 := HX9d.out.frz 1 (by simp)
              have df2 := HX9d.out.frz 2 (by simp)
              obtain ⟨Z, hZ⟩ : ∃ x, x = ((w9d.setCell ⟨b6, 0, none⟩ (.int .i64 z1)).setCell ⟨b6, 1, none⟩ (.int .i64 (z2 - 1))).setCell ⟨b6, 2, none⟩ (.int .i64 z3) := ⟨_, rfl⟩
              have HE : Hid (DvH tyLStep 34 Z w g a n cap X (t + 6 + 16 * k + 8 + 8) u3 L) := hZ ▸ ((HE4.out.set hgw HY.out.2.2.1 HY.out.2.2.2 rfl 0 _).set hgw HY.out.2.2.1 HY.out.2.2.2 rfl 1 _).set hgw HY.out.2.2.1 HY.out.2.2.2 rfl 2 _
              have hZz : Z.heap.size = w9d.heap.size := by rw [hZ]; simp
              have HZZ : Hid (Z.heap.size = w9d.heap.size) := hZz
              clear hZz HE4
              have hb1 : L.length + 1 ≤ maxLen := by have := HLL.out; unfold maxLen; omega
              have hc1 : (L.length + 1) * 24 ≤ 140737488355328 := by have := HLL.out; omega
              have HA := Hid.intro (HE.out.alloc (.cells #[.int .i64 (z1), .int .i64 (z2 - 1), .int .i64 (z3)] 34))
              have HLO : Hid (Lies (Z.alloc (.cells #[.int .i64 (z1), .int .i64 (z2 - 1), .int .i64 (z3)] 34)) (.list shLeaseStep) [.slice (some ⟨Z.heap.size, 0, none⟩) 1 1] [(z1, z2 - 1, z3, ())]) := Hid.intro (lies_one (w := Z) (e := shLeaseStep) (cs := [.int .i64 (z1), .int .i64 (z2 - 1), .int .i64 (z3)]) (x := (z1, z2 - 1, z3, ())) 34 rfl mk_LeaseStep)
              go_wp2_with (first
                | (at_builtin; rw [← hZ]; refine wpList_appx rfl (.tmp 48) (.tmp 50) 23 34 rfl i0 (.agg #[.int .i64 0, .int .i64 0, .int .i64 0]) 24 w.heap.size tyLStep rfl Try.underlying23 hi0 hz0 hz1 hz2 rfl (by decide) u3 L [(z1, z2 - 1, z3, ())] _ rfl HA.out.1 (some ⟨w9d.heap.size, 0, none⟩) 1 rfl (HZZ.out ▸ HLO.out) hb1 hc1 HA.out.2.2.2.2.2.1 ?_; intro v9 w9 hO9 hg9 hwh9; have H9 := Hid.intro (HA.out.app (e := tyLStep) rfl hgw hO9 hg9); clear hO9 hg9 hwh9)
                | go_in)
              go_roundw
              case rel => exact ⟨k + 1, L ++ [mkLst (z1) (z2 - 1) (z3)], by omega, by congr 1; omega, snoc_len HLL.out, ⟨H9.out.1, H9.out.2.up (by omega)⟩⟩
              case measure => simp [intOf]; omega
      · have hlt' : ¬ (0 : Int) < (M : Int) - (k : Int) := by omega
        have HP : Hid (DvH tyLStep 34 wr w g a n cap X (t + 2000) u3 L) := ⟨HH.out.1, HH.out.2.up (by omega)⟩
        go_wp2
        go_ret
        exact ⟨L, u3, by have := HLL.out; omega, rfl, HP.out⟩
  · go_wp2_with fail
    refine (pick_any _ _ _ _ _ _ _ _ (by omega) (by omega) H2.out.1).mono ?_
    rintro _ w3 ⟨x2, hx2, rfl, hd⟩
    have HD : Hid (DvH tyLStep 34 w3 w g a n cap X (t + 6) (.slice none 0 0) []) := ⟨OwnX.nil', H2.out.trans hd⟩
    obtain ⟨M, hM, hMe⟩ : ∃ M : Nat, M ≤ 102 ∧ 80 + x2 = (M : Int) := ⟨(80 + x2).toNat, by omega, by omega⟩
    have HM : Hid (80 + x2 = (M : Int)) := hMe
    clear hd hMe H2
    go_wp2
    go_loopw [4, 3] (fun y v wr => ∃ (k : Nat) (L : List (Sh.T shLeaseStep)), k ≤ M ∧ y = .int .i64 ((M : Int) - (k : Int)) ∧ L.length = k ∧ DvH tyLStep 34 wr w g a n cap X (t + 6 + 16 * k) v L) (fun y _ _ => (intOf y).toNat)
    case atStart => exact ⟨0, [], Nat.zero_le _, by have := HM.out; congr 1 <;> omega, rfl, HD.out⟩
    case round =>
      obtain ⟨k, L, hk, rfl, hL, hH⟩ := hrel
      have HH : Hid (DvH tyLStep 34 wr w g a n cap X (t + 6 + 16 * k) u3 L) := hH
      have HLL : Hid (L.length = k) := hL
      clear hH HD hL
      by_cases hlt : k < M
      · have hlt' : (0 : Int) < (M : Int) - (k : Int) := by omega
        have HA1 := Hid.intro (HH.out.alloc (.cells #[.int .i64 1, .int .i64 1, .int .i64 2, .int .i64 2, .int .i64 3, .int .i64 4, .int .i64 4, .int .i64 4] 3))
        have hgz : g < wr.heap.size := HH.out.2.1.2.2.2.2.2.1
        go_wp2_with fail
        refine (amongL_any g a n cap X _ wr.heap.size _ 8 (fun i => [1, 1, 2, 2, 3, 4, 4, 4].getD i 0) 10 _ (by omega) HA1.out.2.1 (by omega) (by simp) (by omega) (by omega) (int_new wr [1, 1, 2, 2, 3, 4, 4, 4] 3) (int_small (L := [1, 1, 2, 2, 3, 4, 4, 4]) (B := 10) rfl)).mono ?_
        rintro _ w4 ⟨kd, hkd, rfl, hd⟩
        have H4 : Hid (DvH tyLStep 34 w4 w g a n cap X (t + 6 + 16 * k + 2) u3 L) := HA1.out.draw hd hgw
        clear hd HA1 HH hgz hkd
        go_wp2_with fail
        refine (pick_any _ _ _ _ _ _ _ _ (by omega) (by omega) H4.out.2.1).mono ?_
        rintro _ w5 ⟨nd, hnd, rfl, hd⟩
        have H5 : Hid (DvH tyLStep 34 w5 w g a n cap X (t + 6 + 16 * k + 4) u3 L) := H4.out.draw hd hgw
        clear hd H4 hnd
        go_wp2_with fail
        refine (pick_any _ _ _ _ _ _ _ _ (by omega) (by omega) H5.out.2.1).mono ?_
        rintro _ w6 ⟨nn, hnn, rfl, hd⟩
        have H6 : Hid (DvH tyLStep 34 w6 w g a n cap X (t + 6 + 16 * k + 6) u3 L) := H5.out.draw hd hgw
        clear hd H5
        obtain ⟨b6, hb6⟩ : ∃ y, y = w6.heap.size := ⟨_, rfl⟩
        obtain ⟨Y, hY⟩ : ∃ x, x = w6.alloc (.cells #[.int .i64 (kd), .int .i64 (nd), .int .i64 (1 + nn)] 34) := ⟨_, rfl⟩
        have HY : Hid (DvH tyLStep 34 Y w g a n cap X (t + 6 + 16 * k + 6) u3 L ∧ Bx Y b6 [.int .i64 (kd), .int .i64 (nd), .int .i64 (1 + nn)] ∧ w.heap.size ≤ b6 ∧ u3.ownBlock ≠ some b6) := ⟨hY ▸ H6.out.alloc _, hb6 ▸ hY ▸ Bx.new w6 [_, _, _] _, hb6 ▸ H6.out.2.2.2.2.2.1, fun e => by have := (H6.out.1.flat rfl).1.lt _ e; omega⟩
        clear H6
        have y0 := HY.out.2.1.cell 0 rfl
        have y1 := HY.out.2.1.cell 1 rfl
        have y2 := HY.out.2.1.cell 2 rfl
        have yz := HY.out.2.1.2
        by_cases hk4 : kd = 4
        case neg =>
          have hk4' : ¬ kd = 4 := hk4
          go_wp2_with fail
          rw [← hY, ← hb6]
          clear hY hb6 y0 y1 y2 yz
          refine (one_any _ _ _ _ _ _ _ _ (by omega) (by omega) HY.out.1.2.1).mono ?_
          rintro _ w8 ⟨c4, rfl, hd⟩
          have HE : Hid (DvH tyLStep 34 w8 w g a n cap X (t + 6 + 16 * k + 6 + 2) u3 L) := HY.out.1.draw hd hgw
          have HX8 : Hid (Bx w8 b6 [.int .i64 (kd), .int .i64 (nd), .int .i64 (1 + nn)]) := Hid.intro (HY.out.2.1.keepB (fun hlt => hd.2.2.2.2.2 _ hlt (by have := HY.out.2.2.1; omega)) hd.2.2.2.2.1)
          clear hd
          have d0 := HX8.out.cell 0 rfl
          have d1 := HX8.out.cell 1 rfl
          have d2 := HX8.out.cell 2 rfl
          have dz := HX8.out.2
          cases c4
          · skip
            have hb1 : L.length + 1 ≤ maxLen := by have := HLL.out; unfold maxLen; omega
            have hc1 : (L.length + 1) * 24 ≤ 140737488355328 := by have := HLL.out; omega
            have HA := Hid.intro (HE.out.alloc (.cells #[.int .i64 (kd), .int .i64 (nd), .int .i64 (1 + nn)] 34))
            have HLO : Hid (Lies (w8.alloc (.cells #[.int .i64 (kd), .int .i64 (nd), .int .i64 (1 + nn)] 34)) (.list shLeaseStep) [.slice (some ⟨w8.heap.size, 0, none⟩) 1 1] [(kd, nd, 1 + nn, ())]) := Hid.intro (lies_one (w := w8) (e := shLeaseStep) (cs := [.int .i64 (kd), .int .i64 (nd), .int .i64 (1 + nn)]) (x := (kd, nd, 1 + nn, ())) 34 rfl mk_LeaseStep)
            go_wp2_with (first
              | (at_builtin; refine wpList_appx rfl (.tmp 48) (.tmp 50) 23 34 rfl i0 (.agg #[.int .i64 0, .int .i64 0, .int .i64 0]) 24 w.heap.size tyLStep rfl Try.underlying23 hi0 hz0 hz1 hz2 rfl (by decide) u3 L [(kd, nd, 1 + nn, ())] _ rfl HA.out.1 (some ⟨w8.heap.size, 0, none⟩) 1 rfl HLO.out hb1 hc1 HA.out.2.2.2.2.2.1 ?_; intro v9 w9 hO9 hg9 hwh9; have H9 := Hid.intro (HA.out.app (e := tyLStep) rfl hgw hO9 hg9); clear hO9 hg9 hwh9)
              | go_in)
            go_roundw
            case rel => exact ⟨k + 1, L ++ [mkLst (kd) (nd) (1 + nn)], by omega, by congr 1; omega, snoc_len HLL.out, ⟨H9.out.1, H9.out.2.up (by omega)⟩⟩
            case measure => simp [intOf]; omega
          · clear d0 d1 d2 dz
            go_wp2_with fail
            refine (pick_any _ _ _ _ _ _ _ _ (by omega) (by omega) HE.out.2.1).mono ?_
            rintro _ w9a ⟨z1, hz1', rfl, hd⟩
            have HE1 : Hid (DvH tyLStep 34 w9a w g a n cap X (t + 6 + 16 * k + 6 + 4) u3 L) := HE.out.draw hd hgw
            have HX9a : Hid (Bx w9a b6 [.int .i64 (kd), .int .i64 (nd), .int .i64 (1 + nn)]) := Hid.intro (HX8.out.keepB (fun hlt => hd.2.2.2.2.2 _ hlt (by have := HY.out.2.2.1; omega)) hd.2.2.2.2.1)
            clear hd HE HX8
            go_wp2_with fail
            refine (pick_any _ _ _ _ _ _ _ _ (by omega) (by omega) HE1.out.2.1).mono ?_
            rintro _ w9b ⟨z2, hz2', rfl, hd⟩
            have HE2 : Hid (DvH tyLStep 34 w9b w g a n cap X (t + 6 + 16 * k + 6 + 6) u3 L) := HE1.out.draw hd hgw
            have HX9b : Hid (Bx w9b b6 [.int .i64 (kd), .int .i64 (nd), .int .i64 (1 + nn)]) := Hid.intro (HX9a.out.keepB (fun hlt => hd.2.2.2.2.2 _ hlt (by have := HY.out.2.2.1; omega)) hd.2.2.2.2.1)
            clear hd HE1 HX9a
            have HE3 := Hid.intro (HE2.out.alloc (.cells #[.int .i64 0, .int .i64 1000000, .int .i64 1000001] 3))
            have HX9c := Hid.intro (HX9b.out.alloc (.cells #[.int .i64 0, .int .i64 1000000, .int .i64 1000001] 3))
            have hgz : g < w9b.heap.size := HE2.out.2.1.2.2.2.2.2.1
            go_wp2_with fail
            refine (amongL_any g a n cap X _ w9b.heap.size _ 3 (fun i => [0, 1000000, 1000001].getD i 0) 2000000 _ (by omega) HE3.out.2.1 (by omega) (by simp) (by omega) (by omega) (int_new w9b [0, 1000000, 1000001] 3) (int_small (L := [0, 1000000, 1000001]) (B := 2000000) rfl)).mono ?_
            rintro _ w9d ⟨z3, hz3, rfl, hd⟩
            have HE4 : Hid (DvH tyLStep 34 w9d w g a n cap X (t + 6 + 16 * k + 6 + 8) u3 L) := HE3.out.draw hd hgw
            have HX9d : Hid (Bx w9d b6 [.int .i64 (kd), .int .i64 (nd), .int .i64 (1 + nn)]) := Hid.intro (HX9c.out.keepB (fun hlt => hd.2.2.2.2.2 _ hlt (by have := HY.out.2.2.1; omega)) hd.2.2.2.2.1)
            clear hd HE3 HX9c HE2 HX9b hgz
            have d0 := HX9d.out.cell 0 rfl
            have d1 := HX9d.out.cell 1 rfl
            have d2 := HX9d.out.cell 2 rfl
            have dz := HX9d.out.2
            have df0 := HX9d.out.frz 0 (by simp)
            have df1 := HX9d.out.frz 1 (by simp)
            have df2 := HX9d.out.frz 2 (by simp)
            obtain ⟨Z, hZ⟩ : ∃ x, x = ((w9d.setCell ⟨b6, 0, none⟩ (.int .i64 z1)).setCell ⟨b6, 1, none⟩ (.int .i64 (z2 - 1))).setCell ⟨b6, 2, none⟩ (.int .i64 z3) := ⟨_, rfl⟩
            have HE : Hid (DvH tyLStep 34 Z w g a n cap X (t + 6 + 16 * k + 6 + 8) u3 L) := hZ ▸ ((HE4.out.set hgw HY.out.2.2.1 HY.out.2.2.2 rfl 0 _).set hgw HY.out.2.2.1 HY.out.2.2.2 rfl 1 _).set hgw HY.out.2.2.1 HY.out.2.2.2 rfl 2 _
            have hZz : Z.heap.size = w9d.heap.size := by rw [hZ]; simp
            have HZZ : Hid (Z.heap.size = w9d.heap.size) := hZz
            clear hZz HE4
            have hb1 : L.length + 1 ≤ maxLen := by have := HLL.out; unfold maxLen; omega
            have hc1 : (L.length + 1) * 24 ≤ 140737488355328 := by have := HLL.out; omega
            have HA := Hid.intro (HE.out.alloc (.cells #[.int .i64 (z1), .int .i64 (z2 - 1), .int .i64 (z3)] 34))
            have HLO : Hid (Lies (Z.alloc (.cells #[.int .i64 (z1), .int .i64 (z2 - 1), .int .i64 (z3)] 34)) (.list shLeaseStep) [.slice (some ⟨Z.heap.size, 0, none⟩) 1 1] [(z1, z2 - 1, z3, ())]) := Hid.intro (lies_one (w := Z) (e := shLeaseStep) (cs := [.int .i64 (z1), .int .i64 (z2 - 1), .int .i64 (z3)]) (x := (z1, z2 - 1, z3, ())) 34 rfl mk_LeaseStep)
            go_wp2_with (first
              | (at_builtin; rw [← hZ]; refine wpList_appx rfl (.tmp 48) (.tmp 50) 23 34 rfl i0 (.agg #[.int .i64 0, .int .i64 0, .int .i64 0]) 24 w.heap.size tyLStep rfl Try.underlying23 hi0 hz0 hz1 hz2 rfl (by decide) u3 L [(z1, z2 - 1, z3, ())] _ rfl HA.out.1 (some ⟨w9d.heap.size, 0, none⟩) 1 rfl (HZZ.out ▸ HLO.out) hb1 hc1 HA.out.2.2.2.2.2.1 ?_; intro v9 w9 hO9 hg9 hwh9; have H9 := Hid.intro (HA.out.app (e := tyLStep) rfl hgw hO9 hg9); clear hO9 hg9 hwh9)
              | go_in)
            go_roundw
            case rel => exact ⟨k + 1, L ++ [mkLst (z1) (z2 - 1) (z3)], by omega, by congr 1; omega, snoc_len HLL.out, ⟨H9.out.1, H9.out.2.up (by omega)⟩⟩
            case measure => simp [intOf]; omega
        case pos =>
          subst hk4
          go_wp2_with fail
          rw [← hY, ← hb6]
          clear hY hb6
          refine (one_any _ _ _ _ _ _ _ _ (by omega) (by omega) HY.out.1.2.1).mono ?_
          rintro _ w7 ⟨c3, rfl, hd⟩
          have HY7 : Hid (DvH tyLStep 34 w7 w g a n cap X (t + 6 + 16 * k + 8) u3 L ∧ Bx w7 b6 [.int .i64 (4), .int .i64 (nd), .int .i64 (1 + nn)] ∧ w.heap.size ≤ b6 ∧ u3.ownBlock ≠ some b6) := ⟨HY.out.1.draw hd hgw, HY.out.2.1.keepB (fun hlt => hd.2.2.2.2.2 _ hlt (by have := HY.out.2.2.1; omega)) hd.2.2.2.2.1, HY.out.2.2⟩
          clear hd HY y0 y1 y2 yz
          cases c3
          · have HY := HY7
            go_wp2_with fail
            skip
            refine (one_any _ _ _ _ _ _ _ _ (by omega) (by omega) HY.out.1.2.1).mono ?_
            rintro _ w8 ⟨c4, rfl, hd⟩
            have HE : Hid (DvH tyLStep 34 w8 w g a n cap X (t + 6 + 16 * k + 8 + 2) u3 L) := HY.out.1.draw hd hgw
            have HX8 : Hid (Bx w8 b6 [.int .i64 (4), .int .i64 (nd), .int .i64 (1 + nn)]) := Hid.intro (HY.out.2.1.keepB (fun hlt => hd.2.2.2.2.2 _ hlt (by have := HY.out.2.2.1; omega)) hd.2.2.2.2.1)
            clear hd
            have d0 := HX8.out.cell 0 rfl
            have d1 := HX8.out.cell 1 rfl
            have d2 := HX8.out.cell 2 rfl
            have dz := HX8.out.2
            cases c4
            · skip
              have hb1 : L.length + 1 ≤ maxLen := by have := HLL.out; unfold maxLen; omega
              have hc1 : (L.length + 1) * 24 ≤ 140737488355328 := by have := HLL.out; omega
              have HA := Hid.intro (HE.out.alloc (.cells #[.int .i64 (4), .int .i64 (nd), .int .i64 (1 + nn)] 34))
              have HLO : Hid (Lies (w8.alloc (.cells #[.int .i64 (4), .int .i64 (nd), .int .i64 (1 + nn)] 34)) (.list shLeaseStep) [.slice (some ⟨w8.heap.size, 0, none⟩) 1 1] [(4, nd, 1 + nn, ())]) := Hid.intro (lies_one (w := w8) (e := shLeaseStep) (cs := [.int .i64 (4), .int .i64 (nd), .int .i64 (1 + nn)]) (x := (4, nd, 1 + nn, ())) 34 rfl mk_LeaseStep)
              go_wp2_with (first
                | (at_builtin; refine wpList_appx rfl (.tmp 48) (.tmp 50) 23 34 rfl i0 (.agg #[.int .i64 0, .int .i64 0, .int .i64 0]) 24 w.heap.size tyLStep rfl Try.underlying23 hi0 hz0 hz1 hz2 rfl (by decide) u3 L [(4, nd, 1 + nn, ())] _ rfl HA.out.1 (some ⟨w8.heap.size, 0, none⟩) 1 rfl HLO.out hb1 hc1 HA.out.2.2.2.2.2.1 ?_; intro v9 w9 hO9 hg9 hwh9; have H9 := Hid.intro (HA.out.app (e := tyLStep) rfl hgw hO9 hg9); clear hO9 hg9 hwh9)
                | go_in)
              go_roundw
              case rel => exact ⟨k + 1, L ++ [mkLst (4) (nd) (1 + nn)], by omega, by congr 1; omega, snoc_len HLL.out, ⟨H9.out.1, H9.out.2.up (by omega)⟩⟩
              case measure => simp [intOf]; omega
            · clear d0 d1 d2 dz
              go_wp2_with fail
              refine (pick_any _ _ _ _ _ _ _ _ (by omega) (by omega) HE.out.2.1).mono ?_
              rintro _ w9a ⟨z1, hz1', rfl, hd⟩
              have HE1 : Hid (DvH tyLStep 34 w9a w g a n cap X (t + 6 + 16 * k + 8 + 4) u3 L) := HE.out.draw hd hgw
              have HX9a : Hid (Bx w9a b6 [.int .i64 (4), .int .i64 (nd), .int .i64 (1 + nn)]) := Hid.intro (HX8.out.keepB (fun hlt => hd.2.2.2.2.2 _ hlt (by have := HY.out.2.2.1; omega)) hd.2.2.2.2.1)
              clear hd HE HX8
              go_wp2_with fail
              refine (pick_any _ _ _ _ _ _ _ _ (by omega) (by omega) HE1.out.2.1).mono ?_
              rintro _ w9b ⟨z2, hz2', rfl, hd⟩
              have HE2 : Hid (DvH tyLStep 34 w9b w g a n cap X (t + 6 + 16 * k + 8 + 6) u3 L) := HE1.out.draw hd hgw
              have HX9b : Hid (Bx w9b b6 [.int .i64 (4), .int .i64 (nd), .int .i64 (1 + nn)]) := Hid.intro (HX9a.out.keepB (fun hlt => hd.2.2.2.2.2 _ hlt (by have := HY.out.2.2.1; omega)) hd.2.2.2.2.1)
              clear hd HE1 HX9a
              have HE3 := Hid.intro (HE2.out.alloc (.cells #[.int .i64 0, .int .i64 1000000, .int .i64 1000001] 3))
              have HX9c := Hid.intro (HX9b.out.alloc (.cells #[.int .i64 0, .int .i64 1000000, .int .i64 1000001] 3))
              have hgz : g < w9b.heap.size := HE2.out.2.1.2.2.2.2.2.1
              go_wp2_with fail
              refine (amongL_any g a n cap X _ w9b.heap.size _ 3 (fun i => [0, 1000000, 1000001].getD i 0) 2000000 _ (by omega) HE3.out.2.1 (by omega) (by simp) (by omega) (by omega) (int_new w9b [0, 1000000, 1000001] 3) (int_small (L := [0, 1000000, 1000001]) (B := 2000000) rfl)).mono ?_
              rintro _ w9d ⟨z3, hz3, rfl, hd⟩
              have HE4 : Hid (DvH tyLStep 34 w9d w g a n cap X (t + 6 + 16 * k + 8 + 8) u3 L) := HE3.out.draw hd hgw
              have HX9d : Hid (Bx w9d b6 [.int .i64 (4), .int .i64 (nd), .int .i64 (1 + nn)]) := Hid.intro (HX9c.out.keepB (fun hlt => hd.2.2.2.2.2 _ hlt (by have := HY.out.2.2.1; omega)) hd.2.2.2.2.1)
              clear hd HE3 HX9c HE2 HX9b hgz
              have d0 := HX9d.out.cell 0 rfl
              have d1 := HX9d.out.cell 1 rfl
              have d2 := HX9d.out.cell 2 rfl
              have dz := HX9d.out.2
              have df0 := HX9d.out.frz 0 (by simp)
              have df1 := HX9d.out.frz 1 (by simp)
              have df2 := HX9d.out.frz 2 (by simp)
              obtain ⟨Z, hZ⟩ : ∃ x, x = ((w9d.setCell ⟨b6, 0, none⟩ (.int .i64 z1)).setCell ⟨b6, 1, none⟩ (.int .i64 (z2 - 1))).setCell ⟨b6, 2, none⟩ (.int .i64 z3) := ⟨_, rfl⟩
              have HE : Hid (DvH tyLStep 34 Z w g a n cap X (t + 6 + 16 * k + 8 + 8) u3 L) := hZ ▸ ((HE4.out.set hgw HY.out.2.2.1 HY.out.2.2.2 rfl 0 _).set hgw HY.out.2.2.1 HY.out.2.2.2 rfl 1 _).set hgw HY.out.2.2.1 HY.out.2.2.2 rfl 2 _
              have hZz : Z.heap.size = w9d.heap.size := by rw [hZ]; simp
              have HZZ : Hid (Z.heap.size = w9d.heap.size) := hZz
              clear hZz HE4
              have hb1 : L.length + 1 ≤ maxLen := by have := HLL.out; unfold maxLen; omega
              have hc1 : (L.length + 1) * 24 ≤ 140737488355328 := by have := HLL.out; omega
              have HA := Hid.intro (HE.out.alloc (.cells #[.int .i64 (z1), .int .i64 (z2 - 1), .int .i64 (z3)] 34))
              have HLO : Hid (Lies (Z.alloc (.cells #[.int .i64 (z1), .int .i64 (z2 - 1), .int .i64 (z3)] 34)) (.list shLeaseStep) [.slice (some ⟨Z.heap.size, 0, none⟩) 1 1] [(z1, z2 - 1, z3, ())]) := Hid.intro (lies_one (w := Z) (e := shLeaseStep) (cs := [.int .i64 (z1), .int .i64 (z2 - 1), .int .i64 (z3)]) (x := (z1, z2 - 1, z3, ())) 34 rfl mk_LeaseStep)
              go_wp2_with (first
                | (at_builtin; rw [← hZ]; refine wpList_appx rfl (.tmp 48) (.tmp 50) 23 34 rfl i0 (.agg #[.int .i64 0, .int .i64 0, .int .i64 0]) 24 w.heap.size tyLStep rfl Try.underlying23 hi0 hz0 hz1 hz2 rfl (by decide) u3 L [(z1, z2 - 1, z3, ())] _ rfl HA.out.1 (some ⟨w9d.heap.size, 0, none⟩) 1 rfl (HZZ.out ▸ HLO.out) hb1 hc1 HA.out.2.2.2.2.2.1 ?_; intro v9 w9 hO9 hg9 hwh9; have H9 := Hid.intro (HA.out.app (e := tyLStep) rfl hgw hO9 hg9); clear hO9 hg9 hwh9)
                | go_in)
              go_roundw
              case rel => exact ⟨k + 1, L ++ [mkLst (z1) (z2 - 1) (z3)], by omega, by congr 1; omega, snoc_len HLL.out, ⟨H9.out.1, H9.out.2.up (by omega)⟩⟩
              case measure => simp [intOf]; omega
          · have y0 := HY7.out.2.1.cell 0 rfl
            have y1 := HY7.out.2.1.cell 1 rfl
            have y2 := HY7.out.2.1.cell 2 rfl
            have yz := HY7.out.2.1.2
            have yf := HY7.out.2.1.frz 2 (by simp)
            obtain ⟨Q, hQ⟩ : ∃ x, x = w7.setCell ⟨b6, 2, none⟩ (.int .i64 (-(1 + nn))) := ⟨_, rfl⟩
            have HY : Hid (DvH tyLStep 34 Q w g a n cap X (t + 6 + 16 * k + 8) u3 L ∧ Bx Q b6 [.int .i64 (4), .int .i64 (nd), .int .i64 (-(1 + nn))] ∧ w.heap.size ≤ b6 ∧ u3.ownBlock ≠ some b6) := Hid.intro (by rw [hQ]; exact ⟨HY7.out.1.set hgw HY7.out.2.2.1 HY7.out.2.2.2 rfl 2 _, HY7.out.2.1.set (k := 2) (by simp) _, HY7.out.2.2⟩)
            go_wp2_with fail
            rw [← hQ]
            clear hQ y0 y1 y2 yz yf HY7
            refine (one_any _ _ _ _ _ _ _ _ (by omega) (by omega) HY.out.1.2.1).mono ?_
            rintro _ w8 ⟨c4, rfl, hd⟩
            have HE : Hid (DvH tyLStep 34 w8 w g a n cap X (t + 6 + 16 * k + 8 + 2) u3 L) := HY.out.1.draw hd hgw
            have HX8 : Hid (Bx w8 b6 [.int .i64 (4), .int .i64 (nd), .int .i64 (-(1 + nn))]) := Hid.intro (HY.out.2.1.keepB (fun hlt => hd.2.2.2.2.2 _ hlt (by have := HY.out.2.2.1; omega)) hd.2.2.2.2.1)
            clear hd
            have d0 := HX8.out.cell 0 rfl
            have d1 := HX8.out.cell 1 rfl
            have d2 := HX8.out.cell 2 rfl
            have dz := HX8.out.2
            cases c4
            · skip
              have hb1 : L.length + 1 ≤ maxLen := by have := HLL.out; unfold maxLen; omega
              have hc1 : (L.length + 1) * 24 ≤ 140737488355328 := by have := HLL.out; omega
              have HA := Hid.intro (HE.out.alloc (.cells #[.int .i64 (4), .int .i64 (nd), .int .i64 (-(1 + nn))] 34))
              have HLO : Hid (Lies (w8.alloc (.cells #[.int .i64 (4), .int .i64 (nd), .int .i64 (-(1 + nn))] 34)) (.list shLeaseStep) [.slice (some ⟨w8.heap.size, 0, none⟩) 1 1] [(4, nd, -(1 + nn), ())]) := Hid.intro (lies_one (w := w8) (e := shLeaseStep) (cs := [.int .i64 (4), .int .i64 (nd), .int .i64 (-(1 + nn))]) (x := (4, nd, -(1 + nn), ())) 34 rfl mk_LeaseStep)
              go_wp2_with (first
                | (at_builtin; refine wpList_appx rfl (.tmp 48) (.tmp 50) 23 34 rfl i0 (.agg #[.int .i64 0, .int .i64 0, .int .i64 0]) 24 w.heap.size tyLStep rfl Try.underlying23 hi0 hz0 hz1 hz2 rfl (by decide) u3 L [(4, nd, -(1 + nn), ())] _ rfl HA.out.1 (some ⟨w8.heap.size, 0, none⟩) 1 rfl HLO.out hb1 hc1 HA.out.2.2.2.2.2.1 ?_; intro v9 w9 hO9 hg9 hwh9; have H9 := Hid.intro (HA.out.app (e := tyLStep) rfl hgw hO9 hg9); clear hO9 hg9 hwh9)
                | go_in)
              go_roundw
              case rel => exact ⟨k + 1, L ++ [mkLst (4) (nd) (-(1 + nn))], by omega, by congr 1; omega, snoc_len HLL.out, ⟨H9.out.1, H9.out.2.up (by omega)⟩⟩
              case measure => simp [intOf]; omega
            · clear d0 d1 d2 dz
              go_wp2_with fail
              refine (pick_any _ _ _ _ _ _ _ _ (by omega) (by omega) HE.out.2.1).mono ?_
              rintro _ w9a ⟨z1, hz1', rfl, hd⟩
              have HE1 : Hid (DvH tyLStep 34 w9a w g a n cap X (t + 6 + 16 * k + 8 + 4) u3 L) := HE.out.draw hd hgw
              have HX9a : Hid (Bx w9a b6 [.int .i64 (4), .int .i64 (nd), .int .i64 (-(1 + nn))]) := Hid.intro (HX8.out.keepB (fun hlt => hd.2.2.2.2.2 _ hlt (by have := HY.out.2.2.1; omega)) hd.2.2.2.2.1)
              clear hd HE HX8
              go_wp2_with fail
              refine (pick_any _ _ _ _ _ _ _ _ (by omega) (by omega) HE1.out.2.1).mono ?_
              rintro _ w9b ⟨z2, hz2', rfl, hd⟩
              have HE2 : Hid (DvH tyLStep 34 w9b w g a n cap X (t + 6 + 16 * k + 8 + 6) u3 L) := HE1.out.draw hd hgw
              have HX9b : Hid (Bx w9b b6 [.int .i64 (4), .int .i64 (nd), .int .i64 (-(1 + nn))]) := Hid.intro (HX9a.out.keepB (fun hlt => hd.2.2.2.2.2 _ hlt (by have := HY.out.2.2.1; omega)) hd.2.2.2.2.1)
              clear hd HE1 HX9a
              have HE3 := Hid.intro (HE2.out.alloc (.cells #[.int .i64 0, .int .i64 1000000, .int .i64 1000001] 3))
              have HX9c := Hid.intro (HX9b.out.alloc (.cells #[.int .i64 0, .int .i64 1000000, .int .i64 1000001] 3))
              have hgz : g < w9b.heap.size := HE2.out.2.1.2.2.2.2.2.1
              go_wp2_with fail
              refine (amongL_any g a n cap X _ w9b.heap.size _ 3 (fun i => [0, 1000000, 1000001].getD i 0) 2000000 _ (by omega) HE3.out.2.1 (by omega) (by simp) (by omega) (by omega) (int_new w9b [0, 1000000, 1000001] 3) (int_small (L := [0, 1000000, 1000001]) (B := 2000000) rfl)).mono ?_
              rintro _ w9d ⟨z3, hz3, rfl, hd⟩
              have HE4 : Hid (DvH tyLStep 34 w9d w g a n cap X (t + 6 + 16 * k + 8 + 8) u3 L) := HE3.out.draw hd hgw
              have HX9d : Hid (Bx w9d b6 [.int .i64 (4), .int .i64 (nd), .int .i64 (-(1 + nn))]) := Hid.intro (HX9c.out.keepB (fun hlt => hd.2.2.2.2.2 _ hlt (by have := HY.out.2.2.1; omega)) hd.2.2.2.2.1)
              clear hd HE3 HX9c HE2 HX9b hgz
              have d0 := HX9d.out.cell 0 rfl
              have d1 := HX9d.out.cell 1 rfl
              have d2 := HX9d.out.cell 2 rfl
              have dz := HX9d.out.2
              have df0 := HX9d.out.frz 0 (by simp)
              have df1 := HX9d.out.frz 1 (by simp)
              have df2 := HX9d.out.frz 2 (by simp)
              obtain ⟨Z, hZ⟩ : ∃ x, x = ((w9d.setCell ⟨b6, 0, none⟩ (.int .i64 z1)).setCell ⟨b6, 1, none⟩ (.int .i64 (z2 - 1))).setCell ⟨b6, 2, none⟩ (.int .i64 z3) := ⟨_, rfl⟩
              have HE : Hid (DvH tyLStep 34 Z w g a n cap X (t + 6 + 16 * k + 8 + 8) u3 L) := hZ ▸ ((HE4.out.set hgw HY.out.2.2.1 HY.out.2.2.2 rfl 0 _).set hgw HY.out.2.2.1 HY.out.2.2.2 rfl 1 _).set hgw HY.out.2.2.1 HY.out.2.2.2 rfl 2 _
              have hZz : Z.heap.size = w9d.heap.size := by rw [hZ]; simp
              have HZZ : Hid (Z.heap.size = w9d.heap.size) := hZz
              clear hZz HE4
              have hb1 : L.length + 1 ≤ maxLen := by have := HLL.out; unfold maxLen; omega
              have hc1 : (L.length + 1) * 24 ≤ 140737488355328 := by have := HLL.out; omega
              have HA := Hid.intro (HE.out.alloc (.cells #[.int .i64 (z1), .int .i64 (z2 - 1), .int .i64 (z3)] 34))
              have HLO : Hid (Lies (Z.alloc (.cells #[.int .i64 (z1), .int .i64 (z2 - 1), .int .i64 (z3)] 34)) (.list shLeaseStep) [.slice (some ⟨Z.heap.size, 0, none⟩) 1 1] [(z1, z2 - 1, z3, ())]) := Hid.intro (lies_one (w := Z) (e := shLeaseStep) (cs := [.int .i64 (z1), .int .i64 (z2 - 1), .int .i64 (z3)]) (x := (z1, z2 - 1, z3, ())) 34 rfl mk_LeaseStep)
              go_wp2_with (first
                | (at_builtin; rw [← hZ]; refine wpList_appx rfl (.tmp 48) (.tmp 50) 23 34 rfl i0 (.agg #[.int .i64 0, .int .i64 0, .int .i64 0]) 24 w.heap.size tyLStep rfl Try.underlying23 hi0 hz0 hz1 hz2 rfl (by decide) u3 L [(z1, z2 - 1, z3, ())] _ rfl HA.out.1 (some ⟨w9d.heap.size, 0, none⟩) 1 rfl (HZZ.out ▸ HLO.out) hb1 hc1 HA.out.2.2.2.2.2.1 ?_; intro v9 w9 hO9 hg9 hwh9; have H9 := Hid.intro (HA.out.app (e := tyLStep) rfl hgw hO9 hg9); clear hO9 hg9 hwh9)
                | go_in)
              go_roundw
              case rel => exact ⟨k + 1, L ++ [mkLst (z1) (z2 - 1) (z3)], by omega, by congr 1; omega, snoc_len HLL.out, ⟨H9.out.1, H9.out.2.up (by omega)⟩⟩
              case measure => simp [intOf]; omega
      · have hlt' : ¬ (0 : Int) < (M : Int) - (k : Int) := by omega
        have HP : Hid (DvH tyLStep 34 wr w g a n cap X (t + 2000) u3 L) := ⟨HH.out.1, HH.out.2.up (by omega)⟩
        go_wp2
        go_ret
        exact ⟨L, u3, by have := HLL.out; omega, rfl, HP.out⟩
end Go.Proofs.Ytidalpgkljafdaa
