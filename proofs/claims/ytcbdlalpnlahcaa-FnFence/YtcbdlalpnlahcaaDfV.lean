/- Fences: the draw of steps. Written by tools/mkDfV.py. -/
import Derived.Test.YtcbdlalpnlahcaaShDv
import Derived.Test.YtcbdlalpnlahcaaFpG
namespace Go.Proofs.Ytcbdlalpnlahcaa
open Go.RowKit
set_option linter.unusedVariables false
set_option linter.unusedSimpArgs false

def mkFst (x y z : Int) : Sh.T shFenceStep := (x, y, z, ())
def tyFStep : Ty := .pair .int (.pair .int (.pair .int .nil))
theorem inf_FStep : (Try.prog.info? 40).map (fun i => (i.zero, i.size, i.bytes)) = some (some (.agg #[.int .i64 0, .int .i64 0, .int .i64 0]), 3, 24) := by kernel_rfl
theorem w64f' {x y : Int} (h : x = y) (h2 : -1000000 ≤ y ∧ y ≤ 1000000) : IntKind.i64.wrap x = y := by rw [h]; exact w64f (by omega) (by omega)
theorem DvH.up' {e : Ty} {y : TypeId} {W w : World} {g : Nat} {a : Option Addr} {n cap : Nat} {X : Nat → Int} {t t2 : Nat} {v : Value} {L : List e.T} (h : DvH e y W w g a n cap X t v L) (ht : t ≤ t2) : DvH e y W w g a n cap X t2 v L := ⟨h.1, h.2.up ht⟩
/-- The last step of a list that is being built: its cells, and the list when it was set in place. -/
theorem DvH.last {y : TypeId} {W w : World} {g : Nat} {a : Option Addr} {n cap : Nat} {X : Nat → Int} {t : Nat} {v : Value} {L : List tyFStep.T} (h : DvH tyFStep y W w g a n cap X t v L) {k : Nat} (hk : L.length = k + 1) :
    ∃ gx cx, v = .slice (some ⟨gx, 0, none⟩) (k + 1) cx ∧ gx < W.heap.size ∧ w.heap.size ≤ gx ∧ ∃ x0 x1 x2 : Int, W.cell? ⟨gx, k * 3, none⟩ = some (.int .i64 x0) ∧ W.cell? ⟨gx, k * 3 + 1, none⟩ = some (.int .i64 x1) ∧ W.cell? ⟨gx, k * 3 + 2, none⟩ = some (.int .i64 x2)
      ∧ W.frozen? ⟨gx, k * 3, none⟩ = false ∧ W.frozen? ⟨gx, k * 3 + 1, none⟩ = false ∧ W.frozen? ⟨gx, k * 3 + 2, none⟩ = false
      ∧ (g < w.heap.size → ∀ z z0 z1 z2 : Int, DvH tyFStep y (W.setCell ⟨gx, k * 3, none⟩ (.int .i64 z)) w g a n cap X t v (L.set k (mkFst z x1 x2))
        ∧ DvH tyFStep y (((W.setCell ⟨gx, k * 3, none⟩ (.int .i64 z0)).setCell ⟨gx, k * 3 + 1, none⟩ (.int .i64 z1)).setCell ⟨gx, k * 3 + 2, none⟩ (.int .i64 z2)) w g a n cap X t v (L.set k (mkFst z0 z1 z2))) := by
  have hkl : k < L.length := by omega
  obtain ⟨gx, cx, ec, Bk, hv, hg, hlo, hS, hB, hec, hcells, hroom, hO, hch, hback⟩ := OwnX.lens (e := tyFStep) h.1 hkl
  obtain ⟨x0, x1, x2, hx⟩ : ∃ x0 x1 x2 : Int, L[k] = (x0, x1, x2, ()) := ⟨_, _, _, rfl⟩
  rw [hx] at hO
  have hO : ec = [.int .i64 x0, .int .i64 x1, .int .i64 x2] := (ownx_flat (s := tyFStep) rfl).1 hO
  subst hO
  have c0 := hcells 0 (by simp)
  have c1 := hcells 1 (by simp)
  have c2 := hcells 2 (by simp)
  have e3 : tyFStep.c = 3 := rfl
  rw [e3] at c0 c1 c2 hch hback hroom
  have r0 := (hroom (k * 3) (by omega)).2
  have r1 := (hroom (k * 3 + 1) (by omega)).2
  have r2 := (hroom (k * 3 + 2) (by omega)).2
  refine ⟨gx, cx, by rw [hv]; congr 1, hg, hlo, x0, x1, x2, c0, c1, c2, r0, r1, r2, fun hgw z z0 z1 z2 => ⟨⟨?_, h.2.out hgw hlo _⟩, ⟨?_, ((h.2.out hgw hlo _).out hgw hlo _).out hgw hlo _⟩⟩⟩
  · have q := hch.set (j := 0) (by simp) (.int .i64 z)
    refine (hback _ [.int .i64 z, .int .i64 x1, .int .i64 x2] (mkFst z x1 x2) Bk (fun _ => False) (fun b _ _ hb _ => Below.heap_setCell _ _ _ _ hb) q ((ownx_flat (s := tyFStep) rfl).2 rfl) (fun b hb => Or.inl hb) (fun b q => q.elim)).mono (fun b q => ?_)
    rcases q with q | q
    · simpa [Btw] using q
    · exact q.elim
  · have q := ((hch.set (j := 0) (by simp) (.int .i64 z0)).set (j := 1) (by simp) (.int .i64 z1)).set (j := 2) (by simp) (.int .i64 z2)
    refine (hback _ [.int .i64 z0, .int .i64 z1, .int .i64 z2] (mkFst z0 z1 z2) Bk (fun _ => False) (fun b _ _ hb _ => by rw [Below.heap_setCell _ _ _ _ hb, Below.heap_setCell _ _ _ _ hb, Below.heap_setCell _ _ _ _ hb]) q ((ownx_flat (s := tyFStep) rfl).2 rfl) (fun b hb => Or.inl hb) (fun b q => q.elim)).mono (fun b q => ?_)
    rcases q with q | q
    · simpa [Btw] using q
    · exact q.elim
def StfP (g : Nat) (a : Option Addr) (n cap : Nat) (X : Nat → Int) (t : Nat) (w : World) (r : Ending) (w' : World) : Prop := ∃ (L : List (Sh.T shFenceStep)) (v : Value), L.length ≤ 121 ∧ r = .returned v ∧ DvH tyFStep 40 w' w g a n cap X (t + 2000) v L

set_option maxRecDepth 100000 in
set_option maxHeartbeats 8000000 in
theorem fenceSteps_any (m : Int) (g : Nat) (a : Option Addr) (n cap : Nat) (X : Nat → Int) (t : Nat) (w : World) (hm : 1 ≤ m ∧ m ≤ 3) (ht : t ≤ 10000) (hc : Cur w g a n cap X t) :
    Calls Try.prog 40 #[.pointer (some ⟨g, 0, none⟩), .int .i64 m] w (StfP g a n cap X t w) := by
  have hgw : g < w.heap.size := hc.2.2.2.2.2.1
  have HC : Hid (Cur w g a n cap X t) := hc
  clear hc
  obtain ⟨i0, hi0, hz0, hz1, hz2⟩ := info_parts inf_FStep
  go_enter Try.func40, Try.ntmps40
  go_wp2_with fail
  refine (pick_any _ _ _ _ _ _ _ _ (by omega) (by omega) HC.out).mono ?_
  rintro _ w1 ⟨x1, hx1, rfl, hd⟩
  have H1 : Hid (Drew g a n cap X (t + 2) w w1) := hd
  clear hd HC
  go_wp2_with fail
  refine (one_any _ _ _ _ _ _ _ _ (by omega) (by omega) H1.out.1).mono ?_
  rintro _ w2 ⟨b1, rfl, hd⟩
  have H2 : Hid (Drew g a n cap X (t + 4) w w2) := H1.out.trans hd
  clear hd H1
  cases b1
  · obtain ⟨M, hM, hMe⟩ : ∃ M : Nat, M ≤ 121 ∧ x1 = (M : Int) := ⟨x1.toNat, by omega, by omega⟩
    have HM : Hid (x1 = (M : Int)) := hMe
    have HD : Hid (DvH tyFStep 40 w2 w g a n cap X (t + 6) (.slice none 0 0) []) := ⟨OwnX.nil', H2.out.up (by omega)⟩
    clear hMe H2
    go_wp2
    go_loopw [6, 5] (fun y v wr => ∃ (k : Nat) (L : List (Sh.T shFenceStep)), k ≤ M ∧ y = .int .i64 ((M : Int) - (k : Int)) ∧ L.length = k ∧ DvH tyFStep 40 wr w g a n cap X (t + 6 + 16 * k) v L) (fun y _ _ => (intOf y).toNat)
    case atStart => exact ⟨0, [], Nat.zero_le _, by have := HM.out; congr 1 <;> omega, rfl, HD.out⟩
    case round =>
      obtain ⟨k, L, hk, rfl, hL, hH⟩ := hrel
      have HH : Hid (DvH tyFStep 40 wr w g a n cap X (t + 6 + 16 * k) u5 L) := hH
      have HLL : Hid (L.length = k) := hL
      clear hH HD hL
      by_cases hlt : k < M
      · have hlt' : (0 : Int) < (M : Int) - (k : Int) := by omega
        have HA1 := Hid.intro (HH.out.alloc (.cells #[.int .i64 1, .int .i64 1, .int .i64 2, .int .i64 2, .int .i64 3, .int .i64 3, .int .i64 4, .int .i64 4, .int .i64 6, .int .i64 6, .int .i64 6] 3))
        have hgz : g < wr.heap.size := HH.out.2.1.2.2.2.2.2.1
        go_wp2_with fail
        refine (amongL_any g a n cap X _ wr.heap.size _ 11 (fun i => [1, 1, 2, 2, 3, 3, 4, 4, 6, 6, 6].getD i 0) 10 _ (by omega) HA1.out.2.1 (by omega) (by simp) (by omega) (by omega) (int_new wr [1, 1, 2, 2, 3, 3, 4, 4, 6, 6, 6] 3) (int_small (L := [1, 1, 2, 2, 3, 3, 4, 4, 6, 6, 6]) (B := 10) rfl)).mono ?_
        rintro _ w4 ⟨kd, hkd, rfl, hd⟩
        have H4 : Hid (DvH tyFStep 40 w4 w g a n cap X (t + 6 + 16 * k + 2) u5 L) := HA1.out.draw hd hgw
        clear hd HA1 HH hgz hkd
        go_wp2_with fail
        refine (pick_any _ _ _ _ _ _ _ _ (by omega) (by omega) H4.out.2.1).mono ?_
        rintro _ w5 ⟨nd, hnd, rfl, hd⟩
        have H5 : Hid (DvH tyFStep 40 w5 w g a n cap X (t + 6 + 16 * k + 4) u5 L) := H4.out.draw hd hgw
        clear hd H4 hnd
        go_wp2_with fail
        refine (pick_any _ _ _ _ _ _ _ _ (by omega) (by omega) H5.out.2.1).mono ?_
        rintro _ w6 ⟨nn, hnn, rfl, hd⟩
        have HE : Hid (DvH tyFStep 40 w6 w g a n cap X (t + 6 + 16 * k + 6) u5 L) := H5.out.draw hd hgw
        clear hd H5 hnn
        have hb1 : L.length + 1 ≤ maxLen := by have := HLL.out; unfold maxLen; omega
        have hc1 : (L.length + 1) * 24 ≤ 140737488355328 := by have := HLL.out; omega
        have HA := Hid.intro (HE.out.alloc (.cells #[.int .i64 kd, .int .i64 nd, .int .i64 nn] 40))
        have HLO : Hid (Lies (w6.alloc (.cells #[.int .i64 kd, .int .i64 nd, .int .i64 nn] 40)) (.list shFenceStep) [.slice (some ⟨w6.heap.size, 0, none⟩) 1 1] [mkFst kd nd nn]) := Hid.intro (lies_one (w := w6) (e := shFenceStep) (cs := [.int .i64 kd, .int .i64 nd, .int .i64 nn]) (x := mkFst kd nd nn) 40 rfl mk_FenceStep)
        go_wp2_with (first
          | (at_builtin; refine wpList_appx rfl (.tmp 18) (.tmp 28) 23 40 rfl i0 (.agg #[.int .i64 0, .int .i64 0, .int .i64 0]) 24 w.heap.size tyFStep rfl Try.underlying23 hi0 hz0 hz1 hz2 rfl (by decide) u5 L [mkFst kd nd nn] _ rfl HA.out.1 (some ⟨w6.heap.size, 0, none⟩) 1 rfl HLO.out hb1 hc1 HA.out.2.2.2.2.2.1 ?_; intro v9 w9 hO9 hg9 hwh9; have H9 := Hid.intro (HA.out.app (e := tyFStep) rfl hgw hO9 hg9); clear hO9 hg9 hwh9)
          | fail)
        clear HA HLO hb1 hc1 HE
        have HLK : Hid ((L ++ [mkFst kd nd nn]).length = k + 1) := snoc_len HLL.out
        refine (pick_any _ _ _ _ _ _ _ _ (by omega) (by omega) H9.out.2.1).mono ?_
        rintro _ wa ⟨sw, hsw, rfl, hd⟩
        have H0 : Hid (DvH tyFStep 40 wa w g a n cap X (t + 6 + 16 * k + 8) v9 (L ++ [mkFst kd nd nn])) := H9.out.draw hd hgw
        clear hd H9
        obtain ⟨L9, hL9⟩ : ∃ L9, L9 = L ++ [mkFst kd nd nn] := ⟨_, rfl⟩
        rw [← hL9] at H0 HLK
        clear hL9
        have hk1 : IntKind.i64.wrap (((k + 1 : Nat) : Int) - 1) = (k : Int) := w64f' (by omega) (by omega)
        by_cases s0 : sw = 0
        · subst s0
          clear hsw
          obtain ⟨gx, cx, rfl, hgx, hlo, x0, x1, x2, e0, e1, e2, f0, f1, f2, hset⟩ := H0.out.last HLK.out
          have HS := Hid.intro hset
          clear hset
          go_wp2
          go_roundw
          case rel => exact ⟨k + 1, L9.set k (mkFst 5 x1 x2), by omega, by congr 1; omega, by rw [List.length_set]; exact HLK.out, ((HS.out hgw 5 0 0 0).1).up' (by omega)⟩
          case measure => simp [intOf]; omega
        · by_cases s1 : sw = 1
          · subst s1
            clear hsw s0
            obtain ⟨gv, cv, rfl, _⟩ := H0.out.last HLK.out
            go_wp2_with fail
            refine (pick_any _ _ _ _ _ _ _ _ (by omega) (by omega) H0.out.2.1).mono ?_
            rintro _ wb ⟨z1, hz1', rfl, hd⟩
            have Hb : Hid (DvH tyFStep 40 wb w g a n cap X (t + 6 + 16 * k + 10) (.slice (some ⟨gv, 0, none⟩) (k + 1) cv) L9) := H0.out.draw hd hgw
            clear hd H0
            go_wp2_with fail
            refine (pick_any _ _ _ _ _ _ _ _ (by omega) (by omega) Hb.out.2.1).mono ?_
            rintro _ wc ⟨z2, hz2', rfl, hd⟩
            have Hc : Hid (DvH tyFStep 40 wc w g a n cap X (t + 6 + 16 * k + 12) (.slice (some ⟨gv, 0, none⟩) (k + 1) cv) L9) := Hb.out.draw hd hgw
            clear hd Hb
            go_wp2_with fail
            refine (pick_any _ _ _ _ _ _ _ _ (by omega) (by omega) Hc.out.2.1).mono ?_
            rintro _ we ⟨z3, hz3', rfl, hd⟩
            have He : Hid (DvH tyFStep 40 we w g a n cap X (t + 6 + 16 * k + 14) (.slice (some ⟨gv, 0, none⟩) (k + 1) cv) L9) := Hc.out.draw hd hgw
            clear hd Hc
            obtain ⟨gx, cx, hvv, hgx, hlo, x0, x1, x2, e0, e1, e2, f0, f1, f2, hset⟩ := He.out.last HLK.out
            cases hvv
            have HS := Hid.intro hset
            clear hset
            go_wp2
            go_roundw
            case rel => exact ⟨k + 1, L9.set k (mkFst z1 (z2 - 1) (z3 - 1)), by omega, by congr 1; omega, by rw [List.length_set]; exact HLK.out, ((HS.out hgw 0 z1 (z2 - 1) (z3 - 1)).2).up' (by omega)⟩
            case measure => simp [intOf]; omega
          · have HP := Hid.intro (H0.out.up' (t2 := t + 6 + 16 * (k + 1)) (by omega))
            go_wp2
            go_roundw
            case rel => exact ⟨k + 1, L9, by omega, by congr 1; omega, HLK.out, HP.out⟩
            case measure => simp [intOf]; omega
      · have hlt' : ¬ (0 : Int) < (M : Int) - (k : Int) := by omega
        have HP : Hid (DvH tyFStep 40 wr w g a n cap X (t + 2000) u5 L) := HH.out.up' (by omega)
        go_wp2
        go_ret
        exact ⟨L, u5, by have := HLL.out; omega, rfl, HP.out⟩
  · go_wp2_with fail
    refine (pick_any _ _ _ _ _ _ _ _ (by omega) (by omega) H2.out.1).mono ?_
    rintro _ w3 ⟨x2, hx2, rfl, hd⟩
    have HD : Hid (DvH tyFStep 40 w3 w g a n cap X (t + 6) (.slice none 0 0) []) := ⟨OwnX.nil', H2.out.trans hd⟩
    obtain ⟨M, hM, hMe⟩ : ∃ M : Nat, M ≤ 121 ∧ 90 + x2 = (M : Int) := ⟨(90 + x2).toNat, by omega, by omega⟩
    have HM : Hid (90 + x2 = (M : Int)) := hMe
    clear hd hMe H2
    go_wp2
    go_loopw [6, 5] (fun y v wr => ∃ (k : Nat) (L : List (Sh.T shFenceStep)), k ≤ M ∧ y = .int .i64 ((M : Int) - (k : Int)) ∧ L.length = k ∧ DvH tyFStep 40 wr w g a n cap X (t + 6 + 16 * k) v L) (fun y _ _ => (intOf y).toNat)
    case atStart => exact ⟨0, [], Nat.zero_le _, by have := HM.out; congr 1 <;> omega, rfl, HD.out⟩
    case round =>
      obtain ⟨k, L, hk, rfl, hL, hH⟩ := hrel
      have HH : Hid (DvH tyFStep 40 wr w g a n cap X (t + 6 + 16 * k) u5 L) := hH
      have HLL : Hid (L.length = k) := hL
      clear hH HD hL
      by_cases hlt : k < M
      · have hlt' : (0 : Int) < (M : Int) - (k : Int) := by omega
        have HA1 := Hid.intro (HH.out.alloc (.cells #[.int .i64 1, .int .i64 1, .int .i64 2, .int .i64 2, .int .i64 3, .int .i64 3, .int .i64 4, .int .i64 4, .int .i64 6, .int .i64 6, .int .i64 6] 3))
        have hgz : g < wr.heap.size := HH.out.2.1.2.2.2.2.2.1
        go_wp2_with fail
        refine (amongL_any g a n cap X _ wr.heap.size _ 11 (fun i => [1, 1, 2, 2, 3, 3, 4, 4, 6, 6, 6].getD i 0) 10 _ (by omega) HA1.out.2.1 (by omega) (by simp) (by omega) (by omega) (int_new wr [1, 1, 2, 2, 3, 3, 4, 4, 6, 6, 6] 3) (int_small (L := [1, 1, 2, 2, 3, 3, 4, 4, 6, 6, 6]) (B := 10) rfl)).mono ?_
        rintro _ w4 ⟨kd, hkd, rfl, hd⟩
        have H4 : Hid (DvH tyFStep 40 w4 w g a n cap X (t + 6 + 16 * k + 2) u5 L) := HA1.out.draw hd hgw
        clear hd HA1 HH hgz hkd
        go_wp2_with fail
        refine (pick_any _ _ _ _ _ _ _ _ (by omega) (by omega) H4.out.2.1).mono ?_
        rintro _ w5 ⟨nd, hnd, rfl, hd⟩
        have H5 : Hid (DvH tyFStep 40 w5 w g a n cap X (t + 6 + 16 * k + 4) u5 L) := H4.out.draw hd hgw
        clear hd H4 hnd
        go_wp2_with fail
        refine (pick_any _ _ _ _ _ _ _ _ (by omega) (by omega) H5.out.2.1).mono ?_
        rintro _ w6 ⟨nn, hnn, rfl, hd⟩
        have HE : Hid (DvH tyFStep 40 w6 w g a n cap X (t + 6 + 16 * k + 6) u5 L) := H5.out.draw hd hgw
        clear hd H5 hnn
        have hb1 : L.length + 1 ≤ maxLen := by have := HLL.out; unfold maxLen; omega
        have hc1 : (L.length + 1) * 24 ≤ 140737488355328 := by have := HLL.out; omega
        have HA := Hid.intro (HE.out.alloc (.cells #[.int .i64 kd, .int .i64 nd, .int .i64 nn] 40))
        have HLO : Hid (Lies (w6.alloc (.cells #[.int .i64 kd, .int .i64 nd, .int .i64 nn] 40)) (.list shFenceStep) [.slice (some ⟨w6.heap.size, 0, none⟩) 1 1] [mkFst kd nd nn]) := Hid.intro (lies_one (w := w6) (e := shFenceStep) (cs := [.int .i64 kd, .int .i64 nd, .int .i64 nn]) (x := mkFst kd nd nn) 40 rfl mk_FenceStep)
        go_wp2_with (first
          | (at_builtin; refine wpList_appx rfl (.tmp 18) (.tmp 28) 23 40 rfl i0 (.agg #[.int .i64 0, .int .i64 0, .int .i64 0]) 24 w.heap.size tyFStep rfl Try.underlying23 hi0 hz0 hz1 hz2 rfl (by decide) u5 L [mkFst kd nd nn] _ rfl HA.out.1 (some ⟨w6.heap.size, 0, none⟩) 1 rfl HLO.out hb1 hc1 HA.out.2.2.2.2.2.1 ?_; intro v9 w9 hO9 hg9 hwh9; have H9 := Hid.intro (HA.out.app (e := tyFStep) rfl hgw hO9 hg9); clear hO9 hg9 hwh9)
          | fail)
        clear HA HLO hb1 hc1 HE
        have HLK : Hid ((L ++ [mkFst kd nd nn]).length = k + 1) := snoc_len HLL.out
        refine (pick_any _ _ _ _ _ _ _ _ (by omega) (by omega) H9.out.2.1).mono ?_
        rintro _ wa ⟨sw, hsw, rfl, hd⟩
        have H0 : Hid (DvH tyFStep 40 wa w g a n cap X (t + 6 + 16 * k + 8) v9 (L ++ [mkFst kd nd nn])) := H9.out.draw hd hgw
        clear hd H9
        obtain ⟨L9, hL9⟩ : ∃ L9, L9 = L ++ [mkFst kd nd nn] := ⟨_, rfl⟩
        rw [← hL9] at H0 HLK
        clear hL9
        have hk1 : IntKind.i64.wrap (((k + 1 : Nat) : Int) - 1) = (k : Int) := w64f' (by omega) (by omega)
        by_cases s0 : sw = 0
        · subst s0
          clear hsw
          obtain ⟨gx, cx, rfl, hgx, hlo, x0, x1, x2, e0, e1, e2, f0, f1, f2, hset⟩ := H0.out.last HLK.out
          have HS := Hid.intro hset
          clear hset
          go_wp2
          go_roundw
          case rel => exact ⟨k + 1, L9.set k (mkFst 5 x1 x2), by omega, by congr 1; omega, by rw [List.length_set]; exact HLK.out, ((HS.out hgw 5 0 0 0).1).up' (by omega)⟩
          case measure => simp [intOf]; omega
        · by_cases s1 : sw = 1
          · subst s1
            clear hsw s0
            obtain ⟨gv, cv, rfl, _⟩ := H0.out.last HLK.out
            go_wp2_with fail
            refine (pick_any _ _ _ _ _ _ _ _ (by omega) (by omega) H0.out.2.1).mono ?_
            rintro _ wb ⟨z1, hz1', rfl, hd⟩
            have Hb : Hid (DvH tyFStep 40 wb w g a n cap X (t + 6 + 16 * k + 10) (.slice (some ⟨gv, 0, none⟩) (k + 1) cv) L9) := H0.out.draw hd hgw
            clear hd H0
            go_wp2_with fail
            refine (pick_any _ _ _ _ _ _ _ _ (by omega) (by omega) Hb.out.2.1).mono ?_
            rintro _ wc ⟨z2, hz2', rfl, hd⟩
            have Hc : Hid (DvH tyFStep 40 wc w g a n cap X (t + 6 + 16 * k + 12) (.slice (some ⟨gv, 0, none⟩) (k + 1) cv) L9) := Hb.out.draw hd hgw
            clear hd Hb
            go_wp2_with fail
            refine (pick_any _ _ _ _ _ _ _ _ (by omega) (by omega) Hc.out.2.1).mono ?_
            rintro _ we ⟨z3, hz3', rfl, hd⟩
            have He : Hid (DvH tyFStep 40 we w g a n cap X (t + 6 + 16 * k + 14) (.slice (some ⟨gv, 0, none⟩) (k + 1) cv) L9) := Hc.out.draw hd hgw
            clear hd Hc
            obtain ⟨gx, cx, hvv, hgx, hlo, x0, x1, x2, e0, e1, e2, f0, f1, f2, hset⟩ := He.out.last HLK.out
            cases hvv
            have HS := Hid.intro hset
            clear hset
            go_wp2
            go_roundw
            case rel => exact ⟨k + 1, L9.set k (mkFst z1 (z2 - 1) (z3 - 1)), by omega, by congr 1; omega, by rw [List.length_set]; exact HLK.out, ((HS.out hgw 0 z1 (z2 - 1) (z3 - 1)).2).up' (by omega)⟩
            case measure => simp [intOf]; omega
          · have HP := Hid.intro (H0.out.up' (t2 := t + 6 + 16 * (k + 1)) (by omega))
            go_wp2
            go_roundw
            case rel => exact ⟨k + 1, L9, by omega, by congr 1; omega, HLK.out, HP.out⟩
            case measure => simp [intOf]; omega
      · have hlt' : ¬ (0 : Int) < (M : Int) - (k : Int) := by omega
        have HP : Hid (DvH tyFStep 40 wr w g a n cap X (t + 2000) u5 L) := HH.out.up' (by omega)
        go_wp2
        go_ret
        exact ⟨L, u5, by have := HLL.out; omega, rfl, HP.out⟩
end Go.Proofs.Ytcbdlalpnlahcaa
