/- Put together of: CrD, CrF. -/
import Derived.Test.YtkpobihpcnoemaaDoorGaF
import Derived.Test.YtkpobihpcnoemaaDoorGaM
import Derived.Deep.QuietTactic
import Derived.BigQuiet
/- Commits: the draws of shard sizes, of steps, of a play. Written by tools/mkCrD.py. -/
namespace Go.Proofs.YtkpobihpcnoemaaDoor
open Go.RowKit
set_option linter.unusedVariables false
set_option linter.unusedSimpArgs false

def tyCSt : Ty := .pair .int (.pair .int (.pair .int .nil))
def mkSt (x y z : Int) : Sh.T shCommitStep := (x, y, z, ())
theorem w64c {x y : Int} (h : x = y) (h2 : -1000000 ≤ y ∧ y ≤ 1000000) : IntKind.i64.wrap x = y := by rw [h]; exact w64f (by omega) (by omega)
theorem DvH.upc {e : Ty} {y : TypeId} {W w : World} {g : Nat} {a : Option Addr} {n cap : Nat} {X : Nat → Int} {t t2 : Nat} {v : Value} {L : List e.T} (h : DvH e y W w g a n cap X t v L) (ht : t ≤ t2) : DvH e y W w g a n cap X t2 v L := ⟨h.1, h.2.up ht⟩
theorem Bx.drewc {W W' : World} {b g : Nat} {vs : List Value} {a : Option Addr} {n cap : Nat} {X : Nat → Int} {t : Nat} (h : Bx W b vs) (hd : Drew g a n cap X t W W') (hb : b ≠ g) : Bx W' b vs :=
  h.keepB (fun hk => hd.2.2.2.2.2 _ hk (by omega)) hd.2.2.2.2.1
theorem DvH.seti {y : TypeId} {W w : World} {g : Nat} {a : Option Addr} {n cap : Nat} {X : Nat → Int} {t : Nat} {v : Value} {L : List (Sh.T .int)} (h : DvH .int y W w g a n cap X t v L) (hk : 0 < L.length) (hg : g < w.heap.size) :
    ∃ gx cx, v = .slice (some ⟨gx, 0, none⟩) L.length cx ∧ (∃ x, W.cell? ⟨gx, 0, none⟩ = some (.int .i64 x)) ∧ W.frozen? ⟨gx, 0, none⟩ = false ∧ gx < W.heap.size ∧ ∀ u : Int, DvH .int y (W.setCell ⟨gx, 0, none⟩ (.int .i64 u)) w g a n cap X t v (L.set 0 u) := by
  obtain ⟨gx, cx, ec, Bk, hv, hgx, hlo, hS, hB, hec, hcells, hroom, hO, hch, hback⟩ := OwnX.lens (e := .int) h.1 hk
  subst hv
  have hi := OwnX.inti h.1 hk
  exact ⟨gx, cx, rfl, ⟨_, hi.1⟩, hi.2.1, hi.2.2, fun u => ⟨(OwnX.seti h.1 hk u).mono (fun k q => by simpa [Btw] using q), h.2.out hg hlo _⟩⟩
def ShsP (g : Nat) (a : Option Addr) (n cap : Nat) (X : Nat → Int) (t : Nat) (w : World) (r : Ending) (w' : World) : Prop := ∃ (L : List (Sh.T .int)) (v : Value), L.length ≤ 10 ∧ r = .returned v ∧ DvH .int 3 w' w g a n cap X (t + 1000) v L
def CsP (g : Nat) (a : Option Addr) (n cap : Nat) (X : Nat → Int) (t : Nat) (w : World) (r : Ending) (w' : World) : Prop := ∃ (L : List (Sh.T shCommitStep)) (v : Value), L.length ≤ 101 ∧ r = .returned v ∧ DvH tyCSt 48 w' w g a n cap X (t + 3000) v L

set_option maxRecDepth 100000 in
set_option maxHeartbeats 8000000 in
theorem shardSizes_any (g : Nat) (a : Option Addr) (n cap : Nat) (X : Nat → Int) (t : Nat) (w : World) (ht : t ≤ 10000) (hc : Cur w g a n cap X t) :
    Calls Tryd.prog 34 #[.pointer (some ⟨g, 0, none⟩)] w (ShsP g a n cap X t w) := by
  have hgw : g < w.heap.size := hc.2.2.2.2.2.1
  have HC : Hid (Cur w g a n cap X t) := Hid.intro hc
  clear hc
  obtain ⟨i0, hi0, hz0, hz1, hz2⟩ := info_parts inf_int
  go_enter Tryd.func34, Tryd.ntmps34
  go_wp2_with fail
  refine (pick_any _ _ _ _ _ _ _ _ (by omega) (by omega) HC.out).mono ?_
  rintro _ w1 ⟨x1, hx1, rfl, hd⟩
  have H1 : Hid (Drew g a n cap X (t + 2) w w1) := Hid.intro hd
  have hxw : IntKind.i64.wrap (1 + x1) = 1 + x1 := w64c rfl (by omega)
  clear hd HC
  go_wp2_with fail
  refine (one_any _ _ _ _ _ _ _ _ (by omega) (by omega) H1.out.1).mono ?_
  rintro _ w2 ⟨b1, rfl, hd⟩
  have H2 : Hid (Drew g a n cap X (t + 4) w w2) := Hid.intro (H1.out.trans hd)
  clear hd H1
  cases b1
  · obtain ⟨N0, hN⟩ : ∃ N0, N0 = 1 + x1 := ⟨_, rfl⟩
    have hN0 : -10 ≤ N0 ∧ N0 ≤ 10 := by omega
    rw [← hN] at hxw
    try rw [← hN]
    have HD : Hid (DvH .int 3 w2 w g a n cap X (t + 6) (.slice none 0 0) []) := Hid.intro ⟨OwnX.nil', H2.out.up (by omega)⟩
    clear H2
    go_wp2
    go_loopw [4, 3] (fun y v wr => ∃ (k : Nat) (L : List (Sh.T .int)), (k : Int) ≤ 10 ∧ ((k : Int) ≤ N0 ∨ k = 0) ∧ y = .int .i64 (N0 - (k : Int)) ∧ L.length = k ∧ DvH .int 3 wr w g a n cap X (t + 6 + 2 * k) v L) (fun y _ _ => (intOf y).toNat)
    case atStart => exact ⟨0, [], by omega, Or.inr rfl, by congr 1 <;> omega, rfl, HD.out⟩
    case round =>
      obtain ⟨k, L, hk10, hk, rfl, hL, hH⟩ := hrel
      have HH : Hid (DvH .int 3 wr w g a n cap X (t + 6 + 2 * k) u3 L) := Hid.intro hH
      have HLL : Hid (L.length = k) := Hid.intro hL
      clear hH HD hL
      by_cases hlt : (0 : Int) < N0 - (k : Int)
      · have hkk : k ≤ 10 := by omega
        have hk1 : IntKind.i64.wrap (N0 - (k : Int) - 1) = N0 - ((k + 1 : Nat) : Int) := w64c (by omega) (by omega)
        go_wp2_with fail
        refine (pick_any _ _ _ _ _ _ _ _ (by omega) (by omega) HH.out.2.1).mono ?_
        rintro _ w4 ⟨p, hp, rfl, hd⟩
        have HE : Hid (DvH .int 3 w4 w g a n cap X (t + 6 + 2 * k + 2) u3 L) := Hid.intro (HH.out.draw hd hgw)
        have hpw : IntKind.i64.wrap (1 + p) = 1 + p := w64c rfl (by omega)
        clear hd HH
        have hb1 : L.length + 1 ≤ maxLen := by have := HLL.out; unfold maxLen; omega
        have hc1 : (L.length + 1) * 8 ≤ 140737488355328 := by have := HLL.out; omega
        have HA := Hid.intro (HE.out.alloc (.cells #[.int .i64 (1 + p)] 3))
        have HLO : Hid (Lies (w4.alloc (.cells #[.int .i64 (1 + p)] 3)) (.list .int) [.slice (some ⟨w4.heap.size, 0, none⟩) 1 1] [1 + p]) := Hid.intro (lies_one (w := w4) (e := .int) (cs := [.int .i64 (1 + p)]) (x := 1 + p) 3 rfl rfl)
        go_wp2_with (first
          | (at_builtin; refine wpList_appx rfl (.tmp 17) (.tmp 21) 23 3 rfl i0 (.int .i64 0) 8 w.heap.size .int rfl Tryd.underlying23 hi0 hz0 hz1 hz2 rfl (by decide) u3 L [1 + p] _ rfl HA.out.1 (some ⟨w4.heap.size, 0, none⟩) 1 rfl HLO.out hb1 hc1 HA.out.2.2.2.2.2.1 ?_; intro v9 w9 hO9 hg9 hwh9; have H9 := Hid.intro (HA.out.app (e := .int) rfl hgw hO9 hg9); clear hO9 hg9 hwh9)
          | fail)
        clear HA HLO hb1 hc1 HE
        have HLK : Hid ((L ++ [1 + p]).length = k + 1) := snoc_len HLL.out
        have HP := Hid.intro (H9.out.upc (t2 := t + 6 + 2 * (k + 1)) (by omega))
        go_roundw
        case rel => exact ⟨k + 1, L ++ [1 + p], by omega, by omega, by go_num, HLK.out, HP.out⟩
        case measure => simp [intOf]; omega
      · have hrd : True := trivial
        clear hrd
        by_cases hl0 : L.length = 0
        · obtain ⟨la, lc, hv⟩ := HH.out.1.vform
          have hv : u3 = .slice la (List.length (α := Sh.T .int) L) lc := hv
          subst hv
          have HZ : Hid (List.length (α := Sh.T .int) L = 0) := Hid.intro hl0
          have HP : Hid (DvH .int 3 wr w g a n cap X (t + 1000) (.slice la (List.length (α := Sh.T .int) L) lc) L) := Hid.intro (HH.out.upc (by omega))
          have HLN : Hid (L.length ≤ 10) := Hid.intro (by have := HLL.out; omega)
          have hz0' : ¬ (0 : Int) < (List.length (α := Sh.T .int) L : Int) := by omega
          clear hl0
          go_wp2
          go_ret
          exact ⟨L, _, HLN.out, rfl, HP.out⟩
        have hlp : 0 < L.length := by omega
        obtain ⟨gx, cx, hv, hcx, hfx, hzx, hset⟩ := HH.out.seti hlp hgw
        subst hv
        have hlp' : (0 : Int) < (List.length (α := Sh.T .int) L : Int) := by omega
        have HLN : Hid (L.length ≤ 10) := Hid.intro (by have := HLL.out; omega)
        clear hcx hfx hzx hset hl0
        go_wp2_with fail
        refine (one_any _ _ _ _ _ _ _ _ (by omega) (by omega) HH.out.2.1).mono ?_
        rintro _ wa ⟨b2, rfl, hd⟩
        have HA : Hid (DvH .int 3 wa w g a n cap X (t + 6 + 2 * k + 2) (.slice (some ⟨gx, 0, none⟩) (List.length (α := Sh.T .int) L) cx) L) := Hid.intro (HH.out.draw hd hgw)
        clear hd HH
        cases b2
        · have HP := Hid.intro (HA.out.upc (t2 := t + 1000) (by omega))
          go_wp2
          go_ret
          exact ⟨L, _, HLN.out, rfl, HP.out⟩
        have HA1 := Hid.intro (HA.out.alloc (.cells #[.int .i64 0, .int .i64 5, .int .i64 6] 3))
        have hgz : g < wa.heap.size := HA.out.2.1.2.2.2.2.2.1
        go_wp2_with fail
        refine (amongL_any g a n cap X _ wa.heap.size _ 3 (fun i => [0, 5, 6].getD i 0) 10 _ (by omega) HA1.out.2.1 (by omega) (by simp) (by omega) (by omega) (int_new wa [0, 5, 6] 3) (int_small (L := [0, 5, 6]) (B := 10) rfl)).mono ?_
        rintro _ wb ⟨y, hy, rfl, hd⟩
        have HB : Hid (DvH .int 3 wb w g a n cap X (t + 6 + 2 * k + 4) (.slice (some ⟨gx, 0, none⟩) (List.length (α := Sh.T .int) L) cx) L) := Hid.intro (HA1.out.draw hd hgw)
        clear hd HA HA1 hgz hy
        obtain ⟨gx2, cx2, hv, ⟨x9, hcx⟩, hfx, hzx, hset⟩ := HB.out.seti hlp hgw
        simp only [Value.slice.injEq, Option.some.injEq, Addr.mk.injEq, and_true, true_and] at hv
        obtain ⟨rfl, rfl⟩ := hv
        have HP := Hid.intro ((hset y).upc (t2 := t + 1000) (by omega))
        have HLN2 : Hid ((L.set 0 y).length ≤ 10) := Hid.intro (by rw [List.length_set]; exact HLN.out)
        clear hset HB
        go_wp2
        go_ret
        exact ⟨L.set 0 y, _, HLN2.out, rfl, HP.out⟩
  · have HA1 : Hid (Drew g a n cap X (t + 4) w (w2.alloc (.cells #[.int .i64 0, .int .i64 4, .int .i64 5] 3))) := Hid.intro ⟨H2.out.1.next (Go.Joins.below_alloc1 _ _), H2.out.2.alloc _⟩
    have hgz : g < w2.heap.size := H2.out.1.2.2.2.2.2.1
    clear H2
    go_wp2_with fail
    refine (amongL_any g a n cap X _ w2.heap.size _ 3 (fun i => [0, 4, 5].getD i 0) 10 _ (by omega) HA1.out.1 (by omega) (by simp) (by omega) (by omega) (int_new w2 [0, 4, 5] 3) (int_small (L := [0, 4, 5]) (B := 10) rfl)).mono ?_
    rintro _ w3 ⟨N0, hN0, rfl, hd⟩
    have H2 : Hid (Drew g a n cap X (t + 6) w w3) := Hid.intro (HA1.out.trans hd)
    clear hd HA1 hgz
    have HD : Hid (DvH .int 3 w3 w g a n cap X (t + 6) (.slice none 0 0) []) := Hid.intro ⟨OwnX.nil', H2.out.up (by omega)⟩
    clear H2
    go_wp2
    go_loopw [4, 3] (fun y v wr => ∃ (k : Nat) (L : List (Sh.T .int)), (k : Int) ≤ 10 ∧ ((k : Int) ≤ N0 ∨ k = 0) ∧ y = .int .i64 (N0 - (k : Int)) ∧ L.length = k ∧ DvH .int 3 wr w g a n cap X (t + 6 + 2 * k) v L) (fun y _ _ => (intOf y).toNat)
    case atStart => exact ⟨0, [], by omega, Or.inr rfl, by congr 1 <;> omega, rfl, HD.out⟩
    case round =>
      obtain ⟨k, L, hk10, hk, rfl, hL, hH⟩ := hrel
      have HH : Hid (DvH .int 3 wr w g a n cap X (t + 6 + 2 * k) u3 L) := Hid.intro hH
      have HLL : Hid (L.length = k) := Hid.intro hL
      clear hH HD hL
      by_cases hlt : (0 : Int) < N0 - (k : Int)
      · have hkk : k ≤ 10 := by omega
        have hk1 : IntKind.i64.wrap (N0 - (k : Int) - 1) = N0 - ((k + 1 : Nat) : Int) := w64c (by omega) (by omega)
        go_wp2_with fail
        refine (pick_any _ _ _ _ _ _ _ _ (by omega) (by omega) HH.out.2.1).mono ?_
        rintro _ w4 ⟨p, hp, rfl, hd⟩
        have HE : Hid (DvH .int 3 w4 w g a n cap X (t + 6 + 2 * k + 2) u3 L) := Hid.intro (HH.out.draw hd hgw)
        have hpw : IntKind.i64.wrap (1 + p) = 1 + p := w64c rfl (by omega)
        clear hd HH
        have hb1 : L.length + 1 ≤ maxLen := by have := HLL.out; unfold maxLen; omega
        have hc1 : (L.length + 1) * 8 ≤ 140737488355328 := by have := HLL.out; omega
        have HA := Hid.intro (HE.out.alloc (.cells #[.int .i64 (1 + p)] 3))
        have HLO : Hid (Lies (w4.alloc (.cells #[.int .i64 (1 + p)] 3)) (.list .int) [.slice (some ⟨w4.heap.size, 0, none⟩) 1 1] [1 + p]) := Hid.intro (lies_one (w := w4) (e := .int) (cs := [.int .i64 (1 + p)]) (x := 1 + p) 3 rfl rfl)
        go_wp2_with (first
          | (at_builtin; refine wpList_appx rfl (.tmp 17) (.tmp 21) 23 3 rfl i0 (.int .i64 0) 8 w.heap.size .int rfl Tryd.underlying23 hi0 hz0 hz1 hz2 rfl (by decide) u3 L [1 + p] _ rfl HA.out.1 (some ⟨w4.heap.size, 0, none⟩) 1 rfl HLO.out hb1 hc1 HA.out.2.2.2.2.2.1 ?_; intro v9 w9 hO9 hg9 hwh9; have H9 := Hid.intro (HA.out.app (e := .int) rfl hgw hO9 hg9); clear hO9 hg9 hwh9)
          | fail)
        clear HA HLO hb1 hc1 HE
        have HLK : Hid ((L ++ [1 + p]).length = k + 1) := snoc_len HLL.out
        have HP := Hid.intro (H9.out.upc (t2 := t + 6 + 2 * (k + 1)) (by omega))
        go_roundw
        case rel => exact ⟨k + 1, L ++ [1 + p], by omega, by omega, by go_num, HLK.out, HP.out⟩
        case measure => simp [intOf]; omega
      · have hrd : True := trivial
        clear hrd
        by_cases hl0 : L.length = 0
        · obtain ⟨la, lc, hv⟩ := HH.out.1.vform
          have hv : u3 = .slice la (List.length (α := Sh.T .int) L) lc := hv
          subst hv
          have HZ : Hid (List.length (α := Sh.T .int) L = 0) := Hid.intro hl0
          have HP : Hid (DvH .int 3 wr w g a n cap X (t + 1000) (.slice la (List.length (α := Sh.T .int) L) lc) L) := Hid.intro (HH.out.upc (by omega))
          have HLN : Hid (L.length ≤ 10) := Hid.intro (by have := HLL.out; omega)
          have hz0' : ¬ (0 : Int) < (List.length (α := Sh.T .int) L : Int) := by omega
          clear hl0
          go_wp2
          go_ret
          exact ⟨L, _, HLN.out, rfl, HP.out⟩
        have hlp : 0 < L.length := by omega
        obtain ⟨gx, cx, hv, hcx, hfx, hzx, hset⟩ := HH.out.seti hlp hgw
        subst hv
        have hlp' : (0 : Int) < (List.length (α := Sh.T .int) L : Int) := by omega
        have HLN : Hid (L.length ≤ 10) := Hid.intro (by have := HLL.out; omega)
        clear hcx hfx hzx hset hl0
        go_wp2_with fail
        refine (one_any _ _ _ _ _ _ _ _ (by omega) (by omega) HH.out.2.1).mono ?_
        rintro _ wa ⟨b2, rfl, hd⟩
        have HA : Hid (DvH .int 3 wa w g a n cap X (t + 6 + 2 * k + 2) (.slice (some ⟨gx, 0, none⟩) (List.length (α := Sh.T .int) L) cx) L) := Hid.intro (HH.out.draw hd hgw)
        clear hd HH
        cases b2
        · have HP := Hid.intro (HA.out.upc (t2 := t + 1000) (by omega))
          go_wp2
          go_ret
          exact ⟨L, _, HLN.out, rfl, HP.out⟩
        have HA1 := Hid.intro (HA.out.alloc (.cells #[.int .i64 0, .int .i64 5, .int .i64 6] 3))
        have hgz : g < wa.heap.size := HA.out.2.1.2.2.2.2.2.1
        go_wp2_with fail
        refine (amongL_any g a n cap X _ wa.heap.size _ 3 (fun i => [0, 5, 6].getD i 0) 10 _ (by omega) HA1.out.2.1 (by omega) (by simp) (by omega) (by omega) (int_new wa [0, 5, 6] 3) (int_small (L := [0, 5, 6]) (B := 10) rfl)).mono ?_
        rintro _ wb ⟨y, hy, rfl, hd⟩
        have HB : Hid (DvH .int 3 wb w g a n cap X (t + 6 + 2 * k + 4) (.slice (some ⟨gx, 0, none⟩) (List.length (α := Sh.T .int) L) cx) L) := Hid.intro (HA1.out.draw hd hgw)
        clear hd HA HA1 hgz hy
        obtain ⟨gx2, cx2, hv, ⟨x9, hcx⟩, hfx, hzx, hset⟩ := HB.out.seti hlp hgw
        simp only [Value.slice.injEq, Option.some.injEq, Addr.mk.injEq, and_true, true_and] at hv
        obtain ⟨rfl, rfl⟩ := hv
        have HP := Hid.intro ((hset y).upc (t2 := t + 1000) (by omega))
        have HLN2 : Hid ((L.set 0 y).length ≤ 10) := Hid.intro (by rw [List.length_set]; exact HLN.out)
        clear hset HB
        go_wp2
        go_ret
        exact ⟨L.set 0 y, _, HLN2.out, rfl, HP.out⟩

set_option maxRecDepth 100000 in
set_option maxHeartbeats 8000000 in
theorem commitSteps_any (m : Int) (g : Nat) (a : Option Addr) (n cap : Nat) (X : Nat → Int) (t : Nat) (w : World) (hm : 0 ≤ m ∧ m ≤ 1000) (ht : t ≤ 10000) (hc : Cur w g a n cap X t) :
    Calls Tryd.prog 35 #[.pointer (some ⟨g, 0, none⟩), .int .i64 m] w (CsP g a n cap X t w) := by
  have hgw : g < w.heap.size := hc.2.2.2.2.2.1
  have HC : Hid (Cur w g a n cap X t) := Hid.intro hc
  have hmw : IntKind.i64.wrap (m + 1) = m + 1 := w64c rfl (by omega)
  clear hc
  obtain ⟨i0, hi0, hz0, hz1, hz2⟩ := info_parts inf_CommitStep
  go_enter Tryd.func35, Tryd.ntmps35
  go_wp2_with fail
  refine (pick_any _ _ _ _ _ _ _ _ (by omega) (by omega) HC.out).mono ?_
  rintro _ w1 ⟨x1, hx1, rfl, hd⟩
  have H1 : Hid (Drew g a n cap X (t + 2) w w1) := Hid.intro hd
  clear hd HC
  go_wp2_with fail
  refine (one_any _ _ _ _ _ _ _ _ (by omega) (by omega) H1.out.1).mono ?_
  rintro _ w2 ⟨b1, rfl, hd⟩
  have H2 : Hid (Drew g a n cap X (t + 4) w w2) := Hid.intro (H1.out.trans hd)
  clear hd H1
  cases b1
  · obtain ⟨N0, hN⟩ : ∃ N0, N0 = x1 := ⟨_, rfl⟩
    subst hN
    obtain ⟨M, hM, hMe⟩ : ∃ M : Nat, M ≤ 101 ∧ N0 = (M : Int) := ⟨N0.toNat, by omega, by omega⟩
    subst hMe
    have HD : Hid (DvH tyCSt 48 w2 w g a n cap X (t + 6) (.slice none 0 0) []) := Hid.intro ⟨OwnX.nil', H2.out.up (by omega)⟩
    clear H2
    go_wp2
    go_loopw [6, 5] (fun y v wr => ∃ (k : Nat) (L : List (Sh.T shCommitStep)), k ≤ M ∧ y = .int .i64 ((M : Int) - (k : Int)) ∧ L.length = k ∧ DvH tyCSt 48 wr w g a n cap X (t + 6 + 16 * k) v L) (fun y _ _ => (intOf y).toNat)
    case atStart => exact ⟨0, [], Nat.zero_le _, by congr 1 <;> omega, rfl, HD.out⟩
    case round =>
      obtain ⟨k, L, hk, rfl, hL, hH⟩ := hrel
      have HH : Hid (DvH tyCSt 48 wr w g a n cap X (t + 6 + 16 * k) u5 L) := Hid.intro hH
      have HLL : Hid (L.length = k) := Hid.intro hL
      clear hH HD hL
      by_cases hlt : k < M
      · have hlt' : (0 : Int) < (M : Int) - (k : Int) := by omega
        have hk1 : IntKind.i64.wrap ((M : Int) - (k : Int) - 1) = (M : Int) - ((k + 1 : Nat) : Int) := w64c (by omega) (by omega)
        have HA1 := Hid.intro (HH.out.alloc (.cells #[.int .i64 1, .int .i64 1, .int .i64 1, .int .i64 2, .int .i64 2, .int .i64 2, .int .i64 2, .int .i64 3, .int .i64 7] 3))
        have hgz : g < wr.heap.size := HH.out.2.1.2.2.2.2.2.1
        go_wp2_with fail
        refine (amongL_any g a n cap X _ wr.heap.size _ 9 (fun i => [1, 1, 1, 2, 2, 2, 2, 3, 7].getD i 0) 10 _ (by omega) HA1.out.2.1 (by omega) (by simp) (by omega) (by omega) (int_new wr [1, 1, 1, 2, 2, 2, 2, 3, 7] 3) (int_small (L := [1, 1, 1, 2, 2, 2, 2, 3, 7]) (B := 10) rfl)).mono ?_
        rintro _ w4 ⟨kd, hkd, rfl, hd⟩
        have H4 : Hid (DvH tyCSt 48 w4 w g a n cap X (t + 6 + 16 * k + 2) u5 L) := Hid.intro (HA1.out.draw hd hgw)
        clear hd HA1 HH hgz hkd
        go_wp2_with fail
        refine (pick_any _ _ _ _ _ _ _ _ (by omega) (by omega) H4.out.2.1).mono ?_
        rintro _ w5 ⟨nd, hnd, rfl, hd⟩
        have H5 : Hid (DvH tyCSt 48 w5 w g a n cap X (t + 6 + 16 * k + 4) u5 L) := Hid.intro (H4.out.draw hd hgw)
        clear hd H4 hnd
        go_wp2_with fail
        refine (pick_any _ _ _ _ _ _ _ _ (by omega) (by omega) H5.out.2.1).mono ?_
        rintro _ w6 ⟨nn, hnn, rfl, hd⟩
        have HE : Hid (DvH tyCSt 48 w6 w g a n cap X (t + 6 + 16 * k + 6) u5 L) := Hid.intro (H5.out.draw hd hgw)
        clear hd H5 hnn
        obtain ⟨sb, hsb⟩ : ∃ x, x = w6.heap.size := ⟨_, rfl⟩
        obtain ⟨w7, hw7⟩ : ∃ x, x = w6.alloc (.cells #[.int .i64 kd, .int .i64 nd, .int .i64 nn] 48) := ⟨_, rfl⟩
        have H7 : Hid (DvH tyCSt 48 w7 w g a n cap X (t + 6 + 16 * k + 6) u5 L) := Hid.intro (hw7 ▸ HE.out.alloc _)
        have HB7 : Hid (Bx w7 sb [.int .i64 kd, .int .i64 nd, .int .i64 nn]) := Hid.intro (hsb ▸ hw7 ▸ Bx.new w6 [_, _, _] _)
        have HSB : Hid (w.heap.size ≤ sb ∧ u5.ownBlock ≠ some sb) := Hid.intro ⟨by rw [hsb]; exact HE.out.2.2.2.2.2.1, fun q => by
          obtain ⟨row, _⟩ := HE.out.1.flat rfl
          have := (row.lt sb q).2
          omega⟩
        have hsg : sb ≠ g := by have := HSB.out.1; omega
        go_wp2_with fail
        rw [← hw7, ← hsb]
        clear hw7 hsb HE
        refine (pick_any _ _ _ _ _ _ _ _ (by omega) (by omega) H7.out.2.1).mono ?_
        rintro _ wa ⟨sw, hsw, rfl, hd⟩
        have H0 : Hid (DvH tyCSt 48 wa w g a n cap X (t + 6 + 16 * k + 8) u5 L) := Hid.intro (H7.out.draw hd hgw)
        have HB0 : Hid (Bx wa sb [.int .i64 kd, .int .i64 nd, .int .i64 nn]) := Hid.intro (HB7.out.drewc hd hsg)
        clear hd H7 HB7
        by_cases s0 : sw = 0
        · subst s0
          clear hsw
          obtain ⟨V, hV⟩ : ∃ x, x = wa.setCell ⟨sb, 0, none⟩ (.int .i64 5) := ⟨_, rfl⟩
          have HV : Hid (DvH tyCSt 48 V w g a n cap X (t + 6 + 16 * k + 8) u5 L) := Hid.intro (hV ▸ H0.out.set hgw HSB.out.1 HSB.out.2 rfl 0 _)
          have HVB : Hid (Bx V sb [.int .i64 5, .int .i64 nd, .int .i64 nn]) := Hid.intro (hV ▸ HB0.out.set (k := 0) (by simp) _)
          have c0 := HB0.out.cell 0 rfl
          have cz := HB0.out.2
          have cf := HB0.out.frz 0 (by simp)
          go_upto_region 15 with fail
          rw [← hV]
          clear hV c0 cz cf
          have b0 := HVB.out.cell 0 rfl
          have b1' := HVB.out.cell 1 rfl
          have b2 := HVB.out.cell 2 rfl
          have bz := HVB.out.2
          have hb1 : L.length + 1 ≤ maxLen := by have := HLL.out; unfold maxLen; omega
          have hc1 : (L.length + 1) * 24 ≤ 140737488355328 := by have := HLL.out; omega
          have HA := Hid.intro (HV.out.alloc (.cells #[.int .i64 5, .int .i64 nd, .int .i64 nn] 48))
          have HLO : Hid (Lies (V.alloc (.cells #[.int .i64 5, .int .i64 nd, .int .i64 nn] 48)) (.list shCommitStep) [.slice (some ⟨V.heap.size, 0, none⟩) 1 1] [mkSt 5 nd nn]) := Hid.intro (lies_one (w := V) (e := shCommitStep) (cs := [.int .i64 5, .int .i64 nd, .int .i64 nn]) (x := mkSt 5 nd nn) 48 rfl mk_CommitStep)
          go_wp2_with (first
            | (at_builtin; refine wpList_appx rfl (.tmp 43) (.tmp 45) 24 48 rfl i0 (.agg #[.int .i64 0, .int .i64 0, .int .i64 0]) 24 w.heap.size tyCSt rfl Tryd.underlying24 hi0 hz0 hz1 hz2 rfl (by decide) u5 L [mkSt 5 nd nn] _ rfl HA.out.1 (some ⟨V.heap.size, 0, none⟩) 1 rfl HLO.out hb1 hc1 HA.out.2.2.2.2.2.1 ?_; intro v9 w9 hO9 hg9 hwh9; have H9 := Hid.intro (HA.out.app (e := tyCSt) rfl hgw hO9 hg9); clear hO9 hg9 hwh9)
            | fail)
          have HLK : Hid ((L ++ [mkSt 5 nd nn]).length = k + 1) := snoc_len HLL.out
          have HP := Hid.intro (H9.out.upc (t2 := t + 6 + 16 * (k + 1)) (by omega))
          go_roundw
          case rel => exact ⟨k + 1, L ++ [mkSt 5 nd nn], by omega, by go_num, HLK.out, HP.out⟩
          case measure => simp [intOf]; omega
        by_cases s1 : sw = 1
        · subst s1
          clear hsw s0
          obtain ⟨V, hV⟩ : ∃ x, x = wa.setCell ⟨sb, 0, none⟩ (.int .i64 6) := ⟨_, rfl⟩
          have HV : Hid (DvH tyCSt 48 V w g a n cap X (t + 6 + 16 * k + 8) u5 L) := Hid.intro (hV ▸ H0.out.set hgw HSB.out.1 HSB.out.2 rfl 0 _)
          have HVB : Hid (Bx V sb [.int .i64 6, .int .i64 nd, .int .i64 nn]) := Hid.intro (hV ▸ HB0.out.set (k := 0) (by simp) _)
          have c0 := HB0.out.cell 0 rfl
          have cz := HB0.out.2
          have cf := HB0.out.frz 0 (by simp)
          go_upto_region 15 with fail
          rw [← hV]
          clear hV c0 cz cf
          have b0 := HVB.out.cell 0 rfl
          have b1' := HVB.out.cell 1 rfl
          have b2 := HVB.out.cell 2 rfl
          have bz := HVB.out.2
          have hb1 : L.length + 1 ≤ maxLen := by have := HLL.out; unfold maxLen; omega
          have hc1 : (L.length + 1) * 24 ≤ 140737488355328 := by have := HLL.out; omega
          have HA := Hid.intro (HV.out.alloc (.cells #[.int .i64 6, .int .i64 nd, .int .i64 nn] 48))
          have HLO : Hid (Lies (V.alloc (.cells #[.int .i64 6, .int .i64 nd, .int .i64 nn] 48)) (.list shCommitStep) [.slice (some ⟨V.heap.size, 0, none⟩) 1 1] [mkSt 6 nd nn]) := Hid.intro (lies_one (w := V) (e := shCommitStep) (cs := [.int .i64 6, .int .i64 nd, .int .i64 nn]) (x := mkSt 6 nd nn) 48 rfl mk_CommitStep)
          go_wp2_with (first
            | (at_builtin; refine wpList_appx rfl (.tmp 43) (.tmp 45) 24 48 rfl i0 (.agg #[.int .i64 0, .int .i64 0, .int .i64 0]) 24 w.heap.size tyCSt rfl Tryd.underlying24 hi0 hz0 hz1 hz2 rfl (by decide) u5 L [mkSt 6 nd nn] _ rfl HA.out.1 (some ⟨V.heap.size, 0, none⟩) 1 rfl HLO.out hb1 hc1 HA.out.2.2.2.2.2.1 ?_; intro v9 w9 hO9 hg9 hwh9; have H9 := Hid.intro (HA.out.app (e := tyCSt) rfl hgw hO9 hg9); clear hO9 hg9 hwh9)
            | fail)
          have HLK : Hid ((L ++ [mkSt 6 nd nn]).length = k + 1) := snoc_len HLL.out
          have HP := Hid.intro (H9.out.upc (t2 := t + 6 + 16 * (k + 1)) (by omega))
          go_roundw
          case rel => exact ⟨k + 1, L ++ [mkSt 6 nd nn], by omega, by go_num, HLK.out, HP.out⟩
          case measure => simp [intOf]; omega
        by_cases s2 : sw = 2
        · subst s2
          clear hsw s0 s1
          have HA1 := Hid.intro (H0.out.alloc (.cells #[.int .i64 4, .int .i64 3, .int .i64 3, .int .i64 0, .int .i64 8] 3))
          have HB1 := Hid.intro (HB0.out.alloc (.cells #[.int .i64 4, .int .i64 3, .int .i64 3, .int .i64 0, .int .i64 8] 3))
          have hgz : g < wa.heap.size := H0.out.2.1.2.2.2.2.2.1
          go_wp2_with fail
          refine (amongL_any g a n cap X _ wa.heap.size _ 5 (fun i => [4, 3, 3, 0, 8].getD i 0) 10 _ (by omega) HA1.out.2.1 (by omega) (by simp) (by omega) (by omega) (int_new wa [4, 3, 3, 0, 8] 3) (int_small (L := [4, 3, 3, 0, 8]) (B := 10) rfl)).mono ?_
          rintro _ wb ⟨ke, hke, rfl, hd⟩
          have H0 : Hid (DvH tyCSt 48 wb w g a n cap X (t + 6 + 16 * k + 8 + 2) u5 L) := Hid.intro (HA1.out.draw hd hgw)
          have HB0 : Hid (Bx wb sb [.int .i64 kd, .int .i64 nd, .int .i64 nn]) := Hid.intro (HB1.out.drewc hd hsg)
          clear hd HA1 HB1 hgz hke
          obtain ⟨V, hV⟩ : ∃ x, x = wb.setCell ⟨sb, 0, none⟩ (.int .i64 ke) := ⟨_, rfl⟩
          have HV : Hid (DvH tyCSt 48 V w g a n cap X (t + 6 + 16 * k + 8 + 2) u5 L) := Hid.intro (hV ▸ H0.out.set hgw HSB.out.1 HSB.out.2 rfl 0 _)
          have HVB : Hid (Bx V sb [.int .i64 ke, .int .i64 nd, .int .i64 nn]) := Hid.intro (hV ▸ HB0.out.set (k := 0) (by simp) _)
          have c0 := HB0.out.cell 0 rfl
          have cz := HB0.out.2
          have cf := HB0.out.frz 0 (by simp)
          go_upto_region 15 with fail
          rw [← hV]
          clear hV c0 cz cf
          have b0 := HVB.out.cell 0 rfl
          have b1' := HVB.out.cell 1 rfl
          have b2 := HVB.out.cell 2 rfl
          have bz := HVB.out.2
          have hb1 : L.length + 1 ≤ maxLen := by have := HLL.out; unfold maxLen; omega
          have hc1 : (L.length + 1) * 24 ≤ 140737488355328 := by have := HLL.out; omega
          have HA := Hid.intro (HV.out.alloc (.cells #[.int .i64 ke, .int .i64 nd, .int .i64 nn] 48))
          have HLO : Hid (Lies (V.alloc (.cells #[.int .i64 ke, .int .i64 nd, .int .i64 nn] 48)) (.list shCommitStep) [.slice (some ⟨V.heap.size, 0, none⟩) 1 1] [mkSt ke nd nn]) := Hid.intro (lies_one (w := V) (e := shCommitStep) (cs := [.int .i64 ke, .int .i64 nd, .int .i64 nn]) (x := mkSt ke nd nn) 48 rfl mk_CommitStep)
          go_wp2_with (first
            | (at_builtin; refine wpList_appx rfl (.tmp 43) (.tmp 45) 24 48 rfl i0 (.agg #[.int .i64 0, .int .i64 0, .int .i64 0]) 24 w.heap.size tyCSt rfl Tryd.underlying24 hi0 hz0 hz1 hz2 rfl (by decide) u5 L [mkSt ke nd nn] _ rfl HA.out.1 (some ⟨V.heap.size, 0, none⟩) 1 rfl HLO.out hb1 hc1 HA.out.2.2.2.2.2.1 ?_; intro v9 w9 hO9 hg9 hwh9; have H9 := Hid.intro (HA.out.app (e := tyCSt) rfl hgw hO9 hg9); clear hO9 hg9 hwh9)
            | fail)
          have HLK : Hid ((L ++ [mkSt ke nd nn]).length = k + 1) := snoc_len HLL.out
          have HP := Hid.intro (H9.out.upc (t2 := t + 6 + 16 * (k + 1)) (by omega))
          go_roundw
          case rel => exact ⟨k + 1, L ++ [mkSt ke nd nn], by omega, by go_num, HLK.out, HP.out⟩
          case measure => simp [intOf]; omega
        have q0 : (sw == 0) = false := by simpa using s0
        have q1 : (sw == 1) = false := by simpa using s1
        have q2 : (sw == 2) = false := by simpa using s2
        clear s0 s1 s2 hsw
        have b0 := HB0.out.cell 0 rfl
        have b1' := HB0.out.cell 1 rfl
        have b2 := HB0.out.cell 2 rfl
        have bz := HB0.out.2
        have hb1 : L.length + 1 ≤ maxLen := by have := HLL.out; unfold maxLen; omega
        have hc1 : (L.length + 1) * 24 ≤ 140737488355328 := by have := HLL.out; omega
        have HA := Hid.intro (H0.out.alloc (.cells #[.int .i64 kd, .int .i64 nd, .int .i64 nn] 48))
        have HLO : Hid (Lies (wa.alloc (.cells #[.int .i64 kd, .int .i64 nd, .int .i64 nn] 48)) (.list shCommitStep) [.slice (some ⟨wa.heap.size, 0, none⟩) 1 1] [mkSt kd nd nn]) := Hid.intro (lies_one (w := wa) (e := shCommitStep) (cs := [.int .i64 kd, .int .i64 nd, .int .i64 nn]) (x := mkSt kd nd nn) 48 rfl mk_CommitStep)
        go_wp2_with (first
          | (at_builtin; refine wpList_appx rfl (.tmp 43) (.tmp 45) 24 48 rfl i0 (.agg #[.int .i64 0, .int .i64 0, .int .i64 0]) 24 w.heap.size tyCSt rfl Tryd.underlying24 hi0 hz0 hz1 hz2 rfl (by decide) u5 L [mkSt kd nd nn] _ rfl HA.out.1 (some ⟨wa.heap.size, 0, none⟩) 1 rfl HLO.out hb1 hc1 HA.out.2.2.2.2.2.1 ?_; intro v9 w9 hO9 hg9 hwh9; have H9 := Hid.intro (HA.out.app (e := tyCSt) rfl hgw hO9 hg9); clear hO9 hg9 hwh9)
          | fail)
        have HLK : Hid ((L ++ [mkSt kd nd nn]).length = k + 1) := snoc_len HLL.out
        have HP := Hid.intro (H9.out.upc (t2 := t + 6 + 16 * (k + 1)) (by omega))
        go_roundw
        case rel => exact ⟨k + 1, L ++ [mkSt kd nd nn], by omega, by go_num, HLK.out, HP.out⟩
        case measure => simp [intOf]; omega
      · have hlt' : ¬ (0 : Int) < (M : Int) - (k : Int) := by omega
        have HP : Hid (DvH tyCSt 48 wr w g a n cap X (t + 3000) u5 L) := Hid.intro (HH.out.upc (by omega))
        go_wp2
        go_ret
        exact ⟨L, u5, by have := HLL.out; omega, rfl, HP.out⟩
  · go_wp2_with fail
    refine (pick_any _ _ _ _ _ _ _ _ (by omega) (by omega) H2.out.1).mono ?_
    rintro _ w3 ⟨x2, hx2, rfl, hd⟩
    have H3 : Hid (Drew g a n cap X (t + 6) w w3) := Hid.intro (H2.out.trans hd)
    clear hd H2
    have H2 := H3
    clear H3
    have hxw : IntKind.i64.wrap (60 + x2) = 60 + x2 := w64c rfl (by omega)
    obtain ⟨N0, hN⟩ : ∃ N0, N0 = 60 + x2 := ⟨_, rfl⟩
    have hN0 : 0 ≤ N0 ∧ N0 ≤ 101 := by omega
    go_upto_region 5 with fail
    rw [← hN]
    clear hxw hN hx2
    obtain ⟨M, hM, hMe⟩ : ∃ M : Nat, M ≤ 101 ∧ N0 = (M : Int) := ⟨N0.toNat, by omega, by omega⟩
    subst hMe
    have HD : Hid (DvH tyCSt 48 w3 w g a n cap X (t + 6) (.slice none 0 0) []) := Hid.intro ⟨OwnX.nil', H2.out.up (by omega)⟩
    clear H2
    go_wp2
    go_loopw [6, 5] (fun y v wr => ∃ (k : Nat) (L : List (Sh.T shCommitStep)), k ≤ M ∧ y = .int .i64 ((M : Int) - (k : Int)) ∧ L.length = k ∧ DvH tyCSt 48 wr w g a n cap X (t + 6 + 16 * k) v L) (fun y _ _ => (intOf y).toNat)
    case atStart => exact ⟨0, [], Nat.zero_le _, by congr 1 <;> omega, rfl, HD.out⟩
    case round =>
      obtain ⟨k, L, hk, rfl, hL, hH⟩ := hrel
      have HH : Hid (DvH tyCSt 48 wr w g a n cap X (t + 6 + 16 * k) u5 L) := Hid.intro hH
      have HLL : Hid (L.length = k) := Hid.intro hL
      clear hH HD hL
      by_cases hlt : k < M
      · have hlt' : (0 : Int) < (M : Int) - (k : Int) := by omega
        have hk1 : IntKind.i64.wrap ((M : Int) - (k : Int) - 1) = (M : Int) - ((k + 1 : Nat) : Int) := w64c (by omega) (by omega)
        have HA1 := Hid.intro (HH.out.alloc (.cells #[.int .i64 1, .int .i64 1, .int .i64 1, .int .i64 2, .int .i64 2, .int .i64 2, .int .i64 2, .int .i64 3, .int .i64 7] 3))
        have hgz : g < wr.heap.size := HH.out.2.1.2.2.2.2.2.1
        go_wp2_with fail
        refine (amongL_any g a n cap X _ wr.heap.size _ 9 (fun i => [1, 1, 1, 2, 2, 2, 2, 3, 7].getD i 0) 10 _ (by omega) HA1.out.2.1 (by omega) (by simp) (by omega) (by omega) (int_new wr [1, 1, 1, 2, 2, 2, 2, 3, 7] 3) (int_small (L := [1, 1, 1, 2, 2, 2, 2, 3, 7]) (B := 10) rfl)).mono ?_
        rintro _ w4 ⟨kd, hkd, rfl, hd⟩
        have H4 : Hid (DvH tyCSt 48 w4 w g a n cap X (t + 6 + 16 * k + 2) u5 L) := Hid.intro (HA1.out.draw hd hgw)
        clear hd HA1 HH hgz hkd
        go_wp2_with fail
        refine (pick_any _ _ _ _ _ _ _ _ (by omega) (by omega) H4.out.2.1).mono ?_
        rintro _ w5 ⟨nd, hnd, rfl, hd⟩
        have H5 : Hid (DvH tyCSt 48 w5 w g a n cap X (t + 6 + 16 * k + 4) u5 L) := Hid.intro (H4.out.draw hd hgw)
        clear hd H4 hnd
        go_wp2_with fail
        refine (pick_any _ _ _ _ _ _ _ _ (by omega) (by omega) H5.out.2.1).mono ?_
        rintro _ w6 ⟨nn, hnn, rfl, hd⟩
        have HE : Hid (DvH tyCSt 48 w6 w g a n cap X (t + 6 + 16 * k + 6) u5 L) := Hid.intro (H5.out.draw hd hgw)
        clear hd H5 hnn
        obtain ⟨sb, hsb⟩ : ∃ x, x = w6.heap.size := ⟨_, rfl⟩
        obtain ⟨w7, hw7⟩ : ∃ x, x = w6.alloc (.cells #[.int .i64 kd, .int .i64 nd, .int .i64 nn] 48) := ⟨_, rfl⟩
        have H7 : Hid (DvH tyCSt 48 w7 w g a n cap X (t + 6 + 16 * k + 6) u5 L) := Hid.intro (hw7 ▸ HE.out.alloc _)
        have HB7 : Hid (Bx w7 sb [.int .i64 kd, .int .i64 nd, .int .i64 nn]) := Hid.intro (hsb ▸ hw7 ▸ Bx.new w6 [_, _, _] _)
        have HSB : Hid (w.heap.size ≤ sb ∧ u5.ownBlock ≠ some sb) := Hid.intro ⟨by rw [hsb]; exact HE.out.2.2.2.2.2.1, fun q => by
          obtain ⟨row, _⟩ := HE.out.1.flat rfl
          have := (row.lt sb q).2
          omega⟩
        have hsg : sb ≠ g := by have := HSB.out.1; omega
        go_wp2_with fail
        rw [← hw7, ← hsb]
        clear hw7 hsb HE
        refine (pick_any _ _ _ _ _ _ _ _ (by omega) (by omega) H7.out.2.1).mono ?_
        rintro _ wa ⟨sw, hsw, rfl, hd⟩
        have H0 : Hid (DvH tyCSt 48 wa w g a n cap X (t + 6 + 16 * k + 8) u5 L) := Hid.intro (H7.out.draw hd hgw)
        have HB0 : Hid (Bx wa sb [.int .i64 kd, .int .i64 nd, .int .i64 nn]) := Hid.intro (HB7.out.drewc hd hsg)
        clear hd H7 HB7
        by_cases s0 : sw = 0
        · subst s0
          clear hsw
          obtain ⟨V, hV⟩ : ∃ x, x = wa.setCell ⟨sb, 0, none⟩ (.int .i64 5) := ⟨_, rfl⟩
          have HV : Hid (DvH tyCSt 48 V w g a n cap X (t + 6 + 16 * k + 8) u5 L) := Hid.intro (hV ▸ H0.out.set hgw HSB.out.1 HSB.out.2 rfl 0 _)
          have HVB : Hid (Bx V sb [.int .i64 5, .int .i64 nd, .int .i64 nn]) := Hid.intro (hV ▸ HB0.out.set (k := 0) (by simp) _)
          have c0 := HB0.out.cell 0 rfl
          have cz := HB0.out.2
          have cf := HB0.out.frz 0 (by simp)
          go_upto_region 15 with fail
          rw [← hV]
          clear hV c0 cz cf
          have b0 := HVB.out.cell 0 rfl
          have b1' := HVB.out.cell 1 rfl
          have b2 := HVB.out.cell 2 rfl
          have bz := HVB.out.2
          have hb1 : L.length + 1 ≤ maxLen := by have := HLL.out; unfold maxLen; omega
          have hc1 : (L.length + 1) * 24 ≤ 140737488355328 := by have := HLL.out; omega
          have HA := Hid.intro (HV.out.alloc (.cells #[.int .i64 5, .int .i64 nd, .int .i64 nn] 48))
          have HLO : Hid (Lies (V.alloc (.cells #[.int .i64 5, .int .i64 nd, .int .i64 nn] 48)) (.list shCommitStep) [.slice (some ⟨V.heap.size, 0, none⟩) 1 1] [mkSt 5 nd nn]) := Hid.intro (lies_one (w := V) (e := shCommitStep) (cs := [.int .i64 5, .int .i64 nd, .int .i64 nn]) (x := mkSt 5 nd nn) 48 rfl mk_CommitStep)
          go_wp2_with (first
            | (at_builtin; refine wpList_appx rfl (.tmp 43) (.tmp 45) 24 48 rfl i0 (.agg #[.int .i64 0, .int .i64 0, .int .i64 0]) 24 w.heap.size tyCSt rfl Tryd.underlying24 hi0 hz0 hz1 hz2 rfl (by decide) u5 L [mkSt 5 nd nn] _ rfl HA.out.1 (some ⟨V.heap.size, 0, none⟩) 1 rfl HLO.out hb1 hc1 HA.out.2.2.2.2.2.1 ?_; intro v9 w9 hO9 hg9 hwh9; have H9 := Hid.intro (HA.out.app (e := tyCSt) rfl hgw hO9 hg9); clear hO9 hg9 hwh9)
            | fail)
          have HLK : Hid ((L ++ [mkSt 5 nd nn]).length = k + 1) := snoc_len HLL.out
          have HP := Hid.intro (H9.out.upc (t2 := t + 6 + 16 * (k + 1)) (by omega))
          go_roundw
          case rel => exact ⟨k + 1, L ++ [mkSt 5 nd nn], by omega, by go_num, HLK.out, HP.out⟩
          case measure => simp [intOf]; omega
        by_cases s1 : sw = 1
        · subst s1
          clear hsw s0
          obtain ⟨V, hV⟩ : ∃ x, x = wa.setCell ⟨sb, 0, none⟩ (.int .i64 6) := ⟨_, rfl⟩
          have HV : Hid (DvH tyCSt 48 V w g a n cap X (t + 6 + 16 * k + 8) u5 L) := Hid.intro (hV ▸ H0.out.set hgw HSB.out.1 HSB.out.2 rfl 0 _)
          have HVB : Hid (Bx V sb [.int .i64 6, .int .i64 nd, .int .i64 nn]) := Hid.intro (hV ▸ HB0.out.set (k := 0) (by simp) _)
          have c0 := HB0.out.cell 0 rfl
          have cz := HB0.out.2
          have cf := HB0.out.frz 0 (by simp)
          go_upto_region 15 with fail
          rw [← hV]
          clear hV c0 cz cf
          have b0 := HVB.out.cell 0 rfl
          have b1' := HVB.out.cell 1 rfl
          have b2 := HVB.out.cell 2 rfl
          have bz := HVB.out.2
          have hb1 : L.length + 1 ≤ maxLen := by have := HLL.out; unfold maxLen; omega
          have hc1 : (L.length + 1) * 24 ≤ 140737488355328 := by have := HLL.out; omega
          have HA := Hid.intro (HV.out.alloc (.cells #[.int .i64 6, .int .i64 nd, .int .i64 nn] 48))
          have HLO : Hid (Lies (V.alloc (.cells #[.int .i64 6, .int .i64 nd, .int .i64 nn] 48)) (.list shCommitStep) [.slice (some ⟨V.heap.size, 0, none⟩) 1 1] [mkSt 6 nd nn]) := Hid.intro (lies_one (w := V) (e := shCommitStep) (cs := [.int .i64 6, .int .i64 nd, .int .i64 nn]) (x := mkSt 6 nd nn) 48 rfl mk_CommitStep)
          go_wp2_with (first
            | (at_builtin; refine wpList_appx rfl (.tmp 43) (.tmp 45) 24 48 rfl i0 (.agg #[.int .i64 0, .int .i64 0, .int .i64 0]) 24 w.heap.size tyCSt rfl Tryd.underlying24 hi0 hz0 hz1 hz2 rfl (by decide) u5 L [mkSt 6 nd nn] _ rfl HA.out.1 (some ⟨V.heap.size, 0, none⟩) 1 rfl HLO.out hb1 hc1 HA.out.2.2.2.2.2.1 ?_; intro v9 w9 hO9 hg9 hwh9; have H9 := Hid.intro (HA.out.app (e := tyCSt) rfl hgw hO9 hg9); clear hO9 hg9 hwh9)
            | fail)
          have HLK : Hid ((L ++ [mkSt 6 nd nn]).length = k + 1) := snoc_len HLL.out
          have HP := Hid.intro (H9.out.upc (t2 := t + 6 + 16 * (k + 1)) (by omega))
          go_roundw
          case rel => exact ⟨k + 1, L ++ [mkSt 6 nd nn], by omega, by go_num, HLK.out, HP.out⟩
          case measure => simp [intOf]; omega
        by_cases s2 : sw = 2
        · subst s2
          clear hsw s0 s1
          have HA1 := Hid.intro (H0.out.alloc (.cells #[.int .i64 4, .int .i64 3, .int .i64 3, .int .i64 0, .int .i64 8] 3))
          have HB1 := Hid.intro (HB0.out.alloc (.cells #[.int .i64 4, .int .i64 3, .int .i64 3, .int .i64 0, .int .i64 8] 3))
          have hgz : g < wa.heap.size := H0.out.2.1.2.2.2.2.2.1
          go_wp2_with fail
          refine (amongL_any g a n cap X _ wa.heap.size _ 5 (fun i => [4, 3, 3, 0, 8].getD i 0) 10 _ (by omega) HA1.out.2.1 (by omega) (by simp) (by omega) (by omega) (int_new wa [4, 3, 3, 0, 8] 3) (int_small (L := [4, 3, 3, 0, 8]) (B := 10) rfl)).mono ?_
          rintro _ wb ⟨ke, hke, rfl, hd⟩
          have H0 : Hid (DvH tyCSt 48 wb w g a n cap X (t + 6 + 16 * k + 8 + 2) u5 L) := Hid.intro (HA1.out.draw hd hgw)
          have HB0 : Hid (Bx wb sb [.int .i64 kd, .int .i64 nd, .int .i64 nn]) := Hid.intro (HB1.out.drewc hd hsg)
          clear hd HA1 HB1 hgz hke
          obtain ⟨V, hV⟩ : ∃ x, x = wb.setCell ⟨sb, 0, none⟩ (.int .i64 ke) := ⟨_, rfl⟩
          have HV : Hid (DvH tyCSt 48 V w g a n cap X (t + 6 + 16 * k + 8 + 2) u5 L) := Hid.intro (hV ▸ H0.out.set hgw HSB.out.1 HSB.out.2 rfl 0 _)
          have HVB : Hid (Bx V sb [.int .i64 ke, .int .i64 nd, .int .i64 nn]) := Hid.intro (hV ▸ HB0.out.set (k := 0) (by simp) _)
          have c0 := HB0.out.cell 0 rfl
          have cz := HB0.out.2
          have cf := HB0.out.frz 0 (by simp)
          go_upto_region 15 with fail
          rw [← hV]
          clear hV c0 cz cf
          have b0 := HVB.out.cell 0 rfl
          have b1' := HVB.out.cell 1 rfl
          have b2 := HVB.out.cell 2 rfl
          have bz := HVB.out.2
          have hb1 : L.length + 1 ≤ maxLen := by have := HLL.out; unfold maxLen; omega
          have hc1 : (L.length + 1) * 24 ≤ 140737488355328 := by have := HLL.out; omega
          have HA := Hid.intro (HV.out.alloc (.cells #[.int .i64 ke, .int .i64 nd, .int .i64 nn] 48))
          have HLO : Hid (Lies (V.alloc (.cells #[.int .i64 ke, .int .i64 nd, .int .i64 nn] 48)) (.list shCommitStep) [.slice (some ⟨V.heap.size, 0, none⟩) 1 1] [mkSt ke nd nn]) := Hid.intro (lies_one (w := V) (e := shCommitStep) (cs := [.int .i64 ke, .int .i64 nd, .int .i64 nn]) (x := mkSt ke nd nn) 48 rfl mk_CommitStep)
          go_wp2_with (first
            | (at_builtin; refine wpList_appx rfl (.tmp 43) (.tmp 45) 24 48 rfl i0 (.agg #[.int .i64 0, .int .i64 0, .int .i64 0]) 24 w.heap.size tyCSt rfl Tryd.underlying24 hi0 hz0 hz1 hz2 rfl (by decide) u5 L [mkSt ke nd nn] _ rfl HA.out.1 (some ⟨V.heap.size, 0, none⟩) 1 rfl HLO.out hb1 hc1 HA.out.2.2.2.2.2.1 ?_; intro v9 w9 hO9 hg9 hwh9; have H9 := Hid.intro (HA.out.app (e := tyCSt) rfl hgw hO9 hg9); clear hO9 hg9 hwh9)
            | fail)
          have HLK : Hid ((L ++ [mkSt ke nd nn]).length = k + 1) := snoc_len HLL.out
          have HP := Hid.intro (H9.out.upc (t2 := t + 6 + 16 * (k + 1)) (by omega))
          go_roundw
          case rel => exact ⟨k + 1, L ++ [mkSt ke nd nn], by omega, by go_num, HLK.out, HP.out⟩
          case measure => simp [intOf]; omega
        have q0 : (sw == 0) = false := by simpa using s0
        have q1 : (sw == 1) = false := by simpa using s1
        have q2 : (sw == 2) = false := by simpa using s2
        clear s0 s1 s2 hsw
        have b0 := HB0.out.cell 0 rfl
        have b1' := HB0.out.cell 1 rfl
        have b2 := HB0.out.cell 2 rfl
        have bz := HB0.out.2
        have hb1 : L.length + 1 ≤ maxLen := by have := HLL.out; unfold maxLen; omega
        have hc1 : (L.length + 1) * 24 ≤ 140737488355328 := by have := HLL.out; omega
        have HA := Hid.intro (H0.out.alloc (.cells #[.int .i64 kd, .int .i64 nd, .int .i64 nn] 48))
        have HLO : Hid (Lies (wa.alloc (.cells #[.int .i64 kd, .int .i64 nd, .int .i64 nn] 48)) (.list shCommitStep) [.slice (some ⟨wa.heap.size, 0, none⟩) 1 1] [mkSt kd nd nn]) := Hid.intro (lies_one (w := wa) (e := shCommitStep) (cs := [.int .i64 kd, .int .i64 nd, .int .i64 nn]) (x := mkSt kd nd nn) 48 rfl mk_CommitStep)
        go_wp2_with (first
          | (at_builtin; refine wpList_appx rfl (.tmp 43) (.tmp 45) 24 48 rfl i0 (.agg #[.int .i64 0, .int .i64 0, .int .i64 0]) 24 w.heap.size tyCSt rfl Tryd.underlying24 hi0 hz0 hz1 hz2 rfl (by decide) u5 L [mkSt kd nd nn] _ rfl HA.out.1 (some ⟨wa.heap.size, 0, none⟩) 1 rfl HLO.out hb1 hc1 HA.out.2.2.2.2.2.1 ?_; intro v9 w9 hO9 hg9 hwh9; have H9 := Hid.intro (HA.out.app (e := tyCSt) rfl hgw hO9 hg9); clear hO9 hg9 hwh9)
          | fail)
        have HLK : Hid ((L ++ [mkSt kd nd nn]).length = k + 1) := snoc_len HLL.out
        have HP := Hid.intro (H9.out.upc (t2 := t + 6 + 16 * (k + 1)) (by omega))
        go_roundw
        case rel => exact ⟨k + 1, L ++ [mkSt kd nd nn], by omega, by go_num, HLK.out, HP.out⟩
        case measure => simp [intOf]; omega
      · have hlt' : ¬ (0 : Int) < (M : Int) - (k : Int) := by omega
        have HP : Hid (DvH tyCSt 48 wr w g a n cap X (t + 3000) u5 L) := Hid.intro (HH.out.upc (by omega))
        go_wp2
        go_ret
        exact ⟨L, u5, by have := HLL.out; omega, rfl, HP.out⟩

end Go.Proofs.YtkpobihpcnoemaaDoor
/- Commits: the draw of a play; the law's own sameBools. Written by tools/mkCrF.py. -/
namespace Go.Proofs.YtkpobihpcnoemaaDoor
open Go.RowKit
set_option linter.unusedVariables false
set_option linter.unusedSimpArgs false

theorem drew_belowC {w w0 W : World} {g : Nat} {a : Option Addr} {n cap : Nat} {X : Nat → Int} {t : Nat} (h0 : Below w.heap.size w w0) (h : Drew g a n cap X t w0 W) (hg : w.heap.size ≤ g) : Below w.heap.size w W :=
  ⟨h.2.1.trans h0.os, h.2.2.1.trans h0.tape, h.2.2.2.1.trans h0.output, Nat.le_trans h0.size h.2.2.2.2.1, fun j hj => (h.2.2.2.2.2 j (Nat.lt_of_lt_of_le hj h0.size) (by omega)).trans (h0.block j hj)⟩
def DpcP (w : World) (r : Ending) (w' : World) : Prop := ∃ (am : List (Sh.T .int)) (l : List (Sh.T shCommitStep)) (a1 : Option Addr) (k1 : Nat) (a2 : Option Addr) (k2 : Nat), am.length ≤ 10 ∧ l.length ≤ 101 ∧ r = .returned (.tuple #[.slice a1 am.length k1, .slice a2 l.length k2]) ∧ Lies w' (.list .int) [.slice a1 am.length k1] am ∧ Lies w' (.list shCommitStep) [.slice a2 l.length k2] l ∧ Below w.heap.size w w'

set_option maxRecDepth 100000 in
set_option maxHeartbeats 4000000 in
theorem drawPlayCommit_any (a : Option Addr) (n cap : Nat) (X : Nat → Int) (w : World) (hn : n ≤ 9223372036854775807) (hs : Sl w a n 1 (byF X)) (hX : ∀ i, i < n → 0 ≤ X i ∧ X i ≤ 255) :
    Calls Tryd.prog 7 #[.slice a n cap] w (DpcP w) := by
  obtain ⟨w0, hw0⟩ : ∃ x, x = w.alloc (.cells #[.slice a n cap, .int .i64 0, .int .u64 0] 75) := ⟨_, rfl⟩
  have HC : Hid (Cur w0 w.heap.size a n cap X 0 ∧ Below w.heap.size w w0) := ⟨hw0 ▸ Cur.new _ hs hn hX, hw0 ▸ Go.Joins.below_alloc1 _ _⟩
  clear hs hX
  go_enter Tryd.func7, Tryd.ntmps7
  go_wp2_with fail
  rw [← hw0]
  clear hw0
  refine (shardSizes_any _ _ _ _ _ _ _ (by omega) HC.out.1).mono ?_
  rintro _ w1 ⟨am, v1, ham, rfl, hd⟩
  obtain ⟨a1, c1, e1⟩ := hd.1.vform
  have e1 : v1 = .slice a1 (List.length (α := Sh.T .int) am) c1 := e1
  subst e1
  have H1 := Hid.intro hd
  have hgw : w.heap.size < w0.heap.size := HC.out.1.2.2.2.2.2.1
  clear hd
  go_wp2_with fail
  refine (commitSteps_any (List.length (α := Sh.T .int) am : Int) _ _ _ _ _ _ _ (by omega) (by omega) H1.out.2.1).mono ?_
  rintro _ w3 ⟨l, v, hl, rfl, hd⟩
  obtain ⟨a2, c2, e1⟩ := hd.1.vform
  have e1 : v = .slice a2 (List.length (α := Sh.T shCommitStep) l) c2 := e1
  subst e1
  have HP : Hid (DpcP w (.returned (.tuple #[.slice a1 am.length c1, .slice a2 l.length c2])) w3) := Hid.intro ⟨am, l, a1, c1, a2, c2, ham, hl, rfl, OwnX.lies (H1.out.draw hd.2 hgw).1, OwnX.lies hd.1, drew_belowC HC.out.2 (H1.out.2.trans hd.2) (Nat.le_refl _)⟩
  clear hd H1 hl
  go_wp2
  exact bodyPost_ret (v := .tuple #[.slice a1 (List.length (α := Sh.T .int) am) c1, .slice a2 (List.length (α := Sh.T shCommitStep) l) c2]) (by simp [results, Tryd.results7, go_sem, *]) rfl HP.out

set_option maxRecDepth 100000 in
set_option maxHeartbeats 2000000 in
theorem sameBools_same (a a' : Option Addr) (cap cap' : Nat) (l : List (Sh.T .bool)) (w : World) (hn : l.length ≤ 1073741824) (hs : Lies w (.list .bool) [.slice a l.length cap] l) (hs' : Lies w (.list .bool) [.slice a' l.length cap'] l) :
    Calls Tryd.prog 10 #[.slice a l.length cap, .slice a' l.length cap'] w fun r w' => r = .returned (.bool true) ∧ Below w.heap.size w w' := by
  have HL : Hid (Lies w (.list .bool) [.slice a l.length cap] l ∧ Lies w (.list .bool) [.slice a' l.length cap'] l) := ⟨hs, hs'⟩
  clear hs hs'
  go_enter Tryd.func10, Tryd.ntmps10
  go_wp2
  go_loopw [13] (fun i wr => ∃ k : Nat, k ≤ l.length ∧ i = .int .i64 k ∧ Below w.heap.size w wr) (fun i _ => l.length - (intOf i).toNat)
  case atStart => exact ⟨0, Nat.zero_le _, rfl, Below.refl _ _⟩
  case round =>
    obtain ⟨k, hk, rfl, hBr⟩ := hrel
    by_cases hlt : k < l.length
    · obtain ⟨g, off, hgo, hgs, ec, hel, hec, hle⟩ := Lies.elem (HL.out.1.next hBr) hlt
      obtain ⟨g', off', hgo', hgs', ec', hel', hec', hle'⟩ := Lies.elem (HL.out.2.next hBr) hlt
      subst hgo hgo'
      have hev : ec = [.bool l[k]] := hle
      have hev' : ec' = [.bool l[k]] := hle'
      subst hev hev'
      have c0 : wr.cell? ⟨g, off + k, none⟩ = some (.bool l[k]) := by have := hec 0 (by simp); simpa [Sh.c] using this
      have c1 : wr.cell? ⟨g', off' + k, none⟩ = some (.bool l[k]) := by have := hec' 0 (by simp); simpa [Sh.c] using this
      obtain ⟨t, ht⟩ : ∃ t : Bool, t = l[k] := ⟨_, rfl⟩
      rw [← ht] at c0 c1
      have hlt' : (k : Int) < (l.length : Int) := by omega
      have HB : Hid (Below w.heap.size w wr) := hBr
      clear hec hec' hel hel' hle hle' ht hBr
      go_upto_region 6 with fail
      go_quiet (fail)
      go_wp2
      go_roundw
      case rel => exact ⟨k + 1, by omega, by go_num, below_drewN HB.out _⟩
      case measure => simp [intOf]; omega
    · have hkn : k = l.length := by omega
      have HB : Hid (Below w.heap.size w wr) := hBr
      clear hBr hkn
      go_wp2
      go_ret
      exact ⟨rfl, HB.out⟩
theorem sz_cst (l : List (Sh.T shCommitStep)) : szD (.list shCommitStep) l = l.length := sz_flat (fun _ => rfl) l

end Go.Proofs.YtkpobihpcnoemaaDoor
