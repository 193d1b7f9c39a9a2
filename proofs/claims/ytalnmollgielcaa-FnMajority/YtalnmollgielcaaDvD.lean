/- The draw of how many nodes there are, of votes, and of both with a group. -/
import Derived.Test.YtalnmollgielcaaDgD
namespace Go.Proofs.Ytalnmollgielcaa
open Go.RowKit
set_option linter.unusedVariables false

set_option maxHeartbeats 400000 in
theorem amongB_any (g : Nat) (a : Option Addr) (n cap : Nat) (X : Nat → Int) (t : Nat) (l lc : Nat) (y0 y1 y2 : Int) (w : World) (ht : t ≤ 999990) (hc : Cur w g a n cap X t) (hl : l ≠ g) (hls : l < w.heap.size)
    (c0 : w.cell? ⟨l, 0, none⟩ = some (.int .i64 y0)) (c1 : w.cell? ⟨l, 1, none⟩ = some (.int .i64 y1)) (c2 : w.cell? ⟨l, 2, none⟩ = some (.int .i64 y2)) :
    Calls Try.prog 83 #[.pointer (some ⟨g, 0, none⟩), .slice (some ⟨l, 0, none⟩) 3 lc] w fun r w' => ∃ x : Int, (x = y0 ∨ x = y1 ∨ x = y2) ∧ r = .returned (.int .i64 x) ∧ Drew g a n cap X (t + 2) w w' := by
  have HC : Hid (Cur w g a n cap X t) := hc
  clear hc
  go_enter Try.func83, Try.ntmps83
  go_wp2_with fail
  refine (pick_any _ _ _ _ _ _ _ _ ht (by omega) HC.out).mono ?_
  rintro r w1 ⟨x, hx, rfl, hd⟩
  have H1 : Hid (Drew g a n cap X (t + 2) w w1) := hd
  have hk := hd.2.2.2.2.2 l hls (by omega)
  have d0 := (World.cell?_of_block (a := ⟨l, 0, none⟩) hk).trans c0
  have d1 := (World.cell?_of_block (a := ⟨l, 1, none⟩) hk).trans c1
  have d2 := (World.cell?_of_block (a := ⟨l, 2, none⟩) hk).trans c2
  clear hd HC hk c0 c1 c2
  have h3 : x = 0 ∨ x = 1 ∨ x = 2 := by omega
  rcases h3 with rfl | rfl | rfl
  · go_wp2
    go_ret
    exact ⟨y0, Or.inl rfl, rfl, H1.out⟩
  · go_wp2
    go_ret
    exact ⟨y1, Or.inr (Or.inl rfl), rfl, H1.out⟩
  · go_wp2
    go_ret
    exact ⟨y2, Or.inr (Or.inr rfl), rfl, H1.out⟩
set_option maxRecDepth 100000 in
set_option maxHeartbeats 1000000 in
theorem nodes_any (g : Nat) (a : Option Addr) (n cap : Nat) (X : Nat → Int) (t : Nat) (w : World) (ht : t ≤ 900000) (hc : Cur w g a n cap X t) :
    Calls Try.prog 60 #[.pointer (some ⟨g, 0, none⟩)] w fun r w' => ∃ x : Int, (0 ≤ x ∧ x ≤ 13) ∧ r = .returned (.int .i64 x) ∧ Drew g a n cap X (t + 4) w w' := by
  have hg : g < w.heap.size := hc.2.2.2.2.2.1
  have HC : Hid (Cur w g a n cap X t) := hc
  clear hc
  go_enter Try.func60, Try.ntmps60
  go_wp2_with fail
  refine (one_any _ _ _ _ _ _ _ _ (by omega) (by omega) HC.out).mono ?_
  rintro r w1 ⟨b, rfl, hd⟩
  have H1 : Hid (Drew g a n cap X (t + 2) w w1) := hd
  have hz1 : g < w1.heap.size := Nat.lt_of_lt_of_le hg hd.2.2.2.2.1
  clear hd HC
  cases b
  · go_wp2_with fail
    refine (pick_any _ _ _ _ _ _ _ _ (by omega) (by omega) H1.out.1).mono ?_
    rintro r w2 ⟨x, hx, rfl, hd⟩
    have H2 : Hid (Drew g a n cap X (t + 4) w w2) := H1.out.trans hd
    clear hd H1
    go_wp2
    go_ret
    exact ⟨1 + x, by omega, rfl, H2.out⟩
  · go_wp2_with fail
    refine (amongB_any g a n cap X (t + 2) w1.heap.size _ 0 12 13 _ (by omega) (H1.out.1.next (Go.Joins.below_alloc1 _ _)) (by omega) (by simp) (by simp) (by simp) (by simp)).mono ?_
    rintro r w2 ⟨x, hx, rfl, hd⟩
    have H2 : Hid (Drew g a n cap X (t + 4) w w2) := ⟨hd.1, (H1.out.2.alloc _).trans hd.2⟩
    clear hd H1
    go_wp2
    go_ret
    exact ⟨x, by omega, rfl, H2.out⟩

/-- A list in a slot that is being built while the cursor draws. -/
def VdH (W w : World) (g : Nat) (a : Option Addr) (n cap : Nat) (X : Nat → Int) (t : Nat) (v : Value) (L : List Int) : Prop := W.ownsRow w.heap.size 3 1 v L.length (intC L) ∧ Drew g a n cap X t w W
theorem VdH.draw {W W' w : World} {g : Nat} {a : Option Addr} {n cap : Nat} {X : Nat → Int} {t t' : Nat} {v : Value} {L : List Int} (h : VdH W w g a n cap X t v L) (hd : Drew g a n cap X t' W W') (hg : g < w.heap.size) : VdH W' w g a n cap X t' v L := ⟨own_trn h.1 hd.2 hg, h.2.trans hd⟩
theorem VdH.alloc {W w : World} {g : Nat} {a : Option Addr} {n cap : Nat} {X : Nat → Int} {t : Nat} {v : Value} {L : List Int} (h : VdH W w g a n cap X t v L) (o : Obj) : VdH (W.alloc o) w g a n cap X t v L := ⟨World.ownsRow.alloc h.1 _, h.2.alloc _⟩
theorem VdH.app {W W' w : World} {g : Nat} {a : Option Addr} {n cap : Nat} {X : Nat → Int} {t : Nat} {v v' : Value} {L : List Int} {x : Int} (h : VdH W w g a n cap X t v L) (hg : g < w.heap.size) (hgr : W.grownBy W' v.ownBlock) (ho : W'.ownsRow w.heap.size 3 1 v' (L.length + 1) (intC L ++ [.int .i64 x])) : VdH W' w g a n cap X t v' (L ++ [x]) :=
  ⟨by simpa [intC] using ho, h.2.grown hgr hg (fun j hj => (h.1.lt j hj).1)⟩
def VtDrew (g : Nat) (a : Option Addr) (n cap : Nat) (X : Nat → Int) (t : Nat) (w : World) (r : Ending) (w' : World) : Prop :=
  ∃ (L : List Int) (a5 : Option Addr) (cap5 : Nat), L.length ≤ 7 ∧ r = .returned (.slice a5 L.length cap5) ∧ IntS w' w.heap.size w'.heap.size a5 L.length (atZ L) ∧ Drew g a n cap X (t + 40) w w'
theorem VdH.post {W w : World} {g : Nat} {a : Option Addr} {n cap : Nat} {X : Nat → Int} {t t0 : Nat} {v : Value} {L : List Int} (h : VdH W w g a n cap X t v L) (ht : t ≤ t0 + 40) (hL : L.length ≤ 7) : ∃ a5 cap5, v = .slice a5 L.length cap5 ∧ VtDrew g a n cap X t0 w (.returned (.slice a5 L.length cap5)) W := by
  obtain ⟨a5, cap5, e, hi⟩ := intC_row h.1
  exact ⟨a5, cap5, e, L, a5, cap5, hL, rfl, hi, h.2.up ht⟩

set_option maxRecDepth 100000 in
set_option maxHeartbeats 4000000 in
theorem votes_any (g : Nat) (a : Option Addr) (n cap : Nat) (X : Nat → Int) (t : Nat) (w : World) (ht : t ≤ 10000) (hc : Cur w g a n cap X t) :
    Calls Try.prog 80 #[.pointer (some ⟨g, 0, none⟩)] w (VtDrew g a n cap X t w) := by
  have hgw : g < w.heap.size := hc.2.2.2.2.2.1
  have HC : Hid (Cur w g a n cap X t) := hc
  clear hc
  obtain ⟨i0, hi0, hz0, hz1, hz2⟩ := info_parts info_int
  go_enter Try.func80, Try.ntmps80
  go_wp2_with fail
  refine (pick_any _ _ _ _ _ _ _ _ (by omega) (by omega) HC.out).mono ?_
  rintro _ w1 ⟨x1, hx1, rfl, hd⟩
  have H1 : Hid (VdH w1 w g a n cap X (t + 2) (.slice none 0 0) []) := ⟨World.ownsRow_nil _ _ _ _, hd⟩
  clear hd HC
  obtain ⟨M, hM, hMe⟩ : ∃ M : Nat, M ≤ 5 ∧ 1 + x1 = (M : Int) := ⟨(1 + x1).toNat, by omega, by omega⟩
  have HME : Hid (1 + x1 = (M : Int)) := hMe
  clear hMe
  go_wp2
  go_loopw [4, 3] (fun y v wr => ∃ (k : Nat) (L : List Int), k ≤ M ∧ y = .int .i64 ((M : Int) - (k : Int)) ∧ L.length = k ∧ VdH wr w g a n cap X (t + 2 + 2 * k) v L) (fun y _ _ => (intOf y).toNat)
  case atStart => exact ⟨0, [], Nat.zero_le _, by have := HME.out; congr 1 <;> omega, rfl, H1.out⟩
  case round =>
    obtain ⟨k, L, hk, rfl, hL, hH⟩ := hrel
    have HH : Hid (VdH wr w g a n cap X (t + 2 + 2 * k) u3 L) := hH
    clear hH H1
    by_cases hlt : k < M
    · have hlt' : (0 : Int) < (M : Int) - (k : Int) := by omega
      go_wp2_with fail
      refine (pick_any _ _ _ _ _ _ _ _ (by omega) (by omega) HH.out.2.1).mono ?_
      rintro _ w2 ⟨x2, hx2, rfl, hd⟩
      have H2 : Hid (VdH w2 w g a n cap X (t + 2 + 2 * (k + 1)) u3 L) := HH.out.draw hd hgw
      have hz2' : w.heap.size ≤ w2.heap.size := H2.out.2.2.2.2.2.1
      clear hd HH
      go_wp2_with (first
        | (at_builtin; refine wpList_append_own _ rfl (.tmp 12) (.tmp 15) 23 rfl w.heap.size 3 i0 (.int .i64 0) 1 8 Try.underlying23 hi0 hz0 hz1 hz2 rfl (by decide) u3 L.length (intC L) rfl (World.ownsRow.alloc H2.out.1 _) ⟨_, 0, none⟩ 1 1 [.int .i64 x2] rfl rfl (one_cell _ _ _) (by intro u hu; simp at hu; subst hu; rfl) (by unfold maxLen; omega) (by omega) (by simp <;> omega) ?_; intro v4 w4 hown hgrow hnil))
      have HF : Hid (VdH w4 w g a n cap X (t + 2 + 2 * (k + 1)) v4 (L ++ [x2])) := (H2.out.alloc _).app hgw hgrow hown
      clear hown hgrow hnil H2
      go_wp2
      go_roundw
      case rel => exact ⟨k + 1, L ++ [x2], by omega, by congr 1; omega, by simp; omega, HF.out⟩
      case measure => simp [intOf]; omega
    · have hlt' : ¬ (0 : Int) < (M : Int) - (k : Int) := by omega
      have hLl : L.length ≤ 5 := by omega
      have HH2 : Hid (VdH wr w g a n cap X (t + 20) u3 L) := ⟨HH.out.1, HH.out.2.up (by omega)⟩
      clear HH hL
      go_wp2_with fail
      refine (one_any _ _ _ _ _ _ _ _ (by omega) (by omega) HH2.out.2.1).mono ?_
      rintro _ w2 ⟨b1, rfl, hd⟩
      have H2 : Hid (VdH w2 w g a n cap X (t + 22) u3 L) := HH2.out.draw hd hgw
      have hz2' : w.heap.size ≤ w2.heap.size := H2.out.2.2.2.2.2.1
      clear hd HH2
      cases b1
      · obtain ⟨a5, cap5, rfl, hp⟩ := H2.out.post (t0 := t) (by omega) (by omega)
        have HP : Hid (VtDrew g a n cap X t w (.returned (.slice a5 L.length cap5)) w2) := hp
        clear hp H2
        generalize L.length = l at *
        go_wp2
        go_ret
        exact HP.out
      · have hg2 : g < w2.heap.size := by omega
        go_wp2_with fail
        refine (amongB_any g a n cap X (t + 22) w2.heap.size _ (-1) 100 101 _ (by omega) (H2.out.2.1.next (Go.Joins.below_alloc1 _ _)) (by omega) (by simp) (by simp) (by simp) (by simp)).mono ?_
        rintro _ w3 ⟨x3, hx3, rfl, hd⟩
        have H3 : Hid (VdH w3 w g a n cap X (t + 24) u3 L) := (H2.out.alloc _).draw hd hgw
        have hz3' : w.heap.size ≤ w3.heap.size := H3.out.2.2.2.2.2.1
        clear hd H2 hx3
        go_wp2_with (first
          | (at_builtin; refine wpList_append_own _ rfl (.tmp 19) (.tmp 23) 23 rfl w.heap.size 3 i0 (.int .i64 0) 1 8 Try.underlying23 hi0 hz0 hz1 hz2 rfl (by decide) u3 L.length (intC L) rfl (World.ownsRow.alloc H3.out.1 _) ⟨_, 0, none⟩ 1 1 [.int .i64 x3] rfl rfl (one_cell _ _ _) (by intro u hu; simp at hu; subst hu; rfl) (by unfold maxLen; omega) (by omega) (by simp <;> omega) ?_; intro v4 w4 hown hgrow hnil))
        have HF : Hid (VdH w4 w g a n cap X (t + 24) v4 (L ++ [x3])) := (H3.out.alloc _).app hgw hgrow hown
        clear hown hgrow hnil H3
        obtain ⟨a5, cap5, hv, hp⟩ := HF.out.post (t0 := t) (by omega) (by simp; omega)
        have HP : Hid (VtDrew g a n cap X t w (.returned (.slice a5 (L ++ [x3]).length cap5)) w4) := hp
        clear hp HF
        subst hv
        generalize (L ++ [x3]).length = l at *
        go_wp2
        go_ret
        exact HP.out
end Go.Proofs.Ytalnmollgielcaa
