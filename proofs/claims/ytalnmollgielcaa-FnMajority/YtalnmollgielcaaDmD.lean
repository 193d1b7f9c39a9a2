/- The draw of two groups of the same nodes (DrawMeetOf), and of a list of groups (DrawAllMeet). -/
import Derived.Test.YtalnmollgielcaaAzO
import Derived.Test.YtalnmollgielcaaDvE
import Derived.Test.YtalnmollgielcaaMnT
namespace Go.Proofs.Ytalnmollgielcaa
open Go.RowKit
set_option linter.unusedVariables false

def MmDrew (w : World) (r : Ending) (w' : World) : Prop := ∃ (L1 : List Int) (a1 : Option Addr) (c1 : Nat) (L2 : List Int) (a2 : Option Addr) (c2 : Nat) (m : Int), ((0 ≤ m ∧ m ≤ 13) ∧ L1.length ≤ 14 ∧ L2.length ≤ 14) ∧
  r = .returned (.tuple #[.agg #[.slice a1 L1.length c1], .agg #[.slice a2 L2.length c2], .int .i64 m]) ∧ IntS w' w.heap.size w'.heap.size a1 L1.length (atZ L1) ∧ IntS w' w.heap.size w'.heap.size a2 L2.length (atZ L2) ∧ Below w.heap.size w w'
set_option maxRecDepth 100000 in
set_option maxHeartbeats 2000000 in
theorem drawMeet_any (a : Option Addr) (n cap : Nat) (X : Nat → Int) (w : World) (hn : n ≤ 9223372036854775807) (hs : Sl w a n 1 (byF X)) (hX : ∀ i, i < n → 0 ≤ X i ∧ X i ≤ 255) :
    Calls Try.prog 23 #[.slice a n cap] w (MmDrew w) := by
  obtain ⟨w0, hw0⟩ : ∃ x, x = ((w.alloc (.cells #[.slice none 0 0] 25)).alloc (.cells #[.slice none 0 0] 25)).alloc (.cells #[.slice a n cap, .int .i64 0, .int .u64 0] 72) := ⟨_, rfl⟩
  have H0 : Hid (Bx w0 w.heap.size [.slice none 0 0] ∧ Bx w0 (w.heap.size + 1) [.slice none 0 0] ∧ Cur w0 (w.heap.size + 1 + 1) a n cap X 0 ∧ Below w.heap.size w w0) := by
    rw [hw0]
    have b1 := Bx.new w [.slice none 0 0] 25
    have b2 := Bx.new (w.alloc (.cells #[.slice none 0 0] 25)) [.slice none 0 0] 25
    refine ⟨(b1.next (Go.Joins.below_alloc1 _ _)).next (Go.Joins.below_alloc1 _ _), ?_, ?_, (((Below.refl _ _).alloc (Nat.le_refl _) _).alloc (by simp) _).alloc (by simp; omega) _⟩
    · have := b2.next (Go.Joins.below_alloc1 _ (.cells #[.slice a n cap, .int .i64 0, .int .u64 0] 72))
      simpa using this
    · have := Cur.new (w := (w.alloc (.cells #[.slice none 0 0] 25)).alloc (.cells #[.slice none 0 0] 25)) (cap := cap) 72 ((hs.kept (Go.Joins.below_alloc1 _ _)).kept (Go.Joins.below_alloc1 _ _)) hn hX
      simpa using this
  clear hs hX
  go_enter Try.func23, Try.ntmps23
  go_wp2_with fail
  rw [← hw0]
  clear hw0
  have hgz : w.heap.size + 1 + 1 < w0.heap.size := H0.out.2.2.1.2.2.2.2.2.1
  refine (nodes_any _ _ _ _ _ _ _ (by omega) H0.out.2.2.1).mono ?_
  rintro _ w1 ⟨m, hm, rfl, hd⟩
  have H1 : Hid (Bx w1 w.heap.size [.slice none 0 0] ∧ Bx w1 (w.heap.size + 1) [.slice none 0 0] ∧ Drew (w.heap.size + 1 + 1) a n cap X 4 w0 w1) := ⟨H0.out.1.trn hd.2 (Or.inl (by omega)), H0.out.2.1.trn hd.2 (Or.inl (by omega)), hd⟩
  have hz1 : w0.heap.size ≤ w1.heap.size := hd.2.2.2.2.1
  clear hd
  go_wp2_with fail
  refine (group_any _ _ _ _ _ _ _ _ (by omega) (by omega) H1.out.2.2.1).mono ?_
  rintro _ w2 ⟨L1, a1, c1, hL1, rfl, hi1, _, hd⟩
  have H2 : Hid (Bx w2 w.heap.size [.slice none 0 0] ∧ Bx w2 (w.heap.size + 1) [.slice none 0 0] ∧ Drew (w.heap.size + 1 + 1) a n cap X 44 w0 w2 ∧ IntS w2 w1.heap.size w2.heap.size a1 L1.length (atZ L1)) := ⟨H1.out.1.trn hd.2 (Or.inl (by omega)), H1.out.2.1.trn hd.2 (Or.inl (by omega)), H1.out.2.2.trans hd, hi1⟩
  have hz2 : w1.heap.size ≤ w2.heap.size := hd.2.2.2.2.1
  clear hd hi1 H1
  go_wp2_with fail
  refine (group_any _ _ _ _ _ _ _ _ (by omega) (by omega) H2.out.2.2.1.1).mono ?_
  rintro _ w3 ⟨L2, a2, c2, hL2, rfl, hi2, _, hd⟩
  have H3 : Hid (Bx w3 w.heap.size [.slice none 0 0] ∧ Bx w3 (w.heap.size + 1) [.slice none 0 0] ∧ Below w.heap.size w w3 ∧ IntS w3 w1.heap.size w2.heap.size a1 L1.length (atZ L1) ∧ IntS w3 w2.heap.size w3.heap.size a2 L2.length (atZ L2)) := ⟨H2.out.1.trn hd.2 (Or.inl (by omega)), H2.out.2.1.trn hd.2 (Or.inl (by omega)), below_trn H0.out.2.2.2 (H2.out.2.2.1.2.trans hd.2) (by omega), sl_trn H2.out.2.2.2 hd.2 (by omega), hi2⟩
  have hz3 : w2.heap.size ≤ w3.heap.size := hd.2.2.2.2.1
  clear hd hi2 H2 H0
  have HP : Hid (MmDrew w (.returned (.tuple #[.agg #[.slice a1 L1.length c1], .agg #[.slice a2 L2.length c2], .int .i64 m])) ((w3.setCell ⟨w.heap.size, 0, none⟩ (.slice a1 L1.length c1)).setCell ⟨w.heap.size + 1, 0, none⟩ (.slice a2 L2.length c2))) := by
    have t : Turned w.heap.size (w.heap.size + 2) w3 ((w3.setCell ⟨w.heap.size, 0, none⟩ (.slice a1 L1.length c1)).setCell ⟨w.heap.size + 1, 0, none⟩ (.slice a2 L2.length c2)) := ((Turned.refl _ _ _).set (p := ⟨w.heap.size, 0, none⟩) (Nat.le_refl _) (by show w.heap.size < _; omega) _).set (p := ⟨w.heap.size + 1, 0, none⟩) (by show w.heap.size ≤ w.heap.size + 1; omega) (by show w.heap.size + 1 < _; omega) _
    exact ⟨L1, a1, c1, L2, a2, c2, m, ⟨hm, hL1, hL2⟩, rfl, (t.ints H3.out.2.2.2.1 (Or.inr (by omega))).wide (by omega) (by simp; omega), (t.ints H3.out.2.2.2.2 (Or.inr (by omega))).wide (by omega) (by simp), (H3.out.2.2.1.setCell (p := ⟨w.heap.size, 0, none⟩) (Nat.le_refl _) _).setCell (p := ⟨w.heap.size + 1, 0, none⟩) (by show w.heap.size ≤ w.heap.size + 1; omega) _⟩
  have r0 := H3.out.1.cell 0 rfl
  have rf0 := H3.out.1.frz 0 (by simp)
  have rz0 := H3.out.1.2
  have s0 := H3.out.2.1.cell 0 rfl
  have sf0 := H3.out.2.1.frz 0 (by simp)
  have sz0 := H3.out.2.1.2
  clear H3 hL1 hL2
  generalize L1.length = l1 at *
  generalize L2.length = l2 at *
  go_wp2
  exact bodyPost_ret (v := .tuple #[.agg #[.slice a1 l1 c1], .agg #[.slice a2 l2 c2], .int .i64 m]) (by simp [results, Try.results23, go_sem, *]) rfl HP.out

/-- Groups that were drawn so far. -/
def AdH (W w0 : World) (g : Nat) (a : Option Addr) (n cap : Nat) (X : Nat → Int) (t : Nat) (v : Value) (k : Nat) (V : Nat → GV) (A : Nat → GA) (b : Nat → Nat) : Prop := GyB W w0.heap.size v k V A b ∧ Drew g a n cap X t w0 W ∧ ∀ i, i < k → (V i).n ≤ 14 ∧ GOk (A i) (V i)
theorem AdH.draw {W W' w0 : World} {g : Nat} {a : Option Addr} {n cap : Nat} {X : Nat → Int} {t t' : Nat} {v : Value} {k : Nat} {V : Nat → GV} {A : Nat → GA} {b : Nat → Nat} (h : AdH W w0 g a n cap X t v k V A b) (hd : Drew g a n cap X t' W W') (hg : g < w0.heap.size) : AdH W' w0 g a n cap X t' v k V A b := ⟨h.1.trn hd.2 hg, h.2.1.trans hd, h.2.2⟩
theorem AdH.alloc {W w0 : World} {g : Nat} {a : Option Addr} {n cap : Nat} {X : Nat → Int} {t : Nat} {v : Value} {k : Nat} {V : Nat → GV} {A : Nat → GA} {b : Nat → Nat} (h : AdH W w0 g a n cap X t v k V A b) (o : Obj) : AdH (W.alloc o) w0 g a n cap X t v k V A b := ⟨h.1.alloc o, h.2.1.alloc o, h.2.2⟩
theorem formed_ok {a : Option Addr} {L : List Int} {c : Nat} (h : Formed a L.length c) : GOk ⟨a, c⟩ ⟨L.length, atZ L⟩ := h.1
theorem AdH.app {W W' w0 : World} {g lo2 : Nat} {a : Option Addr} {n cap : Nat} {X : Nat → Int} {t : Nat} {v v' : Value} {k : Nat} {V : Nat → GV} {A : Nat → GA} {b : Nat → Nat} {L : List Int} {a5 : Option Addr} {c5 : Nat} (h : AdH W w0 g a n cap X t v k V A b) (hg : g < w0.heap.size) (hlo : w0.heap.size ≤ lo2) (hv : ∀ k, v.ownBlock = some k → k < lo2)
    (hi : IntS W lo2 W.heap.size a5 L.length (atZ L)) (hf : Formed a5 L.length c5) (hL : L.length ≤ 14) (hgr : W.grownBy W' v.ownBlock) (hown : W'.ownsRow w0.heap.size 25 1 v' (k + 1) (gC V A k ++ [.slice a5 L.length c5]))
    (hwh : v'.ownBlock = v.ownBlock ∨ v'.ownBlock = some W.heap.size) : ∃ V' A' b', AdH W' w0 g a n cap X t v' (k + 1) V' A' b' := by
  obtain ⟨b', h'⟩ := h.1.app (X := ⟨L.length, atZ L⟩) (a := a5) (c := c5) hlo hv hi hgr hown hwh
  refine ⟨_, _, b', h', h.2.1.grown hgr hg (fun j hj => (h.1.1.lt j hj).1), fun i hi => ?_⟩
  by_cases e : i = k
  · simp only [if_pos e]; exact ⟨hL, formed_ok hf⟩
  · simp only [if_neg e]; exact h.2.2 i (by omega)
theorem AdH.many {W W' w0 : World} {g q : Nat} {a : Option Addr} {n cap : Nat} {X : Nat → Int} {t : Nat} {v v' : Value} {k : Nat} {V : Nat → GV} {A : Nat → GA} {b : Nat → Nat} (h : AdH W w0 g a n cap X t v k V A b) (hg : g < w0.heap.size)
    (hgr : W.grownBy W' v.ownBlock) (hown : W'.ownsRow w0.heap.size 25 1 v' (k + q) (gC V A k ++ List.replicate q (.slice none 0 0)))
    (hwh : v'.ownBlock = v.ownBlock ∨ v'.ownBlock = some W.heap.size) : ∃ V' A' b', AdH W' w0 g a n cap X t v' (k + q) V' A' b' := by
  have h' := h.1.many (k := q) hgr hown hwh
  refine ⟨_, _, b, h', h.2.1.grown hgr hg (fun j hj => (h.1.1.lt j hj).1), fun i hi => ?_⟩
  by_cases e : i < k
  · simp only [if_pos e]; exact h.2.2 i e
  · simp only [if_neg e]; exact ⟨by omega, Or.inr ⟨rfl, rfl, rfl⟩⟩
/-- A list of groups as it lies. -/
def GaAt (W : World) (a : Option Addr) (k cap : Nat) (V : Nat → GV) (A : Nat → GA) : Prop := (k ≤ 46 ∧ k ≤ cap ∧ cap ≤ maxLen) ∧ GsS W a k V A ∧ ∀ i, i < k → (V i).n ≤ 14 ∧ GOk (A i) (V i)
def GaDrew (w : World) (r : Ending) (w' : World) : Prop := ∃ (m : Int) (a : Option Addr) (k cap : Nat) (V : Nat → GV) (A : Nat → GA), (0 ≤ m ∧ m ≤ 13) ∧ r = .returned (.tuple #[.int .i64 m, .slice a k cap]) ∧ GaAt w' a k cap V A ∧ Below w.heap.size w w'
theorem AdH.post {W w w0 : World} {g : Nat} {a : Option Addr} {n cap : Nat} {X : Nat → Int} {t : Nat} {v : Value} {k : Nat} {V : Nat → GV} {A : Nat → GA} {b : Nat → Nat} {m : Int} (h : AdH W w0 g a n cap X t v k V A b) (hb : Below w.heap.size w w0) (hg : w.heap.size ≤ g) (hk : k ≤ 46) (hm : 0 ≤ m ∧ m ≤ 13) :
    ∃ a5 c5, v = .slice a5 k c5 ∧ GaDrew w (.returned (.tuple #[.int .i64 m, .slice a5 k c5])) W := by
  obtain ⟨a5, c5, e, hs, h1, h2⟩ := h.1.post
  exact ⟨a5, c5, e, m, a5, k, c5, V, A, hm, rfl, ⟨⟨hk, h1, h2⟩, hs, h.2.2⟩, below_trn hb h.2.1.2 (by omega)⟩

set_option maxRecDepth 100000 in
set_option maxHeartbeats 4000000 in
theorem drawAll_any (a : Option Addr) (n cap : Nat) (X : Nat → Int) (w : World) (hn : n ≤ 9223372036854775807) (hs : Sl w a n 1 (byF X)) (hX : ∀ i, i < n → 0 ≤ X i ∧ X i ≤ 255) :
    Calls Try.prog 26 #[.slice a n cap] w (GaDrew w) := by
  obtain ⟨i0, hi0, hz0, hz1, hz2⟩ := info_parts info_group
  obtain ⟨w0, hw0⟩ : ∃ x, x = w.alloc (.cells #[.slice a n cap, .int .i64 0, .int .u64 0] 72) := ⟨_, rfl⟩
  have H0 : Hid (Cur w0 w.heap.size a n cap X 0 ∧ Below w.heap.size w w0) := by
    rw [hw0]
    exact ⟨Cur.new 72 hs hn hX, Go.Joins.below_alloc1 _ _⟩
  clear hs hX
  go_enter Try.func26, Try.ntmps26
  go_wp2_with fail
  rw [← hw0]
  clear hw0
  have hgz : w.heap.size < w0.heap.size := H0.out.1.2.2.2.2.2.1
  refine (nodes_any _ _ _ _ _ _ _ (by omega) H0.out.1).mono ?_
  rintro _ w1 ⟨m, hm, rfl, hd⟩
  have H1 : Hid (Drew w.heap.size a n cap X 4 w0 w1) := hd
  clear hd
  go_wp2_with fail
  refine (pick_any _ _ _ _ _ _ _ _ (by omega) (by omega) H1.out.1).mono ?_
  rintro _ w2 ⟨x2, hx2, rfl, hd⟩
  have H2 : Hid (AdH w2 w0 w.heap.size a n cap X 6 (.slice none 0 0) 0 (fun _ => default) (fun _ => default) (fun _ => 0)) := ⟨GyB.nil _ _ _, H1.out.trans hd, fun i hi => absurd hi (by omega)⟩
  clear hd H1
  obtain ⟨M, hM, hMe⟩ : ∃ M : Nat, M ≤ 5 ∧ x2 = (M : Int) := ⟨x2.toNat, by omega, by omega⟩
  subst hMe
  clear hx2
  go_wp2
  go_loopw [7, 6] (fun y v wr => ∃ (k : Nat) (V : Nat → GV) (A : Nat → GA) (b : Nat → Nat), k ≤ M ∧ y = .int .i64 ((M : Int) - (k : Int)) ∧ AdH wr w0 w.heap.size a n cap X (6 + 40 * k) v k V A b) (fun y _ _ => (intOf y).toNat)
  case atStart => exact ⟨0, _, _, _, Nat.zero_le _, by congr 1 <;> omega, H2.out⟩
  case round =>
    obtain ⟨k, V, A, b, hk, rfl, hH⟩ := hrel
    have HH : Hid (AdH wr w0 w.heap.size a n cap X (6 + 40 * k) u6 k V A b) := hH
    clear hH H2
    have hzr : w0.heap.size ≤ wr.heap.size := HH.out.2.1.2.2.2.2.1
    by_cases hlt : k < M
    · have hlt' : (0 : Int) < (M : Int) - (k : Int) := by omega
      go_wp2_with fail
      refine (group_any _ _ _ _ _ _ _ _ (by omega) (by omega) HH.out.2.1.1).mono ?_
      rintro _ w3 ⟨L, a5, c5, hL, rfl, hi, hf, hd⟩
      have H3 : Hid (AdH w3 w0 w.heap.size a n cap X (6 + 40 * (k + 1)) u6 k V A b ∧ IntS w3 wr.heap.size w3.heap.size a5 L.length (atZ L) ∧ Formed a5 L.length c5 ∧ ∀ j, u6.ownBlock = some j → j < wr.heap.size) := ⟨HH.out.draw hd hgz, hi, hf, fun j hj => (HH.out.1.1.lt j hj).2⟩
      have hz3 : wr.heap.size ≤ w3.heap.size := hd.2.2.2.2.1
      clear hd hi hf HH
      obtain ⟨l, hl⟩ : ∃ l, l = L.length := ⟨_, rfl⟩
      have HL : Hid (l = L.length) := hl
      rw [← hl]
      rw [← hl] at hL
      clear hl
      go_wp2_with (first
        | (at_builtin; refine wpList_append_own_at _ rfl (.tmp 19) (.tmp 23) 38 rfl w0.heap.size 25 i0 (.agg #[.slice none 0 0]) 1 24 Try.underlying38 hi0 hz0 hz1 hz2 rfl (by decide) u6 k (gC V A k) rfl (World.ownsRow.alloc H3.out.1.1.1 _) ⟨_, 0, none⟩ 1 1 [.slice a5 l c5] rfl rfl (one_cell _ _ _) (by intro u hu; simp at hu; subst hu; rfl) (by unfold maxLen; omega) (by omega) (by simp <;> omega) ?_; intro v4 w4 hown hgrow hnil hwh))
      have HF : Hid (∃ V' A' b', AdH w4 w0 w.heap.size a n cap X (6 + 40 * (k + 1)) v4 (k + 1) V' A' b') := by
        have e := HL.out
        subst e
        have hba : Below w3.heap.size w3 (w3.alloc (.cells #[.slice a5 L.length c5] 25)) := Go.Joins.below_alloc1 _ _
        exact (H3.out.1.alloc _).app hgz hzr H3.out.2.2.2 ((H3.out.2.1.below hba (Nat.le_refl _)).wide (Nat.le_refl _) (by simp)) H3.out.2.2.1 hL hgrow hown (by simpa using hwh)
      clear hown hgrow hnil hwh H3
      go_wp2
      go_roundw
      case rel =>
        obtain ⟨V', A', b', h'⟩ := HF.out
        exact ⟨k + 1, V', A', b', by omega, by congr 1; omega, h'⟩
      case measure => simp [intOf]; omega
    · have hlt' : ¬ (0 : Int) < (M : Int) - (k : Int) := by omega
      go_wp2_with fail
      refine (one_any _ _ _ _ _ _ _ _ (by omega) (by omega) HH.out.2.1.1).mono ?_
      rintro _ w3 ⟨b3, rfl, hd⟩
      have H3 : Hid (AdH w3 w0 w.heap.size a n cap X (6 + 40 * k + 2) u6 k V A b) := HH.out.draw hd hgz
      have hz3 : wr.heap.size ≤ w3.heap.size := hd.2.2.2.2.1
      clear hd HH
      cases b3
      · obtain ⟨a5, c5, rfl, hp⟩ := H3.out.post (m := m) H0.out.2 (Nat.le_refl _) (by omega) hm
        have HP : Hid (GaDrew w (.returned (.tuple #[.int .i64 m, .slice a5 k c5])) w3) := hp
        clear hp H3
        go_wp2
        go_ret2
        exact HP.out
      · go_wp2_with (first
          | (at_builtin; refine wpList_zeros_own _ rfl _ _ _ _ rfl w0.heap.size 25 i0 (.agg #[.slice none 0 0]) .i64 .i64 1 24 Try.underlying38 (by rfl) hi0 hz0 hz1 hz2 rfl (by decide) u6 k (gC V A k) rfl H3.out.1.1 40 rfl (by omega) (List.replicate 40 (.slice none 0 0)) zero_groups (by intro u hu; rw [List.eq_of_mem_replicate hu]; rfl) (by unfold maxLen; omega) (by omega) (by omega) ?_; intro v4 w4 hown hgrow hwh))
        have HF : Hid (∃ V' A' b', AdH w4 w0 w.heap.size a n cap X (6 + 40 * k + 2) v4 (k + 40) V' A' b') := H3.out.many hgz hgrow hown hwh
        clear hown hgrow hwh H3
        obtain ⟨V', A', b', h'⟩ := HF.out
        obtain ⟨a5, c5, rfl, hp⟩ := h'.post (m := m) H0.out.2 (Nat.le_refl _) (by omega) hm
        have HP : Hid (GaDrew w (.returned (.tuple #[.int .i64 m, .slice a5 (k + 40) c5])) w4) := hp
        clear hp HF h'
        generalize k + 40 = q at *
        go_wp2
        go_ret2
        exact HP.out
end Go.Proofs.Ytalnmollgielcaa
