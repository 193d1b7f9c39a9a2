/- At every two groups and every number impl.MeetOf answers as the specification does, writes into no argument, its answer owns its memory, and each argument reads behind the call as it read before. No condition. -/
import Derived.Test.YtalnmollgielcaaMtO
import Derived.Test.YtalnmollgielcaaGrL
import Derived.Test.YtalnmollgielcaaOpenG
import Derived.Test.YtalnmollgielcaaRg2
import Derived.Test.YtalnmollgielcaaWords
import Derived.ProofKit
import Derived.OpenShut
import Derived.ShutString
import Derived.ChangeOld
import Derived.Below
import Derived.Lib.SmallJoins
namespace Go.Proofs.Ytalnmollgielcaa.xMeetOf
open Go.ChangeShapes Go.WideShapes Go.ChangeAt Go.RowKit
open Go.ChangeMaps (open_string shut_string)
set_option linter.unusedVariables false

theorem ints_apart {w : World} {B C g n : Nat} {a : Option Addr} {X : Nat → Int} {v : Value} (h : IntS w B C a n X) (hg : g < B ∨ C ≤ g) : IntS (w.setCell ⟨g, 0, none⟩ v) B C a n X := by
  have t : Turned g (g + 1) w (w.setCell ⟨g, 0, none⟩ v) := (Turned.refl _ _ _).set (p := ⟨g, 0, none⟩) (Nat.le_refl _) (by show g < g + 1; omega) _
  exact t.ints h (by omega)
set_option maxRecDepth 100000 in
set_option maxHeartbeats 4000000 in
theorem walk (a : Option Addr) (n cap : Nat) (X : Nat → Int) (w : World) (hm : n ≤ maxLen) (hs : Sl w a n 1 (intF X)) (a' : Option Addr) (p cap' : Nat) (Y : Nat → Int) (hm' : p ≤ maxLen) (hs' : Sl w a' p 1 (intF Y)) (m : Int) (wm : (Lit.int .i64 m).wf = true) :
    Calls Try.prog 14 #[.agg #[.slice a n cap], .agg #[.slice a' p cap'], .int .i64 m] w fun r w' => r = .returned (.bool true) ∧ Below w.heap.size w w' := by
  have HS : Hid (Sl w a n 1 (intF X) ∧ Sl w a' p 1 (intF Y)) := ⟨hs, hs'⟩
  clear hs hs'
  go_enter Try.func14, Try.ntmps14
  go_wp2_with fail
  refine (szGroup_any _ _ _ _ _ hm (by omega) (by omega)).mono ?_
  rintro r w1 ⟨rfl, hb⟩
  have HB1 : Hid (Below w.heap.size w w1) := (((Below.refl _ _).alloc (Nat.le_refl _) _).alloc (by simp) _).trans (hb.mono (by simp; omega))
  have A_1 : Hid (BoxS w1 w.heap.size (.slice a n cap)) := ((BoxS.new w (.slice a n cap) 49).next (Go.Joins.below_alloc1 _ (.cells #[.slice a' p cap'] 49))).next hb
  have D_1 : Hid (BoxS w1 (w.heap.size + 1) (.slice a' p cap')) := Hid.intro (by
    have := (BoxS.new (w.alloc (.cells #[.slice a n cap] 49)) (.slice a' p cap') 49).next hb
    simpa using this)
  clear hb
  by_cases hn : n ≤ 1048576
  case neg =>
    have hlt : (1048576 : Int) < (n : Int) := by omega
    rw [if_pos hlt]
    go_wp2
    go_ret
    exact ⟨rfl, HB1.out⟩
  case pos =>
  have hlt : ¬ (1048576 : Int) - (n : Int) < 0 := by omega
  rw [if_neg (by omega)]
  have cD := D_1.out.1
  go_wp2_with fail
  refine (szGroup_any _ _ _ _ _ hm' (by omega) (by omega)).mono ?_
  rintro r w2 ⟨rfl, hb⟩
  have HB2 : Hid (Below w.heap.size w w2) := below_next HB1.out hb
  have A_2 : Hid (BoxS w2 w.heap.size (.slice a n cap)) := A_1.out.next hb
  have D_2 : Hid (BoxS w2 (w.heap.size + 1) (.slice a' p cap')) := D_1.out.next hb
  clear hb HB1 A_1 D_1 cD
  by_cases hn' : (1048576 : Int) - (n : Int) < (p : Int)
  · rw [if_pos hn']
    go_wp2
    go_ret
    exact ⟨rfl, HB2.out⟩
  have hlt' : ¬ (1048576 : Int) - (n : Int) - (p : Int) < 0 := by omega
  rw [if_neg hn']
  have hp : p ≤ 1048576 := by omega
  have zw2 : w.heap.size + 1 < w2.heap.size := D_2.out.2
  have HSP : Hid (∀ (x y : Option Addr) (e f : Nat) (W : World), Sl W x n 1 (intF X) → Sl W y p 1 (intF Y) → Calls Try.prog 51 #[.agg #[.slice x n e], .agg #[.slice y p f], .int .i64 m] W (GtPost (meL X n Y p m) (meB X n Y p m) W)) := fun x y e f W h1 h2 => specMeetOf_any x n e X y p f Y m W hn hp (wf_bounds wm).1 (wf_bounds wm).2 h1 h2
  have HIM : Hid (∀ (x y : Option Addr) (e f : Nat) (W : World), Sl W x n 1 (intF X) → Sl W y p 1 (intF Y) → Calls Try.prog 22 #[.agg #[.slice x n e], .agg #[.slice y p f], .int .i64 m] W (GtPost (meL X n Y p m) (meB X n Y p m) W)) := fun x y e f W h1 h2 => meetOf_any x n e X y p f Y m W hn hp h1 h2
  have hN0 : (meL X n Y p m).length ≤ 1048576 := Nat.le_trans (meL_len X n Y p m) (by omega)
  generalize meL X n Y p m = L at *
  generalize meB X n Y p m = ok at *
  clear wm
  have hbo := HB2.out
  have szo : w.heap.size ≤ w2.heap.size := hbo.size
  go_upto_region 8 with fail
  go_cut [8, 9] (fun s0 s1 wx => ∃ blk a5 cap5, s0 = .pointer (some ⟨blk, 0, none⟩) ∧ s1 = .bool ok ∧ w2.heap.size ≤ blk ∧ BoxS wx blk (.slice a5 L.length cap5) ∧ RowS wx w2.heap.size wx.heap.size a5 L.length (atZ L) ∧ Below w2.heap.size w2 wx)
  case first =>
    refine wp_region_noPanic ?_
    obtain ⟨v0, hv0⟩ : ∃ x, x = w2.drew := ⟨_, rfl⟩
    have hbd : Below w2.heap.size w2 v0 := hv0 ▸ below_drew _
    have LB_0 : Hid (Below w2.heap.size w2 v0) := hbd
    have sz_0 : w2.heap.size ≤ v0.heap.size := hbd.size
    have bz_A := A_2.out.2
    have bz_D := D_2.out.2
    have A_0 : Hid (BoxS v0 w.heap.size (.slice a n cap)) := A_2.out.next hbd
    have D_0 : Hid (BoxS v0 (w.heap.size + 1) (.slice a' p cap')) := D_2.out.next hbd
    clear hbd
    refine wp_region_held_drew (S := fun W => BoxS W w.heap.size (.slice a n cap) ∧ BoxS W (w.heap.size + 1) (.slice a' p cap')) (by kernel_rfl) (hv0 ▸ ⟨A_0.out, D_0.out⟩) (fun hHeld => ?_)
    rw [← hv0] at hHeld ⊢
    clear hv0
    refine take_v (v := ?_) 0 ⟨some 30, Op.load 49 (Operand.tmp 3), _, _, _, none⟩ rfl (fun _ _ _ h => h) ?_ hHeld ?_
    rotate_left
    · (intro W hSW; (have s0 := hSW.1.1; have s0z := hSW.1.2; have s1 := hSW.2.1; have s1z := hSW.2.2); go_simp <;> (try with_reducible rfl))
    refine take_v (v := ?_) 2 ⟨some 32, Op.load 49 (Operand.tmp 4), _, _, _, none⟩ rfl (fun _ _ _ h => h) ?_ hHeld ?_
    rotate_left
    · (intro W hSW; (have s0 := hSW.1.1; have s0z := hSW.1.2; have s1 := hSW.2.1; have s1z := hSW.2.2); go_simp <;> (try with_reducible rfl))
    refine take_v (v := ?_) 4 ⟨some 34, Op.move (Operand.tmp 2), _, _, _, none⟩ rfl (fun _ _ _ h => h) ?_ hHeld ?_
    rotate_left
    · (intro W _; go_simp <;> (try with_reducible rfl))
    refine ready_two 1 9 ⟨some 31, Op.call { callee := Callee.value (Operand.func 38), args := #[Operand.tmp 30], argTypes := #[49] }, _, _, _, none⟩ ⟨some 8, Op.alloc 25, _, _, _, none⟩ (by kernel_rfl) rfl rfl (by kernel_rfl) (by kernel_rfl) (fun KC hK => ?_) (fun KC hK => ?_)
    ·
      go_wp2_with fail
      refine (toGroup_any _ _ _ X _ hn (HS.out.1.kept (below_next hbo LB_0.out))).mono ?_
      rintro r v1 ⟨⟨ga8, rfl, hi⟩, hb⟩
      have LB_1 : Hid (Below w2.heap.size w2 v1) := below_next LB_0.out hb
      have sz_1 : v0.heap.size ≤ v1.heap.size := hb.size
      have A_1 : Hid (BoxS v1 w.heap.size (.slice a n cap)) := A_0.out.next hb
      have D_1 : Hid (BoxS v1 (w.heap.size + 1) (.slice a' p cap')) := D_0.out.next hb
      have P_1 : Hid (RowS v1 v0.heap.size v1.heap.size (some ⟨ga8, 0, none⟩) n X) := RowS.of hi
      clear hb hi
      refine hK.out _ _ ⟨A_1.out, D_1.out⟩ (fun hHeld => ?_)
      clear hK KC
      refine ready_two 3 9 ⟨some 33, Op.call { callee := Callee.value (Operand.func 38), args := #[Operand.tmp 32], argTypes := #[49] }, _, _, _, none⟩ ⟨some 8, Op.alloc 25, _, _, _, none⟩ (by kernel_rfl) rfl rfl (by kernel_rfl) (by kernel_rfl) (fun KC hK => ?_) (fun KC hK => ?_)
      ·
        go_wp2_with fail
        refine (toGroup_any _ _ _ Y _ hp (HS.out.2.kept (below_next hbo LB_1.out))).mono ?_
        rintro r v2 ⟨⟨gb8, rfl, hi⟩, hb⟩
        have LB_2 : Hid (Below w2.heap.size w2 v2) := below_next LB_1.out hb
        have sz_2 : v1.heap.size ≤ v2.heap.size := hb.size
        have A_2 : Hid (BoxS v2 w.heap.size (.slice a n cap)) := A_1.out.next hb
        have D_2 : Hid (BoxS v2 (w.heap.size + 1) (.slice a' p cap')) := D_1.out.next hb
        have P_2 : Hid (RowS v2 v0.heap.size v1.heap.size (some ⟨ga8, 0, none⟩) n X) := P_1.out.next hb
        have Q_2 : Hid (RowS v2 v1.heap.size v2.heap.size (some ⟨gb8, 0, none⟩) p Y) := RowS.of hi
        clear hb hi
        refine hK.out _ _ ⟨A_2.out, D_2.out⟩ (fun hHeld => ?_)
        clear hK KC
        refine ready_two 5 9 ⟨some 35, Op.call { callee := Callee.value (Operand.func 51), args := #[Operand.tmp 31, Operand.tmp 33, Operand.tmp 34], argTypes := #[25, 25, 3] }, _, _, _, none⟩ ⟨some 8, Op.alloc 25, _, _, _, none⟩ (by kernel_rfl) rfl rfl (by kernel_rfl) (by kernel_rfl) (fun KC hK => ?_) (fun KC hK => ?_)
        ·
          go_wp2_with fail
          refine (HSP.out _ _ _ _ _ P_2.out.sl Q_2.out.sl).mono ?_
          rintro r v3 ⟨⟨a5, cap5, rfl, hi⟩, hb⟩
          have LB_3 : Hid (Below w2.heap.size w2 v3) := below_next LB_2.out hb
          have sz_3 : v2.heap.size ≤ v3.heap.size := hb.size
          have A_3 : Hid (BoxS v3 w.heap.size (.slice a n cap)) := A_2.out.next hb
          have D_3 : Hid (BoxS v3 (w.heap.size + 1) (.slice a' p cap')) := D_2.out.next hb
          have P_3 : Hid (RowS v3 v0.heap.size v1.heap.size (some ⟨ga8, 0, none⟩) n X) := P_2.out.next hb
          have Q_3 : Hid (RowS v3 v1.heap.size v2.heap.size (some ⟨gb8, 0, none⟩) p Y) := Q_2.out.next hb
          have G_3 : Hid (RowS v3 v2.heap.size v3.heap.size a5 L.length (atZ L)) := RowS.of hi
          clear hb hi
          refine hK.out _ _ ⟨A_3.out, D_3.out⟩ (fun hHeld => ?_)
          clear hK KC
          refine take_v (v := ?_) 6 ⟨some 29, Op.move (Operand.tmp 35), _, _, _, none⟩ rfl (fun _ _ _ h => h) ?_ hHeld ?_
          rotate_left
          · (intro W _; go_simp <;> (try with_reducible rfl))
          refine take_v (v := ?_) 7 ⟨some 36, Op.extract (Operand.tmp 29) 0, _, _, _, none⟩ rfl (fun _ _ _ h => h) ?_ hHeld ?_
          rotate_left
          · (intro W _; go_simp <;> (try with_reducible rfl))
          refine take_v (v := ?_) 8 ⟨some 37, Op.extract (Operand.tmp 29) 1, _, _, _, none⟩ rfl (fun _ _ _ h => h) ?_ hHeld ?_
          rotate_left
          · (intro W _; go_simp <;> (try with_reducible rfl))
          refine ready_call 9 ⟨some 8, Op.alloc 25, _, _, _, none⟩ (by kernel_rfl) rfl (by kernel_rfl) (fun KC hK => ?_)
          go_wp2_with fail
          obtain ⟨v4, hvn⟩ : ∃ x, x = v3.alloc (.cells #[.slice none 0 0] 25) := ⟨_, rfl⟩
          have hb : Below v3.heap.size v3 v4 := hvn ▸ Go.Joins.below_alloc1 _ _
          have LB_4 : Hid (Below w2.heap.size w2 v4) := below_next LB_3.out hb
          have sz_4 : v3.heap.size < v4.heap.size := by rw [hvn]; simp
          have A_4 : Hid (BoxS v4 w.heap.size (.slice a n cap)) := A_3.out.next hb
          have D_4 : Hid (BoxS v4 (w.heap.size + 1) (.slice a' p cap')) := D_3.out.next hb
          have P_4 : Hid (RowS v4 v0.heap.size v1.heap.size (some ⟨ga8, 0, none⟩) n X) := P_3.out.next hb
          have Q_4 : Hid (RowS v4 v1.heap.size v2.heap.size (some ⟨gb8, 0, none⟩) p Y) := Q_3.out.next hb
          have G_4 : Hid (RowS v4 v2.heap.size v3.heap.size a5 L.length (atZ L)) := G_3.out.next hb
          have Z_4 : Hid (Bx v4 (v3.heap.size) [.slice none 0 0]) := hvn ▸ Bx.new _ [.slice none 0 0] _
          rw [← hvn]
          clear hb hvn
          refine hK.out _ _ ⟨A_4.out, D_4.out⟩ (fun hHeld => ?_)
          clear hK KC
          refine ready_call 10 ⟨none, Op.store 25 (Operand.tmp 8) (Operand.tmp 36), _, _, _, none⟩ (by kernel_rfl) rfl (by kernel_rfl) (fun KC hK => ?_)
          have zc := Z_4.out.cell 0 rfl
          have zf := Z_4.out.frz 0 (by simp)
          have zz := Z_4.out.2
          go_wp2_with fail
          clear zc zf zz
          refine hK.out _ _ (by first | exact ⟨box_set A_4.out (by have := A_4.out.2; have := LB_4.out.size; omega), box_set D_4.out (by have := D_4.out.2; have := LB_4.out.size; omega)⟩) (fun hHeld => ?_)
          clear hK KC
          refine take_v (v := ?_) 11 ⟨some 9, Op.assign (Operand.tmp 37), _, _, _, none⟩ rfl (fun _ _ _ h => h) ?_ hHeld ?_
          rotate_left
          · (intro W _; go_simp <;> (try with_reducible rfl))
          refine wpAnyH_done (by kernel_rfl) ?_ _
          refine NoPanic.normal ?_
          go_wp2_with fail
          go_meet
          exact ⟨v3.heap.size, a5, cap5, rfl, rfl, by have := LB_4.out.size; omega, ⟨(Z_4.out.set (k := 0) (by simp) _).cell 0 rfl, by simpa using Z_4.out.2⟩, ⟨(ints_apart G_4.out.1 (by omega)).wide (by omega) (by first | (simp; done) | simpa using G_4.out.2), Nat.le_refl _⟩, LB_4.out.setCell (p := ⟨v3.heap.size, 0, none⟩) (by show w2.heap.size ≤ v3.heap.size; omega) _⟩
        ·
          go_wp2_with fail
          obtain ⟨v3, hvn⟩ : ∃ x, x = v2.alloc (.cells #[.slice none 0 0] 25) := ⟨_, rfl⟩
          have hb : Below v2.heap.size v2 v3 := hvn ▸ Go.Joins.below_alloc1 _ _
          have LB_3 : Hid (Below w2.heap.size w2 v3) := below_next LB_2.out hb
          have sz_3 : v2.heap.size < v3.heap.size := by rw [hvn]; simp
          have A_3 : Hid (BoxS v3 w.heap.size (.slice a n cap)) := A_2.out.next hb
          have D_3 : Hid (BoxS v3 (w.heap.size + 1) (.slice a' p cap')) := D_2.out.next hb
          have P_3 : Hid (RowS v3 v0.heap.size v1.heap.size (some ⟨ga8, 0, none⟩) n X) := P_2.out.next hb
          have Q_3 : Hid (RowS v3 v1.heap.size v2.heap.size (some ⟨gb8, 0, none⟩) p Y) := Q_2.out.next hb
          have Z_3 : Hid (Bx v3 (v2.heap.size) [.slice none 0 0]) := hvn ▸ Bx.new _ [.slice none 0 0] _
          rw [← hvn]
          clear hb hvn
          refine hK.out _ _ ⟨A_3.out, D_3.out⟩ (fun hHeld => ?_)
          clear hK KC
          refine ready_call 5 ⟨some 35, Op.call { callee := Callee.value (Operand.func 51), args := #[Operand.tmp 31, Operand.tmp 33, Operand.tmp 34], argTypes := #[25, 25, 3] }, _, _, _, none⟩ (by kernel_rfl) rfl (by kernel_rfl) (fun KC hK => ?_)
          go_wp2_with fail
          refine (HSP.out _ _ _ _ _ P_3.out.sl Q_3.out.sl).mono ?_
          rintro r v4 ⟨⟨a5, cap5, rfl, hi⟩, hb⟩
          have LB_4 : Hid (Below w2.heap.size w2 v4) := below_next LB_3.out hb
          have sz_4 : v3.heap.size ≤ v4.heap.size := hb.size
          have A_4 : Hid (BoxS v4 w.heap.size (.slice a n cap)) := A_3.out.next hb
          have D_4 : Hid (BoxS v4 (w.heap.size + 1) (.slice a' p cap')) := D_3.out.next hb
          have P_4 : Hid (RowS v4 v0.heap.size v1.heap.size (some ⟨ga8, 0, none⟩) n X) := P_3.out.next hb
          have Q_4 : Hid (RowS v4 v1.heap.size v2.heap.size (some ⟨gb8, 0, none⟩) p Y) := Q_3.out.next hb
          have Z_4 : Hid (Bx v4 (v2.heap.size) [.slice none 0 0]) := Z_3.out.next hb
          have G_4 : Hid (RowS v4 v3.heap.size v4.heap.size a5 L.length (atZ L)) := RowS.of hi
          clear hb hi
          refine hK.out _ _ ⟨A_4.out, D_4.out⟩ (fun hHeld => ?_)
          clear hK KC
          refine take_v (v := ?_) 6 ⟨some 29, Op.move (Operand.tmp 35), _, _, _, none⟩ rfl (fun _ _ _ h => h) ?_ hHeld ?_
          rotate_left
          · (intro W _; go_simp <;> (try with_reducible rfl))
          refine take_v (v := ?_) 7 ⟨some 36, Op.extract (Operand.tmp 29) 0, _, _, _, none⟩ rfl (fun _ _ _ h => h) ?_ hHeld ?_
          rotate_left
          · (intro W _; go_simp <;> (try with_reducible rfl))
          refine take_v (v := ?_) 8 ⟨some 37, Op.extract (Operand.tmp 29) 1, _, _, _, none⟩ rfl (fun _ _ _ h => h) ?_ hHeld ?_
          rotate_left
          · (intro W _; go_simp <;> (try with_reducible rfl))
          refine ready_call 10 ⟨none, Op.store 25 (Operand.tmp 8) (Operand.tmp 36), _, _, _, none⟩ (by kernel_rfl) rfl (by kernel_rfl) (fun KC hK => ?_)
          have zc := Z_4.out.cell 0 rfl
          have zf := Z_4.out.frz 0 (by simp)
          have zz := Z_4.out.2
          go_wp2_with fail
          clear zc zf zz
          refine hK.out _ _ (by first | exact ⟨box_set A_4.out (by have := A_4.out.2; have := LB_4.out.size; omega), box_set D_4.out (by have := D_4.out.2; have := LB_4.out.size; omega)⟩) (fun hHeld => ?_)
          clear hK KC
          refine take_v (v := ?_) 11 ⟨some 9, Op.assign (Operand.tmp 37), _, _, _, none⟩ rfl (fun _ _ _ h => h) ?_ hHeld ?_
          rotate_left
          · (intro W _; go_simp <;> (try with_reducible rfl))
          refine wpAnyH_done (by kernel_rfl) ?_ _
          refine NoPanic.normal ?_
          go_wp2_with fail
          go_meet
          exact ⟨v2.heap.size, a5, cap5, rfl, rfl, by have := LB_4.out.size; omega, ⟨(Z_4.out.set (k := 0) (by simp) _).cell 0 rfl, by simpa using Z_4.out.2⟩, ⟨(ints_apart G_4.out.1 (by omega)).wide (by omega) (by first | (simp; done) | simpa using G_4.out.2), Nat.le_refl _⟩, LB_4.out.setCell (p := ⟨v2.heap.size, 0, none⟩) (by show w2.heap.size ≤ v2.heap.size; omega) _⟩
      ·
        go_wp2_with fail
        obtain ⟨v2, hvn⟩ : ∃ x, x = v1.alloc (.cells #[.slice none 0 0] 25) := ⟨_, rfl⟩
        have hb : Below v1.heap.size v1 v2 := hvn ▸ Go.Joins.below_alloc1 _ _
        have LB_2 : Hid (Below w2.heap.size w2 v2) := below_next LB_1.out hb
        have sz_2 : v1.heap.size < v2.heap.size := by rw [hvn]; simp
        have A_2 : Hid (BoxS v2 w.heap.size (.slice a n cap)) := A_1.out.next hb
        have D_2 : Hid (BoxS v2 (w.heap.size + 1) (.slice a' p cap')) := D_1.out.next hb
        have P_2 : Hid (RowS v2 v0.heap.size v1.heap.size (some ⟨ga8, 0, none⟩) n X) := P_1.out.next hb
        have Z_2 : Hid (Bx v2 (v1.heap.size) [.slice none 0 0]) := hvn ▸ Bx.new _ [.slice none 0 0] _
        rw [← hvn]
        clear hb hvn
        refine hK.out _ _ ⟨A_2.out, D_2.out⟩ (fun hHeld => ?_)
        clear hK KC
        refine ready_call 3 ⟨some 33, Op.call { callee := Callee.value (Operand.func 38), args := #[Operand.tmp 32], argTypes := #[49] }, _, _, _, none⟩ (by kernel_rfl) rfl (by kernel_rfl) (fun KC hK => ?_)
        go_wp2_with fail
        refine (toGroup_any _ _ _ Y _ hp (HS.out.2.kept (below_next hbo LB_2.out))).mono ?_
        rintro r v3 ⟨⟨gb8, rfl, hi⟩, hb⟩
        have LB_3 : Hid (Below w2.heap.size w2 v3) := below_next LB_2.out hb
        have sz_3 : v2.heap.size ≤ v3.heap.size := hb.size
        have A_3 : Hid (BoxS v3 w.heap.size (.slice a n cap)) := A_2.out.next hb
        have D_3 : Hid (BoxS v3 (w.heap.size + 1) (.slice a' p cap')) := D_2.out.next hb
        have P_3 : Hid (RowS v3 v0.heap.size v1.heap.size (some ⟨ga8, 0, none⟩) n X) := P_2.out.next hb
        have Z_3 : Hid (Bx v3 (v1.heap.size) [.slice none 0 0]) := Z_2.out.next hb
        have Q_3 : Hid (RowS v3 v2.heap.size v3.heap.size (some ⟨gb8, 0, none⟩) p Y) := RowS.of hi
        clear hb hi
        refine hK.out _ _ ⟨A_3.out, D_3.out⟩ (fun hHeld => ?_)
        clear hK KC
        refine ready_call 5 ⟨some 35, Op.call { callee := Callee.value (Operand.func 51), args := #[Operand.tmp 31, Operand.tmp 33, Operand.tmp 34], argTypes := #[25, 25, 3] }, _, _, _, none⟩ (by kernel_rfl) rfl (by kernel_rfl) (fun KC hK => ?_)
        go_wp2_with fail
        refine (HSP.out _ _ _ _ _ P_3.out.sl Q_3.out.sl).mono ?_
        rintro r v4 ⟨⟨a5, cap5, rfl, hi⟩, hb⟩
        have LB_4 : Hid (Below w2.heap.size w2 v4) := below_next LB_3.out hb
        have sz_4 : v3.heap.size ≤ v4.heap.size := hb.size
        have A_4 : Hid (BoxS v4 w.heap.size (.slice a n cap)) := A_3.out.next hb
        have D_4 : Hid (BoxS v4 (w.heap.size + 1) (.slice a' p cap')) := D_3.out.next hb
        have P_4 : Hid (RowS v4 v0.heap.size v1.heap.size (some ⟨ga8, 0, none⟩) n X) := P_3.out.next hb
        have Z_4 : Hid (Bx v4 (v1.heap.size) [.slice none 0 0]) := Z_3.out.next hb
        have Q_4 : Hid (RowS v4 v2.heap.size v3.heap.size (some ⟨gb8, 0, none⟩) p Y) := Q_3.out.next hb
        have G_4 : Hid (RowS v4 v3.heap.size v4.heap.size a5 L.length (atZ L)) := RowS.of hi
        clear hb hi
        refine hK.out _ _ ⟨A_4.out, D_4.out⟩ (fun hHeld => ?_)
        clear hK KC
        refine take_v (v := ?_) 6 ⟨some 29, Op.move (Operand.tmp 35), _, _, _, none⟩ rfl (fun _ _ _ h => h) ?_ hHeld ?_
        rotate_left
        · (intro W _; go_simp <;> (try with_reducible rfl))
        refine take_v (v := ?_) 7 ⟨some 36, Op.extract (Operand.tmp 29) 0, _, _, _, none⟩ rfl (fun _ _ _ h => h) ?_ hHeld ?_
        rotate_left
        · (intro W _; go_simp <;> (try with_reducible rfl))
        refine take_v (v := ?_) 8 ⟨some 37, Op.extract (Operand.tmp 29) 1, _, _, _, none⟩ rfl (fun _ _ _ h => h) ?_ hHeld ?_
        rotate_left
        · (intro W _; go_simp <;> (try with_reducible rfl))
        refine ready_call 10 ⟨none, Op.store 25 (Operand.tmp 8) (Operand.tmp 36), _, _, _, none⟩ (by kernel_rfl) rfl (by kernel_rfl) (fun KC hK => ?_)
        have zc := Z_4.out.cell 0 rfl
        have zf := Z_4.out.frz 0 (by simp)
        have zz := Z_4.out.2
        go_wp2_with fail
        clear zc zf zz
        refine hK.out _ _ (by first | exact ⟨box_set A_4.out (by have := A_4.out.2; have := LB_4.out.size; omega), box_set D_4.out (by have := D_4.out.2; have := LB_4.out.size; omega)⟩) (fun hHeld => ?_)
        clear hK KC
        refine take_v (v := ?_) 11 ⟨some 9, Op.assign (Operand.tmp 37), _, _, _, none⟩ rfl (fun _ _ _ h => h) ?_ hHeld ?_
        rotate_left
        · (intro W _; go_simp <;> (try with_reducible rfl))
        refine wpAnyH_done (by kernel_rfl) ?_ _
        refine NoPanic.normal ?_
        go_wp2_with fail
        go_meet
        exact ⟨v1.heap.size, a5, cap5, rfl, rfl, by have := LB_4.out.size; omega, ⟨(Z_4.out.set (k := 0) (by simp) _).cell 0 rfl, by simpa using Z_4.out.2⟩, ⟨(ints_apart G_4.out.1 (by omega)).wide (by omega) (by first | (simp; done) | simpa using G_4.out.2), Nat.le_refl _⟩, LB_4.out.setCell (p := ⟨v1.heap.size, 0, none⟩) (by show w2.heap.size ≤ v1.heap.size; omega) _⟩
    ·
      go_wp2_with fail
      obtain ⟨v1, hvn⟩ : ∃ x, x = v0.alloc (.cells #[.slice none 0 0] 25) := ⟨_, rfl⟩
      have hb : Below v0.heap.size v0 v1 := hvn ▸ Go.Joins.below_alloc1 _ _
      have LB_1 : Hid (Below w2.heap.size w2 v1) := below_next LB_0.out hb
      have sz_1 : v0.heap.size < v1.heap.size := by rw [hvn]; simp
      have A_1 : Hid (BoxS v1 w.heap.size (.slice a n cap)) := A_0.out.next hb
      have D_1 : Hid (BoxS v1 (w.heap.size + 1) (.slice a' p cap')) := D_0.out.next hb
      have Z_1 : Hid (Bx v1 (v0.heap.size) [.slice none 0 0]) := hvn ▸ Bx.new _ [.slice none 0 0] _
      rw [← hvn]
      clear hb hvn
      refine hK.out _ _ ⟨A_1.out, D_1.out⟩ (fun hHeld => ?_)
      clear hK KC
      refine ready_call 1 ⟨some 31, Op.call { callee := Callee.value (Operand.func 38), args := #[Operand.tmp 30], argTypes := #[49] }, _, _, _, none⟩ (by kernel_rfl) rfl (by kernel_rfl) (fun KC hK => ?_)
      go_wp2_with fail
      refine (toGroup_any _ _ _ X _ hn (HS.out.1.kept (below_next hbo LB_1.out))).mono ?_
      rintro r v2 ⟨⟨ga8, rfl, hi⟩, hb⟩
      have LB_2 : Hid (Below w2.heap.size w2 v2) := below_next LB_1.out hb
      have sz_2 : v1.heap.size ≤ v2.heap.size := hb.size
      have A_2 : Hid (BoxS v2 w.heap.size (.slice a n cap)) := A_1.out.next hb
      have D_2 : Hid (BoxS v2 (w.heap.size + 1) (.slice a' p cap')) := D_1.out.next hb
      have Z_2 : Hid (Bx v2 (v0.heap.size) [.slice none 0 0]) := Z_1.out.next hb
      have P_2 : Hid (RowS v2 v1.heap.size v2.heap.size (some ⟨ga8, 0, none⟩) n X) := RowS.of hi
      clear hb hi
      refine hK.out _ _ ⟨A_2.out, D_2.out⟩ (fun hHeld => ?_)
      clear hK KC
      refine ready_call 3 ⟨some 33, Op.call { callee := Callee.value (Operand.func 38), args := #[Operand.tmp 32], argTypes := #[49] }, _, _, _, none⟩ (by kernel_rfl) rfl (by kernel_rfl) (fun KC hK => ?_)
      go_wp2_with fail
      refine (toGroup_any _ _ _ Y _ hp (HS.out.2.kept (below_next hbo LB_2.out))).mono ?_
      rintro r v3 ⟨⟨gb8, rfl, hi⟩, hb⟩
      have LB_3 : Hid (Below w2.heap.size w2 v3) := below_next LB_2.out hb
      have sz_3 : v2.heap.size ≤ v3.heap.size := hb.size
      have A_3 : Hid (BoxS v3 w.heap.size (.slice a n cap)) := A_2.out.next hb
      have D_3 : Hid (BoxS v3 (w.heap.size + 1) (.slice a' p cap')) := D_2.out.next hb
      have Z_3 : Hid (Bx v3 (v0.heap.size) [.slice none 0 0]) := Z_2.out.next hb
      have P_3 : Hid (RowS v3 v1.heap.size v2.heap.size (some ⟨ga8, 0, none⟩) n X) := P_2.out.next hb
      have Q_3 : Hid (RowS v3 v2.heap.size v3.heap.size (some ⟨gb8, 0, none⟩) p Y) := RowS.of hi
      clear hb hi
      refine hK.out _ _ ⟨A_3.out, D_3.out⟩ (fun hHeld => ?_)
      clear hK KC
      refine ready_call 5 ⟨some 35, Op.call { callee := Callee.value (Operand.func 51), args := #[Operand.tmp 31, Operand.tmp 33, Operand.tmp 34], argTypes := #[25, 25, 3] }, _, _, _, none⟩ (by kernel_rfl) rfl (by kernel_rfl) (fun KC hK => ?_)
      go_wp2_with fail
      refine (HSP.out _ _ _ _ _ P_3.out.sl Q_3.out.sl).mono ?_
      rintro r v4 ⟨⟨a5, cap5, rfl, hi⟩, hb⟩
      have LB_4 : Hid (Below w2.heap.size w2 v4) := below_next LB_3.out hb
      have sz_4 : v3.heap.size ≤ v4.heap.size := hb.size
      have A_4 : Hid (BoxS v4 w.heap.size (.slice a n cap)) := A_3.out.next hb
      have D_4 : Hid (BoxS v4 (w.heap.size + 1) (.slice a' p cap')) := D_3.out.next hb
      have Z_4 : Hid (Bx v4 (v0.heap.size) [.slice none 0 0]) := Z_3.out.next hb
      have P_4 : Hid (RowS v4 v1.heap.size v2.heap.size (some ⟨ga8, 0, none⟩) n X) := P_3.out.next hb
      have Q_4 : Hid (RowS v4 v2.heap.size v3.heap.size (some ⟨gb8, 0, none⟩) p Y) := Q_3.out.next hb
      have G_4 : Hid (RowS v4 v3.heap.size v4.heap.size a5 L.length (atZ L)) := RowS.of hi
      clear hb hi
      refine hK.out _ _ ⟨A_4.out, D_4.out⟩ (fun hHeld => ?_)
      clear hK KC
      refine take_v (v := ?_) 6 ⟨some 29, Op.move (Operand.tmp 35), _, _, _, none⟩ rfl (fun _ _ _ h => h) ?_ hHeld ?_
      rotate_left
      · (intro W _; go_simp <;> (try with_reducible rfl))
      refine take_v (v := ?_) 7 ⟨some 36, Op.extract (Operand.tmp 29) 0, _, _, _, none⟩ rfl (fun _ _ _ h => h) ?_ hHeld ?_
      rotate_left
      · (intro W _; go_simp <;> (try with_reducible rfl))
      refine take_v (v := ?_) 8 ⟨some 37, Op.extract (Operand.tmp 29) 1, _, _, _, none⟩ rfl (fun _ _ _ h => h) ?_ hHeld ?_
      rotate_left
      · (intro W _; go_simp <;> (try with_reducible rfl))
      refine ready_call 10 ⟨none, Op.store 25 (Operand.tmp 8) (Operand.tmp 36), _, _, _, none⟩ (by kernel_rfl) rfl (by kernel_rfl) (fun KC hK => ?_)
      have zc := Z_4.out.cell 0 rfl
      have zf := Z_4.out.frz 0 (by simp)
      have zz := Z_4.out.2
      go_wp2_with fail
      clear zc zf zz
      refine hK.out _ _ (by first | exact ⟨box_set A_4.out (by have := A_4.out.2; have := LB_4.out.size; omega), box_set D_4.out (by have := D_4.out.2; have := LB_4.out.size; omega)⟩) (fun hHeld => ?_)
      clear hK KC
      refine take_v (v := ?_) 11 ⟨some 9, Op.assign (Operand.tmp 37), _, _, _, none⟩ rfl (fun _ _ _ h => h) ?_ hHeld ?_
      rotate_left
      · (intro W _; go_simp <;> (try with_reducible rfl))
      refine wpAnyH_done (by kernel_rfl) ?_ _
      refine NoPanic.normal ?_
      go_wp2_with fail
      go_meet
      exact ⟨v0.heap.size, a5, cap5, rfl, rfl, by have := LB_4.out.size; omega, ⟨(Z_4.out.set (k := 0) (by simp) _).cell 0 rfl, by simpa using Z_4.out.2⟩, ⟨(ints_apart G_4.out.1 (by omega)).wide (by omega) (by first | (simp; done) | simpa using G_4.out.2), Nat.le_refl _⟩, LB_4.out.setCell (p := ⟨v0.heap.size, 0, none⟩) (by show w2.heap.size ≤ v0.heap.size; omega) _⟩
  case rest =>
    obtain ⟨blkS, aS, capS, rfl, rfl, hloS, hbx, hrw, hb⟩ := hcut
    obtain ⟨y3, hy⟩ : ∃ x, x = wc := ⟨wc, rfl⟩
    subst hy
    have hblS : blkS < y3.heap.size := hbx.2
    have HB3 : Hid (Below w.heap.size w y3) := below_next HB2.out hb
    have sz3 : w2.heap.size ≤ y3.heap.size := hb.size
    have A_3 : Hid (BoxS y3 w.heap.size (.slice a n cap)) := A_2.out.next hb
    have D_3 : Hid (BoxS y3 (w.heap.size + 1) (.slice a' p cap')) := D_2.out.next hb
    have SB_3 : Hid (BoxS y3 blkS (.slice aS L.length capS)) := hbx
    have S_3 : Hid (RowS y3 w2.heap.size y3.heap.size aS L.length (atZ L)) := hrw
    clear hb hbx hrw hbo szo A_2 D_2 HB2
    have cA := A_3.out.1
    have zA := A_3.out.2
    go_wp2_with fail
    refine (toGroup_any _ _ _ X _ hn (HS.out.1.kept HB3.out)).mono ?_
    rintro r w4 ⟨⟨g4, rfl, hi⟩, hb⟩
    have HB4 : Hid (Below w.heap.size w w4) := below_next HB3.out hb
    have sz4 : y3.heap.size ≤ w4.heap.size := hb.size
    have A_4 : Hid (BoxS w4 w.heap.size (.slice a n cap)) := A_3.out.next hb
    have D_4 : Hid (BoxS w4 (w.heap.size + 1) (.slice a' p cap')) := D_3.out.next hb
    have SB_4 : Hid (BoxS w4 blkS (.slice aS L.length capS)) := SB_3.out.next hb
    have S_4 : Hid (RowS w4 w2.heap.size y3.heap.size aS L.length (atZ L)) := S_3.out.next hb
    have P_4 : Hid (RowS w4 y3.heap.size w4.heap.size (some ⟨g4, 0, none⟩) n X) := RowS.of hi
    clear hb hi cA zA A_3 D_3 SB_3 S_3 HB3
    have cD := D_4.out.1
    have zD := D_4.out.2
    go_wp2_with fail
    obtain ⟨w5, hw5⟩ : ∃ x, x = w4.alloc (.cells #[.slice (some ⟨g4, 0, none⟩) n n] 25) := ⟨_, rfl⟩
    have hb : Below w4.heap.size w4 w5 := hw5 ▸ Go.Joins.below_alloc1 _ _
    have HB5 : Hid (Below w.heap.size w w5) := below_next HB4.out hb
    have sz5 : w4.heap.size < w5.heap.size := by rw [hw5]; simp
    have A_5 : Hid (BoxS w5 w.heap.size (.slice a n cap)) := A_4.out.next hb
    have D_5 : Hid (BoxS w5 (w.heap.size + 1) (.slice a' p cap')) := D_4.out.next hb
    have SB_5 : Hid (BoxS w5 blkS (.slice aS L.length capS)) := SB_4.out.next hb
    have S_5 : Hid (RowS w5 w2.heap.size y3.heap.size aS L.length (atZ L)) := S_4.out.next hb
    have P_5 : Hid (RowS w5 y3.heap.size w4.heap.size (some ⟨g4, 0, none⟩) n X) := P_4.out.next hb
    have U_5 : Hid (BoxS w5 w4.heap.size (.slice (some ⟨g4, 0, none⟩) n n)) := hw5 ▸ BoxS.new _ _ _
    rw [← hw5]
    clear hb hw5 cD zD A_4 D_4 SB_4 S_4 P_4 HB4
    refine (toGroup_any _ _ _ Y _ hp (HS.out.2.kept HB5.out)).mono ?_
    rintro r w6 ⟨⟨g6, rfl, hi⟩, hb⟩
    have HB6 : Hid (Below w.heap.size w w6) := below_next HB5.out hb
    have sz6 : w5.heap.size ≤ w6.heap.size := hb.size
    have A_6 : Hid (BoxS w6 w.heap.size (.slice a n cap)) := A_5.out.next hb
    have D_6 : Hid (BoxS w6 (w.heap.size + 1) (.slice a' p cap')) := D_5.out.next hb
    have SB_6 : Hid (BoxS w6 blkS (.slice aS L.length capS)) := SB_5.out.next hb
    have S_6 : Hid (RowS w6 w2.heap.size y3.heap.size aS L.length (atZ L)) := S_5.out.next hb
    have P_6 : Hid (RowS w6 y3.heap.size w4.heap.size (some ⟨g4, 0, none⟩) n X) := P_5.out.next hb
    have U_6 : Hid (BoxS w6 w4.heap.size (.slice (some ⟨g4, 0, none⟩) n n)) := U_5.out.next hb
    have Q_6 : Hid (RowS w6 w5.heap.size w6.heap.size (some ⟨g6, 0, none⟩) p Y) := RowS.of hi
    clear hb hi A_5 D_5 SB_5 S_5 P_5 U_5 HB5
    have cU := U_6.out.1
    have zU := U_6.out.2
    go_wp2_with fail
    obtain ⟨w7, hw7⟩ : ∃ x, x = w6.alloc (.cells #[.slice (some ⟨g6, 0, none⟩) p p] 25) := ⟨_, rfl⟩
    have hb : Below w6.heap.size w6 w7 := hw7 ▸ Go.Joins.below_alloc1 _ _
    have HB7 : Hid (Below w.heap.size w w7) := below_next HB6.out hb
    have sz7 : w6.heap.size < w7.heap.size := by rw [hw7]; simp
    have A_7 : Hid (BoxS w7 w.heap.size (.slice a n cap)) := A_6.out.next hb
    have D_7 : Hid (BoxS w7 (w.heap.size + 1) (.slice a' p cap')) := D_6.out.next hb
    have SB_7 : Hid (BoxS w7 blkS (.slice aS L.length capS)) := SB_6.out.next hb
    have S_7 : Hid (RowS w7 w2.heap.size y3.heap.size aS L.length (atZ L)) := S_6.out.next hb
    have P_7 : Hid (RowS w7 y3.heap.size w4.heap.size (some ⟨g4, 0, none⟩) n X) := P_6.out.next hb
    have U_7 : Hid (BoxS w7 w4.heap.size (.slice (some ⟨g4, 0, none⟩) n n)) := U_6.out.next hb
    have Q_7 : Hid (RowS w7 w5.heap.size w6.heap.size (some ⟨g6, 0, none⟩) p Y) := Q_6.out.next hb
    have V_7 : Hid (BoxS w7 w6.heap.size (.slice (some ⟨g6, 0, none⟩) p p)) := hw7 ▸ BoxS.new _ _ _
    rw [← hw7]
    clear hb hw7 cU zU A_6 D_6 SB_6 S_6 P_6 U_6 Q_6 HB6
    refine (HIM.out _ _ _ _ _ P_7.out.sl Q_7.out.sl).mono ?_
    rintro r w8 ⟨⟨a8, cap8, rfl, hi⟩, hb⟩
    have HB8 : Hid (Below w.heap.size w w8) := below_next HB7.out hb
    have sz8 : w7.heap.size ≤ w8.heap.size := hb.size
    have A_8 : Hid (BoxS w8 w.heap.size (.slice a n cap)) := A_7.out.next hb
    have D_8 : Hid (BoxS w8 (w.heap.size + 1) (.slice a' p cap')) := D_7.out.next hb
    have SB_8 : Hid (BoxS w8 blkS (.slice aS L.length capS)) := SB_7.out.next hb
    have S_8 : Hid (RowS w8 w2.heap.size y3.heap.size aS L.length (atZ L)) := S_7.out.next hb
    have P_8 : Hid (RowS w8 y3.heap.size w4.heap.size (some ⟨g4, 0, none⟩) n X) := P_7.out.next hb
    have U_8 : Hid (BoxS w8 w4.heap.size (.slice (some ⟨g4, 0, none⟩) n n)) := U_7.out.next hb
    have Q_8 : Hid (RowS w8 w5.heap.size w6.heap.size (some ⟨g6, 0, none⟩) p Y) := Q_7.out.next hb
    have V_8 : Hid (BoxS w8 w6.heap.size (.slice (some ⟨g6, 0, none⟩) p p)) := V_7.out.next hb
    have G_8 : Hid (RowS w8 w7.heap.size w8.heap.size a8 L.length (atZ L)) := RowS.of hi
    clear hb hi A_7 D_7 SB_7 S_7 P_7 U_7 Q_7 V_7 HB7
    have cSB := SB_8.out.1
    have zSB := SB_8.out.2
    go_wp2_with fail
    obtain ⟨w9, hw9⟩ : ∃ x, x = w8.alloc (.cells #[.slice a8 L.length cap8] 25) := ⟨_, rfl⟩
    have hb : Below w8.heap.size w8 w9 := hw9 ▸ Go.Joins.below_alloc1 _ _
    have HB9 : Hid (Below w.heap.size w w9) := below_next HB8.out hb
    have sz9 : w8.heap.size < w9.heap.size := by rw [hw9]; simp
    have A_9 : Hid (BoxS w9 w.heap.size (.slice a n cap)) := A_8.out.next hb
    have D_9 : Hid (BoxS w9 (w.heap.size + 1) (.slice a' p cap')) := D_8.out.next hb
    have SB_9 : Hid (BoxS w9 blkS (.slice aS L.length capS)) := SB_8.out.next hb
    have S_9 : Hid (RowS w9 w2.heap.size y3.heap.size aS L.length (atZ L)) := S_8.out.next hb
    have P_9 : Hid (RowS w9 y3.heap.size w4.heap.size (some ⟨g4, 0, none⟩) n X) := P_8.out.next hb
    have U_9 : Hid (BoxS w9 w4.heap.size (.slice (some ⟨g4, 0, none⟩) n n)) := U_8.out.next hb
    have Q_9 : Hid (RowS w9 w5.heap.size w6.heap.size (some ⟨g6, 0, none⟩) p Y) := Q_8.out.next hb
    have V_9 : Hid (BoxS w9 w6.heap.size (.slice (some ⟨g6, 0, none⟩) p p)) := V_8.out.next hb
    have G_9 : Hid (RowS w9 w7.heap.size w8.heap.size a8 L.length (atZ L)) := G_8.out.next hb
    have GB_9 : Hid (BoxS w9 w8.heap.size (.slice a8 L.length cap8)) := hw9 ▸ BoxS.new _ _ _
    rw [← hw9]
    clear hb hw9 cSB zSB A_8 D_8 SB_8 S_8 P_8 U_8 Q_8 V_8 G_8 HB8
    refine (eqGroup_same _ _ _ _ _ (atZ L) _ hN0 G_9.out.sl S_9.out.sl).mono ?_
    rintro r w10 ⟨rfl, hb⟩
    have HB10 : Hid (Below w.heap.size w w10) := below_next HB9.out hb
    have sz10 : w9.heap.size ≤ w10.heap.size := hb.size
    have A_10 : Hid (BoxS w10 w.heap.size (.slice a n cap)) := A_9.out.next hb
    have D_10 : Hid (BoxS w10 (w.heap.size + 1) (.slice a' p cap')) := D_9.out.next hb
    have SB_10 : Hid (BoxS w10 blkS (.slice aS L.length capS)) := SB_9.out.next hb
    have S_10 : Hid (RowS w10 w2.heap.size y3.heap.size aS L.length (atZ L)) := S_9.out.next hb
    have P_10 : Hid (RowS w10 y3.heap.size w4.heap.size (some ⟨g4, 0, none⟩) n X) := P_9.out.next hb
    have U_10 : Hid (BoxS w10 w4.heap.size (.slice (some ⟨g4, 0, none⟩) n n)) := U_9.out.next hb
    have Q_10 : Hid (RowS w10 w5.heap.size w6.heap.size (some ⟨g6, 0, none⟩) p Y) := Q_9.out.next hb
    have V_10 : Hid (BoxS w10 w6.heap.size (.slice (some ⟨g6, 0, none⟩) p p)) := V_9.out.next hb
    have G_10 : Hid (RowS w10 w7.heap.size w8.heap.size a8 L.length (atZ L)) := G_9.out.next hb
    have GB_10 : Hid (BoxS w10 w8.heap.size (.slice a8 L.length cap8)) := GB_9.out.next hb
    clear hb A_9 D_9 SB_9 S_9 P_9 U_9 Q_9 V_9 G_9 GB_9 HB9
    go_upto_region 14 with fail
    have hb : Below w10.heap.size w10 w10.drew := below_drew _
    have HB11 : Hid (Below w.heap.size w w10.drew) := below_next HB10.out hb
    have sz11 : w10.heap.size ≤ w10.drew.heap.size := hb.size
    have A_11 : Hid (BoxS w10.drew w.heap.size (.slice a n cap)) := A_10.out.next hb
    have D_11 : Hid (BoxS w10.drew (w.heap.size + 1) (.slice a' p cap')) := D_10.out.next hb
    have SB_11 : Hid (BoxS w10.drew blkS (.slice aS L.length capS)) := SB_10.out.next hb
    have S_11 : Hid (RowS w10.drew w2.heap.size y3.heap.size aS L.length (atZ L)) := S_10.out.next hb
    have P_11 : Hid (RowS w10.drew y3.heap.size w4.heap.size (some ⟨g4, 0, none⟩) n X) := P_10.out.next hb
    have U_11 : Hid (BoxS w10.drew w4.heap.size (.slice (some ⟨g4, 0, none⟩) n n)) := U_10.out.next hb
    have Q_11 : Hid (RowS w10.drew w5.heap.size w6.heap.size (some ⟨g6, 0, none⟩) p Y) := Q_10.out.next hb
    have V_11 : Hid (BoxS w10.drew w6.heap.size (.slice (some ⟨g6, 0, none⟩) p p)) := V_10.out.next hb
    have G_11 : Hid (RowS w10.drew w7.heap.size w8.heap.size a8 L.length (atZ L)) := G_10.out.next hb
    have GB_11 : Hid (BoxS w10.drew w8.heap.size (.slice a8 L.length cap8)) := GB_10.out.next hb
    clear hb A_10 D_10 SB_10 S_10 P_10 U_10 Q_10 V_10 G_10 GB_10 HB10
    refine wp_region_noPanic ?_
    refine wp_region_held_drew (S := fun W => BoxS W w.heap.size (.slice a n cap) ∧ BoxS W w4.heap.size (.slice (some ⟨g4, 0, none⟩) n n)) (by kernel_rfl) ⟨A_11.out, U_11.out⟩ (fun hHeld => ?_)
    refine take_v (v := ?_) 0 ⟨some 58, Op.load 25 (Operand.tmp 10), _, _, _, none⟩ rfl (fun _ _ _ h => h) ?_ hHeld ?_
    rotate_left
    · (intro W hSW; (have s0 := hSW.1.1; have s0z := hSW.1.2; have s1 := hSW.2.1; have s1z := hSW.2.2); go_simp <;> (try with_reducible rfl))
    refine take_v (v := ?_) 1 ⟨some 59, Op.load 49 (Operand.tmp 3), _, _, _, none⟩ rfl (fun _ _ _ h => h) ?_ hHeld ?_
    rotate_left
    · (intro W hSW; (have s0 := hSW.1.1; have s0z := hSW.1.2; have s1 := hSW.2.1; have s1z := hSW.2.2); go_simp <;> (try with_reducible rfl))
    refine ready_call 2 ⟨some 60, Op.call { callee := Callee.value (Operand.func 38), args := #[Operand.tmp 59], argTypes := #[49] }, _, _, _, none⟩ (by kernel_rfl) rfl (by kernel_rfl) (fun KC hK => ?_)
    go_wp2_with fail
    refine (toGroup_any _ _ _ X _ hn (HS.out.1.kept HB11.out)).mono ?_
    rintro r w12 ⟨⟨g12, rfl, hi⟩, hb⟩
    have HB12 : Hid (Below w.heap.size w w12) := below_next HB11.out hb
    have sz12 : w10.drew.heap.size ≤ w12.heap.size := hb.size
    have A_12 : Hid (BoxS w12 w.heap.size (.slice a n cap)) := A_11.out.next hb
    have D_12 : Hid (BoxS w12 (w.heap.size + 1) (.slice a' p cap')) := D_11.out.next hb
    have SB_12 : Hid (BoxS w12 blkS (.slice aS L.length capS)) := SB_11.out.next hb
    have S_12 : Hid (RowS w12 w2.heap.size y3.heap.size aS L.length (atZ L)) := S_11.out.next hb
    have P_12 : Hid (RowS w12 y3.heap.size w4.heap.size (some ⟨g4, 0, none⟩) n X) := P_11.out.next hb
    have U_12 : Hid (BoxS w12 w4.heap.size (.slice (some ⟨g4, 0, none⟩) n n)) := U_11.out.next hb
    have Q_12 : Hid (RowS w12 w5.heap.size w6.heap.size (some ⟨g6, 0, none⟩) p Y) := Q_11.out.next hb
    have V_12 : Hid (BoxS w12 w6.heap.size (.slice (some ⟨g6, 0, none⟩) p p)) := V_11.out.next hb
    have G_12 : Hid (RowS w12 w7.heap.size w8.heap.size a8 L.length (atZ L)) := G_11.out.next hb
    have GB_12 : Hid (BoxS w12 w8.heap.size (.slice a8 L.length cap8)) := GB_11.out.next hb
    have T_12 : Hid (RowS w12 w10.drew.heap.size w12.heap.size (some ⟨g12, 0, none⟩) n X) := RowS.of hi
    clear hb hi A_11 D_11 SB_11 S_11 P_11 U_11 Q_11 V_11 G_11 GB_11 HB11
    refine hK.out _ _ ⟨A_12.out, U_12.out⟩ (fun hHeld => ?_)
    clear hK KC
    refine ready_call 3 ⟨some 61, Op.call { callee := Callee.value (Operand.func 40), args := #[Operand.tmp 58, Operand.tmp 60], argTypes := #[25, 25] }, _, _, _, none⟩ (by kernel_rfl) rfl (by kernel_rfl) (fun KC hK => ?_)
    go_wp2_with fail
    refine (eqGroup_same _ _ _ _ _ X _ hn P_12.out.sl T_12.out.sl).mono ?_
    rintro r w13 ⟨rfl, hb⟩
    have HB13 : Hid (Below w.heap.size w w13) := below_next HB12.out hb
    have sz13 : w12.heap.size ≤ w13.heap.size := hb.size
    have A_13 : Hid (BoxS w13 w.heap.size (.slice a n cap)) := A_12.out.next hb
    have D_13 : Hid (BoxS w13 (w.heap.size + 1) (.slice a' p cap')) := D_12.out.next hb
    have SB_13 : Hid (BoxS w13 blkS (.slice aS L.length capS)) := SB_12.out.next hb
    have S_13 : Hid (RowS w13 w2.heap.size y3.heap.size aS L.length (atZ L)) := S_12.out.next hb
    have P_13 : Hid (RowS w13 y3.heap.size w4.heap.size (some ⟨g4, 0, none⟩) n X) := P_12.out.next hb
    have U_13 : Hid (BoxS w13 w4.heap.size (.slice (some ⟨g4, 0, none⟩) n n)) := U_12.out.next hb
    have Q_13 : Hid (RowS w13 w5.heap.size w6.heap.size (some ⟨g6, 0, none⟩) p Y) := Q_12.out.next hb
    have V_13 : Hid (BoxS w13 w6.heap.size (.slice (some ⟨g6, 0, none⟩) p p)) := V_12.out.next hb
    have G_13 : Hid (RowS w13 w7.heap.size w8.heap.size a8 L.length (atZ L)) := G_12.out.next hb
    have GB_13 : Hid (BoxS w13 w8.heap.size (.slice a8 L.length cap8)) := GB_12.out.next hb
    have T_13 : Hid (RowS w13 w10.drew.heap.size w12.heap.size (some ⟨g12, 0, none⟩) n X) := T_12.out.next hb
    clear hb A_12 D_12 SB_12 S_12 P_12 U_12 Q_12 V_12 G_12 GB_12 T_12 HB12
    refine hK.out _ _ ⟨A_13.out, U_13.out⟩ (fun hHeld => ?_)
    clear hK KC
    refine take_v (v := ?_) 4 ⟨some 62, Op.unOp UnOp.not 4 (Operand.tmp 61), _, _, _, none⟩ rfl (fun _ _ _ h => h) ?_ hHeld ?_
    rotate_left
    · (intro W _; go_simp <;> (try with_reducible rfl))
    refine wpAnyH_done (by kernel_rfl) ?_ _
    refine NoPanic.normal ?_
    clear T_13
    go_upto_region 16 with fail
    have hb : Below w13.heap.size w13 w13.drew := below_drew _
    have HB14 : Hid (Below w.heap.size w w13.drew) := below_next HB13.out hb
    have sz14 : w13.heap.size ≤ w13.drew.heap.size := hb.size
    have A_14 : Hid (BoxS w13.drew w.heap.size (.slice a n cap)) := A_13.out.next hb
    have D_14 : Hid (BoxS w13.drew (w.heap.size + 1) (.slice a' p cap')) := D_13.out.next hb
    have SB_14 : Hid (BoxS w13.drew blkS (.slice aS L.length capS)) := SB_13.out.next hb
    have S_14 : Hid (RowS w13.drew w2.heap.size y3.heap.size aS L.length (atZ L)) := S_13.out.next hb
    have P_14 : Hid (RowS w13.drew y3.heap.size w4.heap.size (some ⟨g4, 0, none⟩) n X) := P_13.out.next hb
    have U_14 : Hid (BoxS w13.drew w4.heap.size (.slice (some ⟨g4, 0, none⟩) n n)) := U_13.out.next hb
    have Q_14 : Hid (RowS w13.drew w5.heap.size w6.heap.size (some ⟨g6, 0, none⟩) p Y) := Q_13.out.next hb
    have V_14 : Hid (BoxS w13.drew w6.heap.size (.slice (some ⟨g6, 0, none⟩) p p)) := V_13.out.next hb
    have G_14 : Hid (RowS w13.drew w7.heap.size w8.heap.size a8 L.length (atZ L)) := G_13.out.next hb
    have GB_14 : Hid (BoxS w13.drew w8.heap.size (.slice a8 L.length cap8)) := GB_13.out.next hb
    clear hb A_13 D_13 SB_13 S_13 P_13 U_13 Q_13 V_13 G_13 GB_13 HB13
    refine wp_region_noPanic ?_
    refine wp_region_held_drew (S := fun W => BoxS W (w.heap.size + 1) (.slice a' p cap') ∧ BoxS W w6.heap.size (.slice (some ⟨g6, 0, none⟩) p p)) (by kernel_rfl) ⟨D_14.out, V_14.out⟩ (fun hHeld => ?_)
    refine take_v (v := ?_) 0 ⟨some 63, Op.load 25 (Operand.tmp 11), _, _, _, none⟩ rfl (fun _ _ _ h => h) ?_ hHeld ?_
    rotate_left
    · (intro W hSW; (have s0 := hSW.1.1; have s0z := hSW.1.2; have s1 := hSW.2.1; have s1z := hSW.2.2); go_simp <;> (try with_reducible rfl))
    refine take_v (v := ?_) 1 ⟨some 64, Op.load 49 (Operand.tmp 4), _, _, _, none⟩ rfl (fun _ _ _ h => h) ?_ hHeld ?_
    rotate_left
    · (intro W hSW; (have s0 := hSW.1.1; have s0z := hSW.1.2; have s1 := hSW.2.1; have s1z := hSW.2.2); go_simp <;> (try with_reducible rfl))
    refine ready_call 2 ⟨some 65, Op.call { callee := Callee.value (Operand.func 38), args := #[Operand.tmp 64], argTypes := #[49] }, _, _, _, none⟩ (by kernel_rfl) rfl (by kernel_rfl) (fun KC hK => ?_)
    go_wp2_with fail
    refine (toGroup_any _ _ _ Y _ hp (HS.out.2.kept HB14.out)).mono ?_
    rintro r w15 ⟨⟨g15, rfl, hi⟩, hb⟩
    have HB15 : Hid (Below w.heap.size w w15) := below_next HB14.out hb
    have sz15 : w13.drew.heap.size ≤ w15.heap.size := hb.size
    have A_15 : Hid (BoxS w15 w.heap.size (.slice a n cap)) := A_14.out.next hb
    have D_15 : Hid (BoxS w15 (w.heap.size + 1) (.slice a' p cap')) := D_14.out.next hb
    have SB_15 : Hid (BoxS w15 blkS (.slice aS L.length capS)) := SB_14.out.next hb
    have S_15 : Hid (RowS w15 w2.heap.size y3.heap.size aS L.length (atZ L)) := S_14.out.next hb
    have P_15 : Hid (RowS w15 y3.heap.size w4.heap.size (some ⟨g4, 0, none⟩) n X) := P_14.out.next hb
    have U_15 : Hid (BoxS w15 w4.heap.size (.slice (some ⟨g4, 0, none⟩) n n)) := U_14.out.next hb
    have Q_15 : Hid (RowS w15 w5.heap.size w6.heap.size (some ⟨g6, 0, none⟩) p Y) := Q_14.out.next hb
    have V_15 : Hid (BoxS w15 w6.heap.size (.slice (some ⟨g6, 0, none⟩) p p)) := V_14.out.next hb
    have G_15 : Hid (RowS w15 w7.heap.size w8.heap.size a8 L.length (atZ L)) := G_14.out.next hb
    have GB_15 : Hid (BoxS w15 w8.heap.size (.slice a8 L.length cap8)) := GB_14.out.next hb
    have T_15 : Hid (RowS w15 w13.drew.heap.size w15.heap.size (some ⟨g15, 0, none⟩) p Y) := RowS.of hi
    clear hb hi A_14 D_14 SB_14 S_14 P_14 U_14 Q_14 V_14 G_14 GB_14 HB14
    refine hK.out _ _ ⟨D_15.out, V_15.out⟩ (fun hHeld => ?_)
    clear hK KC
    refine ready_call 3 ⟨some 66, Op.call { callee := Callee.value (Operand.func 40), args := #[Operand.tmp 63, Operand.tmp 65], argTypes := #[25, 25] }, _, _, _, none⟩ (by kernel_rfl) rfl (by kernel_rfl) (fun KC hK => ?_)
    go_wp2_with fail
    refine (eqGroup_same _ _ _ _ _ Y _ hp Q_15.out.sl T_15.out.sl).mono ?_
    rintro r w16 ⟨rfl, hb⟩
    have HB16 : Hid (Below w.heap.size w w16) := below_next HB15.out hb
    have sz16 : w15.heap.size ≤ w16.heap.size := hb.size
    have A_16 : Hid (BoxS w16 w.heap.size (.slice a n cap)) := A_15.out.next hb
    have D_16 : Hid (BoxS w16 (w.heap.size + 1) (.slice a' p cap')) := D_15.out.next hb
    have SB_16 : Hid (BoxS w16 blkS (.slice aS L.length capS)) := SB_15.out.next hb
    have S_16 : Hid (RowS w16 w2.heap.size y3.heap.size aS L.length (atZ L)) := S_15.out.next hb
    have P_16 : Hid (RowS w16 y3.heap.size w4.heap.size (some ⟨g4, 0, none⟩) n X) := P_15.out.next hb
    have U_16 : Hid (BoxS w16 w4.heap.size (.slice (some ⟨g4, 0, none⟩) n n)) := U_15.out.next hb
    have Q_16 : Hid (RowS w16 w5.heap.size w6.heap.size (some ⟨g6, 0, none⟩) p Y) := Q_15.out.next hb
    have V_16 : Hid (BoxS w16 w6.heap.size (.slice (some ⟨g6, 0, none⟩) p p)) := V_15.out.next hb
    have G_16 : Hid (RowS w16 w7.heap.size w8.heap.size a8 L.length (atZ L)) := G_15.out.next hb
    have GB_16 : Hid (BoxS w16 w8.heap.size (.slice a8 L.length cap8)) := GB_15.out.next hb
    have T_16 : Hid (RowS w16 w13.drew.heap.size w15.heap.size (some ⟨g15, 0, none⟩) p Y) := T_15.out.next hb
    clear hb A_15 D_15 SB_15 S_15 P_15 U_15 Q_15 V_15 G_15 GB_15 T_15 HB15
    refine hK.out _ _ ⟨D_16.out, V_16.out⟩ (fun hHeld => ?_)
    clear hK KC
    refine take_v (v := ?_) 4 ⟨some 67, Op.unOp UnOp.not 4 (Operand.tmp 66), _, _, _, none⟩ rfl (fun _ _ _ h => h) ?_ hHeld ?_
    rotate_left
    · (intro W _; go_simp <;> (try with_reducible rfl))
    refine wpAnyH_done (by kernel_rfl) ?_ _
    refine NoPanic.normal ?_
    clear T_16
    have cU := U_16.out.1
    have zU := U_16.out.2
    go_wp2_with fail
    refine (markGroup_any _ _ _ X _ _ _ _ hn (by omega) (by omega) P_16.out.2 P_16.out.1).mono ?_
    rintro r w17 ⟨rfl, hi, ht⟩
    have HB17 : Hid (Below w.heap.size w w17) := below_turn HB16.out ht (by omega)
    have sz17 : w16.heap.size ≤ w17.heap.size := ht.2.2.2.1
    have A_17 : Hid (BoxS w17 w.heap.size (.slice a n cap)) := A_16.out.turn ht (by omega)
    have D_17 : Hid (BoxS w17 (w.heap.size + 1) (.slice a' p cap')) := D_16.out.turn ht (by omega)
    have SB_17 : Hid (BoxS w17 blkS (.slice aS L.length capS)) := SB_16.out.turn ht (by omega)
    have S_17 : Hid (RowS w17 w2.heap.size y3.heap.size aS L.length (atZ L)) := S_16.out.turn ht (by omega)
    have P_17 : Hid (RowS w17 y3.heap.size w4.heap.size (some ⟨g4, 0, none⟩) n (fun i => 1 + (i : Int))) := ⟨hi, Nat.le_trans P_16.out.2 sz17⟩
    have U_17 : Hid (BoxS w17 w4.heap.size (.slice (some ⟨g4, 0, none⟩) n n)) := U_16.out.turn ht (by omega)
    have Q_17 : Hid (RowS w17 w5.heap.size w6.heap.size (some ⟨g6, 0, none⟩) p Y) := Q_16.out.turn ht (by omega)
    have V_17 : Hid (BoxS w17 w6.heap.size (.slice (some ⟨g6, 0, none⟩) p p)) := V_16.out.turn ht (by omega)
    have G_17 : Hid (RowS w17 w7.heap.size w8.heap.size a8 L.length (atZ L)) := G_16.out.turn ht (by omega)
    have GB_17 : Hid (BoxS w17 w8.heap.size (.slice a8 L.length cap8)) := GB_16.out.turn ht (by omega)
    clear ht hi cU zU A_16 D_16 SB_16 S_16 P_16 U_16 Q_16 V_16 G_16 GB_16 HB16
    have cV := V_17.out.1
    have zV := V_17.out.2
    go_wp2_with fail
    refine (markGroup_any _ _ _ Y _ _ _ _ hp (by omega) (by omega) Q_17.out.2 Q_17.out.1).mono ?_
    rintro r w18 ⟨rfl, hi, ht⟩
    have HB18 : Hid (Below w.heap.size w w18) := below_turn HB17.out ht (by omega)
    have sz18 : w17.heap.size ≤ w18.heap.size := ht.2.2.2.1
    have A_18 : Hid (BoxS w18 w.heap.size (.slice a n cap)) := A_17.out.turn ht (by omega)
    have D_18 : Hid (BoxS w18 (w.heap.size + 1) (.slice a' p cap')) := D_17.out.turn ht (by omega)
    have SB_18 : Hid (BoxS w18 blkS (.slice aS L.length capS)) := SB_17.out.turn ht (by omega)
    have S_18 : Hid (RowS w18 w2.heap.size y3.heap.size aS L.length (atZ L)) := S_17.out.turn ht (by omega)
    have P_18 : Hid (RowS w18 y3.heap.size w4.heap.size (some ⟨g4, 0, none⟩) n (fun i => 1 + (i : Int))) := P_17.out.turn ht (by omega)
    have U_18 : Hid (BoxS w18 w4.heap.size (.slice (some ⟨g4, 0, none⟩) n n)) := U_17.out.turn ht (by omega)
    have Q_18 : Hid (RowS w18 w5.heap.size w6.heap.size (some ⟨g6, 0, none⟩) p (fun i => 1 + (n : Int) + (i : Int))) := ⟨hi, Nat.le_trans Q_17.out.2 sz18⟩
    have V_18 : Hid (BoxS w18 w6.heap.size (.slice (some ⟨g6, 0, none⟩) p p)) := V_17.out.turn ht (by omega)
    have G_18 : Hid (RowS w18 w7.heap.size w8.heap.size a8 L.length (atZ L)) := G_17.out.turn ht (by omega)
    have GB_18 : Hid (BoxS w18 w8.heap.size (.slice a8 L.length cap8)) := GB_17.out.turn ht (by omega)
    clear ht hi cV zV A_17 D_17 SB_17 S_17 P_17 U_17 Q_17 V_17 G_17 GB_17 HB17
    clear P_18
    clear Q_18
    clear U_18
    clear V_18
    have cGB := GB_18.out.1
    have zGB := GB_18.out.2
    have cSB := SB_18.out.1
    have zSB := SB_18.out.2
    go_wp2_with fail
    refine (eqGroup_same _ _ _ _ _ (atZ L) _ hN0 G_18.out.sl S_18.out.sl).mono ?_
    rintro r w19 ⟨rfl, hb⟩
    have HB19 : Hid (Below w.heap.size w w19) := below_next HB18.out hb
    have sz19 : w18.heap.size ≤ w19.heap.size := hb.size
    have A_19 : Hid (BoxS w19 w.heap.size (.slice a n cap)) := A_18.out.next hb
    have D_19 : Hid (BoxS w19 (w.heap.size + 1) (.slice a' p cap')) := D_18.out.next hb
    have SB_19 : Hid (BoxS w19 blkS (.slice aS L.length capS)) := SB_18.out.next hb
    have S_19 : Hid (RowS w19 w2.heap.size y3.heap.size aS L.length (atZ L)) := S_18.out.next hb
    have G_19 : Hid (RowS w19 w7.heap.size w8.heap.size a8 L.length (atZ L)) := G_18.out.next hb
    have GB_19 : Hid (BoxS w19 w8.heap.size (.slice a8 L.length cap8)) := GB_18.out.next hb
    clear hb cGB zGB cSB zSB A_18 D_18 SB_18 S_18 G_18 GB_18 HB18
    have cGB := GB_19.out.1
    have zGB := GB_19.out.2
    go_wp2_with fail
    refine (markGroup_any _ _ _ (atZ L) _ _ _ _ hN0 (by omega) (by omega) G_19.out.2 G_19.out.1).mono ?_
    rintro r w20 ⟨rfl, hi, ht⟩
    have HB20 : Hid (Below w.heap.size w w20) := below_turn HB19.out ht (by omega)
    have sz20 : w19.heap.size ≤ w20.heap.size := ht.2.2.2.1
    have A_20 : Hid (BoxS w20 w.heap.size (.slice a n cap)) := A_19.out.turn ht (by omega)
    have D_20 : Hid (BoxS w20 (w.heap.size + 1) (.slice a' p cap')) := D_19.out.turn ht (by omega)
    have SB_20 : Hid (BoxS w20 blkS (.slice aS L.length capS)) := SB_19.out.turn ht (by omega)
    have S_20 : Hid (RowS w20 w2.heap.size y3.heap.size aS L.length (atZ L)) := S_19.out.turn ht (by omega)
    have G_20 : Hid (RowS w20 w7.heap.size w8.heap.size a8 L.length (fun i => 1 + (i : Int))) := ⟨hi, Nat.le_trans G_19.out.2 sz20⟩
    have GB_20 : Hid (BoxS w20 w8.heap.size (.slice a8 L.length cap8)) := GB_19.out.turn ht (by omega)
    clear ht hi cGB zGB A_19 D_19 SB_19 S_19 G_19 GB_19 HB19
    have cGB := GB_20.out.1
    have zGB := GB_20.out.2
    go_wp2_with fail
    refine (heldGroup_any _ _ _ 1 _ hN0 (by omega) (by omega) G_20.out.sl).mono ?_
    rintro r w21 ⟨rfl, hb⟩
    have HB21 : Hid (Below w.heap.size w w21) := below_next HB20.out hb
    have sz21 : w20.heap.size ≤ w21.heap.size := hb.size
    have A_21 : Hid (BoxS w21 w.heap.size (.slice a n cap)) := A_20.out.next hb
    have D_21 : Hid (BoxS w21 (w.heap.size + 1) (.slice a' p cap')) := D_20.out.next hb
    have SB_21 : Hid (BoxS w21 blkS (.slice aS L.length capS)) := SB_20.out.next hb
    have S_21 : Hid (RowS w21 w2.heap.size y3.heap.size aS L.length (atZ L)) := S_20.out.next hb
    have G_21 : Hid (RowS w21 w7.heap.size w8.heap.size a8 L.length (fun i => 1 + (i : Int))) := G_20.out.next hb
    have GB_21 : Hid (BoxS w21 w8.heap.size (.slice a8 L.length cap8)) := GB_20.out.next hb
    clear hb cGB zGB A_20 D_20 SB_20 S_20 G_20 GB_20 HB20
    have hbo := HB21.out
    have szo : w.heap.size ≤ w21.heap.size := hbo.size
    go_upto_region 31 with fail
    go_cut [17, 18] (fun s0 s1 wx => ∃ blk a5 cap5, s0 = .pointer (some ⟨blk, 0, none⟩) ∧ s1 = .bool ok ∧ w21.heap.size ≤ blk ∧ BoxS wx blk (.slice a5 L.length cap5) ∧ RowS wx w21.heap.size wx.heap.size a5 L.length (atZ L) ∧ Below w21.heap.size w21 wx)
    case first =>
      refine wp_region_noPanic ?_
      obtain ⟨v0, hv0⟩ : ∃ x, x = w21.drew := ⟨_, rfl⟩
      have hbd : Below w21.heap.size w21 v0 := hv0 ▸ below_drew _
      have LB_0 : Hid (Below w21.heap.size w21 v0) := hbd
      have sz_0 : w21.heap.size ≤ v0.heap.size := hbd.size
      have bz_A := A_21.out.2
      have bz_D := D_21.out.2
      have A_0 : Hid (BoxS v0 w.heap.size (.slice a n cap)) := A_21.out.next hbd
      have D_0 : Hid (BoxS v0 (w.heap.size + 1) (.slice a' p cap')) := D_21.out.next hbd
      clear hbd
      refine wp_region_held_drew (S := fun W => BoxS W w.heap.size (.slice a n cap) ∧ BoxS W (w.heap.size + 1) (.slice a' p cap')) (by kernel_rfl) (hv0 ▸ ⟨A_0.out, D_0.out⟩) (fun hHeld => ?_)
      rw [← hv0] at hHeld ⊢
      clear hv0
      refine take_v (v := ?_) 0 ⟨some 99, Op.load 49 (Operand.tmp 3), _, _, _, none⟩ rfl (fun _ _ _ h => h) ?_ hHeld ?_
      rotate_left
      · (intro W hSW; (have s0 := hSW.1.1; have s0z := hSW.1.2; have s1 := hSW.2.1; have s1z := hSW.2.2); go_simp <;> (try with_reducible rfl))
      refine take_v (v := ?_) 2 ⟨some 101, Op.load 49 (Operand.tmp 4), _, _, _, none⟩ rfl (fun _ _ _ h => h) ?_ hHeld ?_
      rotate_left
      · (intro W hSW; (have s0 := hSW.1.1; have s0z := hSW.1.2; have s1 := hSW.2.1; have s1z := hSW.2.2); go_simp <;> (try with_reducible rfl))
      refine take_v (v := ?_) 4 ⟨some 103, Op.move (Operand.tmp 2), _, _, _, none⟩ rfl (fun _ _ _ h => h) ?_ hHeld ?_
      rotate_left
      · (intro W _; go_simp <;> (try with_reducible rfl))
      refine ready_two 1 9 ⟨some 100, Op.call { callee := Callee.value (Operand.func 38), args := #[Operand.tmp 99], argTypes := #[49] }, _, _, _, none⟩ ⟨some 17, Op.alloc 25, _, _, _, none⟩ (by kernel_rfl) rfl rfl (by kernel_rfl) (by kernel_rfl) (fun KC hK => ?_) (fun KC hK => ?_)
      ·
        go_wp2_with fail
        refine (toGroup_any _ _ _ X _ hn (HS.out.1.kept (below_next hbo LB_0.out))).mono ?_
        rintro r v1 ⟨⟨ga31, rfl, hi⟩, hb⟩
        have LB_1 : Hid (Below w21.heap.size w21 v1) := below_next LB_0.out hb
        have sz_1 : v0.heap.size ≤ v1.heap.size := hb.size
        have A_1 : Hid (BoxS v1 w.heap.size (.slice a n cap)) := A_0.out.next hb
        have D_1 : Hid (BoxS v1 (w.heap.size + 1) (.slice a' p cap')) := D_0.out.next hb
        have P_1 : Hid (RowS v1 v0.heap.size v1.heap.size (some ⟨ga31, 0, none⟩) n X) := RowS.of hi
        clear hb hi
        refine hK.out _ _ ⟨A_1.out, D_1.out⟩ (fun hHeld => ?_)
        clear hK KC
        refine ready_two 3 9 ⟨some 102, Op.call { callee := Callee.value (Operand.func 38), args := #[Operand.tmp 101], argTypes := #[49] }, _, _, _, none⟩ ⟨some 17, Op.alloc 25, _, _, _, none⟩ (by kernel_rfl) rfl rfl (by kernel_rfl) (by kernel_rfl) (fun KC hK => ?_) (fun KC hK => ?_)
        ·
          go_wp2_with fail
          refine (toGroup_any _ _ _ Y _ hp (HS.out.2.kept (below_next hbo LB_1.out))).mono ?_
          rintro r v2 ⟨⟨gb31, rfl, hi⟩, hb⟩
          have LB_2 : Hid (Below w21.heap.size w21 v2) := below_next LB_1.out hb
          have sz_2 : v1.heap.size ≤ v2.heap.size := hb.size
          have A_2 : Hid (BoxS v2 w.heap.size (.slice a n cap)) := A_1.out.next hb
          have D_2 : Hid (BoxS v2 (w.heap.size + 1) (.slice a' p cap')) := D_1.out.next hb
          have P_2 : Hid (RowS v2 v0.heap.size v1.heap.size (some ⟨ga31, 0, none⟩) n X) := P_1.out.next hb
          have Q_2 : Hid (RowS v2 v1.heap.size v2.heap.size (some ⟨gb31, 0, none⟩) p Y) := RowS.of hi
          clear hb hi
          refine hK.out _ _ ⟨A_2.out, D_2.out⟩ (fun hHeld => ?_)
          clear hK KC
          refine ready_two 5 9 ⟨some 104, Op.call { callee := Callee.value (Operand.func 22), args := #[Operand.tmp 100, Operand.tmp 102, Operand.tmp 103], argTypes := #[25, 25, 3] }, _, _, _, none⟩ ⟨some 17, Op.alloc 25, _, _, _, none⟩ (by kernel_rfl) rfl rfl (by kernel_rfl) (by kernel_rfl) (fun KC hK => ?_) (fun KC hK => ?_)
          ·
            go_wp2_with fail
            refine (HIM.out _ _ _ _ _ P_2.out.sl Q_2.out.sl).mono ?_
            rintro r v3 ⟨⟨a5, cap5, rfl, hi⟩, hb⟩
            have LB_3 : Hid (Below w21.heap.size w21 v3) := below_next LB_2.out hb
            have sz_3 : v2.heap.size ≤ v3.heap.size := hb.size
            have A_3 : Hid (BoxS v3 w.heap.size (.slice a n cap)) := A_2.out.next hb
            have D_3 : Hid (BoxS v3 (w.heap.size + 1) (.slice a' p cap')) := D_2.out.next hb
            have P_3 : Hid (RowS v3 v0.heap.size v1.heap.size (some ⟨ga31, 0, none⟩) n X) := P_2.out.next hb
            have Q_3 : Hid (RowS v3 v1.heap.size v2.heap.size (some ⟨gb31, 0, none⟩) p Y) := Q_2.out.next hb
            have G_3 : Hid (RowS v3 v2.heap.size v3.heap.size a5 L.length (atZ L)) := RowS.of hi
            clear hb hi
            refine hK.out _ _ ⟨A_3.out, D_3.out⟩ (fun hHeld => ?_)
            clear hK KC
            refine take_v (v := ?_) 6 ⟨some 98, Op.move (Operand.tmp 104), _, _, _, none⟩ rfl (fun _ _ _ h => h) ?_ hHeld ?_
            rotate_left
            · (intro W _; go_simp <;> (try with_reducible rfl))
            refine take_v (v := ?_) 7 ⟨some 105, Op.extract (Operand.tmp 98) 0, _, _, _, none⟩ rfl (fun _ _ _ h => h) ?_ hHeld ?_
            rotate_left
            · (intro W _; go_simp <;> (try with_reducible rfl))
            refine take_v (v := ?_) 8 ⟨some 106, Op.extract (Operand.tmp 98) 1, _, _, _, none⟩ rfl (fun _ _ _ h => h) ?_ hHeld ?_
            rotate_left
            · (intro W _; go_simp <;> (try with_reducible rfl))
            refine ready_call 9 ⟨some 17, Op.alloc 25, _, _, _, none⟩ (by kernel_rfl) rfl (by kernel_rfl) (fun KC hK => ?_)
            go_wp2_with fail
            obtain ⟨v4, hvn⟩ : ∃ x, x = v3.alloc (.cells #[.slice none 0 0] 25) := ⟨_, rfl⟩
            have hb : Below v3.heap.size v3 v4 := hvn ▸ Go.Joins.below_alloc1 _ _
            have LB_4 : Hid (Below w21.heap.size w21 v4) := below_next LB_3.out hb
            have sz_4 : v3.heap.size < v4.heap.size := by rw [hvn]; simp
            have A_4 : Hid (BoxS v4 w.heap.size (.slice a n cap)) := A_3.out.next hb
            have D_4 : Hid (BoxS v4 (w.heap.size + 1) (.slice a' p cap')) := D_3.out.next hb
            have P_4 : Hid (RowS v4 v0.heap.size v1.heap.size (some ⟨ga31, 0, none⟩) n X) := P_3.out.next hb
            have Q_4 : Hid (RowS v4 v1.heap.size v2.heap.size (some ⟨gb31, 0, none⟩) p Y) := Q_3.out.next hb
            have G_4 : Hid (RowS v4 v2.heap.size v3.heap.size a5 L.length (atZ L)) := G_3.out.next hb
            have Z_4 : Hid (Bx v4 (v3.heap.size) [.slice none 0 0]) := hvn ▸ Bx.new _ [.slice none 0 0] _
            rw [← hvn]
            clear hb hvn
            refine hK.out _ _ ⟨A_4.out, D_4.out⟩ (fun hHeld => ?_)
            clear hK KC
            refine ready_call 10 ⟨none, Op.store 25 (Operand.tmp 17) (Operand.tmp 105), _, _, _, none⟩ (by kernel_rfl) rfl (by kernel_rfl) (fun KC hK => ?_)
            have zc := Z_4.out.cell 0 rfl
            have zf := Z_4.out.frz 0 (by simp)
            have zz := Z_4.out.2
            go_wp2_with fail
            clear zc zf zz
            refine hK.out _ _ (by first | exact ⟨box_set A_4.out (by have := A_4.out.2; have := LB_4.out.size; omega), box_set D_4.out (by have := D_4.out.2; have := LB_4.out.size; omega)⟩) (fun hHeld => ?_)
            clear hK KC
            refine take_v (v := ?_) 11 ⟨some 18, Op.assign (Operand.tmp 106), _, _, _, none⟩ rfl (fun _ _ _ h => h) ?_ hHeld ?_
            rotate_left
            · (intro W _; go_simp <;> (try with_reducible rfl))
            refine wpAnyH_done (by kernel_rfl) ?_ _
            refine NoPanic.normal ?_
            go_wp2_with fail
            go_meet
            exact ⟨v3.heap.size, a5, cap5, rfl, rfl, by have := LB_4.out.size; omega, ⟨(Z_4.out.set (k := 0) (by simp) _).cell 0 rfl, by simpa using Z_4.out.2⟩, ⟨(ints_apart G_4.out.1 (by omega)).wide (by omega) (by first | (simp; done) | simpa using G_4.out.2), Nat.le_refl _⟩, LB_4.out.setCell (p := ⟨v3.heap.size, 0, none⟩) (by show w21.heap.size ≤ v3.heap.size; omega) _⟩
          ·
            go_wp2_with fail
            obtain ⟨v3, hvn⟩ : ∃ x, x = v2.alloc (.cells #[.slice none 0 0] 25) := ⟨_, rfl⟩
            have hb : Below v2.heap.size v2 v3 := hvn ▸ Go.Joins.below_alloc1 _ _
            have LB_3 : Hid (Below w21.heap.size w21 v3) := below_next LB_2.out hb
            have sz_3 : v2.heap.size < v3.heap.size := by rw [hvn]; simp
            have A_3 : Hid (BoxS v3 w.heap.size (.slice a n cap)) := A_2.out.next hb
            have D_3 : Hid (BoxS v3 (w.heap.size + 1) (.slice a' p cap')) := D_2.out.next hb
            have P_3 : Hid (RowS v3 v0.heap.size v1.heap.size (some ⟨ga31, 0, none⟩) n X) := P_2.out.next hb
            have Q_3 : Hid (RowS v3 v1.heap.size v2.heap.size (some ⟨gb31, 0, none⟩) p Y) := Q_2.out.next hb
            have Z_3 : Hid (Bx v3 (v2.heap.size) [.slice none 0 0]) := hvn ▸ Bx.new _ [.slice none 0 0] _
            rw [← hvn]
            clear hb hvn
            refine hK.out _ _ ⟨A_3.out, D_3.out⟩ (fun hHeld => ?_)
            clear hK KC
            refine ready_call 5 ⟨some 104, Op.call { callee := Callee.value (Operand.func 22), args := #[Operand.tmp 100, Operand.tmp 102, Operand.tmp 103], argTypes := #[25, 25, 3] }, _, _, _, none⟩ (by kernel_rfl) rfl (by kernel_rfl) (fun KC hK => ?_)
            go_wp2_with fail
            refine (HIM.out _ _ _ _ _ P_3.out.sl Q_3.out.sl).mono ?_
            rintro r v4 ⟨⟨a5, cap5, rfl, hi⟩, hb⟩
            have LB_4 : Hid (Below w21.heap.size w21 v4) := below_next LB_3.out hb
            have sz_4 : v3.heap.size ≤ v4.heap.size := hb.size
            have A_4 : Hid (BoxS v4 w.heap.size (.slice a n cap)) := A_3.out.next hb
            have D_4 : Hid (BoxS v4 (w.heap.size + 1) (.slice a' p cap')) := D_3.out.next hb
            have P_4 : Hid (RowS v4 v0.heap.size v1.heap.size (some ⟨ga31, 0, none⟩) n X) := P_3.out.next hb
            have Q_4 : Hid (RowS v4 v1.heap.size v2.heap.size (some ⟨gb31, 0, none⟩) p Y) := Q_3.out.next hb
            have Z_4 : Hid (Bx v4 (v2.heap.size) [.slice none 0 0]) := Z_3.out.next hb
            have G_4 : Hid (RowS v4 v3.heap.size v4.heap.size a5 L.length (atZ L)) := RowS.of hi
            clear hb hi
            refine hK.out _ _ ⟨A_4.out, D_4.out⟩ (fun hHeld => ?_)
            clear hK KC
            refine take_v (v := ?_) 6 ⟨some 98, Op.move (Operand.tmp 104), _, _, _, none⟩ rfl (fun _ _ _ h => h) ?_ hHeld ?_
            rotate_left
            · (intro W _; go_simp <;> (try with_reducible rfl))
            refine take_v (v := ?_) 7 ⟨some 105, Op.extract (Operand.tmp 98) 0, _, _, _, none⟩ rfl (fun _ _ _ h => h) ?_ hHeld ?_
            rotate_left
            · (intro W _; go_simp <;> (try with_reducible rfl))
            refine take_v (v := ?_) 8 ⟨some 106, Op.extract (Operand.tmp 98) 1, _, _, _, none⟩ rfl (fun _ _ _ h => h) ?_ hHeld ?_
            rotate_left
            · (intro W _; go_simp <;> (try with_reducible rfl))
            refine ready_call 10 ⟨none, Op.store 25 (Operand.tmp 17) (Operand.tmp 105), _, _, _, none⟩ (by kernel_rfl) rfl (by kernel_rfl) (fun KC hK => ?_)
            have zc := Z_4.out.cell 0 rfl
            have zf := Z_4.out.frz 0 (by simp)
            have zz := Z_4.out.2
            go_wp2_with fail
            clear zc zf zz
            refine hK.out _ _ (by first | exact ⟨box_set A_4.out (by have := A_4.out.2; have := LB_4.out.size; omega), box_set D_4.out (by have := D_4.out.2; have := LB_4.out.size; omega)⟩) (fun hHeld => ?_)
            clear hK KC
            refine take_v (v := ?_) 11 ⟨some 18, Op.assign (Operand.tmp 106), _, _, _, none⟩ rfl (fun _ _ _ h => h) ?_ hHeld ?_
            rotate_left
            · (intro W _; go_simp <;> (try with_reducible rfl))
            refine wpAnyH_done (by kernel_rfl) ?_ _
            refine NoPanic.normal ?_
            go_wp2_with fail
            go_meet
            exact ⟨v2.heap.size, a5, cap5, rfl, rfl, by have := LB_4.out.size; omega, ⟨(Z_4.out.set (k := 0) (by simp) _).cell 0 rfl, by simpa using Z_4.out.2⟩, ⟨(ints_apart G_4.out.1 (by omega)).wide (by omega) (by first | (simp; done) | simpa using G_4.out.2), Nat.le_refl _⟩, LB_4.out.setCell (p := ⟨v2.heap.size, 0, none⟩) (by show w21.heap.size ≤ v2.heap.size; omega) _⟩
        ·
          go_wp2_with fail
          obtain ⟨v2, hvn⟩ : ∃ x, x = v1.alloc (.cells #[.slice none 0 0] 25) := ⟨_, rfl⟩
          have hb : Below v1.heap.size v1 v2 := hvn ▸ Go.Joins.below_alloc1 _ _
          have LB_2 : Hid (Below w21.heap.size w21 v2) := below_next LB_1.out hb
          have sz_2 : v1.heap.size < v2.heap.size := by rw [hvn]; simp
          have A_2 : Hid (BoxS v2 w.heap.size (.slice a n cap)) := A_1.out.next hb
          have D_2 : Hid (BoxS v2 (w.heap.size + 1) (.slice a' p cap')) := D_1.out.next hb
          have P_2 : Hid (RowS v2 v0.heap.size v1.heap.size (some ⟨ga31, 0, none⟩) n X) := P_1.out.next hb
          have Z_2 : Hid (Bx v2 (v1.heap.size) [.slice none 0 0]) := hvn ▸ Bx.new _ [.slice none 0 0] _
          rw [← hvn]
          clear hb hvn
          refine hK.out _ _ ⟨A_2.out, D_2.out⟩ (fun hHeld => ?_)
          clear hK KC
          refine ready_call 3 ⟨some 102, Op.call { callee := Callee.value (Operand.func 38), args := #[Operand.tmp 101], argTypes := #[49] }, _, _, _, none⟩ (by kernel_rfl) rfl (by kernel_rfl) (fun KC hK => ?_)
          go_wp2_with fail
          refine (toGroup_any _ _ _ Y _ hp (HS.out.2.kept (below_next hbo LB_2.out))).mono ?_
          rintro r v3 ⟨⟨gb31, rfl, hi⟩, hb⟩
          have LB_3 : Hid (Below w21.heap.size w21 v3) := below_next LB_2.out hb
          have sz_3 : v2.heap.size ≤ v3.heap.size := hb.size
          have A_3 : Hid (BoxS v3 w.heap.size (.slice a n cap)) := A_2.out.next hb
          have D_3 : Hid (BoxS v3 (w.heap.size + 1) (.slice a' p cap')) := D_2.out.next hb
          have P_3 : Hid (RowS v3 v0.heap.size v1.heap.size (some ⟨ga31, 0, none⟩) n X) := P_2.out.next hb
          have Z_3 : Hid (Bx v3 (v1.heap.size) [.slice none 0 0]) := Z_2.out.next hb
          have Q_3 : Hid (RowS v3 v2.heap.size v3.heap.size (some ⟨gb31, 0, none⟩) p Y) := RowS.of hi
          clear hb hi
          refine hK.out _ _ ⟨A_3.out, D_3.out⟩ (fun hHeld => ?_)
          clear hK KC
          refine ready_call 5 ⟨some 104, Op.call { callee := Callee.value (Operand.func 22), args := #[Operand.tmp 100, Operand.tmp 102, Operand.tmp 103], argTypes := #[25, 25, 3] }, _, _, _, none⟩ (by kernel_rfl) rfl (by kernel_rfl) (fun KC hK => ?_)
          go_wp2_with fail
          refine (HIM.out _ _ _ _ _ P_3.out.sl Q_3.out.sl).mono ?_
          rintro r v4 ⟨⟨a5, cap5, rfl, hi⟩, hb⟩
          have LB_4 : Hid (Below w21.heap.size w21 v4) := below_next LB_3.out hb
          have sz_4 : v3.heap.size ≤ v4.heap.size := hb.size
          have A_4 : Hid (BoxS v4 w.heap.size (.slice a n cap)) := A_3.out.next hb
          have D_4 : Hid (BoxS v4 (w.heap.size + 1) (.slice a' p cap')) := D_3.out.next hb
          have P_4 : Hid (RowS v4 v0.heap.size v1.heap.size (some ⟨ga31, 0, none⟩) n X) := P_3.out.next hb
          have Z_4 : Hid (Bx v4 (v1.heap.size) [.slice none 0 0]) := Z_3.out.next hb
          have Q_4 : Hid (RowS v4 v2.heap.size v3.heap.size (some ⟨gb31, 0, none⟩) p Y) := Q_3.out.next hb
          have G_4 : Hid (RowS v4 v3.heap.size v4.heap.size a5 L.length (atZ L)) := RowS.of hi
          clear hb hi
          refine hK.out _ _ ⟨A_4.out, D_4.out⟩ (fun hHeld => ?_)
          clear hK KC
          refine take_v (v := ?_) 6 ⟨some 98, Op.move (Operand.tmp 104), _, _, _, none⟩ rfl (fun _ _ _ h => h) ?_ hHeld ?_
          rotate_left
          · (intro W _; go_simp <;> (try with_reducible rfl))
          refine take_v (v := ?_) 7 ⟨some 105, Op.extract (Operand.tmp 98) 0, _, _, _, none⟩ rfl (fun _ _ _ h => h) ?_ hHeld ?_
          rotate_left
          · (intro W _; go_simp <;> (try with_reducible rfl))
          refine take_v (v := ?_) 8 ⟨some 106, Op.extract (Operand.tmp 98) 1, _, _, _, none⟩ rfl (fun _ _ _ h => h) ?_ hHeld ?_
          rotate_left
          · (intro W _; go_simp <;> (try with_reducible rfl))
          refine ready_call 10 ⟨none, Op.store 25 (Operand.tmp 17) (Operand.tmp 105), _, _, _, none⟩ (by kernel_rfl) rfl (by kernel_rfl) (fun KC hK => ?_)
          have zc := Z_4.out.cell 0 rfl
          have zf := Z_4.out.frz 0 (by simp)
          have zz := Z_4.out.2
          go_wp2_with fail
          clear zc zf zz
          refine hK.out _ _ (by first | exact ⟨box_set A_4.out (by have := A_4.out.2; have := LB_4.out.size; omega), box_set D_4.out (by have := D_4.out.2; have := LB_4.out.size; omega)⟩) (fun hHeld => ?_)
          clear hK KC
          refine take_v (v := ?_) 11 ⟨some 18, Op.assign (Operand.tmp 106), _, _, _, none⟩ rfl (fun _ _ _ h => h) ?_ hHeld ?_
          rotate_left
          · (intro W _; go_simp <;> (try with_reducible rfl))
          refine wpAnyH_done (by kernel_rfl) ?_ _
          refine NoPanic.normal ?_
          go_wp2_with fail
          go_meet
          exact ⟨v1.heap.size, a5, cap5, rfl, rfl, by have := LB_4.out.size; omega, ⟨(Z_4.out.set (k := 0) (by simp) _).cell 0 rfl, by simpa using Z_4.out.2⟩, ⟨(ints_apart G_4.out.1 (by omega)).wide (by omega) (by first | (simp; done) | simpa using G_4.out.2), Nat.le_refl _⟩, LB_4.out.setCell (p := ⟨v1.heap.size, 0, none⟩) (by show w21.heap.size ≤ v1.heap.size; omega) _⟩
      ·
        go_wp2_with fail
        obtain ⟨v1, hvn⟩ : ∃ x, x = v0.alloc (.cells #[.slice none 0 0] 25) := ⟨_, rfl⟩
        have hb : Below v0.heap.size v0 v1 := hvn ▸ Go.Joins.below_alloc1 _ _
        have LB_1 : Hid (Below w21.heap.size w21 v1) := below_next LB_0.out hb
        have sz_1 : v0.heap.size < v1.heap.size := by rw [hvn]; simp
        have A_1 : Hid (BoxS v1 w.heap.size (.slice a n cap)) := A_0.out.next hb
        have D_1 : Hid (BoxS v1 (w.heap.size + 1) (.slice a' p cap')) := D_0.out.next hb
        have Z_1 : Hid (Bx v1 (v0.heap.size) [.slice none 0 0]) := hvn ▸ Bx.new _ [.slice none 0 0] _
        rw [← hvn]
        clear hb hvn
        refine hK.out _ _ ⟨A_1.out, D_1.out⟩ (fun hHeld => ?_)
        clear hK KC
        refine ready_call 1 ⟨some 100, Op.call { callee := Callee.value (Operand.func 38), args := #[Operand.tmp 99], argTypes := #[49] }, _, _, _, none⟩ (by kernel_rfl) rfl (by kernel_rfl) (fun KC hK => ?_)
        go_wp2_with fail
        refine (toGroup_any _ _ _ X _ hn (HS.out.1.kept (below_next hbo LB_1.out))).mono ?_
        rintro r v2 ⟨⟨ga31, rfl, hi⟩, hb⟩
        have LB_2 : Hid (Below w21.heap.size w21 v2) := below_next LB_1.out hb
        have sz_2 : v1.heap.size ≤ v2.heap.size := hb.size
        have A_2 : Hid (BoxS v2 w.heap.size (.slice a n cap)) := A_1.out.next hb
        have D_2 : Hid (BoxS v2 (w.heap.size + 1) (.slice a' p cap')) := D_1.out.next hb
        have Z_2 : Hid (Bx v2 (v0.heap.size) [.slice none 0 0]) := Z_1.out.next hb
        have P_2 : Hid (RowS v2 v1.heap.size v2.heap.size (some ⟨ga31, 0, none⟩) n X) := RowS.of hi
        clear hb hi
        refine hK.out _ _ ⟨A_2.out, D_2.out⟩ (fun hHeld => ?_)
        clear hK KC
        refine ready_call 3 ⟨some 102, Op.call { callee := Callee.value (Operand.func 38), args := #[Operand.tmp 101], argTypes := #[49] }, _, _, _, none⟩ (by kernel_rfl) rfl (by kernel_rfl) (fun KC hK => ?_)
        go_wp2_with fail
        refine (toGroup_any _ _ _ Y _ hp (HS.out.2.kept (below_next hbo LB_2.out))).mono ?_
        rintro r v3 ⟨⟨gb31, rfl, hi⟩, hb⟩
        have LB_3 : Hid (Below w21.heap.size w21 v3) := below_next LB_2.out hb
        have sz_3 : v2.heap.size ≤ v3.heap.size := hb.size
        have A_3 : Hid (BoxS v3 w.heap.size (.slice a n cap)) := A_2.out.next hb
        have D_3 : Hid (BoxS v3 (w.heap.size + 1) (.slice a' p cap')) := D_2.out.next hb
        have Z_3 : Hid (Bx v3 (v0.heap.size) [.slice none 0 0]) := Z_2.out.next hb
        have P_3 : Hid (RowS v3 v1.heap.size v2.heap.size (some ⟨ga31, 0, none⟩) n X) := P_2.out.next hb
        have Q_3 : Hid (RowS v3 v2.heap.size v3.heap.size (some ⟨gb31, 0, none⟩) p Y) := RowS.of hi
        clear hb hi
        refine hK.out _ _ ⟨A_3.out, D_3.out⟩ (fun hHeld => ?_)
        clear hK KC
        refine ready_call 5 ⟨some 104, Op.call { callee := Callee.value (Operand.func 22), args := #[Operand.tmp 100, Operand.tmp 102, Operand.tmp 103], argTypes := #[25, 25, 3] }, _, _, _, none⟩ (by kernel_rfl) rfl (by kernel_rfl) (fun KC hK => ?_)
        go_wp2_with fail
        refine (HIM.out _ _ _ _ _ P_3.out.sl Q_3.out.sl).mono ?_
        rintro r v4 ⟨⟨a5, cap5, rfl, hi⟩, hb⟩
        have LB_4 : Hid (Below w21.heap.size w21 v4) := below_next LB_3.out hb
        have sz_4 : v3.heap.size ≤ v4.heap.size := hb.size
        have A_4 : Hid (BoxS v4 w.heap.size (.slice a n cap)) := A_3.out.next hb
        have D_4 : Hid (BoxS v4 (w.heap.size + 1) (.slice a' p cap')) := D_3.out.next hb
        have Z_4 : Hid (Bx v4 (v0.heap.size) [.slice none 0 0]) := Z_3.out.next hb
        have P_4 : Hid (RowS v4 v1.heap.size v2.heap.size (some ⟨ga31, 0, none⟩) n X) := P_3.out.next hb
        have Q_4 : Hid (RowS v4 v2.heap.size v3.heap.size (some ⟨gb31, 0, none⟩) p Y) := Q_3.out.next hb
        have G_4 : Hid (RowS v4 v3.heap.size v4.heap.size a5 L.length (atZ L)) := RowS.of hi
        clear hb hi
        refine hK.out _ _ ⟨A_4.out, D_4.out⟩ (fun hHeld => ?_)
        clear hK KC
        refine take_v (v := ?_) 6 ⟨some 98, Op.move (Operand.tmp 104), _, _, _, none⟩ rfl (fun _ _ _ h => h) ?_ hHeld ?_
        rotate_left
        · (intro W _; go_simp <;> (try with_reducible rfl))
        refine take_v (v := ?_) 7 ⟨some 105, Op.extract (Operand.tmp 98) 0, _, _, _, none⟩ rfl (fun _ _ _ h => h) ?_ hHeld ?_
        rotate_left
        · (intro W _; go_simp <;> (try with_reducible rfl))
        refine take_v (v := ?_) 8 ⟨some 106, Op.extract (Operand.tmp 98) 1, _, _, _, none⟩ rfl (fun _ _ _ h => h) ?_ hHeld ?_
        rotate_left
        · (intro W _; go_simp <;> (try with_reducible rfl))
        refine ready_call 10 ⟨none, Op.store 25 (Operand.tmp 17) (Operand.tmp 105), _, _, _, none⟩ (by kernel_rfl) rfl (by kernel_rfl) (fun KC hK => ?_)
        have zc := Z_4.out.cell 0 rfl
        have zf := Z_4.out.frz 0 (by simp)
        have zz := Z_4.out.2
        go_wp2_with fail
        clear zc zf zz
        refine hK.out _ _ (by first | exact ⟨box_set A_4.out (by have := A_4.out.2; have := LB_4.out.size; omega), box_set D_4.out (by have := D_4.out.2; have := LB_4.out.size; omega)⟩) (fun hHeld => ?_)
        clear hK KC
        refine take_v (v := ?_) 11 ⟨some 18, Op.assign (Operand.tmp 106), _, _, _, none⟩ rfl (fun _ _ _ h => h) ?_ hHeld ?_
        rotate_left
        · (intro W _; go_simp <;> (try with_reducible rfl))
        refine wpAnyH_done (by kernel_rfl) ?_ _
        refine NoPanic.normal ?_
        go_wp2_with fail
        go_meet
        exact ⟨v0.heap.size, a5, cap5, rfl, rfl, by have := LB_4.out.size; omega, ⟨(Z_4.out.set (k := 0) (by simp) _).cell 0 rfl, by simpa using Z_4.out.2⟩, ⟨(ints_apart G_4.out.1 (by omega)).wide (by omega) (by first | (simp; done) | simpa using G_4.out.2), Nat.le_refl _⟩, LB_4.out.setCell (p := ⟨v0.heap.size, 0, none⟩) (by show w21.heap.size ≤ v0.heap.size; omega) _⟩
    case rest =>
      obtain ⟨blkH, aH, capH, rfl, rfl, hloH, hbx, hrw, hb⟩ := hcut
      obtain ⟨y22, hy⟩ : ∃ x, x = wc := ⟨wc, rfl⟩
      subst hy
      have hblH : blkH < y22.heap.size := hbx.2
      have HB22 : Hid (Below w.heap.size w y22) := below_next HB21.out hb
      have sz22 : w21.heap.size ≤ y22.heap.size := hb.size
      have A_22 : Hid (BoxS y22 w.heap.size (.slice a n cap)) := A_21.out.next hb
      have D_22 : Hid (BoxS y22 (w.heap.size + 1) (.slice a' p cap')) := D_21.out.next hb
      have SB_22 : Hid (BoxS y22 blkS (.slice aS L.length capS)) := SB_21.out.next hb
      have S_22 : Hid (RowS y22 w2.heap.size y3.heap.size aS L.length (atZ L)) := S_21.out.next hb
      have G_22 : Hid (RowS y22 w7.heap.size w8.heap.size a8 L.length (fun i => 1 + (i : Int))) := G_21.out.next hb
      have GB_22 : Hid (BoxS y22 w8.heap.size (.slice a8 L.length cap8)) := GB_21.out.next hb
      have HB_22 : Hid (BoxS y22 blkH (.slice aH L.length capH)) := hbx
      have H_22 : Hid (RowS y22 w21.heap.size y22.heap.size aH L.length (atZ L)) := hrw
      clear hb hbx hrw hbo szo A_21 D_21 SB_21 S_21 G_21 GB_21 HB21
      have cHB := HB_22.out.1
      have zHB := HB_22.out.2
      have cSB := SB_22.out.1
      have zSB := SB_22.out.2
      go_wp2_with fail
      refine (eqGroup_same _ _ _ _ _ (atZ L) _ hN0 H_22.out.sl S_22.out.sl).mono ?_
      rintro r w23 ⟨rfl, hb⟩
      have HB23 : Hid (Below w.heap.size w w23) := below_next HB22.out hb
      have sz23 : y22.heap.size ≤ w23.heap.size := hb.size
      have A_23 : Hid (BoxS w23 w.heap.size (.slice a n cap)) := A_22.out.next hb
      have D_23 : Hid (BoxS w23 (w.heap.size + 1) (.slice a' p cap')) := D_22.out.next hb
      have SB_23 : Hid (BoxS w23 blkS (.slice aS L.length capS)) := SB_22.out.next hb
      have S_23 : Hid (RowS w23 w2.heap.size y3.heap.size aS L.length (atZ L)) := S_22.out.next hb
      have G_23 : Hid (RowS w23 w7.heap.size w8.heap.size a8 L.length (fun i => 1 + (i : Int))) := G_22.out.next hb
      have GB_23 : Hid (BoxS w23 w8.heap.size (.slice a8 L.length cap8)) := GB_22.out.next hb
      have HB_23 : Hid (BoxS w23 blkH (.slice aH L.length capH)) := HB_22.out.next hb
      have H_23 : Hid (RowS w23 w21.heap.size y22.heap.size aH L.length (atZ L)) := H_22.out.next hb
      clear hb cHB zHB cSB zSB A_22 D_22 SB_22 S_22 G_22 GB_22 HB_22 H_22 HB22
      have cGB := GB_23.out.1
      have zGB := GB_23.out.2
      go_wp2_with fail
      refine (heldGroup_any _ _ _ 1 _ hN0 (by omega) (by omega) G_23.out.sl).mono ?_
      rintro r w24 ⟨rfl, hb⟩
      have HB24 : Hid (Below w.heap.size w w24) := below_next HB23.out hb
      have sz24 : w23.heap.size ≤ w24.heap.size := hb.size
      have A_24 : Hid (BoxS w24 w.heap.size (.slice a n cap)) := A_23.out.next hb
      have D_24 : Hid (BoxS w24 (w.heap.size + 1) (.slice a' p cap')) := D_23.out.next hb
      have SB_24 : Hid (BoxS w24 blkS (.slice aS L.length capS)) := SB_23.out.next hb
      have S_24 : Hid (RowS w24 w2.heap.size y3.heap.size aS L.length (atZ L)) := S_23.out.next hb
      have G_24 : Hid (RowS w24 w7.heap.size w8.heap.size a8 L.length (fun i => 1 + (i : Int))) := G_23.out.next hb
      have GB_24 : Hid (BoxS w24 w8.heap.size (.slice a8 L.length cap8)) := GB_23.out.next hb
      have HB_24 : Hid (BoxS w24 blkH (.slice aH L.length capH)) := HB_23.out.next hb
      have H_24 : Hid (RowS w24 w21.heap.size y22.heap.size aH L.length (atZ L)) := H_23.out.next hb
      clear hb cGB zGB A_23 D_23 SB_23 S_23 G_23 GB_23 HB_23 H_23 HB23
      have HE := HB24
      go_wp2
      go_ret
      exact ⟨rfl, HE.out⟩


theorem own : ownKnob Try.prog.godebug = none := by kernel_rfl
theorem laidOut : laidOutB Try.prog = true := by kernel_rfl

set_option maxRecDepth 100000 in
theorem lifted (os : Os) (started : os.Started) (H : Type) (enc : TypeId × Value → H) :
    ReturnsInHanded {} Try.checked os 14 .any (Rows.fnExactMeetOfSpec.pre6 enc Try.prog Try.f14 Rows.fnExactMeetOfRow.domain false) (Rows.fnExactMeetOfSpec.post enc Try.prog Try.f14 false true false false) := by
  refine returnsInHanded_of_change (C := Try.checked) own started (by kernel_rfl) Try.func14
    (ChangeSpec.witness6 (enc := enc) (C := Try.checked) false ⟨#[], #[.agg #[.slice none 0 0], .agg #[.slice none 0 0], .int .i64 0], []⟩ 8 (by kernel_rfl) (by kernel_rfl) (by kernel_rfl) (by kernel_rfl)) ?_
  intro W base args ds gs before hval0 hW hcnd _
  have hval : ∀ (j : Nat) t v, Try.f14.params[j]? = some t → args[j]? = some v → Value.okWide Try.prog W .any base t v := hval0
  have hW' := hW
  obtain ⟨p, q, hA0, hV, rfl, hfz, hnd⟩ := hW
  have hA : DataW.TrodAll enc Try.prog W 0 (fun _ => true) true Try.f14.params.toList args.toList ds p := hA0
  rw [Try.params14] at hA hval
  obtain ⟨v0, vs0, d0, ds0, p0, q0, hargs, rfl, rfl, h0, r0⟩ := trodAll_cons hA
  obtain ⟨v1, vs1, d1, ds1, p1, q1, rfl, rfl, rfl, h1, r1⟩ := trodAll_cons r0
  obtain ⟨v2, vs2, d2, ds2, p2, q2, rfl, rfl, rfl, h2, r2⟩ := trodAll_cons r1
  obtain ⟨rfl, rfl, rfl⟩ := trodAll_nil r2
  obtain rfl : args = #[v0, v1, v2] := by cases args; simp_all
  obtain ⟨rfl, rfl⟩ := trodVars_none hV
  have k0 := h0
  have lt0 : ∀ x ∈ p0, x.block < W.heap.size := by obtain ⟨m, hm⟩ := k0; exact DataW.trod_lt m _ _ _ hm
  obtain ⟨a0, len0, cap0, rfl, n0, X0, s0⟩ := open_group (hval 0 49 v0 rfl rfl) h0
  have k1 := h1
  have lt1 : ∀ x ∈ p1, x.block < W.heap.size := by obtain ⟨m, hm⟩ := k1; exact DataW.trod_lt m _ _ _ hm
  obtain ⟨a1, len1, cap1, rfl, n1, X1, s1⟩ := open_group (hval 1 49 v1 rfl rfl) h1
  have k2 := h2
  have lt2 : ∀ x ∈ p2, x.block < W.heap.size := by obtain ⟨m, hm⟩ := k2; exact DataW.trod_lt m _ _ _ hm
  obtain ⟨a2, rfl, rfl, rfl, w2⟩ := open_int Try.underlying3 (hval 2 3 v2 rfl rfl) h2
  clear hA0 hval0
  refine (walk (w := W) a0 len0 cap0 X0 n0 s0 a1 len1 cap1 X1 n1 s1 a2 w2).mono fun e W' ⟨he, bel⟩ => ?_
  subst he
  exact ⟨_, rfl, _, _, _, [], _, [], hW', trodAll_mk1 (shut_bool Try.underlying4 _), (trodAll_cons_mk (Below.trod laidOut (by kernel_rfl) (of_decide_eq_true (by kernel_rfl)) k0 bel lt0) (trodAll_cons_mk (Below.trod laidOut (by kernel_rfl) (of_decide_eq_true (by kernel_rfl)) k1 bel lt1) (trodAll_cons_mk (Below.trod laidOut (by kernel_rfl) (of_decide_eq_true (by kernel_rfl)) k2 bel lt2) trodAll_mk0))), rfl, bel.frame _, fun h => by cases h⟩

set_option maxHeartbeats 40000000 in
theorem closed : joinedFacts Try.pinned.checked.prog 14 Try.f14 Rows.fnExactMeetOfSpec Rows.fnExactMeetOfRow = true := by
  unfold joinedFacts
  repeat' (first | (with_reducible refine both ?_ ?_) | (with_reducible exact may_enter') | (with_reducible refine lifts_eq ?_) | (with_reducible refine make_eq ?_) | as_aux_lemma => kernel_rfl)
theorem named : Try.pinned.checked.prog.funcNamed Rows.fnExactMeetOfRow.func = some 14 := by kernel_rfl
theorem over : Rows.fnExactMeetOfRow.holds Try.pinned (OpenSpec.ofChange Rows.fnExactMeetOfSpec) :=
  OpenClaim.holds_of_wide 14 Try.f14 rfl rfl rfl rfl rfl rfl rfl ⟨rfl, rfl, rfl, rfl, rfl⟩ rfl rfl rfl rfl rfl named Try.func14 closed
    (of_decide_eq_true (by as_aux_lemma => kernel_rfl)) (by unfold Func.isWrapper; first | (rw [if_pos (by decide +kernel)]; kernel_rfl) | (rw [if_neg (by decide +kernel)]; exact ⟨rfl, rfl⟩))
    (fun os started H enc _ => lifted os started H enc)

end Go.Proofs.Ytalnmollgielcaa.xMeetOf
namespace Go.Proofs.Ytalnmollgielcaa
theorem xMeetOf_holds : Rows.FnExactMeetOfSaid := xMeetOf.over
#print axioms xMeetOf_holds
end Go.Proofs.Ytalnmollgielcaa
