/- The contracts of MeetOf, on both sides. -/
import Derived.Test.YtalnmollgielcaaMtI
namespace Go.Proofs.Ytalnmollgielcaa
open Go.RowKit
set_option linter.unusedVariables false

set_option maxRecDepth 100000 in
set_option maxHeartbeats 4000000 in
theorem meetOf_any (a : Option Addr) (n cap : Nat) (X : Nat → Int) (a' : Option Addr) (p cap' : Nat) (Y : Nat → Int) (m : Int) (w : World) (hn : n ≤ 1048576) (hp : p ≤ 1048576) (hs : Sl w a n 1 (intF X)) (hs' : Sl w a' p 1 (intF Y)) :
    Calls Try.prog 22 #[.agg #[.slice a n cap], .agg #[.slice a' p cap'], .int .i64 m] w (GtPost (meL X n Y p m) (meB X n Y p m) w) := by
  have HS : Hid (Sl w a n 1 (intF X) ∧ Sl w a' p 1 (intF Y)) := ⟨hs, hs'⟩
  clear hs hs'
  obtain ⟨w0, hw0⟩ : ∃ x, x = ((w.alloc (.cells #[.slice a n cap] 25)).alloc (.cells #[.slice a' p cap'] 25)).alloc (.cells #[.slice none 0 0] 25) := ⟨_, rfl⟩
  have H0 : Hid (BoxS w0 w.heap.size (.slice a n cap) ∧ BoxS w0 (w.heap.size + 1) (.slice a' p cap') ∧ Bx w0 (w.heap.size + 1 + 1) [.slice none 0 0] ∧ Below w.heap.size w w0) := Hid.intro (by
    rw [hw0]
    refine ⟨((BoxS.new w _ _).next (Go.Joins.below_alloc1 _ _)).next (Go.Joins.below_alloc1 _ _), ?_, ?_, (((Below.refl _ _).alloc (Nat.le_refl _) _).alloc (by simp) _).alloc (by simp; omega) _⟩
    · have := (BoxS.new (w.alloc (.cells #[.slice a n cap] 25)) (.slice a' p cap') 25).next (Go.Joins.below_alloc1 _ (.cells #[.slice none 0 0] 25))
      simpa using this
    · have := Bx.new ((w.alloc (.cells #[.slice a n cap] 25)).alloc (.cells #[.slice a' p cap'] 25)) [.slice none 0 0] 25
      simpa using this)
  have HNO : Hid (∀ W : World, Below w.heap.size w W → meB X n Y p m = false → GtPost (meL X n Y p m) (meB X n Y p m) w (.returned (.tuple #[.agg #[.slice none 0 0], .bool false])) (W.setCell ⟨w.heap.size + 1 + 1, 0, none⟩ (.slice none 0 0))) := fun W hb h => by
    rw [show meL X n Y p m = [] by simp [meL, h], h]
    exact gt_no (hb.setCell (p := ⟨w.heap.size + 1 + 1, 0, none⟩) (by show _ ≤ w.heap.size + 1 + 1; omega) _)
  go_enter Try.func22, Try.ntmps22
  go_wp2_with fail
  rw [← hw0]
  clear hw0
  refine (setFrom_any _ _ _ X m _ (by omega) (HS.out.1.kept H0.out.2.2.2)).mono ?_
  rintro r w1 ⟨rfl, hb⟩
  have H1 : Hid (BoxS w1 w.heap.size (.slice a n cap) ∧ BoxS w1 (w.heap.size + 1) (.slice a' p cap') ∧ Bx w1 (w.heap.size + 1 + 1) [.slice none 0 0] ∧ Below w.heap.size w w1) := ⟨H0.out.1.next hb, H0.out.2.1.next hb, H0.out.2.2.1.next hb, below_next H0.out.2.2.2 hb⟩
  clear hb H0
  have x0 := H1.out.1.1
  have x0z := H1.out.1.2
  have y0 := H1.out.2.1.1
  have y0z := H1.out.2.1.2
  have r0 := H1.out.2.2.1.cell 0 rfl
  have rf := H1.out.2.2.1.frz 0 (by simp)
  have rz := H1.out.2.2.1.2
  generalize hsx : grW X n m = sx
  have HSX : Hid (grW X n m = sx) := hsx
  clear hsx
  go_wp2_with fail
  clear x0 x0z y0 y0z r0 rf rz
  refine (setFrom_any _ _ _ Y m _ (by omega) (HS.out.2.kept H1.out.2.2.2)).mono ?_
  rintro r w2 ⟨rfl, hb⟩
  have H2 : Hid (BoxS w2 w.heap.size (.slice a n cap) ∧ BoxS w2 (w.heap.size + 1) (.slice a' p cap') ∧ Bx w2 (w.heap.size + 1 + 1) [.slice none 0 0] ∧ Below w.heap.size w w2) := ⟨H1.out.1.next hb, H1.out.2.1.next hb, H1.out.2.2.1.next hb, below_next H1.out.2.2.2 hb⟩
  clear hb H1
  have x0 := H2.out.1.1
  have x0z := H2.out.1.2
  have y0 := H2.out.2.1.1
  have y0z := H2.out.2.1.2
  have r0 := H2.out.2.2.1.cell 0 rfl
  have rf := H2.out.2.2.1.frz 0 (by simp)
  have rz := H2.out.2.2.1.2
  generalize hsy : grW Y p m = sy
  have HSY : Hid (grW Y p m = sy) := hsy
  clear hsy
  cases hgx : grB X n m
  · have HN : Hid (meB X n Y p m = false) := by show meB X n Y p m = false; simp [meB, hgx]
    obtain ⟨gy, hgy⟩ : ∃ g, grB Y p m = g := ⟨_, rfl⟩
    rw [hgy]
    clear hgy
    cases gy
    all_goals
      go_wp2
      exact bodyPost_ret (v := .tuple #[.agg #[.slice none 0 0], .bool false]) (by simp [results, Try.results22, go_sem, *]) rfl (HNO.out _ H2.out.2.2.2 HN.out)
  cases hgy : grB Y p m
  · have HN : Hid (meB X n Y p m = false) := by show meB X n Y p m = false; simp [meB, hgy]
    go_wp2
    exact bodyPost_ret (v := .tuple #[.agg #[.slice none 0 0], .bool false]) (by simp [results, Try.results22, go_sem, *]) rfl (HNO.out _ H2.out.2.2.2 HN.out)
  have HY : Hid (meB X n Y p m = true) := by show meB X n Y p m = true; simp [meB, hgx, hgy]
  have HE : Hid (bitsZ (sx &&& sy) 12 = mtTo X Y p n) := Hid.intro (by
    rw [← HSX.out, ← HSY.out, show grW X n m = wd X n by simp [grW, hgx], show grW Y p m = wd Y p by simp [grW, hgy]]
    exact meet_bits (grB_iff.1 hgx).1.2 (grB_iff.1 hgx).2 (grB_iff.1 hgy).2)
  have HL : Hid (sx < 65536 ∧ sy < 65536) := ⟨by rw [← HSX.out]; exact Nat.lt_trans grW_lt (by omega), by rw [← HSY.out]; exact Nat.lt_trans grW_lt (by omega)⟩
  have hand : bits .and .u16 (sx : Int) (sy : Int) = ((sx &&& sy : Nat) : Int) := and_u16 _ _ HL.out.1 HL.out.2
  have hmf : ∀ (fn : Fn) (first cap : Array Value) (w : World), (Instr.makeFunc fn first cap).run Try.prog w = .ok (.func fn first cap) w := fun _ _ _ _ => rfl
  clear hgx hgy
  go_wp2_with fail
  (try rw [hand])
  clear x0 x0z y0 y0z r0 rf rz
  refine (groupWhere_any _ _ (Nat.lt_of_le_of_lt Nat.and_le_left HL.out.1)).mono ?_
  rintro r w3 ⟨⟨a5, cap5, rfl, hi⟩, hb⟩
  have H3 : Hid (Bx w3 (w.heap.size + 1 + 1) [.slice none 0 0] ∧ Below w.heap.size w w3) := ⟨H2.out.2.2.1.next hb, below_next H2.out.2.2.2 hb⟩
  have z2 : w.heap.size + 1 + 1 < w2.heap.size := H2.out.2.2.1.2
  have HP : Hid (∀ W : World, Below w.heap.size w W → IntS W w.heap.size W.heap.size a5 (bitsZ (sx &&& sy) 12).length (atZ (bitsZ (sx &&& sy) 12)) → GtPost (meL X n Y p m) (meB X n Y p m) w (.returned (.tuple #[.agg #[.slice a5 (bitsZ (sx &&& sy) 12).length cap5], .bool true])) W) := fun W hb hi => by
    rw [HY.out]
    rw [show meL X n Y p m = bitsZ (sx &&& sy) 12 by simp only [meL, HY.out, if_true]; exact HE.out.symm]
    exact ⟨⟨a5, cap5, rfl, hi⟩, hb⟩
  clear hand hmf
  have HI : Hid (IntS w3 w2.heap.size w3.heap.size a5 (bitsZ (sx &&& sy) 12).length (atZ (bitsZ (sx &&& sy) 12))) := hi
  clear hb hi H2 HL
  generalize bitsZ (sx &&& sy) 12 = L at *
  have r0 := H3.out.1.cell 0 rfl
  have rf := H3.out.1.frz 0 (by simp)
  have rz := H3.out.1.2
  go_wp2
  refine bodyPost_ret (v := .tuple #[.agg #[.slice a5 L.length cap5], .bool true]) (by simp [results, Try.results22, go_sem, *]) rfl (HP.out _ (H3.out.2.setCell (p := ⟨w.heap.size + 1 + 1, 0, none⟩) (by show _ ≤ w.heap.size + 1 + 1; omega) _) ?_)
  have t : Turned (w.heap.size + 1 + 1) (w.heap.size + 1 + 1 + 1) w3 (w3.setCell ⟨w.heap.size + 1 + 1, 0, none⟩ (.slice a5 L.length cap5)) := (Turned.refl _ _ _).set (p := ⟨w.heap.size + 1 + 1, 0, none⟩) (Nat.le_refl _) (by show w.heap.size + 1 + 1 < _; omega) _
  have q := (t.ints HI.out (Or.inr (by omega))).wide (show w.heap.size ≤ w2.heap.size by omega) (Nat.le_refl _)
  simpa using q

set_option maxRecDepth 100000 in
set_option maxHeartbeats 4000000 in
theorem specMeetOf_any (a : Option Addr) (n cap : Nat) (X : Nat → Int) (a' : Option Addr) (p cap' : Nat) (Y : Nat → Int) (m : Int) (w : World) (hn : n ≤ 1048576) (hp : p ≤ 1048576) (hm0 : -9223372036854775808 ≤ m) (hm1 : m ≤ 9223372036854775807) (hs : Sl w a n 1 (intF X)) (hs' : Sl w a' p 1 (intF Y)) :
    Calls Try.prog 51 #[.agg #[.slice a n cap], .agg #[.slice a' p cap'], .int .i64 m] w (GtPost (meL X n Y p m) (meB X n Y p m) w) := by
  have HS : Hid (Sl w a n 1 (intF X) ∧ Sl w a' p 1 (intF Y)) := ⟨hs, hs'⟩
  clear hs hs'
  obtain ⟨w0, hw0⟩ : ∃ x, x = ((w.alloc (.cells #[.slice a n cap] 25)).alloc (.cells #[.slice a' p cap'] 25)).alloc (.cells #[.slice none 0 0] 25) := ⟨_, rfl⟩
  have H0 : Hid (BoxS w0 w.heap.size (.slice a n cap) ∧ BoxS w0 (w.heap.size + 1) (.slice a' p cap') ∧ Bx w0 (w.heap.size + 1 + 1) [.slice none 0 0] ∧ Below w.heap.size w w0) := Hid.intro (by
    rw [hw0]
    refine ⟨((BoxS.new w _ _).next (Go.Joins.below_alloc1 _ _)).next (Go.Joins.below_alloc1 _ _), ?_, ?_, (((Below.refl _ _).alloc (Nat.le_refl _) _).alloc (by simp) _).alloc (by simp; omega) _⟩
    · have := (BoxS.new (w.alloc (.cells #[.slice a n cap] 25)) (.slice a' p cap') 25).next (Go.Joins.below_alloc1 _ (.cells #[.slice none 0 0] 25))
      simpa using this
    · have := Bx.new ((w.alloc (.cells #[.slice a n cap] 25)).alloc (.cells #[.slice a' p cap'] 25)) [.slice none 0 0] 25
      simpa using this)
  have HNO : Hid (∀ W : World, Below w.heap.size w W → meB X n Y p m = false → GtPost (meL X n Y p m) (meB X n Y p m) w (.returned (.tuple #[.agg #[.slice none 0 0], .bool false])) (W.setCell ⟨w.heap.size + 1 + 1, 0, none⟩ (.slice none 0 0))) := fun W hb h => by
    rw [show meL X n Y p m = [] by simp [meL, h], h]
    exact gt_no (hb.setCell (p := ⟨w.heap.size + 1 + 1, 0, none⟩) (by show _ ≤ w.heap.size + 1 + 1; omega) _)
  go_enter Try.func51, Try.ntmps51
  go_wp2_with fail
  rw [← hw0]
  clear hw0
  refine (specGoodGroup_any _ _ _ X m _ (by omega) hm0 hm1 (HS.out.1.kept H0.out.2.2.2)).mono ?_
  rintro r w1 ⟨rfl, hb⟩
  have H1 : Hid (BoxS w1 w.heap.size (.slice a n cap) ∧ BoxS w1 (w.heap.size + 1) (.slice a' p cap') ∧ Bx w1 (w.heap.size + 1 + 1) [.slice none 0 0] ∧ Below w.heap.size w w1) := ⟨H0.out.1.next hb, H0.out.2.1.next hb, H0.out.2.2.1.next hb, below_next H0.out.2.2.2 hb⟩
  clear hb H0
  have x0 := H1.out.1.1
  have x0z := H1.out.1.2
  have y0 := H1.out.2.1.1
  have y0z := H1.out.2.1.2
  have r0 := H1.out.2.2.1.cell 0 rfl
  have rf := H1.out.2.2.1.frz 0 (by simp)
  have rz := H1.out.2.2.1.2
  cases hgx : grB X n m
  · have HN : Hid (meB X n Y p m = false) := by show meB X n Y p m = false; simp [meB, hgx]
    go_wp2
    exact bodyPost_ret (v := .tuple #[.agg #[.slice none 0 0], .bool false]) (by simp [results, Try.results51, go_sem, *]) rfl (HNO.out _ H1.out.2.2.2 HN.out)
  go_wp2_with fail
  clear x0 x0z y0 y0z r0 rf rz
  refine (specGoodGroup_any _ _ _ Y m _ (by omega) hm0 hm1 (HS.out.2.kept H1.out.2.2.2)).mono ?_
  rintro r w2 ⟨rfl, hb⟩
  have H2 : Hid (BoxS w2 w.heap.size (.slice a n cap) ∧ BoxS w2 (w.heap.size + 1) (.slice a' p cap') ∧ Bx w2 (w.heap.size + 1 + 1) [.slice none 0 0] ∧ Below w.heap.size w w2) := ⟨H1.out.1.next hb, H1.out.2.1.next hb, H1.out.2.2.1.next hb, below_next H1.out.2.2.2 hb⟩
  clear hb H1
  have x0 := H2.out.1.1
  have x0z := H2.out.1.2
  have y0 := H2.out.2.1.1
  have y0z := H2.out.2.1.2
  have r0 := H2.out.2.2.1.cell 0 rfl
  have rf := H2.out.2.2.1.frz 0 (by simp)
  have rz := H2.out.2.2.1.2
  cases hgy : grB Y p m
  · have HN : Hid (meB X n Y p m = false) := by show meB X n Y p m = false; simp [meB, hgy]
    go_wp2
    exact bodyPost_ret (v := .tuple #[.agg #[.slice none 0 0], .bool false]) (by simp [results, Try.results51, go_sem, *]) rfl (HNO.out _ H2.out.2.2.2 HN.out)
  have HY : Hid (meB X n Y p m = true) := by show meB X n Y p m = true; simp [meB, hgx, hgy]
  clear hgx hgy
  go_wp2_with fail
  clear x0 x0z y0 y0z r0 rf rz
  refine (l8Meet_any _ _ _ X _ _ _ Y _ hn hp (HS.out.1.kept H2.out.2.2.2) (HS.out.2.kept H2.out.2.2.2)).mono ?_
  rintro r w3 ⟨⟨a5, cap5, rfl, hi⟩, hb⟩
  have H3 : Hid (Bx w3 (w.heap.size + 1 + 1) [.slice none 0 0] ∧ Below w.heap.size w w3) := ⟨H2.out.2.2.1.next hb, below_next H2.out.2.2.2 hb⟩
  have z2 : w.heap.size + 1 + 1 < w2.heap.size := H2.out.2.2.1.2
  have HP : Hid (∀ W : World, Below w.heap.size w W → IntS W w.heap.size W.heap.size a5 (mtTo X Y p n).length (atZ (mtTo X Y p n)) → GtPost (meL X n Y p m) (meB X n Y p m) w (.returned (.tuple #[.agg #[.slice a5 (mtTo X Y p n).length cap5], .bool true])) W) := fun W hb hi => by
    rw [HY.out]
    rw [show meL X n Y p m = mtTo X Y p n by simp [meL, HY.out]]
    exact ⟨⟨a5, cap5, rfl, hi⟩, hb⟩
  have HI : Hid (IntS w3 w2.heap.size w3.heap.size a5 (mtTo X Y p n).length (atZ (mtTo X Y p n))) := hi
  clear hb hi H2
  generalize mtTo X Y p n = L at *
  have r0 := H3.out.1.cell 0 rfl
  have rf := H3.out.1.frz 0 (by simp)
  have rz := H3.out.1.2
  go_wp2
  refine bodyPost_ret (v := .tuple #[.agg #[.slice a5 L.length cap5], .bool true]) (by simp [results, Try.results51, go_sem, *]) rfl (HP.out _ (H3.out.2.setCell (p := ⟨w.heap.size + 1 + 1, 0, none⟩) (by show _ ≤ w.heap.size + 1 + 1; omega) _) ?_)
  have t : Turned (w.heap.size + 1 + 1) (w.heap.size + 1 + 1 + 1) w3 (w3.setCell ⟨w.heap.size + 1 + 1, 0, none⟩ (.slice a5 L.length cap5)) := (Turned.refl _ _ _).set (p := ⟨w.heap.size + 1 + 1, 0, none⟩) (Nat.le_refl _) (by show w.heap.size + 1 + 1 < _; omega) _
  have q := (t.ints HI.out (Or.inr (by omega))).wide (show w.heap.size ≤ w2.heap.size by omega) (Nat.le_refl _)
  simpa using q
end Go.Proofs.Ytalnmollgielcaa
