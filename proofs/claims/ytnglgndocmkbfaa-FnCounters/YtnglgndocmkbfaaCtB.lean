/- Counters: CountBy, on both sides. Written by tools/mkCtB.py. -/
import Derived.Test.YtnglgndocmkbfaaCtA
import Derived.Test.YtnglgndocmkbfaaPrQ
import Derived.Test.YtnglgndocmkbfaaNtX
import Derived.Test.YtnglgndocmkbfaaNtT
import Derived.Test.YtnglgndocmkbfaaRg3
import Derived.Test.YtnglgndocmkbfaaShB
import Derived.Deep.RegionHeld3
import Derived.Maps.AppendAt
namespace Go.Proofs.Ytnglgndocmkbfaa
open Go.RowKit
set_option linter.unusedVariables false
set_option linter.unusedSimpArgs false

def CnP (A : List (Sh.T .int) × List (Sh.T .int) × Bool) (w : World) (r : Ending) (w' : World) : Prop := AnsP shCounter (A.1, A.2.1, ()) A.2.2 w r w' ∧ (A.2.2 = true → ∃ g1 c1 g2 c2, r = .returned (.tuple #[.agg #[.slice (some ⟨g1, 0, none⟩) 6 c1, .slice (some ⟨g2, 0, none⟩) 6 c2], .bool true]) ∧ Rw 3 w' w.heap.size g1 c1 A.1 6 ∧ Rw 3 w' w.heap.size g2 c2 A.2.1 6 ∧ g1 ≠ g2)
theorem CnP.zero {A : List (Sh.T .int) × List (Sh.T .int) × Bool} {w w' : World} (h : A = ([], [], false)) (hb : Below w.heap.size w w') : CnP A w (.returned (.tuple #[.agg #[.slice none 0 0, .slice none 0 0], .bool false])) w' := by
  subst h
  exact ⟨⟨[.slice none 0 0, .slice none 0 0], rfl, mkown_Counter (Own.none (S := fun _ => False) (Nat.zero_le _)) (Own.none (S := fun _ => False) (Nat.zero_le _)) (fun k e => e.elim) (fun k e => e.elim) (fun k e => e.elim), hb⟩, fun e => by cases e⟩
theorem set2 (W : World) (g : Nat) (u0 u1 : Value) : TurnS (fun k => k = g) W ((W.setCell ⟨g, 0, none⟩ u0).setCell ⟨g, 1, none⟩ u1) :=
  ((TurnS.refl (fun k => k = g) W).set (S := fun k => k = g) (p := ⟨g, 0, none⟩) rfl _).set (S := fun k => k = g) (p := ⟨g, 1, none⟩) rfl _
/-- A counter in box b with rows of its own. -/
def CtS (W : World) (lo b g1 c1 g2 c2 : Nat) (u d : List (Sh.T .int)) : Prop := Bx W b [.slice (some ⟨g1, 0, none⟩) 6 c1, .slice (some ⟨g2, 0, none⟩) 6 c2] ∧ Rw 3 W lo g1 c1 u 6 ∧ Rw 3 W lo g2 c2 d 6 ∧ g1 ≠ g2 ∧ b ≠ g1 ∧ b ≠ g2 ∧ lo ≤ b
theorem CtS.of {W : World} {lo b : Nat} {v1 v2 : Value} {u d : List (Sh.T .int)} (h : PrS .int 3 W lo b v1 v2 u d) (h1 : u.length = 6) (h2 : d.length = 6) : ∃ g1 c1 g2 c2, CtS W lo b g1 c1 g2 c2 u d := by
  obtain ⟨q1, q2, q3, q4, q5, q6⟩ := h
  obtain ⟨g1, c1, rfl, s1, r1⟩ := Rw.of q2 (fun e => by rw [e] at h1; cases h1)
  obtain ⟨g2, c2, rfl, s2, r2⟩ := Rw.of q3 (fun e => by rw [e] at h2; cases h2)
  rw [h1] at q1 r1
  rw [h2] at q1 r2
  exact ⟨g1, c1, g2, c2, q1, r1, r2, fun e => (q4 g1 rfl).1 (by rw [e]; rfl), fun e => (q4 g1 rfl).2 e.symm, fun e => q5 g2 rfl e.symm, q6⟩
section
variable {W W' : World} {lo b g1 c1 g2 c2 : Nat} {u d : List (Sh.T .int)}
theorem CtS.next (h : CtS W lo b g1 c1 g2 c2 u d) (hb : Below W.heap.size W W') : CtS W' lo b g1 c1 g2 c2 u d := ⟨h.1.next hb, h.2.1.next hb, h.2.2.1.next hb, h.2.2.2⟩
theorem CtS.turn {S : Nat → Prop} (h : CtS W lo b g1 c1 g2 c2 u d) (ht : TurnS S W W') (hS : ∀ k, S k → k < lo) : CtS W' lo b g1 c1 g2 c2 u d := by
  have h1 := h.2.1.lt.2
  have h2 := h.2.2.1.lt.2
  have h3 := h.2.2.2.2.2.2
  exact ⟨h.1.turnS ht (fun q => by have := hS _ q; omega), h.2.1.turn ht (fun q => by have := hS _ q; omega), h.2.2.1.turn ht (fun q => by have := hS _ q; omega), h.2.2.2⟩
theorem CtS.setU (h : CtS W lo b g1 c1 g2 c2 u d) {k : Nat} (hk : k < 6) (x : Int) : CtS (W.setCell ⟨g1, k, none⟩ (.int .i64 x)) lo b g1 c1 g2 c2 (u.set k x) d := by
  obtain ⟨h1, h2, h3, h4, h5, h6, h7⟩ := h
  exact ⟨h1.other h5, h2.set hk x, h3.other (Ne.symm h4) _, h4, h5, h6, h7⟩
theorem CtS.setD (h : CtS W lo b g1 c1 g2 c2 u d) {k : Nat} (hk : k < 6) (x : Int) : CtS (W.setCell ⟨g2, k, none⟩ (.int .i64 x)) lo b g1 c1 g2 c2 u (d.set k x) := by
  obtain ⟨h1, h2, h3, h4, h5, h6, h7⟩ := h
  exact ⟨h1.other h6, h2.other h4 _, h3.set hk x, h4, h5, h6, h7⟩
theorem CtS.lies (h : CtS W lo b g1 c1 g2 c2 u d) : Lies W shCounter [.slice (some ⟨g1, 0, none⟩) 6 c1, .slice (some ⟨g2, 0, none⟩) 6 c2] (u, d, ()) := by
  have h1 := h.2.1.lies
  have h2 := h.2.2.1.lies
  rw [h.2.1.2] at h1
  rw [h.2.2.1.2] at h2
  exact mk_Counter h1 h2
theorem CtS.done {w : World} {A : List (Sh.T .int) × List (Sh.T .int) × Bool} (h : CtS W lo b g1 c1 g2 c2 u d) (hA : A = (u, d, true)) (hb : Below w.heap.size w W) (hl : w.heap.size ≤ lo) : CnP A w (.returned (.tuple #[.agg #[.slice (some ⟨g1, 0, none⟩) 6 c1, .slice (some ⟨g2, 0, none⟩) 6 c2], .bool true])) W := by
  subst hA
  have h1 := h.2.1.lt
  have h2 := h.2.2.1.lt
  refine ⟨⟨[_, _], rfl, mkown_Counter (S1 := fun k => k = g1) (S2 := fun k => k = g2) (OwnX.own h.2.1.1) (OwnX.own h.2.2.1.1) (fun k e => by have e : k = g1 := e; simp only [Btw]; omega) (fun k e => by have e : k = g2 := e; simp only [Btw]; omega) (fun k e f => by have e : k = g1 := e; have f : k = g2 := f; have := h.2.2.2.1; omega), hb⟩, fun _ => ⟨g1, c1, g2, c2, rfl, h.2.1.lower hl, h.2.2.1.lower hl, h.2.2.2.1⟩⟩
end
/-- Zeroes do not count: the size of a counter. -/
theorem ct_small {u d : List (Sh.T .int)} (h1 : u.length = 6) (h2 : d.length = 6) : szD shCounter (u, d, ()) ≤ 1073741824 := by
  have e : szD shCounter (u, d, ()) = (u.length + (u.map (szD .int)).sum) + ((d.length + (d.map (szD .int)).sum) + 0) := rfl
  have z : ∀ l : List (Sh.T .int), (l.map (szD .int)).sum = 0 := by
    intro l
    induction l with
    | nil => rfl
    | cons x t ih => rw [List.map_cons, List.sum_cons, ih]; rfl
  rw [e, z, z]; omega

set_option maxHeartbeats 400000 in
theorem isActor_n (a : Int) (w : World) : Calls Try.prog 66 #[.int .i64 a] w fun r w' => r = .returned (.bool (inR a 0 5)) ∧ w' = w := by
  go_enter Try.func66, Try.ntmps66
  go_wp2_with (go_at_call 67; refine (inRange_any _ _ _ _).mono ?_; rintro e w' ⟨rfl, hw⟩; have hw := hw.symm; subst hw)
  go_ret
  exact ⟨rfl, rfl⟩


set_option maxRecDepth 100000 in
set_option maxHeartbeats 4000000 in
theorem countBy_n (cs : List Value) (u d : List (Sh.T .int)) (a b : Int) (w : World) (hz : szD shCounter (u, d, ()) ≤ 1073741824) (h : Lies w shCounter cs (u, d, ())) :
    Calls Try.prog 21 #[.agg cs.toArray, .int .i64 a, .int .i64 b] w (CnP (cbA u d a b) w) := by
  obtain ⟨a1, k1, a2, k2, rfl, h1, h2⟩ := lies_Counter h
  have HL : Hid (Lies w (.list .int) [.slice a1 u.length k1] u ∧ Lies w (.list .int) [.slice a2 d.length k2] d) := ⟨h1, h2⟩
  obtain ⟨w0, hw0⟩ : ∃ x, x = (w.alloc (.cells #[.slice a1 u.length k1, .slice a2 d.length k2] 25)).alloc (.cells #[.slice none 0 0, .slice none 0 0] 25) := ⟨_, rfl⟩
  have HB0 : Hid (Bx w0 w.heap.size [.slice a1 u.length k1, .slice a2 d.length k2] ∧ Bx w0 (w.heap.size + 1) [.slice none 0 0, .slice none 0 0] ∧ Below w.heap.size w w0) := ⟨hw0 ▸ (Bx.new w [_, _] _).alloc _, hw0 ▸ Bx.newAt (by simp), hw0 ▸ ((Below.refl _ _).alloc (Nat.le_refl _) _).alloc (by simp) _⟩
  have HC : Hid (Calls Try.prog 42 #[.agg #[.slice a1 u.length k1, .slice a2 d.length k2]] w0 fun r w' => r = .returned (.bool (tf (goodC u d))) ∧ Below w0.heap.size w0 w') := Hid.intro (goodCounter_n _ u d w0 hz (h.next HB0.out.2.2))
  have HSL := Hid.intro (ct_sizes hz)
  clear h h1 h2 hz
  go_enter Try.func21, Try.ntmps21
  go_upto_region 1 with fail
  rw [← hw0]
  clear hw0
  have s0 := (HB0.out.1).cell 0 rfl
  have s1 := (HB0.out.1).cell 1 rfl
  have sz := (HB0.out.1).2
  go_wp2_with fail
  refine HC.out.mono ?_
  rintro r w1 ⟨rfl, hb⟩
  have HB1 : Hid (Bx w1 w.heap.size [.slice a1 u.length k1, .slice a2 d.length k2] ∧ Bx w1 (w.heap.size + 1) [.slice none 0 0, .slice none 0 0] ∧ Below w.heap.size w w1) := ⟨HB0.out.1.next hb, HB0.out.2.1.next hb, below_next HB0.out.2.2 hb⟩
  clear hb s0 s1 sz HC HB0
  have s0 := (HB1.out.1).cell 0 rfl
  have s1 := (HB1.out.1).cell 1 rfl
  have sz := (HB1.out.1).2
  have r0 := (HB1.out.2.1).cell 0 rfl
  have r1 := (HB1.out.2.1).cell 1 rfl
  have rz := (HB1.out.2.1).2
  have rf0 := (HB1.out.2.1).frz 0 (by simp)
  have rf1 := (HB1.out.2.1).frz 1 (by simp)
  cases e : tf (goodC u d)
  · have HN : Hid (cbA u d a b = ([], [], false)) := Hid.intro (cbA_no (fun q => by rw [tf_yes q.1] at e; cases e))
    clear e
    go_wp2_with fail
    exact bodyPost_ret (v := .tuple #[.agg #[.slice none 0 0, .slice none 0 0], .bool false]) (by simp [results, Try.results21, go_sem, *]) rfl (CnP.zero HN.out (HB1.out.2.2.trans ((set2 _ (w.heap.size + 1) _ _).below (fun k e => by have e : k = w.heap.size + 1 := e; omega) HB1.out.2.2.size)))
  have HG := Hid.intro (tf_iff.1 e)
  clear e
  cases c1 : inR a 0 5
  · have HN : Hid (cbA u d a b = ([], [], false)) := Hid.intro (cbA_no (fun q => by rw [inR_iff.2 q.2.1] at c1; cases c1))
    have H1 : Hid (inR a 0 5 = false) := c1
    clear c1
    go_wp2_with fail
    refine (H1.out ▸ isActor_n a _).mono ?_
    rintro r w' ⟨rfl, hw⟩
    have hw := hw.symm
    subst hw
    go_wp2_with fail
    exact bodyPost_ret (v := .tuple #[.agg #[.slice none 0 0, .slice none 0 0], .bool false]) (by simp [results, Try.results21, go_sem, *]) rfl (CnP.zero HN.out (HB1.out.2.2.trans ((set2 _ (w.heap.size + 1) _ _).below (fun k e => by have e : k = w.heap.size + 1 := e; omega) HB1.out.2.2.size)))
  have H1 : Hid (inR a 0 5 = true) := c1
  have ha := inR_iff.1 c1
  clear c1
  cases c2 : inR b (-1000) 1000
  · have HN : Hid (cbA u d a b = ([], [], false)) := Hid.intro (cbA_no (fun q => by rw [inR_iff.2 q.2.2.1] at c2; cases c2))
    have H2 : Hid (inR b (-1000) 1000 = false) := c2
    clear c2 ha
    go_wp2_with fail
    refine (H1.out ▸ isActor_n a _).mono ?_
    rintro r w' ⟨rfl, hw⟩
    have hw := hw.symm
    subst hw
    go_wp2_with fail
    refine (H2.out ▸ inRange_any b (-1000) 1000 _).mono ?_
    rintro r w' ⟨rfl, hw⟩
    have hw := hw.symm
    subst hw
    go_wp2_with fail
    exact bodyPost_ret (v := .tuple #[.agg #[.slice none 0 0, .slice none 0 0], .bool false]) (by simp [results, Try.results21, go_sem, *]) rfl (CnP.zero HN.out (HB1.out.2.2.trans ((set2 _ (w.heap.size + 1) _ _).below (fun k e => by have e : k = w.heap.size + 1 := e; omega) HB1.out.2.2.size)))
  have H2 : Hid (inR b (-1000) 1000 = true) := c2
  have hb := inR_iff.1 c2
  clear c2
  obtain ⟨k, hkE⟩ : ∃ k : Nat, a = (k : Int) := ⟨a.toNat, by omega⟩
  have hk6 : k < 6 := by omega
  have HAB : Hid ((0 ≤ a ∧ a ≤ 5) ∧ (-1000 ≤ b ∧ b ≤ 1000)) := ⟨ha, hb⟩
  have HK6 := Hid.intro hk6
  subst hkE
  clear ha hb hk6
  go_wp2_with fail
  refine (H1.out ▸ isActor_n (k : Int) _).mono ?_
  rintro r w' ⟨rfl, hw⟩
  have hw := hw.symm
  subst hw
  go_wp2_with fail
  refine (H2.out ▸ inRange_any b (-1000) 1000 _).mono ?_
  rintro r w' ⟨rfl, hw⟩
  have hw := hw.symm
  subst hw
  go_upto_region 3 with fail
  clear s0 s1 sz r0 r1 rz rf0 rf1
  obtain ⟨i0, hi0, hz0, hz1, hz2⟩ := info_parts inf_int
  have HD : Hid (Bx w1.drew w.heap.size [.slice a1 u.length k1, .slice a2 d.length k2] ∧ Bx w1.drew (w.heap.size + 1) [.slice none 0 0, .slice none 0 0] ∧ Below w.heap.size w w1.drew ∧ w.heap.size + 2 ≤ w1.drew.heap.size) := ⟨HB1.out.1.next (below_drew _), HB1.out.2.1.next (below_drew _), HB1.out.2.2.drew, by have := HB1.out.2.1.2; show w.heap.size + 2 ≤ w1.heap.size; omega⟩
  clear HB1
  go_cut [8] (fun s8 wx => ∃ b8 g1 c1 g2 c2, s8 = .pointer (some ⟨b8, 0, none⟩) ∧ CtS wx (w.heap.size + 2) b8 g1 c1 g2 c2 u d ∧ Bx wx (w.heap.size + 1) [.slice none 0 0, .slice none 0 0] ∧ Below w.heap.size w wx)
  case first =>
    have hbA : 0 + u.length ≤ maxLen := by have := HSL.out.1; unfold maxLen; omega
    have hcA : (0 + u.length) * 8 ≤ 140737488355328 := by have := HSL.out.1; omega
    have hbB : 0 + d.length ≤ maxLen := by have := HSL.out.2; unfold maxLen; omega
    have hcB : (0 + d.length) * 8 ≤ 140737488355328 := by have := HSL.out.2; omega
    have HQ : Hid (PrQ .int 3 w1.drew (w.heap.size + 2) u d none none none [.slice none 0 0, .slice none 0 0]) := Hid.intro (PrQ.start HD.out.2.2.2)
    refine wp_region_noPanic ?_
    refine wp_region_held_drew (S := fun W => Bx W w.heap.size [.slice a1 u.length k1, .slice a2 d.length k2]) (by kernel_rfl) HD.out.1 (fun hHeld => ?_)
    obtain ⟨W, hWE⟩ : ∃ x, x = w1.drew := ⟨_, rfl⟩
    rw [← hWE] at HD HQ hHeld ⊢
    clear hWE
    refine take_v (v := ?_) 0 ⟨some 23, Op.fieldAddr 25 (Operand.tmp 3) 0, _, _, _, none⟩ rfl (fun _ _ _ h => h) ?_ hHeld ?_
    rotate_left
    · (intro W _; go_simp <;> (try with_reducible rfl))
    refine take_v (v := ?_) 1 ⟨some 24, Op.load 23 (Operand.tmp 23), _, _, _, none⟩ rfl (fun _ _ _ h => h) ?_ hHeld ?_
    rotate_left
    · (intro W hSW; (have s0 := hSW.cell 0 rfl; have s1 := hSW.cell 1 rfl; have sz := hSW.2); go_simp <;> (try with_reducible rfl))
    refine take_v (v := ?_) 3 ⟨some 26, Op.fieldAddr 25 (Operand.tmp 3) 1, _, _, _, none⟩ rfl (fun _ _ _ h => h) ?_ hHeld ?_
    rotate_left
    · (intro W _; go_simp <;> (try with_reducible rfl))
    refine take_v (v := ?_) 4 ⟨some 27, Op.load 23 (Operand.tmp 26), _, _, _, none⟩ rfl (fun _ _ _ h => h) ?_ hHeld ?_
    rotate_left
    · (intro W hSW; (have s0 := hSW.cell 0 rfl; have s1 := hSW.cell 1 rfl; have sz := hSW.2); go_simp <;> (try with_reducible rfl))
    refine ready_two 2 7 ⟨some 25, Op.call { callee := Callee.builtin Builtin.append, args := #[Operand.const (Value.slice none 0 0), Operand.tmp 24], argTypes := #[23, 23] }, _, _, _, none⟩ ⟨some 8, Op.alloc 25, _, _, _, none⟩ (by kernel_rfl) rfl rfl (by kernel_rfl) (by kernel_rfl) (fun KC hK => ?_) (fun KC hK => ?_)
    ·
      have hzW := HD.out.2.2.2
      refine wp_appx (.const (.slice none 0 0)) (.tmp 24) 23 3 (by rfl) i0 (.int .i64 0) 8 (w.heap.size + 2) .int rfl Try.underlying23 hi0 hz0 hz1 hz2 rfl (by decide) (.slice none 0 0) [] u (fun _ => False) (by rfl) OwnX.nil' a1 k1 (by rfl) (HL.out.1.next HD.out.2.2.1) hbA hcA hzW ?_
      intro v1 W9 hO hg hwh
      have HQ : Hid (PrQ .int 3 W9 (w.heap.size + 2) u d (some (v1, true)) _ _ [.slice none 0 0, .slice none 0 0]) := Hid.intro (HQ.out.row1 rfl hO hg (fun k hk => by cases hk) (fun k hk => hwh.elim (fun q => by rw [q] at hk; cases hk) (fun q => by rw [q] at hk; exact Or.inr (Option.some.inj hk).symm)))
      have hb : Below W.heap.size W W9 := ⟨hg.os, hg.tape, hg.output, hg.size, fun k hk => hg.block k hk (fun q => by cases q)⟩
      have HD : Hid (Bx W9 w.heap.size [.slice a1 u.length k1, .slice a2 d.length k2] ∧ Bx W9 (w.heap.size + 1) [.slice none 0 0, .slice none 0 0] ∧ Below w.heap.size w W9 ∧ w.heap.size + 2 ≤ W9.heap.size) := ⟨HD.out.1.next hb, HD.out.2.1.next hb, below_next HD.out.2.2.1 hb, Nat.le_trans HD.out.2.2.2 hb.size⟩
      obtain ⟨va1, vc1, hvf⟩ := OwnX.vform (show OwnX W9 (w.heap.size + 2) (.list .int 3) [v1] u _ from HQ.out.1)
      subst hvf
      clear hO hg hwh hzW
      obtain ⟨W, hWE⟩ : ∃ x, x = W9 := ⟨_, rfl⟩
      subst hWE
      refine hK.out _ _ HD.out.1 (fun hHeld => ?_)
      clear hK KC
      refine ready_two 5 7 ⟨some 28, Op.call { callee := Callee.builtin Builtin.append, args := #[Operand.const (Value.slice none 0 0), Operand.tmp 27], argTypes := #[23, 23] }, _, _, _, none⟩ ⟨some 8, Op.alloc 25, _, _, _, none⟩ (by kernel_rfl) rfl rfl (by kernel_rfl) (by kernel_rfl) (fun KC hK => ?_) (fun KC hK => ?_)
      ·
        have hzW := HD.out.2.2.2
        refine wp_appx (.const (.slice none 0 0)) (.tmp 27) 23 3 (by rfl) i0 (.int .i64 0) 8 (w.heap.size + 2) .int rfl Try.underlying23 hi0 hz0 hz1 hz2 rfl (by decide) (.slice none 0 0) [] d (fun _ => False) (by rfl) OwnX.nil' a2 k2 (by rfl) (HL.out.2.next HD.out.2.2.1) hbB hcB hzW ?_
        intro v2 W9 hO hg hwh
        have HQ : Hid (PrQ .int 3 W9 (w.heap.size + 2) u d _ (some (v2, true)) _ [.slice none 0 0, .slice none 0 0]) := Hid.intro (HQ.out.row2 rfl hO hg (fun k hk => by cases hk) (fun k hk => hwh.elim (fun q => by rw [q] at hk; cases hk) (fun q => by rw [q] at hk; exact Or.inr (Option.some.inj hk).symm)))
        have hb : Below W.heap.size W W9 := ⟨hg.os, hg.tape, hg.output, hg.size, fun k hk => hg.block k hk (fun q => by cases q)⟩
        have HD : Hid (Bx W9 w.heap.size [.slice a1 u.length k1, .slice a2 d.length k2] ∧ Bx W9 (w.heap.size + 1) [.slice none 0 0, .slice none 0 0] ∧ Below w.heap.size w W9 ∧ w.heap.size + 2 ≤ W9.heap.size) := ⟨HD.out.1.next hb, HD.out.2.1.next hb, below_next HD.out.2.2.1 hb, Nat.le_trans HD.out.2.2.2 hb.size⟩
        obtain ⟨va2, vc2, hvf⟩ := OwnX.vform (show OwnX W9 (w.heap.size + 2) (.list .int 3) [v2] d _ from HQ.out.2.1)
        subst hvf
        clear hO hg hwh hzW
        obtain ⟨W, hWE⟩ : ∃ x, x = W9 := ⟨_, rfl⟩
        subst hWE
        refine hK.out _ _ HD.out.1 (fun hHeld => ?_)
        clear hK KC
        refine take_v (v := ?_) 6 ⟨some 29, Op.build 25 #[(0, Operand.tmp 25), (1, Operand.tmp 28)], _, _, _, none⟩ rfl (fun _ _ _ h => h) ?_ hHeld ?_
        rotate_left
        · (intro W _; go_simp <;> (try with_reducible rfl))
        refine ready_call 7 ⟨some 8, Op.alloc 25, _, _, _, none⟩ (by kernel_rfl) rfl (by kernel_rfl) (fun KC hK => ?_)
        go_wp2_with fail
        have hb := Go.Joins.below_alloc1 W (.cells #[.slice none 0 0, .slice none 0 0] 25)
        have HQ := Hid.intro (HQ.out.box 25)
        have HD : Hid (Bx (W.alloc (.cells #[.slice none 0 0, .slice none 0 0] 25)) w.heap.size [.slice a1 u.length k1, .slice a2 d.length k2] ∧ Bx (W.alloc (.cells #[.slice none 0 0, .slice none 0 0] 25)) (w.heap.size + 1) [.slice none 0 0, .slice none 0 0] ∧ Below w.heap.size w (W.alloc (.cells #[.slice none 0 0, .slice none 0 0] 25)) ∧ w.heap.size + 2 ≤ (W.alloc (.cells #[.slice none 0 0, .slice none 0 0] 25)).heap.size) := ⟨HD.out.1.next hb, HD.out.2.1.next hb, below_next HD.out.2.2.1 hb, Nat.le_trans HD.out.2.2.2 hb.size⟩
        obtain ⟨b3, hmE⟩ : ∃ x, x = W.heap.size := ⟨_, rfl⟩
        obtain ⟨W8, hWE⟩ : ∃ x, x = W.alloc (.cells #[.slice none 0 0, .slice none 0 0] 25) := ⟨_, rfl⟩
        have HQ : Hid (PrQ .int 3 W8 (w.heap.size + 2) u d _ _ (some b3) [.slice none 0 0, .slice none 0 0]) := Hid.intro (by rw [hWE, hmE]; exact HQ.out)
        rw [← hWE] at HD ⊢
        rw [← hmE]
        clear hb hWE hmE
        obtain ⟨W, hWE⟩ : ∃ x, x = W8 := ⟨_, rfl⟩
        subst hWE
        refine hK.out _ _ HD.out.1 (fun hHeld => ?_)
        clear hK KC
        refine ready_call 8 ⟨none, Op.store 25 (Operand.tmp 8) (Operand.tmp 29), _, _, _, none⟩ (by kernel_rfl) rfl (by kernel_rfl) (fun KC hK => ?_)
        have hq := HQ.out.2.2.1 b3 rfl
        have d0 := (hq.1).cell 0 rfl
        have d1 := (hq.1).cell 1 rfl
        have dz := (hq.1).2
        have df0 := (hq.1).frz 0 (by simp)
        have df1 := (hq.1).frz 1 (by simp)
        have hbb := hq.2
        go_wp2_with fail
        have HF := Hid.intro (PrS.of HQ.out)
        have HZ : Hid (Bx ((W.setCell ⟨b3, 0, none⟩ (.slice va1 u.length vc1)).setCell ⟨b3, 1, none⟩ (.slice va2 d.length vc2)) (w.heap.size + 1) [.slice none 0 0, .slice none 0 0] ∧ Below w.heap.size w ((W.setCell ⟨b3, 0, none⟩ (.slice va1 u.length vc1)).setCell ⟨b3, 1, none⟩ (.slice va2 d.length vc2))) := ⟨(HD.out.2.1.other (by omega)).other (by omega), (HD.out.2.2.1.setCell (p := ⟨b3, 0, none⟩) (by show w.heap.size ≤ b3; omega) _).setCell (p := ⟨b3, 1, none⟩) (by show w.heap.size ≤ b3; omega) _⟩
        have hnb : w.heap.size ≠ b3 := by omega
        clear d0 d1 dz df0 df1 hq
        refine hK.out _ _ ((HD.out.1.other hnb).other hnb) (fun hHeld => ?_)
        clear hK KC
        refine wpAnyH_done (by kernel_rfl) ?_ _
        refine NoPanic.normal ?_
        go_wp2_with fail
        go_meet
        obtain ⟨g1, c1, g2, c2, hF⟩ := CtS.of HF.out HG.out.1.1 HG.out.2.1
        exact ⟨b3, g1, c1, g2, c2, rfl, hF, HZ.out⟩
      ·
        go_wp2_with fail
        have hb := Go.Joins.below_alloc1 W (.cells #[.slice none 0 0, .slice none 0 0] 25)
        have HQ := Hid.intro (HQ.out.box 25)
        have HD : Hid (Bx (W.alloc (.cells #[.slice none 0 0, .slice none 0 0] 25)) w.heap.size [.slice a1 u.length k1, .slice a2 d.length k2] ∧ Bx (W.alloc (.cells #[.slice none 0 0, .slice none 0 0] 25)) (w.heap.size + 1) [.slice none 0 0, .slice none 0 0] ∧ Below w.heap.size w (W.alloc (.cells #[.slice none 0 0, .slice none 0 0] 25)) ∧ w.heap.size + 2 ≤ (W.alloc (.cells #[.slice none 0 0, .slice none 0 0] 25)).heap.size) := ⟨HD.out.1.next hb, HD.out.2.1.next hb, below_next HD.out.2.2.1 hb, Nat.le_trans HD.out.2.2.2 hb.size⟩
        obtain ⟨b3, hmE⟩ : ∃ x, x = W.heap.size := ⟨_, rfl⟩
        obtain ⟨W8, hWE⟩ : ∃ x, x = W.alloc (.cells #[.slice none 0 0, .slice none 0 0] 25) := ⟨_, rfl⟩
        have HQ : Hid (PrQ .int 3 W8 (w.heap.size + 2) u d _ _ (some b3) [.slice none 0 0, .slice none 0 0]) := Hid.intro (by rw [hWE, hmE]; exact HQ.out)
        rw [← hWE] at HD ⊢
        rw [← hmE]
        clear hb hWE hmE
        obtain ⟨W, hWE⟩ : ∃ x, x = W8 := ⟨_, rfl⟩
        subst hWE
        refine hK.out _ _ HD.out.1 (fun hHeld => ?_)
        clear hK KC
        refine ready_call 5 ⟨some 28, Op.call { callee := Callee.builtin Builtin.append, args := #[Operand.const (Value.slice none 0 0), Operand.tmp 27], argTypes := #[23, 23] }, _, _, _, none⟩ (by kernel_rfl) rfl (by kernel_rfl) (fun KC hK => ?_)
        have hzW := HD.out.2.2.2
        refine wp_appx (.const (.slice none 0 0)) (.tmp 27) 23 3 (by rfl) i0 (.int .i64 0) 8 (w.heap.size + 2) .int rfl Try.underlying23 hi0 hz0 hz1 hz2 rfl (by decide) (.slice none 0 0) [] d (fun _ => False) (by rfl) OwnX.nil' a2 k2 (by rfl) (HL.out.2.next HD.out.2.2.1) hbB hcB hzW ?_
        intro v2 W9 hO hg hwh
        have HQ : Hid (PrQ .int 3 W9 (w.heap.size + 2) u d _ (some (v2, true)) _ [.slice none 0 0, .slice none 0 0]) := Hid.intro (HQ.out.row2 rfl hO hg (fun k hk => by cases hk) (fun k hk => hwh.elim (fun q => by rw [q] at hk; cases hk) (fun q => by rw [q] at hk; exact Or.inr (Option.some.inj hk).symm)))
        have hb : Below W.heap.size W W9 := ⟨hg.os, hg.tape, hg.output, hg.size, fun k hk => hg.block k hk (fun q => by cases q)⟩
        have HD : Hid (Bx W9 w.heap.size [.slice a1 u.length k1, .slice a2 d.length k2] ∧ Bx W9 (w.heap.size + 1) [.slice none 0 0, .slice none 0 0] ∧ Below w.heap.size w W9 ∧ w.heap.size + 2 ≤ W9.heap.size) := ⟨HD.out.1.next hb, HD.out.2.1.next hb, below_next HD.out.2.2.1 hb, Nat.le_trans HD.out.2.2.2 hb.size⟩
        obtain ⟨va2, vc2, hvf⟩ := OwnX.vform (show OwnX W9 (w.heap.size + 2) (.list .int 3) [v2] d _ from HQ.out.2.1)
        subst hvf
        clear hO hg hwh hzW
        obtain ⟨W, hWE⟩ : ∃ x, x = W9 := ⟨_, rfl⟩
        subst hWE
        refine hK.out _ _ HD.out.1 (fun hHeld => ?_)
        clear hK KC
        refine take_v (v := ?_) 6 ⟨some 29, Op.build 25 #[(0, Operand.tmp 25), (1, Operand.tmp 28)], _, _, _, none⟩ rfl (fun _ _ _ h => h) ?_ hHeld ?_
        rotate_left
        · (intro W _; go_simp <;> (try with_reducible rfl))
        refine ready_call 8 ⟨none, Op.store 25 (Operand.tmp 8) (Operand.tmp 29), _, _, _, none⟩ (by kernel_rfl) rfl (by kernel_rfl) (fun KC hK => ?_)
        have hq := HQ.out.2.2.1 b3 rfl
        have d0 := (hq.1).cell 0 rfl
        have d1 := (hq.1).cell 1 rfl
        have dz := (hq.1).2
        have df0 := (hq.1).frz 0 (by simp)
        have df1 := (hq.1).frz 1 (by simp)
        have hbb := hq.2
        go_wp2_with fail
        have HF := Hid.intro (PrS.of HQ.out)
        have HZ : Hid (Bx ((W.setCell ⟨b3, 0, none⟩ (.slice va1 u.length vc1)).setCell ⟨b3, 1, none⟩ (.slice va2 d.length vc2)) (w.heap.size + 1) [.slice none 0 0, .slice none 0 0] ∧ Below w.heap.size w ((W.setCell ⟨b3, 0, none⟩ (.slice va1 u.length vc1)).setCell ⟨b3, 1, none⟩ (.slice va2 d.length vc2))) := ⟨(HD.out.2.1.other (by omega)).other (by omega), (HD.out.2.2.1.setCell (p := ⟨b3, 0, none⟩) (by show w.heap.size ≤ b3; omega) _).setCell (p := ⟨b3, 1, none⟩) (by show w.heap.size ≤ b3; omega) _⟩
        have hnb : w.heap.size ≠ b3 := by omega
        clear d0 d1 dz df0 df1 hq
        refine hK.out _ _ ((HD.out.1.other hnb).other hnb) (fun hHeld => ?_)
        clear hK KC
        refine wpAnyH_done (by kernel_rfl) ?_ _
        refine NoPanic.normal ?_
        go_wp2_with fail
        go_meet
        obtain ⟨g1, c1, g2, c2, hF⟩ := CtS.of HF.out HG.out.1.1 HG.out.2.1
        exact ⟨b3, g1, c1, g2, c2, rfl, hF, HZ.out⟩
    ·
      go_wp2_with fail
      have hb := Go.Joins.below_alloc1 W (.cells #[.slice none 0 0, .slice none 0 0] 25)
      have HQ := Hid.intro (HQ.out.box 25)
      have HD : Hid (Bx (W.alloc (.cells #[.slice none 0 0, .slice none 0 0] 25)) w.heap.size [.slice a1 u.length k1, .slice a2 d.length k2] ∧ Bx (W.alloc (.cells #[.slice none 0 0, .slice none 0 0] 25)) (w.heap.size + 1) [.slice none 0 0, .slice none 0 0] ∧ Below w.heap.size w (W.alloc (.cells #[.slice none 0 0, .slice none 0 0] 25)) ∧ w.heap.size + 2 ≤ (W.alloc (.cells #[.slice none 0 0, .slice none 0 0] 25)).heap.size) := ⟨HD.out.1.next hb, HD.out.2.1.next hb, below_next HD.out.2.2.1 hb, Nat.le_trans HD.out.2.2.2 hb.size⟩
      obtain ⟨b3, hmE⟩ : ∃ x, x = W.heap.size := ⟨_, rfl⟩
      obtain ⟨W8, hWE⟩ : ∃ x, x = W.alloc (.cells #[.slice none 0 0, .slice none 0 0] 25) := ⟨_, rfl⟩
      have HQ : Hid (PrQ .int 3 W8 (w.heap.size + 2) u d _ _ (some b3) [.slice none 0 0, .slice none 0 0]) := Hid.intro (by rw [hWE, hmE]; exact HQ.out)
      rw [← hWE] at HD ⊢
      rw [← hmE]
      clear hb hWE hmE
      obtain ⟨W, hWE⟩ : ∃ x, x = W8 := ⟨_, rfl⟩
      subst hWE
      refine hK.out _ _ HD.out.1 (fun hHeld => ?_)
      clear hK KC
      refine ready_call 2 ⟨some 25, Op.call { callee := Callee.builtin Builtin.append, args := #[Operand.const (Value.slice none 0 0), Operand.tmp 24], argTypes := #[23, 23] }, _, _, _, none⟩ (by kernel_rfl) rfl (by kernel_rfl) (fun KC hK => ?_)
      have hzW := HD.out.2.2.2
      refine wp_appx (.const (.slice none 0 0)) (.tmp 24) 23 3 (by rfl) i0 (.int .i64 0) 8 (w.heap.size + 2) .int rfl Try.underlying23 hi0 hz0 hz1 hz2 rfl (by decide) (.slice none 0 0) [] u (fun _ => False) (by rfl) OwnX.nil' a1 k1 (by rfl) (HL.out.1.next HD.out.2.2.1) hbA hcA hzW ?_
      intro v1 W9 hO hg hwh
      have HQ : Hid (PrQ .int 3 W9 (w.heap.size + 2) u d (some (v1, true)) _ _ [.slice none 0 0, .slice none 0 0]) := Hid.intro (HQ.out.row1 rfl hO hg (fun k hk => by cases hk) (fun k hk => hwh.elim (fun q => by rw [q] at hk; cases hk) (fun q => by rw [q] at hk; exact Or.inr (Option.some.inj hk).symm)))
      have hb : Below W.heap.size W W9 := ⟨hg.os, hg.tape, hg.output, hg.size, fun k hk => hg.block k hk (fun q => by cases q)⟩
      have HD : Hid (Bx W9 w.heap.size [.slice a1 u.length k1, .slice a2 d.length k2] ∧ Bx W9 (w.heap.size + 1) [.slice none 0 0, .slice none 0 0] ∧ Below w.heap.size w W9 ∧ w.heap.size + 2 ≤ W9.heap.size) := ⟨HD.out.1.next hb, HD.out.2.1.next hb, below_next HD.out.2.2.1 hb, Nat.le_trans HD.out.2.2.2 hb.size⟩
      obtain ⟨va1, vc1, hvf⟩ := OwnX.vform (show OwnX W9 (w.heap.size + 2) (.list .int 3) [v1] u _ from HQ.out.1)
      subst hvf
      clear hO hg hwh hzW
      obtain ⟨W, hWE⟩ : ∃ x, x = W9 := ⟨_, rfl⟩
      subst hWE
      refine hK.out _ _ HD.out.1 (fun hHeld => ?_)
      clear hK KC
      refine ready_call 5 ⟨some 28, Op.call { callee := Callee.builtin Builtin.append, args := #[Operand.const (Value.slice none 0 0), Operand.tmp 27], argTypes := #[23, 23] }, _, _, _, none⟩ (by kernel_rfl) rfl (by kernel_rfl) (fun KC hK => ?_)
      have hzW := HD.out.2.2.2
      refine wp_appx (.const (.slice none 0 0)) (.tmp 27) 23 3 (by rfl) i0 (.int .i64 0) 8 (w.heap.size + 2) .int rfl Try.underlying23 hi0 hz0 hz1 hz2 rfl (by decide) (.slice none 0 0) [] d (fun _ => False) (by rfl) OwnX.nil' a2 k2 (by rfl) (HL.out.2.next HD.out.2.2.1) hbB hcB hzW ?_
      intro v2 W9 hO hg hwh
      have HQ : Hid (PrQ .int 3 W9 (w.heap.size + 2) u d _ (some (v2, true)) _ [.slice none 0 0, .slice none 0 0]) := Hid.intro (HQ.out.row2 rfl hO hg (fun k hk => by cases hk) (fun k hk => hwh.elim (fun q => by rw [q] at hk; cases hk) (fun q => by rw [q] at hk; exact Or.inr (Option.some.inj hk).symm)))
      have hb : Below W.heap.size W W9 := ⟨hg.os, hg.tape, hg.output, hg.size, fun k hk => hg.block k hk (fun q => by cases q)⟩
      have HD : Hid (Bx W9 w.heap.size [.slice a1 u.length k1, .slice a2 d.length k2] ∧ Bx W9 (w.heap.size + 1) [.slice none 0 0, .slice none 0 0] ∧ Below w.heap.size w W9 ∧ w.heap.size + 2 ≤ W9.heap.size) := ⟨HD.out.1.next hb, HD.out.2.1.next hb, below_next HD.out.2.2.1 hb, Nat.le_trans HD.out.2.2.2 hb.size⟩
      obtain ⟨va2, vc2, hvf⟩ := OwnX.vform (show OwnX W9 (w.heap.size + 2) (.list .int 3) [v2] d _ from HQ.out.2.1)
      subst hvf
      clear hO hg hwh hzW
      obtain ⟨W, hWE⟩ : ∃ x, x = W9 := ⟨_, rfl⟩
      subst hWE
      refine hK.out _ _ HD.out.1 (fun hHeld => ?_)
      clear hK KC
      refine take_v (v := ?_) 6 ⟨some 29, Op.build 25 #[(0, Operand.tmp 25), (1, Operand.tmp 28)], _, _, _, none⟩ rfl (fun _ _ _ h => h) ?_ hHeld ?_
      rotate_left
      · (intro W _; go_simp <;> (try with_reducible rfl))
      refine ready_call 8 ⟨none, Op.store 25 (Operand.tmp 8) (Operand.tmp 29), _, _, _, none⟩ (by kernel_rfl) rfl (by kernel_rfl) (fun KC hK => ?_)
      have hq := HQ.out.2.2.1 b3 rfl
      have d0 := (hq.1).cell 0 rfl
      have d1 := (hq.1).cell 1 rfl
      have dz := (hq.1).2
      have df0 := (hq.1).frz 0 (by simp)
      have df1 := (hq.1).frz 1 (by simp)
      have hbb := hq.2
      go_wp2_with fail
      have HF := Hid.intro (PrS.of HQ.out)
      have HZ : Hid (Bx ((W.setCell ⟨b3, 0, none⟩ (.slice va1 u.length vc1)).setCell ⟨b3, 1, none⟩ (.slice va2 d.length vc2)) (w.heap.size + 1) [.slice none 0 0, .slice none 0 0] ∧ Below w.heap.size w ((W.setCell ⟨b3, 0, none⟩ (.slice va1 u.length vc1)).setCell ⟨b3, 1, none⟩ (.slice va2 d.length vc2))) := ⟨(HD.out.2.1.other (by omega)).other (by omega), (HD.out.2.2.1.setCell (p := ⟨b3, 0, none⟩) (by show w.heap.size ≤ b3; omega) _).setCell (p := ⟨b3, 1, none⟩) (by show w.heap.size ≤ b3; omega) _⟩
      have hnb : w.heap.size ≠ b3 := by omega
      clear d0 d1 dz df0 df1 hq
      refine hK.out _ _ ((HD.out.1.other hnb).other hnb) (fun hHeld => ?_)
      clear hK KC
      refine wpAnyH_done (by kernel_rfl) ?_ _
      refine NoPanic.normal ?_
      go_wp2_with fail
      go_meet
      obtain ⟨g1, c1, g2, c2, hF⟩ := CtS.of HF.out HG.out.1.1 HG.out.2.1
      exact ⟨b3, g1, c1, g2, c2, rfl, hF, HZ.out⟩
  case rest =>
    obtain ⟨b8, g1, c1, g2, c2, rfl, hS, hZ, hB⟩ := hcut
    have HS : Hid (CtS wc (w.heap.size + 2) b8 g1 c1 g2 c2 u d) := hS
    have HZ : Hid (Bx wc (w.heap.size + 1) [.slice none 0 0, .slice none 0 0] ∧ Below w.heap.size w wc) := ⟨hZ, hB⟩
    clear hS hZ hB HD
    have hk6 := HK6.out
    have hk6' : (k : Int) < 6 := by omega
    have hbb := HAB.out.2
    obtain ⟨hb1, hb2⟩ := hbb
    have hkt : ((k : Int)).toNat = k := by omega
    by_cases hs : b < 0
    · have hat := HS.out.2.2.1.at hk6
      obtain ⟨x, hx⟩ : ∃ x, x = atI d k := ⟨_, rfl⟩
      have hx1 := HG.out.2.2 k (by rw [HG.out.2.1]; exact hk6)
      rw [← hx] at hat hx1
      obtain ⟨q1, q2, q3⟩ := hat
      obtain ⟨hx0, hx1⟩ := hx1
      have HA : Hid (cbU u (k : Int) b = u ∧ cbD d (k : Int) b = (d.set k (x - b))) := Hid.intro (by unfold cbU cbD; rw [hkt, ← hx]; constructor <;> (first | rw [if_pos (by omega)] | rw [if_neg (by omega)]))
      have HS9 : Hid (CtS (wc.setCell ⟨g2, k, none⟩ (.int .i64 (x - b))) (w.heap.size + 2) b8 g1 c1 g2 c2 u (d.set k (x - b))) := Hid.intro (HS.out.setD hk6 _)
      have HZ9 : Hid (Bx (wc.setCell ⟨g2, k, none⟩ (.int .i64 (x - b))) (w.heap.size + 1) [.slice none 0 0, .slice none 0 0] ∧ Below w.heap.size w (wc.setCell ⟨g2, k, none⟩ (.int .i64 (x - b)))) := Hid.intro (by have h9 := HS.out.2.2.1.lt.2; exact ⟨HZ.out.1.other (by omega), HZ.out.2.setCell (p := ⟨g2, k, none⟩) (by show w.heap.size ≤ g2; omega) _⟩)
      have b0 := (HS.out.1).cell 0 rfl
      have b1 := (HS.out.1).cell 1 rfl
      have bz := (HS.out.1).2
      clear hx hkt
      obtain ⟨w9, hw9⟩ : ∃ y, y = wc.setCell ⟨g2, k, none⟩ (.int .i64 (x - b)) := ⟨_, rfl⟩
      rw [← hw9] at HS9 HZ9
      go_upto_region 7 with fail
      rw [← hw9]
      clear hw9 b0 b1 bz q1 q2 q3 HS HZ
      have b0 := (HS9.out.1).cell 0 rfl
      have b1 := (HS9.out.1).cell 1 rfl
      have bz := (HS9.out.1).2
      have r0 := (HZ9.out.1).cell 0 rfl
      have r1 := (HZ9.out.1).cell 1 rfl
      have rz := (HZ9.out.1).2
      have rf0 := (HZ9.out.1).frz 0 (by simp)
      have rf1 := (HZ9.out.1).frz 1 (by simp)
      have HLN : Hid ((u).length = 6 ∧ ((d.set k (x - b))).length = 6) := ⟨HS9.out.2.1.2, HS9.out.2.2.1.2⟩
      have HB8 : Hid (w.heap.size + 2 ≤ b8) := Hid.intro HS9.out.2.2.2.2.2.2
      have hb8 : w.heap.size + 1 ≠ b8 := by have := HB8.out; omega
      go_wp2_with fail
      refine (goodCounter_n _ u (d.set k (x - b)) w9 (ct_small HLN.out.1 HLN.out.2) HS9.out.lies).mono ?_
      rintro r w10 ⟨rfl, hb⟩
      have HS10 := Hid.intro (HS9.out.next hb)
      have HZ10 : Hid (Bx w10 (w.heap.size + 1) [.slice none 0 0, .slice none 0 0] ∧ Below w.heap.size w w10) := ⟨HZ9.out.1.next hb, below_next HZ9.out.2 hb⟩
      clear hb b0 b1 bz r0 r1 rz rf0 rf1 HS9 HZ9
      have b0 := (HS10.out.1).cell 0 rfl
      have b1 := (HS10.out.1).cell 1 rfl
      have bz := (HS10.out.1).2
      have r0 := (HZ10.out.1).cell 0 rfl
      have r1 := (HZ10.out.1).cell 1 rfl
      have rz := (HZ10.out.1).2
      have rf0 := (HZ10.out.1).frz 0 (by simp)
      have rf1 := (HZ10.out.1).frz 1 (by simp)
      cases e : tf (goodC u (d.set k (x - b)))
      · have HN : Hid (cbA u d (k : Int) b = ([], [], false)) := Hid.intro (cbA_no (fun q => by have q := q.2.2.2; rw [HA.out.1, HA.out.2] at q; rw [tf_yes q] at e; cases e))
        clear e
        go_wp2_with fail
        exact bodyPost_ret (v := .tuple #[.agg #[.slice none 0 0, .slice none 0 0], .bool false]) (by simp [results, Try.results21, go_sem, *]) rfl (CnP.zero HN.out (HZ10.out.2.trans ((set2 _ (w.heap.size + 1) _ _).below (fun k e => by have e : k = w.heap.size + 1 := e; omega) HZ10.out.2.size)))
      · have HN : Hid (cbA u d (k : Int) b = (u, (d.set k (x - b)), true)) := Hid.intro (by
          rw [cbA_yes ⟨HG.out, HAB.out.1, HAB.out.2, by rw [HA.out.1, HA.out.2]; exact tf_iff.1 e⟩, HA.out.1, HA.out.2])
        clear e
        have hse : Hid (TurnS (fun k => k = w.heap.size + 1) w10 ((w10.setCell ⟨w.heap.size + 1, 0, none⟩ (.slice (some ⟨g1, 0, none⟩) 6 c1)).setCell ⟨w.heap.size + 1, 1, none⟩ (.slice (some ⟨g2, 0, none⟩) 6 c2))) := Hid.intro (set2 w10 (w.heap.size + 1) _ _)
        go_wp2_with fail
        exact bodyPost_ret (v := .tuple #[.agg #[.slice (some ⟨g1, 0, none⟩) 6 c1, .slice (some ⟨g2, 0, none⟩) 6 c2], .bool true]) (by simp [results, Try.results21, go_sem, *]) rfl ((HS10.out.turn hse.out (fun k e => by have e : k = w.heap.size + 1 := e; omega)).done HN.out (HZ10.out.2.trans (hse.out.below (fun k e => by have e : k = w.heap.size + 1 := e; omega) HZ10.out.2.size)) (by omega))
    · have hat := HS.out.2.1.at hk6
      obtain ⟨x, hx⟩ : ∃ x, x = atI u k := ⟨_, rfl⟩
      have hx1 := HG.out.1.2 k (by rw [HG.out.1.1]; exact hk6)
      rw [← hx] at hat hx1
      obtain ⟨q1, q2, q3⟩ := hat
      obtain ⟨hx0, hx1⟩ := hx1
      have HA : Hid (cbU u (k : Int) b = (u.set k (x + b)) ∧ cbD d (k : Int) b = d) := Hid.intro (by unfold cbU cbD; rw [hkt, ← hx]; constructor <;> (first | rw [if_pos (by omega)] | rw [if_neg (by omega)]))
      have HS9 : Hid (CtS (wc.setCell ⟨g1, k, none⟩ (.int .i64 (x + b))) (w.heap.size + 2) b8 g1 c1 g2 c2 (u.set k (x + b)) d) := Hid.intro (HS.out.setU hk6 _)
      have HZ9 : Hid (Bx (wc.setCell ⟨g1, k, none⟩ (.int .i64 (x + b))) (w.heap.size + 1) [.slice none 0 0, .slice none 0 0] ∧ Below w.heap.size w (wc.setCell ⟨g1, k, none⟩ (.int .i64 (x + b)))) := Hid.intro (by have h9 := HS.out.2.1.lt.2; exact ⟨HZ.out.1.other (by omega), HZ.out.2.setCell (p := ⟨g1, k, none⟩) (by show w.heap.size ≤ g1; omega) _⟩)
      have b0 := (HS.out.1).cell 0 rfl
      have b1 := (HS.out.1).cell 1 rfl
      have bz := (HS.out.1).2
      clear hx hkt
      obtain ⟨w9, hw9⟩ : ∃ y, y = wc.setCell ⟨g1, k, none⟩ (.int .i64 (x + b)) := ⟨_, rfl⟩
      rw [← hw9] at HS9 HZ9
      go_upto_region 7 with fail
      rw [← hw9]
      clear hw9 b0 b1 bz q1 q2 q3 HS HZ
      have b0 := (HS9.out.1).cell 0 rfl
      have b1 := (HS9.out.1).cell 1 rfl
      have bz := (HS9.out.1).2
      have r0 := (HZ9.out.1).cell 0 rfl
      have r1 := (HZ9.out.1).cell 1 rfl
      have rz := (HZ9.out.1).2
      have rf0 := (HZ9.out.1).frz 0 (by simp)
      have rf1 := (HZ9.out.1).frz 1 (by simp)
      have HLN : Hid (((u.set k (x + b))).length = 6 ∧ (d).length = 6) := ⟨HS9.out.2.1.2, HS9.out.2.2.1.2⟩
      have HB8 : Hid (w.heap.size + 2 ≤ b8) := Hid.intro HS9.out.2.2.2.2.2.2
      have hb8 : w.heap.size + 1 ≠ b8 := by have := HB8.out; omega
      go_wp2_with fail
      refine (goodCounter_n _ (u.set k (x + b)) d w9 (ct_small HLN.out.1 HLN.out.2) HS9.out.lies).mono ?_
      rintro r w10 ⟨rfl, hb⟩
      have HS10 := Hid.intro (HS9.out.next hb)
      have HZ10 : Hid (Bx w10 (w.heap.size + 1) [.slice none 0 0, .slice none 0 0] ∧ Below w.heap.size w w10) := ⟨HZ9.out.1.next hb, below_next HZ9.out.2 hb⟩
      clear hb b0 b1 bz r0 r1 rz rf0 rf1 HS9 HZ9
      have b0 := (HS10.out.1).cell 0 rfl
      have b1 := (HS10.out.1).cell 1 rfl
      have bz := (HS10.out.1).2
      have r0 := (HZ10.out.1).cell 0 rfl
      have r1 := (HZ10.out.1).cell 1 rfl
      have rz := (HZ10.out.1).2
      have rf0 := (HZ10.out.1).frz 0 (by simp)
      have rf1 := (HZ10.out.1).frz 1 (by simp)
      cases e : tf (goodC (u.set k (x + b)) d)
      · have HN : Hid (cbA u d (k : Int) b = ([], [], false)) := Hid.intro (cbA_no (fun q => by have q := q.2.2.2; rw [HA.out.1, HA.out.2] at q; rw [tf_yes q] at e; cases e))
        clear e
        go_wp2_with fail
        exact bodyPost_ret (v := .tuple #[.agg #[.slice none 0 0, .slice none 0 0], .bool false]) (by simp [results, Try.results21, go_sem, *]) rfl (CnP.zero HN.out (HZ10.out.2.trans ((set2 _ (w.heap.size + 1) _ _).below (fun k e => by have e : k = w.heap.size + 1 := e; omega) HZ10.out.2.size)))
      · have HN : Hid (cbA u d (k : Int) b = ((u.set k (x + b)), d, true)) := Hid.intro (by
          rw [cbA_yes ⟨HG.out, HAB.out.1, HAB.out.2, by rw [HA.out.1, HA.out.2]; exact tf_iff.1 e⟩, HA.out.1, HA.out.2])
        clear e
        have hse : Hid (TurnS (fun k => k = w.heap.size + 1) w10 ((w10.setCell ⟨w.heap.size + 1, 0, none⟩ (.slice (some ⟨g1, 0, none⟩) 6 c1)).setCell ⟨w.heap.size + 1, 1, none⟩ (.slice (some ⟨g2, 0, none⟩) 6 c2))) := Hid.intro (set2 w10 (w.heap.size + 1) _ _)
        go_wp2_with fail
        exact bodyPost_ret (v := .tuple #[.agg #[.slice (some ⟨g1, 0, none⟩) 6 c1, .slice (some ⟨g2, 0, none⟩) 6 c2], .bool true]) (by simp [results, Try.results21, go_sem, *]) rfl ((HS10.out.turn hse.out (fun k e => by have e : k = w.heap.size + 1 := e; omega)).done HN.out (HZ10.out.2.trans (hse.out.below (fun k e => by have e : k = w.heap.size + 1 := e; omega) HZ10.out.2.size)) (by omega))

set_option maxRecDepth 100000 in
set_option maxHeartbeats 4000000 in
theorem specCountBy_n (cs : List Value) (u d : List (Sh.T .int)) (a b : Int) (w : World) (hz : szD shCounter (u, d, ()) ≤ 1073741824) (h : Lies w shCounter cs (u, d, ())) :
    Calls Try.prog 22 #[.agg cs.toArray, .int .i64 a, .int .i64 b] w (CnP (cbA u d a b) w) := by
  obtain ⟨a1, k1, a2, k2, rfl, h1, h2⟩ := lies_Counter h
  have HL : Hid (Lies w (.list .int) [.slice a1 u.length k1] u ∧ Lies w (.list .int) [.slice a2 d.length k2] d) := ⟨h1, h2⟩
  obtain ⟨w0, hw0⟩ : ∃ x, x = (w.alloc (.cells #[.slice a1 u.length k1, .slice a2 d.length k2] 25)).alloc (.cells #[.slice none 0 0, .slice none 0 0] 25) := ⟨_, rfl⟩
  have HB0 : Hid (Bx w0 w.heap.size [.slice a1 u.length k1, .slice a2 d.length k2] ∧ Bx w0 (w.heap.size + 1) [.slice none 0 0, .slice none 0 0] ∧ Below w.heap.size w w0) := ⟨hw0 ▸ (Bx.new w [_, _] _).alloc _, hw0 ▸ Bx.newAt (by simp), hw0 ▸ ((Below.refl _ _).alloc (Nat.le_refl _) _).alloc (by simp) _⟩
  have HC : Hid (Calls Try.prog 24 #[.agg #[.slice a1 u.length k1, .slice a2 d.length k2]] w0 fun r w' => r = .returned (.bool (tf (goodC u d))) ∧ Below w0.heap.size w0 w') := Hid.intro (specGoodCounter_n _ u d w0 hz (h.next HB0.out.2.2))
  have HSL := Hid.intro (ct_sizes hz)
  clear h h1 h2 hz
  go_enter Try.func22, Try.ntmps22
  go_upto_region 1 with fail
  rw [← hw0]
  clear hw0
  have s0 := (HB0.out.1).cell 0 rfl
  have s1 := (HB0.out.1).cell 1 rfl
  have sz := (HB0.out.1).2
  go_wp2_with fail
  refine HC.out.mono ?_
  rintro r w1 ⟨rfl, hb⟩
  have HB1 : Hid (Bx w1 w.heap.size [.slice a1 u.length k1, .slice a2 d.length k2] ∧ Bx w1 (w.heap.size + 1) [.slice none 0 0, .slice none 0 0] ∧ Below w.heap.size w w1) := ⟨HB0.out.1.next hb, HB0.out.2.1.next hb, below_next HB0.out.2.2 hb⟩
  clear hb s0 s1 sz HC HB0
  have s0 := (HB1.out.1).cell 0 rfl
  have s1 := (HB1.out.1).cell 1 rfl
  have sz := (HB1.out.1).2
  have r0 := (HB1.out.2.1).cell 0 rfl
  have r1 := (HB1.out.2.1).cell 1 rfl
  have rz := (HB1.out.2.1).2
  have rf0 := (HB1.out.2.1).frz 0 (by simp)
  have rf1 := (HB1.out.2.1).frz 1 (by simp)
  cases e : tf (goodC u d)
  · have HN : Hid (cbA u d a b = ([], [], false)) := Hid.intro (cbA_no (fun q => by rw [tf_yes q.1] at e; cases e))
    clear e
    go_wp2_with fail
    exact bodyPost_ret (v := .tuple #[.agg #[.slice none 0 0, .slice none 0 0], .bool false]) (by simp [results, Try.results22, go_sem, *]) rfl (CnP.zero HN.out (HB1.out.2.2.trans ((set2 _ (w.heap.size + 1) _ _).below (fun k e => by have e : k = w.heap.size + 1 := e; omega) HB1.out.2.2.size)))
  have HG := Hid.intro (tf_iff.1 e)
  clear e
  cases c1 : inR a 0 5
  · have HN : Hid (cbA u d a b = ([], [], false)) := Hid.intro (cbA_no (fun q => by rw [inR_iff.2 q.2.1] at c1; cases c1))
    have H1 : Hid (inR a 0 5 = false) := c1
    clear c1
    go_wp2_with fail
    refine (H1.out ▸ l1In_any a 0 5 _).mono ?_
    rintro r w' ⟨rfl, hw⟩
    have hw := hw.symm
    subst hw
    go_wp2_with fail
    exact bodyPost_ret (v := .tuple #[.agg #[.slice none 0 0, .slice none 0 0], .bool false]) (by simp [results, Try.results22, go_sem, *]) rfl (CnP.zero HN.out (HB1.out.2.2.trans ((set2 _ (w.heap.size + 1) _ _).below (fun k e => by have e : k = w.heap.size + 1 := e; omega) HB1.out.2.2.size)))
  have H1 : Hid (inR a 0 5 = true) := c1
  have ha := inR_iff.1 c1
  clear c1
  cases c2 : inR b (-1000) 1000
  · have HN : Hid (cbA u d a b = ([], [], false)) := Hid.intro (cbA_no (fun q => by rw [inR_iff.2 q.2.2.1] at c2; cases c2))
    have H2 : Hid (inR b (-1000) 1000 = false) := c2
    clear c2 ha
    go_wp2_with fail
    refine (H1.out ▸ l1In_any a 0 5 _).mono ?_
    rintro r w' ⟨rfl, hw⟩
    have hw := hw.symm
    subst hw
    go_wp2_with fail
    refine (H2.out ▸ l1In_any b (-1000) 1000 _).mono ?_
    rintro r w' ⟨rfl, hw⟩
    have hw := hw.symm
    subst hw
    go_wp2_with fail
    exact bodyPost_ret (v := .tuple #[.agg #[.slice none 0 0, .slice none 0 0], .bool false]) (by simp [results, Try.results22, go_sem, *]) rfl (CnP.zero HN.out (HB1.out.2.2.trans ((set2 _ (w.heap.size + 1) _ _).below (fun k e => by have e : k = w.heap.size + 1 := e; omega) HB1.out.2.2.size)))
  have H2 : Hid (inR b (-1000) 1000 = true) := c2
  have hb := inR_iff.1 c2
  clear c2
  obtain ⟨k, hkE⟩ : ∃ k : Nat, a = (k : Int) := ⟨a.toNat, by omega⟩
  have hk6 : k < 6 := by omega
  have HAB : Hid ((0 ≤ a ∧ a ≤ 5) ∧ (-1000 ≤ b ∧ b ≤ 1000)) := ⟨ha, hb⟩
  have HK6 := Hid.intro hk6
  subst hkE
  clear ha hb hk6
  go_wp2_with fail
  refine (H1.out ▸ l1In_any (k : Int) 0 5 _).mono ?_
  rintro r w' ⟨rfl, hw⟩
  have hw := hw.symm
  subst hw
  go_wp2_with fail
  refine (H2.out ▸ l1In_any b (-1000) 1000 _).mono ?_
  rintro r w' ⟨rfl, hw⟩
  have hw := hw.symm
  subst hw
  go_upto_region 3 with fail
  clear s0 s1 sz r0 r1 rz rf0 rf1
  obtain ⟨i0, hi0, hz0, hz1, hz2⟩ := info_parts inf_int
  have HD : Hid (Bx w1.drew w.heap.size [.slice a1 u.length k1, .slice a2 d.length k2] ∧ Bx w1.drew (w.heap.size + 1) [.slice none 0 0, .slice none 0 0] ∧ Below w.heap.size w w1.drew ∧ w.heap.size + 2 ≤ w1.drew.heap.size) := ⟨HB1.out.1.next (below_drew _), HB1.out.2.1.next (below_drew _), HB1.out.2.2.drew, by have := HB1.out.2.1.2; show w.heap.size + 2 ≤ w1.heap.size; omega⟩
  clear HB1
  go_cut [8] (fun s8 wx => ∃ b8 g1 c1 g2 c2, s8 = .pointer (some ⟨b8, 0, none⟩) ∧ CtS wx (w.heap.size + 2) b8 g1 c1 g2 c2 u d ∧ Bx wx (w.heap.size + 1) [.slice none 0 0, .slice none 0 0] ∧ Below w.heap.size w wx)
  case first =>
    have hbA : 0 + u.length ≤ maxLen := by have := HSL.out.1; unfold maxLen; omega
    have hcA : (0 + u.length) * 8 ≤ 140737488355328 := by have := HSL.out.1; omega
    have hbB : 0 + d.length ≤ maxLen := by have := HSL.out.2; unfold maxLen; omega
    have hcB : (0 + d.length) * 8 ≤ 140737488355328 := by have := HSL.out.2; omega
    have HQ : Hid (PrQ .int 3 w1.drew (w.heap.size + 2) u d none none none [.slice none 0 0, .slice none 0 0]) := Hid.intro (PrQ.start HD.out.2.2.2)
    refine wp_region_noPanic ?_
    refine wp_region_held_drew (S := fun W => Bx W w.heap.size [.slice a1 u.length k1, .slice a2 d.length k2]) (by kernel_rfl) HD.out.1 (fun hHeld => ?_)
    obtain ⟨W, hWE⟩ : ∃ x, x = w1.drew := ⟨_, rfl⟩
    rw [← hWE] at HD HQ hHeld ⊢
    clear hWE
    refine take_v (v := ?_) 1 ⟨some 24, Op.fieldAddr 25 (Operand.tmp 3) 0, _, _, _, none⟩ rfl (fun _ _ _ h => h) ?_ hHeld ?_
    rotate_left
    · (intro W _; go_simp <;> (try with_reducible rfl))
    refine take_v (v := ?_) 2 ⟨some 25, Op.load 23 (Operand.tmp 24), _, _, _, none⟩ rfl (fun _ _ _ h => h) ?_ hHeld ?_
    rotate_left
    · (intro W hSW; (have s0 := hSW.cell 0 rfl; have s1 := hSW.cell 1 rfl; have sz := hSW.2); go_simp <;> (try with_reducible rfl))
    refine take_v (v := ?_) 5 ⟨some 28, Op.fieldAddr 25 (Operand.tmp 3) 1, _, _, _, none⟩ rfl (fun _ _ _ h => h) ?_ hHeld ?_
    rotate_left
    · (intro W _; go_simp <;> (try with_reducible rfl))
    refine take_v (v := ?_) 6 ⟨some 29, Op.load 23 (Operand.tmp 28), _, _, _, none⟩ rfl (fun _ _ _ h => h) ?_ hHeld ?_
    rotate_left
    · (intro W hSW; (have s0 := hSW.cell 0 rfl; have s1 := hSW.cell 1 rfl; have sz := hSW.2); go_simp <;> (try with_reducible rfl))
    refine ready_three 0 4 9 ⟨some 23, Op.buildSlice 23 0 #[], _, _, _, none⟩ ⟨some 27, Op.buildSlice 23 0 #[], _, _, _, none⟩ ⟨some 8, Op.alloc 25, _, _, _, none⟩ (by kernel_rfl) rfl rfl rfl (by kernel_rfl) (by kernel_rfl) (by kernel_rfl) (fun KC hK => ?_) (fun KC hK => ?_) (fun KC hK => ?_)
    ·
      go_wp2_with fail
      have hb := Go.Joins.below_alloc1 W (.cells #[] 3)
      have HQ := Hid.intro (HQ.out.made1 rfl)
      have HD : Hid (Bx (W.alloc (.cells #[] 3)) w.heap.size [.slice a1 u.length k1, .slice a2 d.length k2] ∧ Bx (W.alloc (.cells #[] 3)) (w.heap.size + 1) [.slice none 0 0, .slice none 0 0] ∧ Below w.heap.size w (W.alloc (.cells #[] 3)) ∧ w.heap.size + 2 ≤ (W.alloc (.cells #[] 3)).heap.size) := ⟨HD.out.1.next hb, HD.out.2.1.next hb, below_next HD.out.2.2.1 hb, Nat.le_trans HD.out.2.2.2 hb.size⟩
      obtain ⟨m1, hmE⟩ : ∃ x, x = W.heap.size := ⟨_, rfl⟩
      obtain ⟨W, hWE⟩ : ∃ x, x = W.alloc (.cells #[] 3) := ⟨_, rfl⟩
      rw [← hmE] at HQ ⊢
      rw [← hWE] at HQ HD ⊢
      clear hb hWE hmE
      refine hK.out _ _ HD.out.1 (fun hHeld => ?_)
      clear hK KC
      refine ready_three 3 4 9 ⟨some 26, Op.call { callee := Callee.builtin Builtin.append, args := #[Operand.tmp 23, Operand.tmp 25], argTypes := #[23, 23] }, _, _, _, none⟩ ⟨some 27, Op.buildSlice 23 0 #[], _, _, _, none⟩ ⟨some 8, Op.alloc 25, _, _, _, none⟩ (by kernel_rfl) rfl rfl rfl (by kernel_rfl) (by kernel_rfl) (by kernel_rfl) (fun KC hK => ?_) (fun KC hK => ?_) (fun KC hK => ?_)
      ·
        have hzW := HD.out.2.2.2
        refine wp_appx (.tmp 23) (.tmp 25) 23 3 (by rfl) i0 (.int .i64 0) 8 (w.heap.size + 2) .int rfl Try.underlying23 hi0 hz0 hz1 hz2 rfl (by decide) (.slice (some ⟨m1, 0, none⟩) 0 0) [] u (fun k => (Value.slice (some ⟨m1, 0, none⟩) 0 0).ownBlock = some k) (by rfl) HQ.out.1 a1 k1 (by rfl) (HL.out.1.next HD.out.2.2.1) hbA hcA hzW ?_
        intro v1 W9 hO hg hwh
        have HM : Hid (m1 ≠ w.heap.size ∧ m1 ≠ w.heap.size + 1 ∧ w.heap.size ≤ m1) := Hid.intro (by have hm := OwnX.flat (e := .int) rfl (show OwnX W (w.heap.size + 2) (.list .int 3) [(.slice (some ⟨m1, 0, none⟩) 0 0)] [] _ from HQ.out.1); have hm := (hm.1.lt m1 rfl).1; omega)
        have HQ : Hid (PrQ .int 3 W9 (w.heap.size + 2) u d (some (v1, true)) _ _ [.slice none 0 0, .slice none 0 0]) := Hid.intro (HQ.out.row1 rfl hO hg (fun k hk => blkQ_some.2 hk) (fun k hk => hwh.elim (fun q => Or.inl (blkQ_some.2 (q ▸ hk))) (fun q => by rw [q] at hk; exact Or.inr (Option.some.inj hk).symm)))
        have HD : Hid (Bx W9 w.heap.size [.slice a1 u.length k1, .slice a2 d.length k2] ∧ Bx W9 (w.heap.size + 1) [.slice none 0 0, .slice none 0 0] ∧ Below w.heap.size w W9 ∧ w.heap.size + 2 ≤ W9.heap.size) := ⟨HD.out.1.grow hg (fun q => HM.out.1 (Option.some.inj q).symm), HD.out.2.1.grow hg (fun q => HM.out.2.1 (Option.some.inj q).symm), HD.out.2.2.1.grown hg HD.out.2.2.1.size (fun k hk => by have hk : m1 = k := Option.some.inj hk; have := HM.out.2.2; omega), Nat.le_trans HD.out.2.2.2 hg.size⟩
        obtain ⟨va1, vc1, hvf⟩ := OwnX.vform (show OwnX W9 (w.heap.size + 2) (.list .int 3) [v1] u _ from HQ.out.1)
        subst hvf
        clear hO hg hwh hzW
        obtain ⟨W, hWE⟩ : ∃ x, x = W9 := ⟨_, rfl⟩
        subst hWE
        refine hK.out _ _ HD.out.1 (fun hHeld => ?_)
        clear hK KC
        refine ready_two 4 9 ⟨some 27, Op.buildSlice 23 0 #[], _, _, _, none⟩ ⟨some 8, Op.alloc 25, _, _, _, none⟩ (by kernel_rfl) rfl rfl (by kernel_rfl) (by kernel_rfl) (fun KC hK => ?_) (fun KC hK => ?_)
        ·
          go_wp2_with fail
          have hb := Go.Joins.below_alloc1 W (.cells #[] 3)
          have HQ := Hid.intro (HQ.out.made2 rfl)
          have HD : Hid (Bx (W.alloc (.cells #[] 3)) w.heap.size [.slice a1 u.length k1, .slice a2 d.length k2] ∧ Bx (W.alloc (.cells #[] 3)) (w.heap.size + 1) [.slice none 0 0, .slice none 0 0] ∧ Below w.heap.size w (W.alloc (.cells #[] 3)) ∧ w.heap.size + 2 ≤ (W.alloc (.cells #[] 3)).heap.size) := ⟨HD.out.1.next hb, HD.out.2.1.next hb, below_next HD.out.2.2.1 hb, Nat.le_trans HD.out.2.2.2 hb.size⟩
          obtain ⟨m2, hmE⟩ : ∃ x, x = W.heap.size := ⟨_, rfl⟩
          obtain ⟨W, hWE⟩ : ∃ x, x = W.alloc (.cells #[] 3) := ⟨_, rfl⟩
          rw [← hmE] at HQ ⊢
          rw [← hWE] at HQ HD ⊢
          clear hb hWE hmE
          refine hK.out _ _ HD.out.1 (fun hHeld => ?_)
          clear hK KC
          refine ready_two 7 9 ⟨some 30, Op.call { callee := Callee.builtin Builtin.append, args := #[Operand.tmp 27, Operand.tmp 29], argTypes := #[23, 23] }, _, _, _, none⟩ ⟨some 8, Op.alloc 25, _, _, _, none⟩ (by kernel_rfl) rfl rfl (by kernel_rfl) (by kernel_rfl) (fun KC hK => ?_) (fun KC hK => ?_)
          ·
            have hzW := HD.out.2.2.2
            refine wp_appx (.tmp 27) (.tmp 29) 23 3 (by rfl) i0 (.int .i64 0) 8 (w.heap.size + 2) .int rfl Try.underlying23 hi0 hz0 hz1 hz2 rfl (by decide) (.slice (some ⟨m2, 0, none⟩) 0 0) [] d (fun k => (Value.slice (some ⟨m2, 0, none⟩) 0 0).ownBlock = some k) (by rfl) HQ.out.2.1 a2 k2 (by rfl) (HL.out.2.next HD.out.2.2.1) hbB hcB hzW ?_
            intro v2 W9 hO hg hwh
            have HM : Hid (m2 ≠ w.heap.size ∧ m2 ≠ w.heap.size + 1 ∧ w.heap.size ≤ m2) := Hid.intro (by have hm := OwnX.flat (e := .int) rfl (show OwnX W (w.heap.size + 2) (.list .int 3) [(.slice (some ⟨m2, 0, none⟩) 0 0)] [] _ from HQ.out.2.1); have hm := (hm.1.lt m2 rfl).1; omega)
            have HQ : Hid (PrQ .int 3 W9 (w.heap.size + 2) u d _ (some (v2, true)) _ [.slice none 0 0, .slice none 0 0]) := Hid.intro (HQ.out.row2 rfl hO hg (fun k hk => blkQ_some.2 hk) (fun k hk => hwh.elim (fun q => Or.inl (blkQ_some.2 (q ▸ hk))) (fun q => by rw [q] at hk; exact Or.inr (Option.some.inj hk).symm)))
            have HD : Hid (Bx W9 w.heap.size [.slice a1 u.length k1, .slice a2 d.length k2] ∧ Bx W9 (w.heap.size + 1) [.slice none 0 0, .slice none 0 0] ∧ Below w.heap.size w W9 ∧ w.heap.size + 2 ≤ W9.heap.size) := ⟨HD.out.1.grow hg (fun q => HM.out.1 (Option.some.inj q).symm), HD.out.2.1.grow hg (fun q => HM.out.2.1 (Option.some.inj q).symm), HD.out.2.2.1.grown hg HD.out.2.2.1.size (fun k hk => by have hk : m2 = k := Option.some.inj hk; have := HM.out.2.2; omega), Nat.le_trans HD.out.2.2.2 hg.size⟩
            obtain ⟨va2, vc2, hvf⟩ := OwnX.vform (show OwnX W9 (w.heap.size + 2) (.list .int 3) [v2] d _ from HQ.out.2.1)
            subst hvf
            clear hO hg hwh hzW
            obtain ⟨W, hWE⟩ : ∃ x, x = W9 := ⟨_, rfl⟩
            subst hWE
            refine hK.out _ _ HD.out.1 (fun hHeld => ?_)
            clear hK KC
            refine take_v (v := ?_) 8 ⟨some 31, Op.build 25 #[(0, Operand.tmp 26), (1, Operand.tmp 30)], _, _, _, none⟩ rfl (fun _ _ _ h => h) ?_ hHeld ?_
            rotate_left
            · (intro W _; go_simp <;> (try with_reducible rfl))
            refine ready_call 9 ⟨some 8, Op.alloc 25, _, _, _, none⟩ (by kernel_rfl) rfl (by kernel_rfl) (fun KC hK => ?_)
            go_wp2_with fail
            have hb := Go.Joins.below_alloc1 W (.cells #[.slice none 0 0, .slice none 0 0] 25)
            have HQ := Hid.intro (HQ.out.box 25)
            have HD : Hid (Bx (W.alloc (.cells #[.slice none 0 0, .slice none 0 0] 25)) w.heap.size [.slice a1 u.length k1, .slice a2 d.length k2] ∧ Bx (W.alloc (.cells #[.slice none 0 0, .slice none 0 0] 25)) (w.heap.size + 1) [.slice none 0 0, .slice none 0 0] ∧ Below w.heap.size w (W.alloc (.cells #[.slice none 0 0, .slice none 0 0] 25)) ∧ w.heap.size + 2 ≤ (W.alloc (.cells #[.slice none 0 0, .slice none 0 0] 25)).heap.size) := ⟨HD.out.1.next hb, HD.out.2.1.next hb, below_next HD.out.2.2.1 hb, Nat.le_trans HD.out.2.2.2 hb.size⟩
            obtain ⟨b3, hmE⟩ : ∃ x, x = W.heap.size := ⟨_, rfl⟩
            obtain ⟨W8, hWE⟩ : ∃ x, x = W.alloc (.cells #[.slice none 0 0, .slice none 0 0] 25) := ⟨_, rfl⟩
            have HQ : Hid (PrQ .int 3 W8 (w.heap.size + 2) u d _ _ (some b3) [.slice none 0 0, .slice none 0 0]) := Hid.intro (by rw [hWE, hmE]; exact HQ.out)
            rw [← hWE] at HD ⊢
            rw [← hmE]
            clear hb hWE hmE
            obtain ⟨W, hWE⟩ : ∃ x, x = W8 := ⟨_, rfl⟩
            subst hWE
            refine hK.out _ _ HD.out.1 (fun hHeld => ?_)
            clear hK KC
            refine ready_call 10 ⟨none, Op.store 25 (Operand.tmp 8) (Operand.tmp 31), _, _, _, none⟩ (by kernel_rfl) rfl (by kernel_rfl) (fun KC hK => ?_)
            have hq := HQ.out.2.2.1 b3 rfl
            have d0 := (hq.1).cell 0 rfl
            have d1 := (hq.1).cell 1 rfl
            have dz := (hq.1).2
            have df0 := (hq.1).frz 0 (by simp)
            have df1 := (hq.1).frz 1 (by simp)
            have hbb := hq.2
            go_wp2_with fail
            have HF := Hid.intro (PrS.of HQ.out)
            have HZ : Hid (Bx ((W.setCell ⟨b3, 0, none⟩ (.slice va1 u.length vc1)).setCell ⟨b3, 1, none⟩ (.slice va2 d.length vc2)) (w.heap.size + 1) [.slice none 0 0, .slice none 0 0] ∧ Below w.heap.size w ((W.setCell ⟨b3, 0, none⟩ (.slice va1 u.length vc1)).setCell ⟨b3, 1, none⟩ (.slice va2 d.length vc2))) := ⟨(HD.out.2.1.other (by omega)).other (by omega), (HD.out.2.2.1.setCell (p := ⟨b3, 0, none⟩) (by show w.heap.size ≤ b3; omega) _).setCell (p := ⟨b3, 1, none⟩) (by show w.heap.size ≤ b3; omega) _⟩
            have hnb : w.heap.size ≠ b3 := by omega
            clear d0 d1 dz df0 df1 hq
            refine hK.out _ _ ((HD.out.1.other hnb).other hnb) (fun hHeld => ?_)
            clear hK KC
            refine wpAnyH_done (by kernel_rfl) ?_ _
            refine NoPanic.normal ?_
            go_wp2_with fail
            go_meet
            obtain ⟨g1, c1, g2, c2, hF⟩ := CtS.of HF.out HG.out.1.1 HG.out.2.1
            exact ⟨b3, g1, c1, g2, c2, rfl, hF, HZ.out⟩
          ·
            go_wp2_with fail
            have hb := Go.Joins.below_alloc1 W (.cells #[.slice none 0 0, .slice none 0 0] 25)
            have HQ := Hid.intro (HQ.out.box 25)
            have HD : Hid (Bx (W.alloc (.cells #[.slice none 0 0, .slice none 0 0] 25)) w.heap.size [.slice a1 u.length k1, .slice a2 d.length k2] ∧ Bx (W.alloc (.cells #[.slice none 0 0, .slice none 0 0] 25)) (w.heap.size + 1) [.slice none 0 0, .slice none 0 0] ∧ Below w.heap.size w (W.alloc (.cells #[.slice none 0 0, .slice none 0 0] 25)) ∧ w.heap.size + 2 ≤ (W.alloc (.cells #[.slice none 0 0, .slice none 0 0] 25)).heap.size) := ⟨HD.out.1.next hb, HD.out.2.1.next hb, below_next HD.out.2.2.1 hb, Nat.le_trans HD.out.2.2.2 hb.size⟩
            obtain ⟨b3, hmE⟩ : ∃ x, x = W.heap.size := ⟨_, rfl⟩
            obtain ⟨W8, hWE⟩ : ∃ x, x = W.alloc (.cells #[.slice none 0 0, .slice none 0 0] 25) := ⟨_, rfl⟩
            have HQ : Hid (PrQ .int 3 W8 (w.heap.size + 2) u d _ _ (some b3) [.slice none 0 0, .slice none 0 0]) := Hid.intro (by rw [hWE, hmE]; exact HQ.out)
            rw [← hWE] at HD ⊢
            rw [← hmE]
            clear hb hWE hmE
            obtain ⟨W, hWE⟩ : ∃ x, x = W8 := ⟨_, rfl⟩
            subst hWE
            refine hK.out _ _ HD.out.1 (fun hHeld => ?_)
            clear hK KC
            refine ready_call 7 ⟨some 30, Op.call { callee := Callee.builtin Builtin.append, args := #[Operand.tmp 27, Operand.tmp 29], argTypes := #[23, 23] }, _, _, _, none⟩ (by kernel_rfl) rfl (by kernel_rfl) (fun KC hK => ?_)
            have hzW := HD.out.2.2.2
            refine wp_appx (.tmp 27) (.tmp 29) 23 3 (by rfl) i0 (.int .i64 0) 8 (w.heap.size + 2) .int rfl Try.underlying23 hi0 hz0 hz1 hz2 rfl (by decide) (.slice (some ⟨m2, 0, none⟩) 0 0) [] d (fun k => (Value.slice (some ⟨m2, 0, none⟩) 0 0).ownBlock = some k) (by rfl) HQ.out.2.1 a2 k2 (by rfl) (HL.out.2.next HD.out.2.2.1) hbB hcB hzW ?_
            intro v2 W9 hO hg hwh
            have HM : Hid (m2 ≠ w.heap.size ∧ m2 ≠ w.heap.size + 1 ∧ w.heap.size ≤ m2) := Hid.intro (by have hm := OwnX.flat (e := .int) rfl (show OwnX W (w.heap.size + 2) (.list .int 3) [(.slice (some ⟨m2, 0, none⟩) 0 0)] [] _ from HQ.out.2.1); have hm := (hm.1.lt m2 rfl).1; omega)
            have HQ : Hid (PrQ .int 3 W9 (w.heap.size + 2) u d _ (some (v2, true)) _ [.slice none 0 0, .slice none 0 0]) := Hid.intro (HQ.out.row2 rfl hO hg (fun k hk => blkQ_some.2 hk) (fun k hk => hwh.elim (fun q => Or.inl (blkQ_some.2 (q ▸ hk))) (fun q => by rw [q] at hk; exact Or.inr (Option.some.inj hk).symm)))
            have HD : Hid (Bx W9 w.heap.size [.slice a1 u.length k1, .slice a2 d.length k2] ∧ Bx W9 (w.heap.size + 1) [.slice none 0 0, .slice none 0 0] ∧ Below w.heap.size w W9 ∧ w.heap.size + 2 ≤ W9.heap.size) := ⟨HD.out.1.grow hg (fun q => HM.out.1 (Option.some.inj q).symm), HD.out.2.1.grow hg (fun q => HM.out.2.1 (Option.some.inj q).symm), HD.out.2.2.1.grown hg HD.out.2.2.1.size (fun k hk => by have hk : m2 = k := Option.some.inj hk; have := HM.out.2.2; omega), Nat.le_trans HD.out.2.2.2 hg.size⟩
            obtain ⟨va2, vc2, hvf⟩ := OwnX.vform (show OwnX W9 (w.heap.size + 2) (.list .int 3) [v2] d _ from HQ.out.2.1)
            subst hvf
            clear hO hg hwh hzW
            obtain ⟨W, hWE⟩ : ∃ x, x = W9 := ⟨_, rfl⟩
            subst hWE
            refine hK.out _ _ HD.out.1 (fun hHeld => ?_)
            clear hK KC
            refine take_v (v := ?_) 8 ⟨some 31, Op.build 25 #[(0, Operand.tmp 26), (1, Operand.tmp 30)], _, _, _, none⟩ rfl (fun _ _ _ h => h) ?_ hHeld ?_
            rotate_left
            · (intro W _; go_simp <;> (try with_reducible rfl))
            refine ready_call 10 ⟨none, Op.store 25 (Operand.tmp 8) (Operand.tmp 31), _, _, _, none⟩ (by kernel_rfl) rfl (by kernel_rfl) (fun KC hK => ?_)
            have hq := HQ.out.2.2.1 b3 rfl
            have d0 := (hq.1).cell 0 rfl
            have d1 := (hq.1).cell 1 rfl
            have dz := (hq.1).2
            have df0 := (hq.1).frz 0 (by simp)
            have df1 := (hq.1).frz 1 (by simp)
            have hbb := hq.2
            go_wp2_with fail
            have HF := Hid.intro (PrS.of HQ.out)
            have HZ : Hid (Bx ((W.setCell ⟨b3, 0, none⟩ (.slice va1 u.length vc1)).setCell ⟨b3, 1, none⟩ (.slice va2 d.length vc2)) (w.heap.size + 1) [.slice none 0 0, .slice none 0 0] ∧ Below w.heap.size w ((W.setCell ⟨b3, 0, none⟩ (.slice va1 u.length vc1)).setCell ⟨b3, 1, none⟩ (.slice va2 d.length vc2))) := ⟨(HD.out.2.1.other (by omega)).other (by omega), (HD.out.2.2.1.setCell (p := ⟨b3, 0, none⟩) (by show w.heap.size ≤ b3; omega) _).setCell (p := ⟨b3, 1, none⟩) (by show w.heap.size ≤ b3; omega) _⟩
            have hnb : w.heap.size ≠ b3 := by omega
            clear d0 d1 dz df0 df1 hq
            refine hK.out _ _ ((HD.out.1.other hnb).other hnb) (fun hHeld => ?_)
            clear hK KC
            refine wpAnyH_done (by kernel_rfl) ?_ _
            refine NoPanic.normal ?_
            go_wp2_with fail
            go_meet
            obtain ⟨g1, c1, g2, c2, hF⟩ := CtS.of HF.out HG.out.1.1 HG.out.2.1
            exact ⟨b3, g1, c1, g2, c2, rfl, hF, HZ.out⟩
        ·
          go_wp2_with fail
          have hb := Go.Joins.below_alloc1 W (.cells #[.slice none 0 0, .slice none 0 0] 25)
          have HQ := Hid.intro (HQ.out.box 25)
          have HD : Hid (Bx (W.alloc (.cells #[.slice none 0 0, .slice none 0 0] 25)) w.heap.size [.slice a1 u.length k1, .slice a2 d.length k2] ∧ Bx (W.alloc (.cells #[.slice none 0 0, .slice none 0 0] 25)) (w.heap.size + 1) [.slice none 0 0, .slice none 0 0] ∧ Below w.heap.size w (W.alloc (.cells #[.slice none 0 0, .slice none 0 0] 25)) ∧ w.heap.size + 2 ≤ (W.alloc (.cells #[.slice none 0 0, .slice none 0 0] 25)).heap.size) := ⟨HD.out.1.next hb, HD.out.2.1.next hb, below_next HD.out.2.2.1 hb, Nat.le_trans HD.out.2.2.2 hb.size⟩
          obtain ⟨b3, hmE⟩ : ∃ x, x = W.heap.size := ⟨_, rfl⟩
          obtain ⟨W8, hWE⟩ : ∃ x, x = W.alloc (.cells #[.slice none 0 0, .slice none 0 0] 25) := ⟨_, rfl⟩
          have HQ : Hid (PrQ .int 3 W8 (w.heap.size + 2) u d _ _ (some b3) [.slice none 0 0, .slice none 0 0]) := Hid.intro (by rw [hWE, hmE]; exact HQ.out)
          rw [← hWE] at HD ⊢
          rw [← hmE]
          clear hb hWE hmE
          obtain ⟨W, hWE⟩ : ∃ x, x = W8 := ⟨_, rfl⟩
          subst hWE
          refine hK.out _ _ HD.out.1 (fun hHeld => ?_)
          clear hK KC
          refine ready_call 4 ⟨some 27, Op.buildSlice 23 0 #[], _, _, _, none⟩ (by kernel_rfl) rfl (by kernel_rfl) (fun KC hK => ?_)
          go_wp2_with fail
          have hb := Go.Joins.below_alloc1 W (.cells #[] 3)
          have HQ := Hid.intro (HQ.out.made2 rfl)
          have HD : Hid (Bx (W.alloc (.cells #[] 3)) w.heap.size [.slice a1 u.length k1, .slice a2 d.length k2] ∧ Bx (W.alloc (.cells #[] 3)) (w.heap.size + 1) [.slice none 0 0, .slice none 0 0] ∧ Below w.heap.size w (W.alloc (.cells #[] 3)) ∧ w.heap.size + 2 ≤ (W.alloc (.cells #[] 3)).heap.size) := ⟨HD.out.1.next hb, HD.out.2.1.next hb, below_next HD.out.2.2.1 hb, Nat.le_trans HD.out.2.2.2 hb.size⟩
          obtain ⟨m2, hmE⟩ : ∃ x, x = W.heap.size := ⟨_, rfl⟩
          obtain ⟨W, hWE⟩ : ∃ x, x = W.alloc (.cells #[] 3) := ⟨_, rfl⟩
          rw [← hmE] at HQ ⊢
          rw [← hWE] at HQ HD ⊢
          clear hb hWE hmE
          refine hK.out _ _ HD.out.1 (fun hHeld => ?_)
          clear hK KC
          refine ready_call 7 ⟨some 30, Op.call { callee := Callee.builtin Builtin.append, args := #[Operand.tmp 27, Operand.tmp 29], argTypes := #[23, 23] }, _, _, _, none⟩ (by kernel_rfl) rfl (by kernel_rfl) (fun KC hK => ?_)
          have hzW := HD.out.2.2.2
          refine wp_appx (.tmp 27) (.tmp 29) 23 3 (by rfl) i0 (.int .i64 0) 8 (w.heap.size + 2) .int rfl Try.underlying23 hi0 hz0 hz1 hz2 rfl (by decide) (.slice (some ⟨m2, 0, none⟩) 0 0) [] d (fun k => (Value.slice (some ⟨m2, 0, none⟩) 0 0).ownBlock = some k) (by rfl) HQ.out.2.1 a2 k2 (by rfl) (HL.out.2.next HD.out.2.2.1) hbB hcB hzW ?_
          intro v2 W9 hO hg hwh
          have HM : Hid (m2 ≠ w.heap.size ∧ m2 ≠ w.heap.size + 1 ∧ w.heap.size ≤ m2) := Hid.intro (by have hm := OwnX.flat (e := .int) rfl (show OwnX W (w.heap.size + 2) (.list .int 3) [(.slice (some ⟨m2, 0, none⟩) 0 0)] [] _ from HQ.out.2.1); have hm := (hm.1.lt m2 rfl).1; omega)
          have HQ : Hid (PrQ .int 3 W9 (w.heap.size + 2) u d _ (some (v2, true)) _ [.slice none 0 0, .slice none 0 0]) := Hid.intro (HQ.out.row2 rfl hO hg (fun k hk => blkQ_some.2 hk) (fun k hk => hwh.elim (fun q => Or.inl (blkQ_some.2 (q ▸ hk))) (fun q => by rw [q] at hk; exact Or.inr (Option.some.inj hk).symm)))
          have HD : Hid (Bx W9 w.heap.size [.slice a1 u.length k1, .slice a2 d.length k2] ∧ Bx W9 (w.heap.size + 1) [.slice none 0 0, .slice none 0 0] ∧ Below w.heap.size w W9 ∧ w.heap.size + 2 ≤ W9.heap.size) := ⟨HD.out.1.grow hg (fun q => HM.out.1 (Option.some.inj q).symm), HD.out.2.1.grow hg (fun q => HM.out.2.1 (Option.some.inj q).symm), HD.out.2.2.1.grown hg HD.out.2.2.1.size (fun k hk => by have hk : m2 = k := Option.some.inj hk; have := HM.out.2.2; omega), Nat.le_trans HD.out.2.2.2 hg.size⟩
          obtain ⟨va2, vc2, hvf⟩ := OwnX.vform (show OwnX W9 (w.heap.size + 2) (.list .int 3) [v2] d _ from HQ.out.2.1)
          subst hvf
          clear hO hg hwh hzW
          obtain ⟨W, hWE⟩ : ∃ x, x = W9 := ⟨_, rfl⟩
          subst hWE
          refine hK.out _ _ HD.out.1 (fun hHeld => ?_)
          clear hK KC
          refine take_v (v := ?_) 8 ⟨some 31, Op.build 25 #[(0, Operand.tmp 26), (1, Operand.tmp 30)], _, _, _, none⟩ rfl (fun _ _ _ h => h) ?_ hHeld ?_
          rotate_left
          · (intro W _; go_simp <;> (try with_reducible rfl))
          refine ready_call 10 ⟨none, Op.store 25 (Operand.tmp 8) (Operand.tmp 31), _, _, _, none⟩ (by kernel_rfl) rfl (by kernel_rfl) (fun KC hK => ?_)
          have hq := HQ.out.2.2.1 b3 rfl
          have d0 := (hq.1).cell 0 rfl
          have d1 := (hq.1).cell 1 rfl
          have dz := (hq.1).2
          have df0 := (hq.1).frz 0 (by simp)
          have df1 := (hq.1).frz 1 (by simp)
          have hbb := hq.2
          go_wp2_with fail
          have HF := Hid.intro (PrS.of HQ.out)
          have HZ : Hid (Bx ((W.setCell ⟨b3, 0, none⟩ (.slice va1 u.length vc1)).setCell ⟨b3, 1, none⟩ (.slice va2 d.length vc2)) (w.heap.size + 1) [.slice none 0 0, .slice none 0 0] ∧ Below w.heap.size w ((W.setCell ⟨b3, 0, none⟩ (.slice va1 u.length vc1)).setCell ⟨b3, 1, none⟩ (.slice va2 d.length vc2))) := ⟨(HD.out.2.1.other (by omega)).other (by omega), (HD.out.2.2.1.setCell (p := ⟨b3, 0, none⟩) (by show w.heap.size ≤ b3; omega) _).setCell (p := ⟨b3, 1, none⟩) (by show w.heap.size ≤ b3; omega) _⟩
          have hnb : w.heap.size ≠ b3 := by omega
          clear d0 d1 dz df0 df1 hq
          refine hK.out _ _ ((HD.out.1.other hnb).other hnb) (fun hHeld => ?_)
          clear hK KC
          refine wpAnyH_done (by kernel_rfl) ?_ _
          refine NoPanic.normal ?_
          go_wp2_with fail
          go_meet
          obtain ⟨g1, c1, g2, c2, hF⟩ := CtS.of HF.out HG.out.1.1 HG.out.2.1
          exact ⟨b3, g1, c1, g2, c2, rfl, hF, HZ.out⟩
      ·
        go_wp2_with fail
        have hb := Go.Joins.below_alloc1 W (.cells #[] 3)
        have HQ := Hid.intro (HQ.out.made2 rfl)
        have HD : Hid (Bx (W.alloc (.cells #[] 3)) w.heap.size [.slice a1 u.length k1, .slice a2 d.length k2] ∧ Bx (W.alloc (.cells #[] 3)) (w.heap.size + 1) [.slice none 0 0, .slice none 0 0] ∧ Below w.heap.size w (W.alloc (.cells #[] 3)) ∧ w.heap.size + 2 ≤ (W.alloc (.cells #[] 3)).heap.size) := ⟨HD.out.1.next hb, HD.out.2.1.next hb, below_next HD.out.2.2.1 hb, Nat.le_trans HD.out.2.2.2 hb.size⟩
        obtain ⟨m2, hmE⟩ : ∃ x, x = W.heap.size := ⟨_, rfl⟩
        obtain ⟨W, hWE⟩ : ∃ x, x = W.alloc (.cells #[] 3) := ⟨_, rfl⟩
        rw [← hmE] at HQ ⊢
        rw [← hWE] at HQ HD ⊢
        clear hb hWE hmE
        refine hK.out _ _ HD.out.1 (fun hHeld => ?_)
        clear hK KC
        refine ready_two 3 9 ⟨some 26, Op.call { callee := Callee.builtin Builtin.append, args := #[Operand.tmp 23, Operand.tmp 25], argTypes := #[23, 23] }, _, _, _, none⟩ ⟨some 8, Op.alloc 25, _, _, _, none⟩ (by kernel_rfl) rfl rfl (by kernel_rfl) (by kernel_rfl) (fun KC hK => ?_) (fun KC hK => ?_)
        ·
          have hzW := HD.out.2.2.2
          refine wp_appx (.tmp 23) (.tmp 25) 23 3 (by rfl) i0 (.int .i64 0) 8 (w.heap.size + 2) .int rfl Try.underlying23 hi0 hz0 hz1 hz2 rfl (by decide) (.slice (some ⟨m1, 0, none⟩) 0 0) [] u (fun k => (Value.slice (some ⟨m1, 0, none⟩) 0 0).ownBlock = some k) (by rfl) HQ.out.1 a1 k1 (by rfl) (HL.out.1.next HD.out.2.2.1) hbA hcA hzW ?_
          intro v1 W9 hO hg hwh
          have HM : Hid (m1 ≠ w.heap.size ∧ m1 ≠ w.heap.size + 1 ∧ w.heap.size ≤ m1) := Hid.intro (by have hm := OwnX.flat (e := .int) rfl (show OwnX W (w.heap.size + 2) (.list .int 3) [(.slice (some ⟨m1, 0, none⟩) 0 0)] [] _ from HQ.out.1); have hm := (hm.1.lt m1 rfl).1; omega)
          have HQ : Hid (PrQ .int 3 W9 (w.heap.size + 2) u d (some (v1, true)) _ _ [.slice none 0 0, .slice none 0 0]) := Hid.intro (HQ.out.row1 rfl hO hg (fun k hk => blkQ_some.2 hk) (fun k hk => hwh.elim (fun q => Or.inl (blkQ_some.2 (q ▸ hk))) (fun q => by rw [q] at hk; exact Or.inr (Option.some.inj hk).symm)))
          have HD : Hid (Bx W9 w.heap.size [.slice a1 u.length k1, .slice a2 d.length k2] ∧ Bx W9 (w.heap.size + 1) [.slice none 0 0, .slice none 0 0] ∧ Below w.heap.size w W9 ∧ w.heap.size + 2 ≤ W9.heap.size) := ⟨HD.out.1.grow hg (fun q => HM.out.1 (Option.some.inj q).symm), HD.out.2.1.grow hg (fun q => HM.out.2.1 (Option.some.inj q).symm), HD.out.2.2.1.grown hg HD.out.2.2.1.size (fun k hk => by have hk : m1 = k := Option.some.inj hk; have := HM.out.2.2; omega), Nat.le_trans HD.out.2.2.2 hg.size⟩
          obtain ⟨va1, vc1, hvf⟩ := OwnX.vform (show OwnX W9 (w.heap.size + 2) (.list .int 3) [v1] u _ from HQ.out.1)
          subst hvf
          clear hO hg hwh hzW
          obtain ⟨W, hWE⟩ : ∃ x, x = W9 := ⟨_, rfl⟩
          subst hWE
          refine hK.out _ _ HD.out.1 (fun hHeld => ?_)
          clear hK KC
          refine ready_two 7 9 ⟨some 30, Op.call { callee := Callee.builtin Builtin.append, args := #[Operand.tmp 27, Operand.tmp 29], argTypes := #[23, 23] }, _, _, _, none⟩ ⟨some 8, Op.alloc 25, _, _, _, none⟩ (by kernel_rfl) rfl rfl (by kernel_rfl) (by kernel_rfl) (fun KC hK => ?_) (fun KC hK => ?_)
          ·
            have hzW := HD.out.2.2.2
            refine wp_appx (.tmp 27) (.tmp 29) 23 3 (by rfl) i0 (.int .i64 0) 8 (w.heap.size + 2) .int rfl Try.underlying23 hi0 hz0 hz1 hz2 rfl (by decide) (.slice (some ⟨m2, 0, none⟩) 0 0) [] d (fun k => (Value.slice (some ⟨m2, 0, none⟩) 0 0).ownBlock = some k) (by rfl) HQ.out.2.1 a2 k2 (by rfl) (HL.out.2.next HD.out.2.2.1) hbB hcB hzW ?_
            intro v2 W9 hO hg hwh
            have HM : Hid (m2 ≠ w.heap.size ∧ m2 ≠ w.heap.size + 1 ∧ w.heap.size ≤ m2) := Hid.intro (by have hm := OwnX.flat (e := .int) rfl (show OwnX W (w.heap.size + 2) (.list .int 3) [(.slice (some ⟨m2, 0, none⟩) 0 0)] [] _ from HQ.out.2.1); have hm := (hm.1.lt m2 rfl).1; omega)
            have HQ : Hid (PrQ .int 3 W9 (w.heap.size + 2) u d _ (some (v2, true)) _ [.slice none 0 0, .slice none 0 0]) := Hid.intro (HQ.out.row2 rfl hO hg (fun k hk => blkQ_some.2 hk) (fun k hk => hwh.elim (fun q => Or.inl (blkQ_some.2 (q ▸ hk))) (fun q => by rw [q] at hk; exact Or.inr (Option.some.inj hk).symm)))
            have HD : Hid (Bx W9 w.heap.size [.slice a1 u.length k1, .slice a2 d.length k2] ∧ Bx W9 (w.heap.size + 1) [.slice none 0 0, .slice none 0 0] ∧ Below w.heap.size w W9 ∧ w.heap.size + 2 ≤ W9.heap.size) := ⟨HD.out.1.grow hg (fun q => HM.out.1 (Option.some.inj q).symm), HD.out.2.1.grow hg (fun q => HM.out.2.1 (Option.some.inj q).symm), HD.out.2.2.1.grown hg HD.out.2.2.1.size (fun k hk => by have hk : m2 = k := Option.some.inj hk; have := HM.out.2.2; omega), Nat.le_trans HD.out.2.2.2 hg.size⟩
            obtain ⟨va2, vc2, hvf⟩ := OwnX.vform (show OwnX W9 (w.heap.size + 2) (.list .int 3) [v2] d _ from HQ.out.2.1)
            subst hvf
            clear hO hg hwh hzW
            obtain ⟨W, hWE⟩ : ∃ x, x = W9 := ⟨_, rfl⟩
            subst hWE
            refine hK.out _ _ HD.out.1 (fun hHeld => ?_)
            clear hK KC
            refine take_v (v := ?_) 8 ⟨some 31, Op.build 25 #[(0, Operand.tmp 26), (1, Operand.tmp 30)], _, _, _, none⟩ rfl (fun _ _ _ h => h) ?_ hHeld ?_
            rotate_left
            · (intro W _; go_simp <;> (try with_reducible rfl))
            refine ready_call 9 ⟨some 8, Op.alloc 25, _, _, _, none⟩ (by kernel_rfl) rfl (by kernel_rfl) (fun KC hK => ?_)
            go_wp2_with fail
            have hb := Go.Joins.below_alloc1 W (.cells #[.slice none 0 0, .slice none 0 0] 25)
            have HQ := Hid.intro (HQ.out.box 25)
            have HD : Hid (Bx (W.alloc (.cells #[.slice none 0 0, .slice none 0 0] 25)) w.heap.size [.slice a1 u.length k1, .slice a2 d.length k2] ∧ Bx (W.alloc (.cells #[.slice none 0 0, .slice none 0 0] 25)) (w.heap.size + 1) [.slice none 0 0, .slice none 0 0] ∧ Below w.heap.size w (W.alloc (.cells #[.slice none 0 0, .slice none 0 0] 25)) ∧ w.heap.size + 2 ≤ (W.alloc (.cells #[.slice none 0 0, .slice none 0 0] 25)).heap.size) := ⟨HD.out.1.next hb, HD.out.2.1.next hb, below_next HD.out.2.2.1 hb, Nat.le_trans HD.out.2.2.2 hb.size⟩
            obtain ⟨b3, hmE⟩ : ∃ x, x = W.heap.size := ⟨_, rfl⟩
            obtain ⟨W8, hWE⟩ : ∃ x, x = W.alloc (.cells #[.slice none 0 0, .slice none 0 0] 25) := ⟨_, rfl⟩
            have HQ : Hid (PrQ .int 3 W8 (w.heap.size + 2) u d _ _ (some b3) [.slice none 0 0, .slice none 0 0]) := Hid.intro (by rw [hWE, hmE]; exact HQ.out)
            rw [← hWE] at HD ⊢
            rw [← hmE]
            clear hb hWE hmE
            obtain ⟨W, hWE⟩ : ∃ x, x = W8 := ⟨_, rfl⟩
            subst hWE
            refine hK.out _ _ HD.out.1 (fun hHeld => ?_)
            clear hK KC
            refine ready_call 10 ⟨none, Op.store 25 (Operand.tmp 8) (Operand.tmp 31), _, _, _, none⟩ (by kernel_rfl) rfl (by kernel_rfl) (fun KC hK => ?_)
            have hq := HQ.out.2.2.1 b3 rfl
            have d0 := (hq.1).cell 0 rfl
            have d1 := (hq.1).cell 1 rfl
            have dz := (hq.1).2
            have df0 := (hq.1).frz 0 (by simp)
            have df1 := (hq.1).frz 1 (by simp)
            have hbb := hq.2
            go_wp2_with fail
            have HF := Hid.intro (PrS.of HQ.out)
            have HZ : Hid (Bx ((W.setCell ⟨b3, 0, none⟩ (.slice va1 u.length vc1)).setCell ⟨b3, 1, none⟩ (.slice va2 d.length vc2)) (w.heap.size + 1) [.slice none 0 0, .slice none 0 0] ∧ Below w.heap.size w ((W.setCell ⟨b3, 0, none⟩ (.slice va1 u.length vc1)).setCell ⟨b3, 1, none⟩ (.slice va2 d.length vc2))) := ⟨(HD.out.2.1.other (by omega)).other (by omega), (HD.out.2.2.1.setCell (p := ⟨b3, 0, none⟩) (by show w.heap.size ≤ b3; omega) _).setCell (p := ⟨b3, 1, none⟩) (by show w.heap.size ≤ b3; omega) _⟩
            have hnb : w.heap.size ≠ b3 := by omega
            clear d0 d1 dz df0 df1 hq
            refine hK.out _ _ ((HD.out.1.other hnb).other hnb) (fun hHeld => ?_)
            clear hK KC
            refine wpAnyH_done (by kernel_rfl) ?_ _
            refine NoPanic.normal ?_
            go_wp2_with fail
            go_meet
            obtain ⟨g1, c1, g2, c2, hF⟩ := CtS.of HF.out HG.out.1.1 HG.out.2.1
            exact ⟨b3, g1, c1, g2, c2, rfl, hF, HZ.out⟩
          ·
            go_wp2_with fail
            have hb := Go.Joins.below_alloc1 W (.cells #[.slice none 0 0, .slice none 0 0] 25)
            have HQ := Hid.intro (HQ.out.box 25)
            have HD : Hid (Bx (W.alloc (.cells #[.slice none 0 0, .slice none 0 0] 25)) w.heap.size [.slice a1 u.length k1, .slice a2 d.length k2] ∧ Bx (W.alloc (.cells #[.slice none 0 0, .slice none 0 0] 25)) (w.heap.size + 1) [.slice none 0 0, .slice none 0 0] ∧ Below w.heap.size w (W.alloc (.cells #[.slice none 0 0, .slice none 0 0] 25)) ∧ w.heap.size + 2 ≤ (W.alloc (.cells #[.slice none 0 0, .slice none 0 0] 25)).heap.size) := ⟨HD.out.1.next hb, HD.out.2.1.next hb, below_next HD.out.2.2.1 hb, Nat.le_trans HD.out.2.2.2 hb.size⟩
            obtain ⟨b3, hmE⟩ : ∃ x, x = W.heap.size := ⟨_, rfl⟩
            obtain ⟨W8, hWE⟩ : ∃ x, x = W.alloc (.cells #[.slice none 0 0, .slice none 0 0] 25) := ⟨_, rfl⟩
            have HQ : Hid (PrQ .int 3 W8 (w.heap.size + 2) u d _ _ (some b3) [.slice none 0 0, .slice none 0 0]) := Hid.intro (by rw [hWE, hmE]; exact HQ.out)
            rw [← hWE] at HD ⊢
            rw [← hmE]
            clear hb hWE hmE
            obtain ⟨W, hWE⟩ : ∃ x, x = W8 := ⟨_, rfl⟩
            subst hWE
            refine hK.out _ _ HD.out.1 (fun hHeld => ?_)
            clear hK KC
            refine ready_call 7 ⟨some 30, Op.call { callee := Callee.builtin Builtin.append, args := #[Operand.tmp 27, Operand.tmp 29], argTypes := #[23, 23] }, _, _, _, none⟩ (by kernel_rfl) rfl (by kernel_rfl) (fun KC hK => ?_)
            have hzW := HD.out.2.2.2
            refine wp_appx (.tmp 27) (.tmp 29) 23 3 (by rfl) i0 (.int .i64 0) 8 (w.heap.size + 2) .int rfl Try.underlying23 hi0 hz0 hz1 hz2 rfl (by decide) (.slice (some ⟨m2, 0, none⟩) 0 0) [] d (fun k => (Value.slice (some ⟨m2, 0, none⟩) 0 0).ownBlock = some k) (by rfl) HQ.out.2.1 a2 k2 (by rfl) (HL.out.2.next HD.out.2.2.1) hbB hcB hzW ?_
            intro v2 W9 hO hg hwh
            have HM : Hid (m2 ≠ w.heap.size ∧ m2 ≠ w.heap.size + 1 ∧ w.heap.size ≤ m2) := Hid.intro (by have hm := OwnX.flat (e := .int) rfl (show OwnX W (w.heap.size + 2) (.list .int 3) [(.slice (some ⟨m2, 0, none⟩) 0 0)] [] _ from HQ.out.2.1); have hm := (hm.1.lt m2 rfl).1; omega)
            have HQ : Hid (PrQ .int 3 W9 (w.heap.size + 2) u d _ (some (v2, true)) _ [.slice none 0 0, .slice none 0 0]) := Hid.intro (HQ.out.row2 rfl hO hg (fun k hk => blkQ_some.2 hk) (fun k hk => hwh.elim (fun q => Or.inl (blkQ_some.2 (q ▸ hk))) (fun q => by rw [q] at hk; exact Or.inr (Option.some.inj hk).symm)))
            have HD : Hid (Bx W9 w.heap.size [.slice a1 u.length k1, .slice a2 d.length k2] ∧ Bx W9 (w.heap.size + 1) [.slice none 0 0, .slice none 0 0] ∧ Below w.heap.size w W9 ∧ w.heap.size + 2 ≤ W9.heap.size) := ⟨HD.out.1.grow hg (fun q => HM.out.1 (Option.some.inj q).symm), HD.out.2.1.grow hg (fun q => HM.out.2.1 (Option.some.inj q).symm), HD.out.2.2.1.grown hg HD.out.2.2.1.size (fun k hk => by have hk : m2 = k := Option.some.inj hk; have := HM.out.2.2; omega), Nat.le_trans HD.out.2.2.2 hg.size⟩
            obtain ⟨va2, vc2, hvf⟩ := OwnX.vform (show OwnX W9 (w.heap.size + 2) (.list .int 3) [v2] d _ from HQ.out.2.1)
            subst hvf
            clear hO hg hwh hzW
            obtain ⟨W, hWE⟩ : ∃ x, x = W9 := ⟨_, rfl⟩
            subst hWE
            refine hK.out _ _ HD.out.1 (fun hHeld => ?_)
            clear hK KC
            refine take_v (v := ?_) 8 ⟨some 31, Op.build 25 #[(0, Operand.tmp 26), (1, Operand.tmp 30)], _, _, _, none⟩ rfl (fun _ _ _ h => h) ?_ hHeld ?_
            rotate_left
            · (intro W _; go_simp <;> (try with_reducible rfl))
            refine ready_call 10 ⟨none, Op.store 25 (Operand.tmp 8) (Operand.tmp 31), _, _, _, none⟩ (by kernel_rfl) rfl (by kernel_rfl) (fun KC hK => ?_)
            have hq := HQ.out.2.2.1 b3 rfl
            have d0 := (hq.1).cell 0 rfl
            have d1 := (hq.1).cell 1 rfl
            have dz := (hq.1).2
            have df0 := (hq.1).frz 0 (by simp)
            have df1 := (hq.1).frz 1 (by simp)
            have hbb := hq.2
            go_wp2_with fail
            have HF := Hid.intro (PrS.of HQ.out)
            have HZ : Hid (Bx ((W.setCell ⟨b3, 0, none⟩ (.slice va1 u.length vc1)).setCell ⟨b3, 1, none⟩ (.slice va2 d.length vc2)) (w.heap.size + 1) [.slice none 0 0, .slice none 0 0] ∧ Below w.heap.size w ((W.setCell ⟨b3, 0, none⟩ (.slice va1 u.length vc1)).setCell ⟨b3, 1, none⟩ (.slice va2 d.length vc2))) := ⟨(HD.out.2.1.other (by omega)).other (by omega), (HD.out.2.2.1.setCell (p := ⟨b3, 0, none⟩) (by show w.heap.size ≤ b3; omega) _).setCell (p := ⟨b3, 1, none⟩) (by show w.heap.size ≤ b3; omega) _⟩
            have hnb : w.heap.size ≠ b3 := by omega
            clear d0 d1 dz df0 df1 hq
            refine hK.out _ _ ((HD.out.1.other hnb).other hnb) (fun hHeld => ?_)
            clear hK KC
            refine wpAnyH_done (by kernel_rfl) ?_ _
            refine NoPanic.normal ?_
            go_wp2_with fail
            go_meet
            obtain ⟨g1, c1, g2, c2, hF⟩ := CtS.of HF.out HG.out.1.1 HG.out.2.1
            exact ⟨b3, g1, c1, g2, c2, rfl, hF, HZ.out⟩
        ·
          go_wp2_with fail
          have hb := Go.Joins.below_alloc1 W (.cells #[.slice none 0 0, .slice none 0 0] 25)
          have HQ := Hid.intro (HQ.out.box 25)
          have HD : Hid (Bx (W.alloc (.cells #[.slice none 0 0, .slice none 0 0] 25)) w.heap.size [.slice a1 u.length k1, .slice a2 d.length k2] ∧ Bx (W.alloc (.cells #[.slice none 0 0, .slice none 0 0] 25)) (w.heap.size + 1) [.slice none 0 0, .slice none 0 0] ∧ Below w.heap.size w (W.alloc (.cells #[.slice none 0 0, .slice none 0 0] 25)) ∧ w.heap.size + 2 ≤ (W.alloc (.cells #[.slice none 0 0, .slice none 0 0] 25)).heap.size) := ⟨HD.out.1.next hb, HD.out.2.1.next hb, below_next HD.out.2.2.1 hb, Nat.le_trans HD.out.2.2.2 hb.size⟩
          obtain ⟨b3, hmE⟩ : ∃ x, x = W.heap.size := ⟨_, rfl⟩
          obtain ⟨W8, hWE⟩ : ∃ x, x = W.alloc (.cells #[.slice none 0 0, .slice none 0 0] 25) := ⟨_, rfl⟩
          have HQ : Hid (PrQ .int 3 W8 (w.heap.size + 2) u d _ _ (some b3) [.slice none 0 0, .slice none 0 0]) := Hid.intro (by rw [hWE, hmE]; exact HQ.out)
          rw [← hWE] at HD ⊢
          rw [← hmE]
          clear hb hWE hmE
          obtain ⟨W, hWE⟩ : ∃ x, x = W8 := ⟨_, rfl⟩
          subst hWE
          refine hK.out _ _ HD.out.1 (fun hHeld => ?_)
          clear hK KC
          refine ready_call 3 ⟨some 26, Op.call { callee := Callee.builtin Builtin.append, args := #[Operand.tmp 23, Operand.tmp 25], argTypes := #[23, 23] }, _, _, _, none⟩ (by kernel_rfl) rfl (by kernel_rfl) (fun KC hK => ?_)
          have hzW := HD.out.2.2.2
          refine wp_appx (.tmp 23) (.tmp 25) 23 3 (by rfl) i0 (.int .i64 0) 8 (w.heap.size + 2) .int rfl Try.underlying23 hi0 hz0 hz1 hz2 rfl (by decide) (.slice (some ⟨m1, 0, none⟩) 0 0) [] u (fun k => (Value.slice (some ⟨m1, 0, none⟩) 0 0).ownBlock = some k) (by rfl) HQ.out.1 a1 k1 (by rfl) (HL.out.1.next HD.out.2.2.1) hbA hcA hzW ?_
          intro v1 W9 hO hg hwh
          have HM : Hid (m1 ≠ w.heap.size ∧ m1 ≠ w.heap.size + 1 ∧ w.heap.size ≤ m1) := Hid.intro (by have hm := OwnX.flat (e := .int) rfl (show OwnX W (w.heap.size + 2) (.list .int 3) [(.slice (some ⟨m1, 0, none⟩) 0 0)] [] _ from HQ.out.1); have hm := (hm.1.lt m1 rfl).1; omega)
          have HQ : Hid (PrQ .int 3 W9 (w.heap.size + 2) u d (some (v1, true)) _ _ [.slice none 0 0, .slice none 0 0]) := Hid.intro (HQ.out.row1 rfl hO hg (fun k hk => blkQ_some.2 hk) (fun k hk => hwh.elim (fun q => Or.inl (blkQ_some.2 (q ▸ hk))) (fun q => by rw [q] at hk; exact Or.inr (Option.some.inj hk).symm)))
          have HD : Hid (Bx W9 w.heap.size [.slice a1 u.length k1, .slice a2 d.length k2] ∧ Bx W9 (w.heap.size + 1) [.slice none 0 0, .slice none 0 0] ∧ Below w.heap.size w W9 ∧ w.heap.size + 2 ≤ W9.heap.size) := ⟨HD.out.1.grow hg (fun q => HM.out.1 (Option.some.inj q).symm), HD.out.2.1.grow hg (fun q => HM.out.2.1 (Option.some.inj q).symm), HD.out.2.2.1.grown hg HD.out.2.2.1.size (fun k hk => by have hk : m1 = k := Option.some.inj hk; have := HM.out.2.2; omega), Nat.le_trans HD.out.2.2.2 hg.size⟩
          obtain ⟨va1, vc1, hvf⟩ := OwnX.vform (show OwnX W9 (w.heap.size + 2) (.list .int 3) [v1] u _ from HQ.out.1)
          subst hvf
          clear hO hg hwh hzW
          obtain ⟨W, hWE⟩ : ∃ x, x = W9 := ⟨_, rfl⟩
          subst hWE
          refine hK.out _ _ HD.out.1 (fun hHeld => ?_)
          clear hK KC
          refine ready_call 7 ⟨some 30, Op.call { callee := Callee.builtin Builtin.append, args := #[Operand.tmp 27, Operand.tmp 29], argTypes := #[23, 23] }, _, _, _, none⟩ (by kernel_rfl) rfl (by kernel_rfl) (fun KC hK => ?_)
          have hzW := HD.out.2.2.2
          refine wp_appx (.tmp 27) (.tmp 29) 23 3 (by rfl) i0 (.int .i64 0) 8 (w.heap.size + 2) .int rfl Try.underlying23 hi0 hz0 hz1 hz2 rfl (by decide) (.slice (some ⟨m2, 0, none⟩) 0 0) [] d (fun k => (Value.slice (some ⟨m2, 0, none⟩) 0 0).ownBlock = some k) (by rfl) HQ.out.2.1 a2 k2 (by rfl) (HL.out.2.next HD.out.2.2.1) hbB hcB hzW ?_
          intro v2 W9 hO hg hwh
          have HM : Hid (m2 ≠ w.heap.size ∧ m2 ≠ w.heap.size + 1 ∧ w.heap.size ≤ m2) := Hid.intro (by have hm := OwnX.flat (e := .int) rfl (show OwnX W (w.heap.size + 2) (.list .int 3) [(.slice (some ⟨m2, 0, none⟩) 0 0)] [] _ from HQ.out.2.1); have hm := (hm.1.lt m2 rfl).1; omega)
          have HQ : Hid (PrQ .int 3 W9 (w.heap.size + 2) u d _ (some (v2, true)) _ [.slice none 0 0, .slice none 0 0]) := Hid.intro (HQ.out.row2 rfl hO hg (fun k hk => blkQ_some.2 hk) (fun k hk => hwh.elim (fun q => Or.inl (blkQ_some.2 (q ▸ hk))) (fun q => by rw [q] at hk; exact Or.inr (Option.some.inj hk).symm)))
          have HD : Hid (Bx W9 w.heap.size [.slice a1 u.length k1, .slice a2 d.length k2] ∧ Bx W9 (w.heap.size + 1) [.slice none 0 0, .slice none 0 0] ∧ Below w.heap.size w W9 ∧ w.heap.size + 2 ≤ W9.heap.size) := ⟨HD.out.1.grow hg (fun q => HM.out.1 (Option.some.inj q).symm), HD.out.2.1.grow hg (fun q => HM.out.2.1 (Option.some.inj q).symm), HD.out.2.2.1.grown hg HD.out.2.2.1.size (fun k hk => by have hk : m2 = k := Option.some.inj hk; have := HM.out.2.2; omega), Nat.le_trans HD.out.2.2.2 hg.size⟩
          obtain ⟨va2, vc2, hvf⟩ := OwnX.vform (show OwnX W9 (w.heap.size + 2) (.list .int 3) [v2] d _ from HQ.out.2.1)
          subst hvf
          clear hO hg hwh hzW
          obtain ⟨W, hWE⟩ : ∃ x, x = W9 := ⟨_, rfl⟩
          subst hWE
          refine hK.out _ _ HD.out.1 (fun hHeld => ?_)
          clear hK KC
          refine take_v (v := ?_) 8 ⟨some 31, Op.build 25 #[(0, Operand.tmp 26), (1, Operand.tmp 30)], _, _, _, none⟩ rfl (fun _ _ _ h => h) ?_ hHeld ?_
          rotate_left
          · (intro W _; go_simp <;> (try with_reducible rfl))
          refine ready_call 10 ⟨none, Op.store 25 (Operand.tmp 8) (Operand.tmp 31), _, _, _, none⟩ (by kernel_rfl) rfl (by kernel_rfl) (fun KC hK => ?_)
          have hq := HQ.out.2.2.1 b3 rfl
          have d0 := (hq.1).cell 0 rfl
          have d1 := (hq.1).cell 1 rfl
          have dz := (hq.1).2
          have df0 := (hq.1).frz 0 (by simp)
          have df1 := (hq.1).frz 1 (by simp)
          have hbb := hq.2
          go_wp2_with fail
          have HF := Hid.intro (PrS.of HQ.out)
          have HZ : Hid (Bx ((W.setCell ⟨b3, 0, none⟩ (.slice va1 u.length vc1)).setCell ⟨b3, 1, none⟩ (.slice va2 d.length vc2)) (w.heap.size + 1) [.slice none 0 0, .slice none 0 0] ∧ Below w.heap.size w ((W.setCell ⟨b3, 0, none⟩ (.slice va1 u.length vc1)).setCell ⟨b3, 1, none⟩ (.slice va2 d.length vc2))) := ⟨(HD.out.2.1.other (by omega)).other (by omega), (HD.out.2.2.1.setCell (p := ⟨b3, 0, none⟩) (by show w.heap.size ≤ b3; omega) _).setCell (p := ⟨b3, 1, none⟩) (by show w.heap.size ≤ b3; omega) _⟩
          have hnb : w.heap.size ≠ b3 := by omega
          clear d0 d1 dz df0 df1 hq
          refine hK.out _ _ ((HD.out.1.other hnb).other hnb) (fun hHeld => ?_)
          clear hK KC
          refine wpAnyH_done (by kernel_rfl) ?_ _
          refine NoPanic.normal ?_
          go_wp2_with fail
          go_meet
          obtain ⟨g1, c1, g2, c2, hF⟩ := CtS.of HF.out HG.out.1.1 HG.out.2.1
          exact ⟨b3, g1, c1, g2, c2, rfl, hF, HZ.out⟩
      ·
        go_wp2_with fail
        have hb := Go.Joins.below_alloc1 W (.cells #[.slice none 0 0, .slice none 0 0] 25)
        have HQ := Hid.intro (HQ.out.box 25)
        have HD : Hid (Bx (W.alloc (.cells #[.slice none 0 0, .slice none 0 0] 25)) w.heap.size [.slice a1 u.length k1, .slice a2 d.length k2] ∧ Bx (W.alloc (.cells #[.slice none 0 0, .slice none 0 0] 25)) (w.heap.size + 1) [.slice none 0 0, .slice none 0 0] ∧ Below w.heap.size w (W.alloc (.cells #[.slice none 0 0, .slice none 0 0] 25)) ∧ w.heap.size + 2 ≤ (W.alloc (.cells #[.slice none 0 0, .slice none 0 0] 25)).heap.size) := ⟨HD.out.1.next hb, HD.out.2.1.next hb, below_next HD.out.2.2.1 hb, Nat.le_trans HD.out.2.2.2 hb.size⟩
        obtain ⟨b3, hmE⟩ : ∃ x, x = W.heap.size := ⟨_, rfl⟩
        obtain ⟨W8, hWE⟩ : ∃ x, x = W.alloc (.cells #[.slice none 0 0, .slice none 0 0] 25) := ⟨_, rfl⟩
        have HQ : Hid (PrQ .int 3 W8 (w.heap.size + 2) u d _ _ (some b3) [.slice none 0 0, .slice none 0 0]) := Hid.intro (by rw [hWE, hmE]; exact HQ.out)
        rw [← hWE] at HD ⊢
        rw [← hmE]
        clear hb hWE hmE
        obtain ⟨W, hWE⟩ : ∃ x, x = W8 := ⟨_, rfl⟩
        subst hWE
        refine hK.out _ _ HD.out.1 (fun hHeld => ?_)
        clear hK KC
        refine ready_two 3 4 ⟨some 26, Op.call { callee := Callee.builtin Builtin.append, args := #[Operand.tmp 23, Operand.tmp 25], argTypes := #[23, 23] }, _, _, _, none⟩ ⟨some 27, Op.buildSlice 23 0 #[], _, _, _, none⟩ (by kernel_rfl) rfl rfl (by kernel_rfl) (by kernel_rfl) (fun KC hK => ?_) (fun KC hK => ?_)
        ·
          have hzW := HD.out.2.2.2
          refine wp_appx (.tmp 23) (.tmp 25) 23 3 (by rfl) i0 (.int .i64 0) 8 (w.heap.size + 2) .int rfl Try.underlying23 hi0 hz0 hz1 hz2 rfl (by decide) (.slice (some ⟨m1, 0, none⟩) 0 0) [] u (fun k => (Value.slice (some ⟨m1, 0, none⟩) 0 0).ownBlock = some k) (by rfl) HQ.out.1 a1 k1 (by rfl) (HL.out.1.next HD.out.2.2.1) hbA hcA hzW ?_
          intro v1 W9 hO hg hwh
          have HM : Hid (m1 ≠ w.heap.size ∧ m1 ≠ w.heap.size + 1 ∧ w.heap.size ≤ m1) := Hid.intro (by have hm := OwnX.flat (e := .int) rfl (show OwnX W (w.heap.size + 2) (.list .int 3) [(.slice (some ⟨m1, 0, none⟩) 0 0)] [] _ from HQ.out.1); have hm := (hm.1.lt m1 rfl).1; omega)
          have HQ : Hid (PrQ .int 3 W9 (w.heap.size + 2) u d (some (v1, true)) _ _ [.slice none 0 0, .slice none 0 0]) := Hid.intro (HQ.out.row1 rfl hO hg (fun k hk => blkQ_some.2 hk) (fun k hk => hwh.elim (fun q => Or.inl (blkQ_some.2 (q ▸ hk))) (fun q => by rw [q] at hk; exact Or.inr (Option.some.inj hk).symm)))
          have HD : Hid (Bx W9 w.heap.size [.slice a1 u.length k1, .slice a2 d.length k2] ∧ Bx W9 (w.heap.size + 1) [.slice none 0 0, .slice none 0 0] ∧ Below w.heap.size w W9 ∧ w.heap.size + 2 ≤ W9.heap.size) := ⟨HD.out.1.grow hg (fun q => HM.out.1 (Option.some.inj q).symm), HD.out.2.1.grow hg (fun q => HM.out.2.1 (Option.some.inj q).symm), HD.out.2.2.1.grown hg HD.out.2.2.1.size (fun k hk => by have hk : m1 = k := Option.some.inj hk; have := HM.out.2.2; omega), Nat.le_trans HD.out.2.2.2 hg.size⟩
          obtain ⟨va1, vc1, hvf⟩ := OwnX.vform (show OwnX W9 (w.heap.size + 2) (.list .int 3) [v1] u _ from HQ.out.1)
          subst hvf
          clear hO hg hwh hzW
          obtain ⟨W, hWE⟩ : ∃ x, x = W9 := ⟨_, rfl⟩
          subst hWE
          refine hK.out _ _ HD.out.1 (fun hHeld => ?_)
          clear hK KC
          refine ready_call 4 ⟨some 27, Op.buildSlice 23 0 #[], _, _, _, none⟩ (by kernel_rfl) rfl (by kernel_rfl) (fun KC hK => ?_)
          go_wp2_with fail
          have hb := Go.Joins.below_alloc1 W (.cells #[] 3)
          have HQ := Hid.intro (HQ.out.made2 rfl)
          have HD : Hid (Bx (W.alloc (.cells #[] 3)) w.heap.size [.slice a1 u.length k1, .slice a2 d.length k2] ∧ Bx (W.alloc (.cells #[] 3)) (w.heap.size + 1) [.slice none 0 0, .slice none 0 0] ∧ Below w.heap.size w (W.alloc (.cells #[] 3)) ∧ w.heap.size + 2 ≤ (W.alloc (.cells #[] 3)).heap.size) := ⟨HD.out.1.next hb, HD.out.2.1.next hb, below_next HD.out.2.2.1 hb, Nat.le_trans HD.out.2.2.2 hb.size⟩
          obtain ⟨m2, hmE⟩ : ∃ x, x = W.heap.size := ⟨_, rfl⟩
          obtain ⟨W, hWE⟩ : ∃ x, x = W.alloc (.cells #[] 3) := ⟨_, rfl⟩
          rw [← hmE] at HQ ⊢
          rw [← hWE] at HQ HD ⊢
          clear hb hWE hmE
          refine hK.out _ _ HD.out.1 (fun hHeld => ?_)
          clear hK KC
          refine ready_call 7 ⟨some 30, Op.call { callee := Callee.builtin Builtin.append, args := #[Operand.tmp 27, Operand.tmp 29], argTypes := #[23, 23] }, _, _, _, none⟩ (by kernel_rfl) rfl (by kernel_rfl) (fun KC hK => ?_)
          have hzW := HD.out.2.2.2
          refine wp_appx (.tmp 27) (.tmp 29) 23 3 (by rfl) i0 (.int .i64 0) 8 (w.heap.size + 2) .int rfl Try.underlying23 hi0 hz0 hz1 hz2 rfl (by decide) (.slice (some ⟨m2, 0, none⟩) 0 0) [] d (fun k => (Value.slice (some ⟨m2, 0, none⟩) 0 0).ownBlock = some k) (by rfl) HQ.out.2.1 a2 k2 (by rfl) (HL.out.2.next HD.out.2.2.1) hbB hcB hzW ?_
          intro v2 W9 hO hg hwh
          have HM : Hid (m2 ≠ w.heap.size ∧ m2 ≠ w.heap.size + 1 ∧ w.heap.size ≤ m2) := Hid.intro (by have hm := OwnX.flat (e := .int) rfl (show OwnX W (w.heap.size + 2) (.list .int 3) [(.slice (some ⟨m2, 0, none⟩) 0 0)] [] _ from HQ.out.2.1); have hm := (hm.1.lt m2 rfl).1; omega)
          have HQ : Hid (PrQ .int 3 W9 (w.heap.size + 2) u d _ (some (v2, true)) _ [.slice none 0 0, .slice none 0 0]) := Hid.intro (HQ.out.row2 rfl hO hg (fun k hk => blkQ_some.2 hk) (fun k hk => hwh.elim (fun q => Or.inl (blkQ_some.2 (q ▸ hk))) (fun q => by rw [q] at hk; exact Or.inr (Option.some.inj hk).symm)))
          have HD : Hid (Bx W9 w.heap.size [.slice a1 u.length k1, .slice a2 d.length k2] ∧ Bx W9 (w.heap.size + 1) [.slice none 0 0, .slice none 0 0] ∧ Below w.heap.size w W9 ∧ w.heap.size + 2 ≤ W9.heap.size) := ⟨HD.out.1.grow hg (fun q => HM.out.1 (Option.some.inj q).symm), HD.out.2.1.grow hg (fun q => HM.out.2.1 (Option.some.inj q).symm), HD.out.2.2.1.grown hg HD.out.2.2.1.size (fun k hk => by have hk : m2 = k := Option.some.inj hk; have := HM.out.2.2; omega), Nat.le_trans HD.out.2.2.2 hg.size⟩
          obtain ⟨va2, vc2, hvf⟩ := OwnX.vform (show OwnX W9 (w.heap.size + 2) (.list .int 3) [v2] d _ from HQ.out.2.1)
          subst hvf
          clear hO hg hwh hzW
          obtain ⟨W, hWE⟩ : ∃ x, x = W9 := ⟨_, rfl⟩
          subst hWE
          refine hK.out _ _ HD.out.1 (fun hHeld => ?_)
          clear hK KC
          refine take_v (v := ?_) 8 ⟨some 31, Op.build 25 #[(0, Operand.tmp 26), (1, Operand.tmp 30)], _, _, _, none⟩ rfl (fun _ _ _ h => h) ?_ hHeld ?_
          rotate_left
          · (intro W _; go_simp <;> (try with_reducible rfl))
          refine ready_call 10 ⟨none, Op.store 25 (Operand.tmp 8) (Operand.tmp 31), _, _, _, none⟩ (by kernel_rfl) rfl (by kernel_rfl) (fun KC hK => ?_)
          have hq := HQ.out.2.2.1 b3 rfl
          have d0 := (hq.1).cell 0 rfl
          have d1 := (hq.1).cell 1 rfl
          have dz := (hq.1).2
          have df0 := (hq.1).frz 0 (by simp)
          have df1 := (hq.1).frz 1 (by simp)
          have hbb := hq.2
          go_wp2_with fail
          have HF := Hid.intro (PrS.of HQ.out)
          have HZ : Hid (Bx ((W.setCell ⟨b3, 0, none⟩ (.slice va1 u.length vc1)).setCell ⟨b3, 1, none⟩ (.slice va2 d.length vc2)) (w.heap.size + 1) [.slice none 0 0, .slice none 0 0] ∧ Below w.heap.size w ((W.setCell ⟨b3, 0, none⟩ (.slice va1 u.length vc1)).setCell ⟨b3, 1, none⟩ (.slice va2 d.length vc2))) := ⟨(HD.out.2.1.other (by omega)).other (by omega), (HD.out.2.2.1.setCell (p := ⟨b3, 0, none⟩) (by show w.heap.size ≤ b3; omega) _).setCell (p := ⟨b3, 1, none⟩) (by show w.heap.size ≤ b3; omega) _⟩
          have hnb : w.heap.size ≠ b3 := by omega
          clear d0 d1 dz df0 df1 hq
          refine hK.out _ _ ((HD.out.1.other hnb).other hnb) (fun hHeld => ?_)
          clear hK KC
          refine wpAnyH_done (by kernel_rfl) ?_ _
          refine NoPanic.normal ?_
          go_wp2_with fail
          go_meet
          obtain ⟨g1, c1, g2, c2, hF⟩ := CtS.of HF.out HG.out.1.1 HG.out.2.1
          exact ⟨b3, g1, c1, g2, c2, rfl, hF, HZ.out⟩
        ·
          go_wp2_with fail
          have hb := Go.Joins.below_alloc1 W (.cells #[] 3)
          have HQ := Hid.intro (HQ.out.made2 rfl)
          have HD : Hid (Bx (W.alloc (.cells #[] 3)) w.heap.size [.slice a1 u.length k1, .slice a2 d.length k2] ∧ Bx (W.alloc (.cells #[] 3)) (w.heap.size + 1) [.slice none 0 0, .slice none 0 0] ∧ Below w.heap.size w (W.alloc (.cells #[] 3)) ∧ w.heap.size + 2 ≤ (W.alloc (.cells #[] 3)).heap.size) := ⟨HD.out.1.next hb, HD.out.2.1.next hb, below_next HD.out.2.2.1 hb, Nat.le_trans HD.out.2.2.2 hb.size⟩
          obtain ⟨m2, hmE⟩ : ∃ x, x = W.heap.size := ⟨_, rfl⟩
          obtain ⟨W, hWE⟩ : ∃ x, x = W.alloc (.cells #[] 3) := ⟨_, rfl⟩
          rw [← hmE] at HQ ⊢
          rw [← hWE] at HQ HD ⊢
          clear hb hWE hmE
          refine hK.out _ _ HD.out.1 (fun hHeld => ?_)
          clear hK KC
          refine ready_call 3 ⟨some 26, Op.call { callee := Callee.builtin Builtin.append, args := #[Operand.tmp 23, Operand.tmp 25], argTypes := #[23, 23] }, _, _, _, none⟩ (by kernel_rfl) rfl (by kernel_rfl) (fun KC hK => ?_)
          have hzW := HD.out.2.2.2
          refine wp_appx (.tmp 23) (.tmp 25) 23 3 (by rfl) i0 (.int .i64 0) 8 (w.heap.size + 2) .int rfl Try.underlying23 hi0 hz0 hz1 hz2 rfl (by decide) (.slice (some ⟨m1, 0, none⟩) 0 0) [] u (fun k => (Value.slice (some ⟨m1, 0, none⟩) 0 0).ownBlock = some k) (by rfl) HQ.out.1 a1 k1 (by rfl) (HL.out.1.next HD.out.2.2.1) hbA hcA hzW ?_
          intro v1 W9 hO hg hwh
          have HM : Hid (m1 ≠ w.heap.size ∧ m1 ≠ w.heap.size + 1 ∧ w.heap.size ≤ m1) := Hid.intro (by have hm := OwnX.flat (e := .int) rfl (show OwnX W (w.heap.size + 2) (.list .int 3) [(.slice (some ⟨m1, 0, none⟩) 0 0)] [] _ from HQ.out.1); have hm := (hm.1.lt m1 rfl).1; omega)
          have HQ : Hid (PrQ .int 3 W9 (w.heap.size + 2) u d (some (v1, true)) _ _ [.slice none 0 0, .slice none 0 0]) := Hid.intro (HQ.out.row1 rfl hO hg (fun k hk => blkQ_some.2 hk) (fun k hk => hwh.elim (fun q => Or.inl (blkQ_some.2 (q ▸ hk))) (fun q => by rw [q] at hk; exact Or.inr (Option.some.inj hk).symm)))
          have HD : Hid (Bx W9 w.heap.size [.slice a1 u.length k1, .slice a2 d.length k2] ∧ Bx W9 (w.heap.size + 1) [.slice none 0 0, .slice none 0 0] ∧ Below w.heap.size w W9 ∧ w.heap.size + 2 ≤ W9.heap.size) := ⟨HD.out.1.grow hg (fun q => HM.out.1 (Option.some.inj q).symm), HD.out.2.1.grow hg (fun q => HM.out.2.1 (Option.some.inj q).symm), HD.out.2.2.1.grown hg HD.out.2.2.1.size (fun k hk => by have hk : m1 = k := Option.some.inj hk; have := HM.out.2.2; omega), Nat.le_trans HD.out.2.2.2 hg.size⟩
          obtain ⟨va1, vc1, hvf⟩ := OwnX.vform (show OwnX W9 (w.heap.size + 2) (.list .int 3) [v1] u _ from HQ.out.1)
          subst hvf
          clear hO hg hwh hzW
          obtain ⟨W, hWE⟩ : ∃ x, x = W9 := ⟨_, rfl⟩
          subst hWE
          refine hK.out _ _ HD.out.1 (fun hHeld => ?_)
          clear hK KC
          refine ready_call 7 ⟨some 30, Op.call { callee := Callee.builtin Builtin.append, args := #[Operand.tmp 27, Operand.tmp 29], argTypes := #[23, 23] }, _, _, _, none⟩ (by kernel_rfl) rfl (by kernel_rfl) (fun KC hK => ?_)
          have hzW := HD.out.2.2.2
          refine wp_appx (.tmp 27) (.tmp 29) 23 3 (by rfl) i0 (.int .i64 0) 8 (w.heap.size + 2) .int rfl Try.underlying23 hi0 hz0 hz1 hz2 rfl (by decide) (.slice (some ⟨m2, 0, none⟩) 0 0) [] d (fun k => (Value.slice (some ⟨m2, 0, none⟩) 0 0).ownBlock = some k) (by rfl) HQ.out.2.1 a2 k2 (by rfl) (HL.out.2.next HD.out.2.2.1) hbB hcB hzW ?_
          intro v2 W9 hO hg hwh
          have HM : Hid (m2 ≠ w.heap.size ∧ m2 ≠ w.heap.size + 1 ∧ w.heap.size ≤ m2) := Hid.intro (by have hm := OwnX.flat (e := .int) rfl (show OwnX W (w.heap.size + 2) (.list .int 3) [(.slice (some ⟨m2, 0, none⟩) 0 0)] [] _ from HQ.out.2.1); have hm := (hm.1.lt m2 rfl).1; omega)
          have HQ : Hid (PrQ .int 3 W9 (w.heap.size + 2) u d _ (some (v2, true)) _ [.slice none 0 0, .slice none 0 0]) := Hid.intro (HQ.out.row2 rfl hO hg (fun k hk => blkQ_some.2 hk) (fun k hk => hwh.elim (fun q => Or.inl (blkQ_some.2 (q ▸ hk))) (fun q => by rw [q] at hk; exact Or.inr (Option.some.inj hk).symm)))
          have HD : Hid (Bx W9 w.heap.size [.slice a1 u.length k1, .slice a2 d.length k2] ∧ Bx W9 (w.heap.size + 1) [.slice none 0 0, .slice none 0 0] ∧ Below w.heap.size w W9 ∧ w.heap.size + 2 ≤ W9.heap.size) := ⟨HD.out.1.grow hg (fun q => HM.out.1 (Option.some.inj q).symm), HD.out.2.1.grow hg (fun q => HM.out.2.1 (Option.some.inj q).symm), HD.out.2.2.1.grown hg HD.out.2.2.1.size (fun k hk => by have hk : m2 = k := Option.some.inj hk; have := HM.out.2.2; omega), Nat.le_trans HD.out.2.2.2 hg.size⟩
          obtain ⟨va2, vc2, hvf⟩ := OwnX.vform (show OwnX W9 (w.heap.size + 2) (.list .int 3) [v2] d _ from HQ.out.2.1)
          subst hvf
          clear hO hg hwh hzW
          obtain ⟨W, hWE⟩ : ∃ x, x = W9 := ⟨_, rfl⟩
          subst hWE
          refine hK.out _ _ HD.out.1 (fun hHeld => ?_)
          clear hK KC
          refine take_v (v := ?_) 8 ⟨some 31, Op.build 25 #[(0, Operand.tmp 26), (1, Operand.tmp 30)], _, _, _, none⟩ rfl (fun _ _ _ h => h) ?_ hHeld ?_
          rotate_left
          · (intro W _; go_simp <;> (try with_reducible rfl))
          refine ready_call 10 ⟨none, Op.store 25 (Operand.tmp 8) (Operand.tmp 31), _, _, _, none⟩ (by kernel_rfl) rfl (by kernel_rfl) (fun KC hK => ?_)
          have hq := HQ.out.2.2.1 b3 rfl
          have d0 := (hq.1).cell 0 rfl
          have d1 := (hq.1).cell 1 rfl
          have dz := (hq.1).2
          have df0 := (hq.1).frz 0 (by simp)
          have df1 := (hq.1).frz 1 (by simp)
          have hbb := hq.2
          go_wp2_with fail
          have HF := Hid.intro (PrS.of HQ.out)
          have HZ : Hid (Bx ((W.setCell ⟨b3, 0, none⟩ (.slice va1 u.length vc1)).setCell ⟨b3, 1, none⟩ (.slice va2 d.length vc2)) (w.heap.size + 1) [.slice none 0 0, .slice none 0 0] ∧ Below w.heap.size w ((W.setCell ⟨b3, 0, none⟩ (.slice va1 u.length vc1)).setCell ⟨b3, 1, none⟩ (.slice va2 d.length vc2))) := ⟨(HD.out.2.1.other (by omega)).other (by omega), (HD.out.2.2.1.setCell (p := ⟨b3, 0, none⟩) (by show w.heap.size ≤ b3; omega) _).setCell (p := ⟨b3, 1, none⟩) (by show w.heap.size ≤ b3; omega) _⟩
          have hnb : w.heap.size ≠ b3 := by omega
          clear d0 d1 dz df0 df1 hq
          refine hK.out _ _ ((HD.out.1.other hnb).other hnb) (fun hHeld => ?_)
          clear hK KC
          refine wpAnyH_done (by kernel_rfl) ?_ _
          refine NoPanic.normal ?_
          go_wp2_with fail
          go_meet
          obtain ⟨g1, c1, g2, c2, hF⟩ := CtS.of HF.out HG.out.1.1 HG.out.2.1
          exact ⟨b3, g1, c1, g2, c2, rfl, hF, HZ.out⟩
    ·
      go_wp2_with fail
      have hb := Go.Joins.below_alloc1 W (.cells #[] 3)
      have HQ := Hid.intro (HQ.out.made2 rfl)
      have HD : Hid (Bx (W.alloc (.cells #[] 3)) w.heap.size [.slice a1 u.length k1, .slice a2 d.length k2] ∧ Bx (W.alloc (.cells #[] 3)) (w.heap.size + 1) [.slice none 0 0, .slice none 0 0] ∧ Below w.heap.size w (W.alloc (.cells #[] 3)) ∧ w.heap.size + 2 ≤ (W.alloc (.cells #[] 3)).heap.size) := ⟨HD.out.1.next hb, HD.out.2.1.next hb, below_next HD.out.2.2.1 hb, Nat.le_trans HD.out.2.2.2 hb.size⟩
      obtain ⟨m2, hmE⟩ : ∃ x, x = W.heap.size := ⟨_, rfl⟩
      obtain ⟨W, hWE⟩ : ∃ x, x = W.alloc (.cells #[] 3) := ⟨_, rfl⟩
      rw [← hmE] at HQ ⊢
      rw [← hWE] at HQ HD ⊢
      clear hb hWE hmE
      refine hK.out _ _ HD.out.1 (fun hHeld => ?_)
      clear hK KC
      refine ready_two 0 9 ⟨some 23, Op.buildSlice 23 0 #[], _, _, _, none⟩ ⟨some 8, Op.alloc 25, _, _, _, none⟩ (by kernel_rfl) rfl rfl (by kernel_rfl) (by kernel_rfl) (fun KC hK => ?_) (fun KC hK => ?_)
      ·
        go_wp2_with fail
        have hb := Go.Joins.below_alloc1 W (.cells #[] 3)
        have HQ := Hid.intro (HQ.out.made1 rfl)
        have HD : Hid (Bx (W.alloc (.cells #[] 3)) w.heap.size [.slice a1 u.length k1, .slice a2 d.length k2] ∧ Bx (W.alloc (.cells #[] 3)) (w.heap.size + 1) [.slice none 0 0, .slice none 0 0] ∧ Below w.heap.size w (W.alloc (.cells #[] 3)) ∧ w.heap.size + 2 ≤ (W.alloc (.cells #[] 3)).heap.size) := ⟨HD.out.1.next hb, HD.out.2.1.next hb, below_next HD.out.2.2.1 hb, Nat.le_trans HD.out.2.2.2 hb.size⟩
        obtain ⟨m1, hmE⟩ : ∃ x, x = W.heap.size := ⟨_, rfl⟩
        obtain ⟨W, hWE⟩ : ∃ x, x = W.alloc (.cells #[] 3) := ⟨_, rfl⟩
        rw [← hmE] at HQ ⊢
        rw [← hWE] at HQ HD ⊢
        clear hb hWE hmE
        refine hK.out _ _ HD.out.1 (fun hHeld => ?_)
        clear hK KC
        refine ready_two 3 9 ⟨some 26, Op.call { callee := Callee.builtin Builtin.append, args := #[Operand.tmp 23, Operand.tmp 25], argTypes := #[23, 23] }, _, _, _, none⟩ ⟨some 8, Op.alloc 25, _, _, _, none⟩ (by kernel_rfl) rfl rfl (by kernel_rfl) (by kernel_rfl) (fun KC hK => ?_) (fun KC hK => ?_)
        ·
          have hzW := HD.out.2.2.2
          refine wp_appx (.tmp 23) (.tmp 25) 23 3 (by rfl) i0 (.int .i64 0) 8 (w.heap.size + 2) .int rfl Try.underlying23 hi0 hz0 hz1 hz2 rfl (by decide) (.slice (some ⟨m1, 0, none⟩) 0 0) [] u (fun k => (Value.slice (some ⟨m1, 0, none⟩) 0 0).ownBlock = some k) (by rfl) HQ.out.1 a1 k1 (by rfl) (HL.out.1.next HD.out.2.2.1) hbA hcA hzW ?_
          intro v1 W9 hO hg hwh
          have HM : Hid (m1 ≠ w.heap.size ∧ m1 ≠ w.heap.size + 1 ∧ w.heap.size ≤ m1) := Hid.intro (by have hm := OwnX.flat (e := .int) rfl (show OwnX W (w.heap.size + 2) (.list .int 3) [(.slice (some ⟨m1, 0, none⟩) 0 0)] [] _ from HQ.out.1); have hm := (hm.1.lt m1 rfl).1; omega)
          have HQ : Hid (PrQ .int 3 W9 (w.heap.size + 2) u d (some (v1, true)) _ _ [.slice none 0 0, .slice none 0 0]) := Hid.intro (HQ.out.row1 rfl hO hg (fun k hk => blkQ_some.2 hk) (fun k hk => hwh.elim (fun q => Or.inl (blkQ_some.2 (q ▸ hk))) (fun q => by rw [q] at hk; exact Or.inr (Option.some.inj hk).symm)))
          have HD : Hid (Bx W9 w.heap.size [.slice a1 u.length k1, .slice a2 d.length k2] ∧ Bx W9 (w.heap.size + 1) [.slice none 0 0, .slice none 0 0] ∧ Below w.heap.size w W9 ∧ w.heap.size + 2 ≤ W9.heap.size) := ⟨HD.out.1.grow hg (fun q => HM.out.1 (Option.some.inj q).symm), HD.out.2.1.grow hg (fun q => HM.out.2.1 (Option.some.inj q).symm), HD.out.2.2.1.grown hg HD.out.2.2.1.size (fun k hk => by have hk : m1 = k := Option.some.inj hk; have := HM.out.2.2; omega), Nat.le_trans HD.out.2.2.2 hg.size⟩
          obtain ⟨va1, vc1, hvf⟩ := OwnX.vform (show OwnX W9 (w.heap.size + 2) (.list .int 3) [v1] u _ from HQ.out.1)
          subst hvf
          clear hO hg hwh hzW
          obtain ⟨W, hWE⟩ : ∃ x, x = W9 := ⟨_, rfl⟩
          subst hWE
          refine hK.out _ _ HD.out.1 (fun hHeld => ?_)
          clear hK KC
          refine ready_two 7 9 ⟨some 30, Op.call { callee := Callee.builtin Builtin.append, args := #[Operand.tmp 27, Operand.tmp 29], argTypes := #[23, 23] }, _, _, _, none⟩ ⟨some 8, Op.alloc 25, _, _, _, none⟩ (by kernel_rfl) rfl rfl (by kernel_rfl) (by kernel_rfl) (fun KC hK => ?_) (fun KC hK => ?_)
          ·
            have hzW := HD.out.2.2.2
            refine wp_appx (.tmp 27) (.tmp 29) 23 3 (by rfl) i0 (.int .i64 0) 8 (w.heap.size + 2) .int rfl Try.underlying23 hi0 hz0 hz1 hz2 rfl (by decide) (.slice (some ⟨m2, 0, none⟩) 0 0) [] d (fun k => (Value.slice (some ⟨m2, 0, none⟩) 0 0).ownBlock = some k) (by rfl) HQ.out.2.1 a2 k2 (by rfl) (HL.out.2.next HD.out.2.2.1) hbB hcB hzW ?_
            intro v2 W9 hO hg hwh
            have HM : Hid (m2 ≠ w.heap.size ∧ m2 ≠ w.heap.size + 1 ∧ w.heap.size ≤ m2) := Hid.intro (by have hm := OwnX.flat (e := .int) rfl (show OwnX W (w.heap.size + 2) (.list .int 3) [(.slice (some ⟨m2, 0, none⟩) 0 0)] [] _ from HQ.out.2.1); have hm := (hm.1.lt m2 rfl).1; omega)
            have HQ : Hid (PrQ .int 3 W9 (w.heap.size + 2) u d _ (some (v2, true)) _ [.slice none 0 0, .slice none 0 0]) := Hid.intro (HQ.out.row2 rfl hO hg (fun k hk => blkQ_some.2 hk) (fun k hk => hwh.elim (fun q => Or.inl (blkQ_some.2 (q ▸ hk))) (fun q => by rw [q] at hk; exact Or.inr (Option.some.inj hk).symm)))
            have HD : Hid (Bx W9 w.heap.size [.slice a1 u.length k1, .slice a2 d.length k2] ∧ Bx W9 (w.heap.size + 1) [.slice none 0 0, .slice none 0 0] ∧ Below w.heap.size w W9 ∧ w.heap.size + 2 ≤ W9.heap.size) := ⟨HD.out.1.grow hg (fun q => HM.out.1 (Option.some.inj q).symm), HD.out.2.1.grow hg (fun q => HM.out.2.1 (Option.some.inj q).symm), HD.out.2.2.1.grown hg HD.out.2.2.1.size (fun k hk => by have hk : m2 = k := Option.some.inj hk; have := HM.out.2.2; omega), Nat.le_trans HD.out.2.2.2 hg.size⟩
            obtain ⟨va2, vc2, hvf⟩ := OwnX.vform (show OwnX W9 (w.heap.size + 2) (.list .int 3) [v2] d _ from HQ.out.2.1)
            subst hvf
            clear hO hg hwh hzW
            obtain ⟨W, hWE⟩ : ∃ x, x = W9 := ⟨_, rfl⟩
            subst hWE
            refine hK.out _ _ HD.out.1 (fun hHeld => ?_)
            clear hK KC
            refine take_v (v := ?_) 8 ⟨some 31, Op.build 25 #[(0, Operand.tmp 26), (1, Operand.tmp 30)], _, _, _, none⟩ rfl (fun _ _ _ h => h) ?_ hHeld ?_
            rotate_left
            · (intro W _; go_simp <;> (try with_reducible rfl))
            refine ready_call 9 ⟨some 8, Op.alloc 25, _, _, _, none⟩ (by kernel_rfl) rfl (by kernel_rfl) (fun KC hK => ?_)
            go_wp2_with fail
            have hb := Go.Joins.below_alloc1 W (.cells #[.slice none 0 0, .slice none 0 0] 25)
            have HQ := Hid.intro (HQ.out.box 25)
            have HD : Hid (Bx (W.alloc (.cells #[.slice none 0 0, .slice none 0 0] 25)) w.heap.size [.slice a1 u.length k1, .slice a2 d.length k2] ∧ Bx (W.alloc (.cells #[.slice none 0 0, .slice none 0 0] 25)) (w.heap.size + 1) [.slice none 0 0, .slice none 0 0] ∧ Below w.heap.size w (W.alloc (.cells #[.slice none 0 0, .slice none 0 0] 25)) ∧ w.heap.size + 2 ≤ (W.alloc (.cells #[.slice none 0 0, .slice none 0 0] 25)).heap.size) := ⟨HD.out.1.next hb, HD.out.2.1.next hb, below_next HD.out.2.2.1 hb, Nat.le_trans HD.out.2.2.2 hb.size⟩
            obtain ⟨b3, hmE⟩ : ∃ x, x = W.heap.size := ⟨_, rfl⟩
            obtain ⟨W8, hWE⟩ : ∃ x, x = W.alloc (.cells #[.slice none 0 0, .slice none 0 0] 25) := ⟨_, rfl⟩
            have HQ : Hid (PrQ .int 3 W8 (w.heap.size + 2) u d _ _ (some b3) [.slice none 0 0, .slice none 0 0]) := Hid.intro (by rw [hWE, hmE]; exact HQ.out)
            rw [← hWE] at HD ⊢
            rw [← hmE]
            clear hb hWE hmE
            obtain ⟨W, hWE⟩ : ∃ x, x = W8 := ⟨_, rfl⟩
            subst hWE
            refine hK.out _ _ HD.out.1 (fun hHeld => ?_)
            clear hK KC
            refine ready_call 10 ⟨none, Op.store 25 (Operand.tmp 8) (Operand.tmp 31), _, _, _, none⟩ (by kernel_rfl) rfl (by kernel_rfl) (fun KC hK => ?_)
            have hq := HQ.out.2.2.1 b3 rfl
            have d0 := (hq.1).cell 0 rfl
            have d1 := (hq.1).cell 1 rfl
            have dz := (hq.1).2
            have df0 := (hq.1).frz 0 (by simp)
            have df1 := (hq.1).frz 1 (by simp)
            have hbb := hq.2
            go_wp2_with fail
            have HF := Hid.intro (PrS.of HQ.out)
            have HZ : Hid (Bx ((W.setCell ⟨b3, 0, none⟩ (.slice va1 u.length vc1)).setCell ⟨b3, 1, none⟩ (.slice va2 d.length vc2)) (w.heap.size + 1) [.slice none 0 0, .slice none 0 0] ∧ Below w.heap.size w ((W.setCell ⟨b3, 0, none⟩ (.slice va1 u.length vc1)).setCell ⟨b3, 1, none⟩ (.slice va2 d.length vc2))) := ⟨(HD.out.2.1.other (by omega)).other (by omega), (HD.out.2.2.1.setCell (p := ⟨b3, 0, none⟩) (by show w.heap.size ≤ b3; omega) _).setCell (p := ⟨b3, 1, none⟩) (by show w.heap.size ≤ b3; omega) _⟩
            have hnb : w.heap.size ≠ b3 := by omega
            clear d0 d1 dz df0 df1 hq
            refine hK.out _ _ ((HD.out.1.other hnb).other hnb) (fun hHeld => ?_)
            clear hK KC
            refine wpAnyH_done (by kernel_rfl) ?_ _
            refine NoPanic.normal ?_
            go_wp2_with fail
            go_meet
            obtain ⟨g1, c1, g2, c2, hF⟩ := CtS.of HF.out HG.out.1.1 HG.out.2.1
            exact ⟨b3, g1, c1, g2, c2, rfl, hF, HZ.out⟩
          ·
            go_wp2_with fail
            have hb := Go.Joins.below_alloc1 W (.cells #[.slice none 0 0, .slice none 0 0] 25)
            have HQ := Hid.intro (HQ.out.box 25)
            have HD : Hid (Bx (W.alloc (.cells #[.slice none 0 0, .slice none 0 0] 25)) w.heap.size [.slice a1 u.length k1, .slice a2 d.length k2] ∧ Bx (W.alloc (.cells #[.slice none 0 0, .slice none 0 0] 25)) (w.heap.size + 1) [.slice none 0 0, .slice none 0 0] ∧ Below w.heap.size w (W.alloc (.cells #[.slice none 0 0, .slice none 0 0] 25)) ∧ w.heap.size + 2 ≤ (W.alloc (.cells #[.slice none 0 0, .slice none 0 0] 25)).heap.size) := ⟨HD.out.1.next hb, HD.out.2.1.next hb, below_next HD.out.2.2.1 hb, Nat.le_trans HD.out.2.2.2 hb.size⟩
            obtain ⟨b3, hmE⟩ : ∃ x, x = W.heap.size := ⟨_, rfl⟩
            obtain ⟨W8, hWE⟩ : ∃ x, x = W.alloc (.cells #[.slice none 0 0, .slice none 0 0] 25) := ⟨_, rfl⟩
            have HQ : Hid (PrQ .int 3 W8 (w.heap.size + 2) u d _ _ (some b3) [.slice none 0 0, .slice none 0 0]) := Hid.intro (by rw [hWE, hmE]; exact HQ.out)
            rw [← hWE] at HD ⊢
            rw [← hmE]
            clear hb hWE hmE
            obtain ⟨W, hWE⟩ : ∃ x, x = W8 := ⟨_, rfl⟩
            subst hWE
            refine hK.out _ _ HD.out.1 (fun hHeld => ?_)
            clear hK KC
            refine ready_call 7 ⟨some 30, Op.call { callee := Callee.builtin Builtin.append, args := #[Operand.tmp 27, Operand.tmp 29], argTypes := #[23, 23] }, _, _, _, none⟩ (by kernel_rfl) rfl (by kernel_rfl) (fun KC hK => ?_)
            have hzW := HD.out.2.2.2
            refine wp_appx (.tmp 27) (.tmp 29) 23 3 (by rfl) i0 (.int .i64 0) 8 (w.heap.size + 2) .int rfl Try.underlying23 hi0 hz0 hz1 hz2 rfl (by decide) (.slice (some ⟨m2, 0, none⟩) 0 0) [] d (fun k => (Value.slice (some ⟨m2, 0, none⟩) 0 0).ownBlock = some k) (by rfl) HQ.out.2.1 a2 k2 (by rfl) (HL.out.2.next HD.out.2.2.1) hbB hcB hzW ?_
            intro v2 W9 hO hg hwh
            have HM : Hid (m2 ≠ w.heap.size ∧ m2 ≠ w.heap.size + 1 ∧ w.heap.size ≤ m2) := Hid.intro (by have hm := OwnX.flat (e := .int) rfl (show OwnX W (w.heap.size + 2) (.list .int 3) [(.slice (some ⟨m2, 0, none⟩) 0 0)] [] _ from HQ.out.2.1); have hm := (hm.1.lt m2 rfl).1; omega)
            have HQ : Hid (PrQ .int 3 W9 (w.heap.size + 2) u d _ (some (v2, true)) _ [.slice none 0 0, .slice none 0 0]) := Hid.intro (HQ.out.row2 rfl hO hg (fun k hk => blkQ_some.2 hk) (fun k hk => hwh.elim (fun q => Or.inl (blkQ_some.2 (q ▸ hk))) (fun q => by rw [q] at hk; exact Or.inr (Option.some.inj hk).symm)))
            have HD : Hid (Bx W9 w.heap.size [.slice a1 u.length k1, .slice a2 d.length k2] ∧ Bx W9 (w.heap.size + 1) [.slice none 0 0, .slice none 0 0] ∧ Below w.heap.size w W9 ∧ w.heap.size + 2 ≤ W9.heap.size) := ⟨HD.out.1.grow hg (fun q => HM.out.1 (Option.some.inj q).symm), HD.out.2.1.grow hg (fun q => HM.out.2.1 (Option.some.inj q).symm), HD.out.2.2.1.grown hg HD.out.2.2.1.size (fun k hk => by have hk : m2 = k := Option.some.inj hk; have := HM.out.2.2; omega), Nat.le_trans HD.out.2.2.2 hg.size⟩
            obtain ⟨va2, vc2, hvf⟩ := OwnX.vform (show OwnX W9 (w.heap.size + 2) (.list .int 3) [v2] d _ from HQ.out.2.1)
            subst hvf
            clear hO hg hwh hzW
            obtain ⟨W, hWE⟩ : ∃ x, x = W9 := ⟨_, rfl⟩
            subst hWE
            refine hK.out _ _ HD.out.1 (fun hHeld => ?_)
            clear hK KC
            refine take_v (v := ?_) 8 ⟨some 31, Op.build 25 #[(0, Operand.tmp 26), (1, Operand.tmp 30)], _, _, _, none⟩ rfl (fun _ _ _ h => h) ?_ hHeld ?_
            rotate_left
            · (intro W _; go_simp <;> (try with_reducible rfl))
            refine ready_call 10 ⟨none, Op.store 25 (Operand.tmp 8) (Operand.tmp 31), _, _, _, none⟩ (by kernel_rfl) rfl (by kernel_rfl) (fun KC hK => ?_)
            have hq := HQ.out.2.2.1 b3 rfl
            have d0 := (hq.1).cell 0 rfl
            have d1 := (hq.1).cell 1 rfl
            have dz := (hq.1).2
            have df0 := (hq.1).frz 0 (by simp)
            have df1 := (hq.1).frz 1 (by simp)
            have hbb := hq.2
            go_wp2_with fail
            have HF := Hid.intro (PrS.of HQ.out)
            have HZ : Hid (Bx ((W.setCell ⟨b3, 0, none⟩ (.slice va1 u.length vc1)).setCell ⟨b3, 1, none⟩ (.slice va2 d.length vc2)) (w.heap.size + 1) [.slice none 0 0, .slice none 0 0] ∧ Below w.heap.size w ((W.setCell ⟨b3, 0, none⟩ (.slice va1 u.length vc1)).setCell ⟨b3, 1, none⟩ (.slice va2 d.length vc2))) := ⟨(HD.out.2.1.other (by omega)).other (by omega), (HD.out.2.2.1.setCell (p := ⟨b3, 0, none⟩) (by show w.heap.size ≤ b3; omega) _).setCell (p := ⟨b3, 1, none⟩) (by show w.heap.size ≤ b3; omega) _⟩
            have hnb : w.heap.size ≠ b3 := by omega
            clear d0 d1 dz df0 df1 hq
            refine hK.out _ _ ((HD.out.1.other hnb).other hnb) (fun hHeld => ?_)
            clear hK KC
            refine wpAnyH_done (by kernel_rfl) ?_ _
            refine NoPanic.normal ?_
            go_wp2_with fail
            go_meet
            obtain ⟨g1, c1, g2, c2, hF⟩ := CtS.of HF.out HG.out.1.1 HG.out.2.1
            exact ⟨b3, g1, c1, g2, c2, rfl, hF, HZ.out⟩
        ·
          go_wp2_with fail
          have hb := Go.Joins.below_alloc1 W (.cells #[.slice none 0 0, .slice none 0 0] 25)
          have HQ := Hid.intro (HQ.out.box 25)
          have HD : Hid (Bx (W.alloc (.cells #[.slice none 0 0, .slice none 0 0] 25)) w.heap.size [.slice a1 u.length k1, .slice a2 d.length k2] ∧ Bx (W.alloc (.cells #[.slice none 0 0, .slice none 0 0] 25)) (w.heap.size + 1) [.slice none 0 0, .slice none 0 0] ∧ Below w.heap.size w (W.alloc (.cells #[.slice none 0 0, .slice none 0 0] 25)) ∧ w.heap.size + 2 ≤ (W.alloc (.cells #[.slice none 0 0, .slice none 0 0] 25)).heap.size) := ⟨HD.out.1.next hb, HD.out.2.1.next hb, below_next HD.out.2.2.1 hb, Nat.le_trans HD.out.2.2.2 hb.size⟩
          obtain ⟨b3, hmE⟩ : ∃ x, x = W.heap.size := ⟨_, rfl⟩
          obtain ⟨W8, hWE⟩ : ∃ x, x = W.alloc (.cells #[.slice none 0 0, .slice none 0 0] 25) := ⟨_, rfl⟩
          have HQ : Hid (PrQ .int 3 W8 (w.heap.size + 2) u d _ _ (some b3) [.slice none 0 0, .slice none 0 0]) := Hid.intro (by rw [hWE, hmE]; exact HQ.out)
          rw [← hWE] at HD ⊢
          rw [← hmE]
          clear hb hWE hmE
          obtain ⟨W, hWE⟩ : ∃ x, x = W8 := ⟨_, rfl⟩
          subst hWE
          refine hK.out _ _ HD.out.1 (fun hHeld => ?_)
          clear hK KC
          refine ready_call 3 ⟨some 26, Op.call { callee := Callee.builtin Builtin.append, args := #[Operand.tmp 23, Operand.tmp 25], argTypes := #[23, 23] }, _, _, _, none⟩ (by kernel_rfl) rfl (by kernel_rfl) (fun KC hK => ?_)
          have hzW := HD.out.2.2.2
          refine wp_appx (.tmp 23) (.tmp 25) 23 3 (by rfl) i0 (.int .i64 0) 8 (w.heap.size + 2) .int rfl Try.underlying23 hi0 hz0 hz1 hz2 rfl (by decide) (.slice (some ⟨m1, 0, none⟩) 0 0) [] u (fun k => (Value.slice (some ⟨m1, 0, none⟩) 0 0).ownBlock = some k) (by rfl) HQ.out.1 a1 k1 (by rfl) (HL.out.1.next HD.out.2.2.1) hbA hcA hzW ?_
          intro v1 W9 hO hg hwh
          have HM : Hid (m1 ≠ w.heap.size ∧ m1 ≠ w.heap.size + 1 ∧ w.heap.size ≤ m1) := Hid.intro (by have hm := OwnX.flat (e := .int) rfl (show OwnX W (w.heap.size + 2) (.list .int 3) [(.slice (some ⟨m1, 0, none⟩) 0 0)] [] _ from HQ.out.1); have hm := (hm.1.lt m1 rfl).1; omega)
          have HQ : Hid (PrQ .int 3 W9 (w.heap.size + 2) u d (some (v1, true)) _ _ [.slice none 0 0, .slice none 0 0]) := Hid.intro (HQ.out.row1 rfl hO hg (fun k hk => blkQ_some.2 hk) (fun k hk => hwh.elim (fun q => Or.inl (blkQ_some.2 (q ▸ hk))) (fun q => by rw [q] at hk; exact Or.inr (Option.some.inj hk).symm)))
          have HD : Hid (Bx W9 w.heap.size [.slice a1 u.length k1, .slice a2 d.length k2] ∧ Bx W9 (w.heap.size + 1) [.slice none 0 0, .slice none 0 0] ∧ Below w.heap.size w W9 ∧ w.heap.size + 2 ≤ W9.heap.size) := ⟨HD.out.1.grow hg (fun q => HM.out.1 (Option.some.inj q).symm), HD.out.2.1.grow hg (fun q => HM.out.2.1 (Option.some.inj q).symm), HD.out.2.2.1.grown hg HD.out.2.2.1.size (fun k hk => by have hk : m1 = k := Option.some.inj hk; have := HM.out.2.2; omega), Nat.le_trans HD.out.2.2.2 hg.size⟩
          obtain ⟨va1, vc1, hvf⟩ := OwnX.vform (show OwnX W9 (w.heap.size + 2) (.list .int 3) [v1] u _ from HQ.out.1)
          subst hvf
          clear hO hg hwh hzW
          obtain ⟨W, hWE⟩ : ∃ x, x = W9 := ⟨_, rfl⟩
          subst hWE
          refine hK.out _ _ HD.out.1 (fun hHeld => ?_)
          clear hK KC
          refine ready_call 7 ⟨some 30, Op.call { callee := Callee.builtin Builtin.append, args := #[Operand.tmp 27, Operand.tmp 29], argTypes := #[23, 23] }, _, _, _, none⟩ (by kernel_rfl) rfl (by kernel_rfl) (fun KC hK => ?_)
          have hzW := HD.out.2.2.2
          refine wp_appx (.tmp 27) (.tmp 29) 23 3 (by rfl) i0 (.int .i64 0) 8 (w.heap.size + 2) .int rfl Try.underlying23 hi0 hz0 hz1 hz2 rfl (by decide) (.slice (some ⟨m2, 0, none⟩) 0 0) [] d (fun k => (Value.slice (some ⟨m2, 0, none⟩) 0 0).ownBlock = some k) (by rfl) HQ.out.2.1 a2 k2 (by rfl) (HL.out.2.next HD.out.2.2.1) hbB hcB hzW ?_
          intro v2 W9 hO hg hwh
          have HM : Hid (m2 ≠ w.heap.size ∧ m2 ≠ w.heap.size + 1 ∧ w.heap.size ≤ m2) := Hid.intro (by have hm := OwnX.flat (e := .int) rfl (show OwnX W (w.heap.size + 2) (.list .int 3) [(.slice (some ⟨m2, 0, none⟩) 0 0)] [] _ from HQ.out.2.1); have hm := (hm.1.lt m2 rfl).1; omega)
          have HQ : Hid (PrQ .int 3 W9 (w.heap.size + 2) u d _ (some (v2, true)) _ [.slice none 0 0, .slice none 0 0]) := Hid.intro (HQ.out.row2 rfl hO hg (fun k hk => blkQ_some.2 hk) (fun k hk => hwh.elim (fun q => Or.inl (blkQ_some.2 (q ▸ hk))) (fun q => by rw [q] at hk; exact Or.inr (Option.some.inj hk).symm)))
          have HD : Hid (Bx W9 w.heap.size [.slice a1 u.length k1, .slice a2 d.length k2] ∧ Bx W9 (w.heap.size + 1) [.slice none 0 0, .slice none 0 0] ∧ Below w.heap.size w W9 ∧ w.heap.size + 2 ≤ W9.heap.size) := ⟨HD.out.1.grow hg (fun q => HM.out.1 (Option.some.inj q).symm), HD.out.2.1.grow hg (fun q => HM.out.2.1 (Option.some.inj q).symm), HD.out.2.2.1.grown hg HD.out.2.2.1.size (fun k hk => by have hk : m2 = k := Option.some.inj hk; have := HM.out.2.2; omega), Nat.le_trans HD.out.2.2.2 hg.size⟩
          obtain ⟨va2, vc2, hvf⟩ := OwnX.vform (show OwnX W9 (w.heap.size + 2) (.list .int 3) [v2] d _ from HQ.out.2.1)
          subst hvf
          clear hO hg hwh hzW
          obtain ⟨W, hWE⟩ : ∃ x, x = W9 := ⟨_, rfl⟩
          subst hWE
          refine hK.out _ _ HD.out.1 (fun hHeld => ?_)
          clear hK KC
          refine take_v (v := ?_) 8 ⟨some 31, Op.build 25 #[(0, Operand.tmp 26), (1, Operand.tmp 30)], _, _, _, none⟩ rfl (fun _ _ _ h => h) ?_ hHeld ?_
          rotate_left
          · (intro W _; go_simp <;> (try with_reducible rfl))
          refine ready_call 10 ⟨none, Op.store 25 (Operand.tmp 8) (Operand.tmp 31), _, _, _, none⟩ (by kernel_rfl) rfl (by kernel_rfl) (fun KC hK => ?_)
          have hq := HQ.out.2.2.1 b3 rfl
          have d0 := (hq.1).cell 0 rfl
          have d1 := (hq.1).cell 1 rfl
          have dz := (hq.1).2
          have df0 := (hq.1).frz 0 (by simp)
          have df1 := (hq.1).frz 1 (by simp)
          have hbb := hq.2
          go_wp2_with fail
          have HF := Hid.intro (PrS.of HQ.out)
          have HZ : Hid (Bx ((W.setCell ⟨b3, 0, none⟩ (.slice va1 u.length vc1)).setCell ⟨b3, 1, none⟩ (.slice va2 d.length vc2)) (w.heap.size + 1) [.slice none 0 0, .slice none 0 0] ∧ Below w.heap.size w ((W.setCell ⟨b3, 0, none⟩ (.slice va1 u.length vc1)).setCell ⟨b3, 1, none⟩ (.slice va2 d.length vc2))) := ⟨(HD.out.2.1.other (by omega)).other (by omega), (HD.out.2.2.1.setCell (p := ⟨b3, 0, none⟩) (by show w.heap.size ≤ b3; omega) _).setCell (p := ⟨b3, 1, none⟩) (by show w.heap.size ≤ b3; omega) _⟩
          have hnb : w.heap.size ≠ b3 := by omega
          clear d0 d1 dz df0 df1 hq
          refine hK.out _ _ ((HD.out.1.other hnb).other hnb) (fun hHeld => ?_)
          clear hK KC
          refine wpAnyH_done (by kernel_rfl) ?_ _
          refine NoPanic.normal ?_
          go_wp2_with fail
          go_meet
          obtain ⟨g1, c1, g2, c2, hF⟩ := CtS.of HF.out HG.out.1.1 HG.out.2.1
          exact ⟨b3, g1, c1, g2, c2, rfl, hF, HZ.out⟩
      ·
        go_wp2_with fail
        have hb := Go.Joins.below_alloc1 W (.cells #[.slice none 0 0, .slice none 0 0] 25)
        have HQ := Hid.intro (HQ.out.box 25)
        have HD : Hid (Bx (W.alloc (.cells #[.slice none 0 0, .slice none 0 0] 25)) w.heap.size [.slice a1 u.length k1, .slice a2 d.length k2] ∧ Bx (W.alloc (.cells #[.slice none 0 0, .slice none 0 0] 25)) (w.heap.size + 1) [.slice none 0 0, .slice none 0 0] ∧ Below w.heap.size w (W.alloc (.cells #[.slice none 0 0, .slice none 0 0] 25)) ∧ w.heap.size + 2 ≤ (W.alloc (.cells #[.slice none 0 0, .slice none 0 0] 25)).heap.size) := ⟨HD.out.1.next hb, HD.out.2.1.next hb, below_next HD.out.2.2.1 hb, Nat.le_trans HD.out.2.2.2 hb.size⟩
        obtain ⟨b3, hmE⟩ : ∃ x, x = W.heap.size := ⟨_, rfl⟩
        obtain ⟨W8, hWE⟩ : ∃ x, x = W.alloc (.cells #[.slice none 0 0, .slice none 0 0] 25) := ⟨_, rfl⟩
        have HQ : Hid (PrQ .int 3 W8 (w.heap.size + 2) u d _ _ (some b3) [.slice none 0 0, .slice none 0 0]) := Hid.intro (by rw [hWE, hmE]; exact HQ.out)
        rw [← hWE] at HD ⊢
        rw [← hmE]
        clear hb hWE hmE
        obtain ⟨W, hWE⟩ : ∃ x, x = W8 := ⟨_, rfl⟩
        subst hWE
        refine hK.out _ _ HD.out.1 (fun hHeld => ?_)
        clear hK KC
        refine ready_call 0 ⟨some 23, Op.buildSlice 23 0 #[], _, _, _, none⟩ (by kernel_rfl) rfl (by kernel_rfl) (fun KC hK => ?_)
        go_wp2_with fail
        have hb := Go.Joins.below_alloc1 W (.cells #[] 3)
        have HQ := Hid.intro (HQ.out.made1 rfl)
        have HD : Hid (Bx (W.alloc (.cells #[] 3)) w.heap.size [.slice a1 u.length k1, .slice a2 d.length k2] ∧ Bx (W.alloc (.cells #[] 3)) (w.heap.size + 1) [.slice none 0 0, .slice none 0 0] ∧ Below w.heap.size w (W.alloc (.cells #[] 3)) ∧ w.heap.size + 2 ≤ (W.alloc (.cells #[] 3)).heap.size) := ⟨HD.out.1.next hb, HD.out.2.1.next hb, below_next HD.out.2.2.1 hb, Nat.le_trans HD.out.2.2.2 hb.size⟩
        obtain ⟨m1, hmE⟩ : ∃ x, x = W.heap.size := ⟨_, rfl⟩
        obtain ⟨W, hWE⟩ : ∃ x, x = W.alloc (.cells #[] 3) := ⟨_, rfl⟩
        rw [← hmE] at HQ ⊢
        rw [← hWE] at HQ HD ⊢
        clear hb hWE hmE
        refine hK.out _ _ HD.out.1 (fun hHeld => ?_)
        clear hK KC
        refine ready_call 3 ⟨some 26, Op.call { callee := Callee.builtin Builtin.append, args := #[Operand.tmp 23, Operand.tmp 25], argTypes := #[23, 23] }, _, _, _, none⟩ (by kernel_rfl) rfl (by kernel_rfl) (fun KC hK => ?_)
        have hzW := HD.out.2.2.2
        refine wp_appx (.tmp 23) (.tmp 25) 23 3 (by rfl) i0 (.int .i64 0) 8 (w.heap.size + 2) .int rfl Try.underlying23 hi0 hz0 hz1 hz2 rfl (by decide) (.slice (some ⟨m1, 0, none⟩) 0 0) [] u (fun k => (Value.slice (some ⟨m1, 0, none⟩) 0 0).ownBlock = some k) (by rfl) HQ.out.1 a1 k1 (by rfl) (HL.out.1.next HD.out.2.2.1) hbA hcA hzW ?_
        intro v1 W9 hO hg hwh
        have HM : Hid (m1 ≠ w.heap.size ∧ m1 ≠ w.heap.size + 1 ∧ w.heap.size ≤ m1) := Hid.intro (by have hm := OwnX.flat (e := .int) rfl (show OwnX W (w.heap.size + 2) (.list .int 3) [(.slice (some ⟨m1, 0, none⟩) 0 0)] [] _ from HQ.out.1); have hm := (hm.1.lt m1 rfl).1; omega)
        have HQ : Hid (PrQ .int 3 W9 (w.heap.size + 2) u d (some (v1, true)) _ _ [.slice none 0 0, .slice none 0 0]) := Hid.intro (HQ.out.row1 rfl hO hg (fun k hk => blkQ_some.2 hk) (fun k hk => hwh.elim (fun q => Or.inl (blkQ_some.2 (q ▸ hk))) (fun q => by rw [q] at hk; exact Or.inr (Option.some.inj hk).symm)))
        have HD : Hid (Bx W9 w.heap.size [.slice a1 u.length k1, .slice a2 d.length k2] ∧ Bx W9 (w.heap.size + 1) [.slice none 0 0, .slice none 0 0] ∧ Below w.heap.size w W9 ∧ w.heap.size + 2 ≤ W9.heap.size) := ⟨HD.out.1.grow hg (fun q => HM.out.1 (Option.some.inj q).symm), HD.out.2.1.grow hg (fun q => HM.out.2.1 (Option.some.inj q).symm), HD.out.2.2.1.grown hg HD.out.2.2.1.size (fun k hk => by have hk : m1 = k := Option.some.inj hk; have := HM.out.2.2; omega), Nat.le_trans HD.out.2.2.2 hg.size⟩
        obtain ⟨va1, vc1, hvf⟩ := OwnX.vform (show OwnX W9 (w.heap.size + 2) (.list .int 3) [v1] u _ from HQ.out.1)
        subst hvf
        clear hO hg hwh hzW
        obtain ⟨W, hWE⟩ : ∃ x, x = W9 := ⟨_, rfl⟩
        subst hWE
        refine hK.out _ _ HD.out.1 (fun hHeld => ?_)
        clear hK KC
        refine ready_call 7 ⟨some 30, Op.call { callee := Callee.builtin Builtin.append, args := #[Operand.tmp 27, Operand.tmp 29], argTypes := #[23, 23] }, _, _, _, none⟩ (by kernel_rfl) rfl (by kernel_rfl) (fun KC hK => ?_)
        have hzW := HD.out.2.2.2
        refine wp_appx (.tmp 27) (.tmp 29) 23 3 (by rfl) i0 (.int .i64 0) 8 (w.heap.size + 2) .int rfl Try.underlying23 hi0 hz0 hz1 hz2 rfl (by decide) (.slice (some ⟨m2, 0, none⟩) 0 0) [] d (fun k => (Value.slice (some ⟨m2, 0, none⟩) 0 0).ownBlock = some k) (by rfl) HQ.out.2.1 a2 k2 (by rfl) (HL.out.2.next HD.out.2.2.1) hbB hcB hzW ?_
        intro v2 W9 hO hg hwh
        have HM : Hid (m2 ≠ w.heap.size ∧ m2 ≠ w.heap.size + 1 ∧ w.heap.size ≤ m2) := Hid.intro (by have hm := OwnX.flat (e := .int) rfl (show OwnX W (w.heap.size + 2) (.list .int 3) [(.slice (some ⟨m2, 0, none⟩) 0 0)] [] _ from HQ.out.2.1); have hm := (hm.1.lt m2 rfl).1; omega)
        have HQ : Hid (PrQ .int 3 W9 (w.heap.size + 2) u d _ (some (v2, true)) _ [.slice none 0 0, .slice none 0 0]) := Hid.intro (HQ.out.row2 rfl hO hg (fun k hk => blkQ_some.2 hk) (fun k hk => hwh.elim (fun q => Or.inl (blkQ_some.2 (q ▸ hk))) (fun q => by rw [q] at hk; exact Or.inr (Option.some.inj hk).symm)))
        have HD : Hid (Bx W9 w.heap.size [.slice a1 u.length k1, .slice a2 d.length k2] ∧ Bx W9 (w.heap.size + 1) [.slice none 0 0, .slice none 0 0] ∧ Below w.heap.size w W9 ∧ w.heap.size + 2 ≤ W9.heap.size) := ⟨HD.out.1.grow hg (fun q => HM.out.1 (Option.some.inj q).symm), HD.out.2.1.grow hg (fun q => HM.out.2.1 (Option.some.inj q).symm), HD.out.2.2.1.grown hg HD.out.2.2.1.size (fun k hk => by have hk : m2 = k := Option.some.inj hk; have := HM.out.2.2; omega), Nat.le_trans HD.out.2.2.2 hg.size⟩
        obtain ⟨va2, vc2, hvf⟩ := OwnX.vform (show OwnX W9 (w.heap.size + 2) (.list .int 3) [v2] d _ from HQ.out.2.1)
        subst hvf
        clear hO hg hwh hzW
        obtain ⟨W, hWE⟩ : ∃ x, x = W9 := ⟨_, rfl⟩
        subst hWE
        refine hK.out _ _ HD.out.1 (fun hHeld => ?_)
        clear hK KC
        refine take_v (v := ?_) 8 ⟨some 31, Op.build 25 #[(0, Operand.tmp 26), (1, Operand.tmp 30)], _, _, _, none⟩ rfl (fun _ _ _ h => h) ?_ hHeld ?_
        rotate_left
        · (intro W _; go_simp <;> (try with_reducible rfl))
        refine ready_call 10 ⟨none, Op.store 25 (Operand.tmp 8) (Operand.tmp 31), _, _, _, none⟩ (by kernel_rfl) rfl (by kernel_rfl) (fun KC hK => ?_)
        have hq := HQ.out.2.2.1 b3 rfl
        have d0 := (hq.1).cell 0 rfl
        have d1 := (hq.1).cell 1 rfl
        have dz := (hq.1).2
        have df0 := (hq.1).frz 0 (by simp)
        have df1 := (hq.1).frz 1 (by simp)
        have hbb := hq.2
        go_wp2_with fail
        have HF := Hid.intro (PrS.of HQ.out)
        have HZ : Hid (Bx ((W.setCell ⟨b3, 0, none⟩ (.slice va1 u.length vc1)).setCell ⟨b3, 1, none⟩ (.slice va2 d.length vc2)) (w.heap.size + 1) [.slice none 0 0, .slice none 0 0] ∧ Below w.heap.size w ((W.setCell ⟨b3, 0, none⟩ (.slice va1 u.length vc1)).setCell ⟨b3, 1, none⟩ (.slice va2 d.length vc2))) := ⟨(HD.out.2.1.other (by omega)).other (by omega), (HD.out.2.2.1.setCell (p := ⟨b3, 0, none⟩) (by show w.heap.size ≤ b3; omega) _).setCell (p := ⟨b3, 1, none⟩) (by show w.heap.size ≤ b3; omega) _⟩
        have hnb : w.heap.size ≠ b3 := by omega
        clear d0 d1 dz df0 df1 hq
        refine hK.out _ _ ((HD.out.1.other hnb).other hnb) (fun hHeld => ?_)
        clear hK KC
        refine wpAnyH_done (by kernel_rfl) ?_ _
        refine NoPanic.normal ?_
        go_wp2_with fail
        go_meet
        obtain ⟨g1, c1, g2, c2, hF⟩ := CtS.of HF.out HG.out.1.1 HG.out.2.1
        exact ⟨b3, g1, c1, g2, c2, rfl, hF, HZ.out⟩
    ·
      go_wp2_with fail
      have hb := Go.Joins.below_alloc1 W (.cells #[.slice none 0 0, .slice none 0 0] 25)
      have HQ := Hid.intro (HQ.out.box 25)
      have HD : Hid (Bx (W.alloc (.cells #[.slice none 0 0, .slice none 0 0] 25)) w.heap.size [.slice a1 u.length k1, .slice a2 d.length k2] ∧ Bx (W.alloc (.cells #[.slice none 0 0, .slice none 0 0] 25)) (w.heap.size + 1) [.slice none 0 0, .slice none 0 0] ∧ Below w.heap.size w (W.alloc (.cells #[.slice none 0 0, .slice none 0 0] 25)) ∧ w.heap.size + 2 ≤ (W.alloc (.cells #[.slice none 0 0, .slice none 0 0] 25)).heap.size) := ⟨HD.out.1.next hb, HD.out.2.1.next hb, below_next HD.out.2.2.1 hb, Nat.le_trans HD.out.2.2.2 hb.size⟩
      obtain ⟨b3, hmE⟩ : ∃ x, x = W.heap.size := ⟨_, rfl⟩
      obtain ⟨W8, hWE⟩ : ∃ x, x = W.alloc (.cells #[.slice none 0 0, .slice none 0 0] 25) := ⟨_, rfl⟩
      have HQ : Hid (PrQ .int 3 W8 (w.heap.size + 2) u d _ _ (some b3) [.slice none 0 0, .slice none 0 0]) := Hid.intro (by rw [hWE, hmE]; exact HQ.out)
      rw [← hWE] at HD ⊢
      rw [← hmE]
      clear hb hWE hmE
      obtain ⟨W, hWE⟩ : ∃ x, x = W8 := ⟨_, rfl⟩
      subst hWE
      refine hK.out _ _ HD.out.1 (fun hHeld => ?_)
      clear hK KC
      refine ready_two 0 4 ⟨some 23, Op.buildSlice 23 0 #[], _, _, _, none⟩ ⟨some 27, Op.buildSlice 23 0 #[], _, _, _, none⟩ (by kernel_rfl) rfl rfl (by kernel_rfl) (by kernel_rfl) (fun KC hK => ?_) (fun KC hK => ?_)
      ·
        go_wp2_with fail
        have hb := Go.Joins.below_alloc1 W (.cells #[] 3)
        have HQ := Hid.intro (HQ.out.made1 rfl)
        have HD : Hid (Bx (W.alloc (.cells #[] 3)) w.heap.size [.slice a1 u.length k1, .slice a2 d.length k2] ∧ Bx (W.alloc (.cells #[] 3)) (w.heap.size + 1) [.slice none 0 0, .slice none 0 0] ∧ Below w.heap.size w (W.alloc (.cells #[] 3)) ∧ w.heap.size + 2 ≤ (W.alloc (.cells #[] 3)).heap.size) := ⟨HD.out.1.next hb, HD.out.2.1.next hb, below_next HD.out.2.2.1 hb, Nat.le_trans HD.out.2.2.2 hb.size⟩
        obtain ⟨m1, hmE⟩ : ∃ x, x = W.heap.size := ⟨_, rfl⟩
        obtain ⟨W, hWE⟩ : ∃ x, x = W.alloc (.cells #[] 3) := ⟨_, rfl⟩
        rw [← hmE] at HQ ⊢
        rw [← hWE] at HQ HD ⊢
        clear hb hWE hmE
        refine hK.out _ _ HD.out.1 (fun hHeld => ?_)
        clear hK KC
        refine ready_two 3 4 ⟨some 26, Op.call { callee := Callee.builtin Builtin.append, args := #[Operand.tmp 23, Operand.tmp 25], argTypes := #[23, 23] }, _, _, _, none⟩ ⟨some 27, Op.buildSlice 23 0 #[], _, _, _, none⟩ (by kernel_rfl) rfl rfl (by kernel_rfl) (by kernel_rfl) (fun KC hK => ?_) (fun KC hK => ?_)
        ·
          have hzW := HD.out.2.2.2
          refine wp_appx (.tmp 23) (.tmp 25) 23 3 (by rfl) i0 (.int .i64 0) 8 (w.heap.size + 2) .int rfl Try.underlying23 hi0 hz0 hz1 hz2 rfl (by decide) (.slice (some ⟨m1, 0, none⟩) 0 0) [] u (fun k => (Value.slice (some ⟨m1, 0, none⟩) 0 0).ownBlock = some k) (by rfl) HQ.out.1 a1 k1 (by rfl) (HL.out.1.next HD.out.2.2.1) hbA hcA hzW ?_
          intro v1 W9 hO hg hwh
          have HM : Hid (m1 ≠ w.heap.size ∧ m1 ≠ w.heap.size + 1 ∧ w.heap.size ≤ m1) := Hid.intro (by have hm := OwnX.flat (e := .int) rfl (show OwnX W (w.heap.size + 2) (.list .int 3) [(.slice (some ⟨m1, 0, none⟩) 0 0)] [] _ from HQ.out.1); have hm := (hm.1.lt m1 rfl).1; omega)
          have HQ : Hid (PrQ .int 3 W9 (w.heap.size + 2) u d (some (v1, true)) _ _ [.slice none 0 0, .slice none 0 0]) := Hid.intro (HQ.out.row1 rfl hO hg (fun k hk => blkQ_some.2 hk) (fun k hk => hwh.elim (fun q => Or.inl (blkQ_some.2 (q ▸ hk))) (fun q => by rw [q] at hk; exact Or.inr (Option.some.inj hk).symm)))
          have HD : Hid (Bx W9 w.heap.size [.slice a1 u.length k1, .slice a2 d.length k2] ∧ Bx W9 (w.heap.size + 1) [.slice none 0 0, .slice none 0 0] ∧ Below w.heap.size w W9 ∧ w.heap.size + 2 ≤ W9.heap.size) := ⟨HD.out.1.grow hg (fun q => HM.out.1 (Option.some.inj q).symm), HD.out.2.1.grow hg (fun q => HM.out.2.1 (Option.some.inj q).symm), HD.out.2.2.1.grown hg HD.out.2.2.1.size (fun k hk => by have hk : m1 = k := Option.some.inj hk; have := HM.out.2.2; omega), Nat.le_trans HD.out.2.2.2 hg.size⟩
          obtain ⟨va1, vc1, hvf⟩ := OwnX.vform (show OwnX W9 (w.heap.size + 2) (.list .int 3) [v1] u _ from HQ.out.1)
          subst hvf
          clear hO hg hwh hzW
          obtain ⟨W, hWE⟩ : ∃ x, x = W9 := ⟨_, rfl⟩
          subst hWE
          refine hK.out _ _ HD.out.1 (fun hHeld => ?_)
          clear hK KC
          refine ready_call 4 ⟨some 27, Op.buildSlice 23 0 #[], _, _, _, none⟩ (by kernel_rfl) rfl (by kernel_rfl) (fun KC hK => ?_)
          go_wp2_with fail
          have hb := Go.Joins.below_alloc1 W (.cells #[] 3)
          have HQ := Hid.intro (HQ.out.made2 rfl)
          have HD : Hid (Bx (W.alloc (.cells #[] 3)) w.heap.size [.slice a1 u.length k1, .slice a2 d.length k2] ∧ Bx (W.alloc (.cells #[] 3)) (w.heap.size + 1) [.slice none 0 0, .slice none 0 0] ∧ Below w.heap.size w (W.alloc (.cells #[] 3)) ∧ w.heap.size + 2 ≤ (W.alloc (.cells #[] 3)).heap.size) := ⟨HD.out.1.next hb, HD.out.2.1.next hb, below_next HD.out.2.2.1 hb, Nat.le_trans HD.out.2.2.2 hb.size⟩
          obtain ⟨m2, hmE⟩ : ∃ x, x = W.heap.size := ⟨_, rfl⟩
          obtain ⟨W, hWE⟩ : ∃ x, x = W.alloc (.cells #[] 3) := ⟨_, rfl⟩
          rw [← hmE] at HQ ⊢
          rw [← hWE] at HQ HD ⊢
          clear hb hWE hmE
          refine hK.out _ _ HD.out.1 (fun hHeld => ?_)
          clear hK KC
          refine ready_call 7 ⟨some 30, Op.call { callee := Callee.builtin Builtin.append, args := #[Operand.tmp 27, Operand.tmp 29], argTypes := #[23, 23] }, _, _, _, none⟩ (by kernel_rfl) rfl (by kernel_rfl) (fun KC hK => ?_)
          have hzW := HD.out.2.2.2
          refine wp_appx (.tmp 27) (.tmp 29) 23 3 (by rfl) i0 (.int .i64 0) 8 (w.heap.size + 2) .int rfl Try.underlying23 hi0 hz0 hz1 hz2 rfl (by decide) (.slice (some ⟨m2, 0, none⟩) 0 0) [] d (fun k => (Value.slice (some ⟨m2, 0, none⟩) 0 0).ownBlock = some k) (by rfl) HQ.out.2.1 a2 k2 (by rfl) (HL.out.2.next HD.out.2.2.1) hbB hcB hzW ?_
          intro v2 W9 hO hg hwh
          have HM : Hid (m2 ≠ w.heap.size ∧ m2 ≠ w.heap.size + 1 ∧ w.heap.size ≤ m2) := Hid.intro (by have hm := OwnX.flat (e := .int) rfl (show OwnX W (w.heap.size + 2) (.list .int 3) [(.slice (some ⟨m2, 0, none⟩) 0 0)] [] _ from HQ.out.2.1); have hm := (hm.1.lt m2 rfl).1; omega)
          have HQ : Hid (PrQ .int 3 W9 (w.heap.size + 2) u d _ (some (v2, true)) _ [.slice none 0 0, .slice none 0 0]) := Hid.intro (HQ.out.row2 rfl hO hg (fun k hk => blkQ_some.2 hk) (fun k hk => hwh.elim (fun q => Or.inl (blkQ_some.2 (q ▸ hk))) (fun q => by rw [q] at hk; exact Or.inr (Option.some.inj hk).symm)))
          have HD : Hid (Bx W9 w.heap.size [.slice a1 u.length k1, .slice a2 d.length k2] ∧ Bx W9 (w.heap.size + 1) [.slice none 0 0, .slice none 0 0] ∧ Below w.heap.size w W9 ∧ w.heap.size + 2 ≤ W9.heap.size) := ⟨HD.out.1.grow hg (fun q => HM.out.1 (Option.some.inj q).symm), HD.out.2.1.grow hg (fun q => HM.out.2.1 (Option.some.inj q).symm), HD.out.2.2.1.grown hg HD.out.2.2.1.size (fun k hk => by have hk : m2 = k := Option.some.inj hk; have := HM.out.2.2; omega), Nat.le_trans HD.out.2.2.2 hg.size⟩
          obtain ⟨va2, vc2, hvf⟩ := OwnX.vform (show OwnX W9 (w.heap.size + 2) (.list .int 3) [v2] d _ from HQ.out.2.1)
          subst hvf
          clear hO hg hwh hzW
          obtain ⟨W, hWE⟩ : ∃ x, x = W9 := ⟨_, rfl⟩
          subst hWE
          refine hK.out _ _ HD.out.1 (fun hHeld => ?_)
          clear hK KC
          refine take_v (v := ?_) 8 ⟨some 31, Op.build 25 #[(0, Operand.tmp 26), (1, Operand.tmp 30)], _, _, _, none⟩ rfl (fun _ _ _ h => h) ?_ hHeld ?_
          rotate_left
          · (intro W _; go_simp <;> (try with_reducible rfl))
          refine ready_call 10 ⟨none, Op.store 25 (Operand.tmp 8) (Operand.tmp 31), _, _, _, none⟩ (by kernel_rfl) rfl (by kernel_rfl) (fun KC hK => ?_)
          have hq := HQ.out.2.2.1 b3 rfl
          have d0 := (hq.1).cell 0 rfl
          have d1 := (hq.1).cell 1 rfl
          have dz := (hq.1).2
          have df0 := (hq.1).frz 0 (by simp)
          have df1 := (hq.1).frz 1 (by simp)
          have hbb := hq.2
          go_wp2_with fail
          have HF := Hid.intro (PrS.of HQ.out)
          have HZ : Hid (Bx ((W.setCell ⟨b3, 0, none⟩ (.slice va1 u.length vc1)).setCell ⟨b3, 1, none⟩ (.slice va2 d.length vc2)) (w.heap.size + 1) [.slice none 0 0, .slice none 0 0] ∧ Below w.heap.size w ((W.setCell ⟨b3, 0, none⟩ (.slice va1 u.length vc1)).setCell ⟨b3, 1, none⟩ (.slice va2 d.length vc2))) := ⟨(HD.out.2.1.other (by omega)).other (by omega), (HD.out.2.2.1.setCell (p := ⟨b3, 0, none⟩) (by show w.heap.size ≤ b3; omega) _).setCell (p := ⟨b3, 1, none⟩) (by show w.heap.size ≤ b3; omega) _⟩
          have hnb : w.heap.size ≠ b3 := by omega
          clear d0 d1 dz df0 df1 hq
          refine hK.out _ _ ((HD.out.1.other hnb).other hnb) (fun hHeld => ?_)
          clear hK KC
          refine wpAnyH_done (by kernel_rfl) ?_ _
          refine NoPanic.normal ?_
          go_wp2_with fail
          go_meet
          obtain ⟨g1, c1, g2, c2, hF⟩ := CtS.of HF.out HG.out.1.1 HG.out.2.1
          exact ⟨b3, g1, c1, g2, c2, rfl, hF, HZ.out⟩
        ·
          go_wp2_with fail
          have hb := Go.Joins.below_alloc1 W (.cells #[] 3)
          have HQ := Hid.intro (HQ.out.made2 rfl)
          have HD : Hid (Bx (W.alloc (.cells #[] 3)) w.heap.size [.slice a1 u.length k1, .slice a2 d.length k2] ∧ Bx (W.alloc (.cells #[] 3)) (w.heap.size + 1) [.slice none 0 0, .slice none 0 0] ∧ Below w.heap.size w (W.alloc (.cells #[] 3)) ∧ w.heap.size + 2 ≤ (W.alloc (.cells #[] 3)).heap.size) := ⟨HD.out.1.next hb, HD.out.2.1.next hb, below_next HD.out.2.2.1 hb, Nat.le_trans HD.out.2.2.2 hb.size⟩
          obtain ⟨m2, hmE⟩ : ∃ x, x = W.heap.size := ⟨_, rfl⟩
          obtain ⟨W, hWE⟩ : ∃ x, x = W.alloc (.cells #[] 3) := ⟨_, rfl⟩
          rw [← hmE] at HQ ⊢
          rw [← hWE] at HQ HD ⊢
          clear hb hWE hmE
          refine hK.out _ _ HD.out.1 (fun hHeld => ?_)
          clear hK KC
          refine ready_call 3 ⟨some 26, Op.call { callee := Callee.builtin Builtin.append, args := #[Operand.tmp 23, Operand.tmp 25], argTypes := #[23, 23] }, _, _, _, none⟩ (by kernel_rfl) rfl (by kernel_rfl) (fun KC hK => ?_)
          have hzW := HD.out.2.2.2
          refine wp_appx (.tmp 23) (.tmp 25) 23 3 (by rfl) i0 (.int .i64 0) 8 (w.heap.size + 2) .int rfl Try.underlying23 hi0 hz0 hz1 hz2 rfl (by decide) (.slice (some ⟨m1, 0, none⟩) 0 0) [] u (fun k => (Value.slice (some ⟨m1, 0, none⟩) 0 0).ownBlock = some k) (by rfl) HQ.out.1 a1 k1 (by rfl) (HL.out.1.next HD.out.2.2.1) hbA hcA hzW ?_
          intro v1 W9 hO hg hwh
          have HM : Hid (m1 ≠ w.heap.size ∧ m1 ≠ w.heap.size + 1 ∧ w.heap.size ≤ m1) := Hid.intro (by have hm := OwnX.flat (e := .int) rfl (show OwnX W (w.heap.size + 2) (.list .int 3) [(.slice (some ⟨m1, 0, none⟩) 0 0)] [] _ from HQ.out.1); have hm := (hm.1.lt m1 rfl).1; omega)
          have HQ : Hid (PrQ .int 3 W9 (w.heap.size + 2) u d (some (v1, true)) _ _ [.slice none 0 0, .slice none 0 0]) := Hid.intro (HQ.out.row1 rfl hO hg (fun k hk => blkQ_some.2 hk) (fun k hk => hwh.elim (fun q => Or.inl (blkQ_some.2 (q ▸ hk))) (fun q => by rw [q] at hk; exact Or.inr (Option.some.inj hk).symm)))
          have HD : Hid (Bx W9 w.heap.size [.slice a1 u.length k1, .slice a2 d.length k2] ∧ Bx W9 (w.heap.size + 1) [.slice none 0 0, .slice none 0 0] ∧ Below w.heap.size w W9 ∧ w.heap.size + 2 ≤ W9.heap.size) := ⟨HD.out.1.grow hg (fun q => HM.out.1 (Option.some.inj q).symm), HD.out.2.1.grow hg (fun q => HM.out.2.1 (Option.some.inj q).symm), HD.out.2.2.1.grown hg HD.out.2.2.1.size (fun k hk => by have hk : m1 = k := Option.some.inj hk; have := HM.out.2.2; omega), Nat.le_trans HD.out.2.2.2 hg.size⟩
          obtain ⟨va1, vc1, hvf⟩ := OwnX.vform (show OwnX W9 (w.heap.size + 2) (.list .int 3) [v1] u _ from HQ.out.1)
          subst hvf
          clear hO hg hwh hzW
          obtain ⟨W, hWE⟩ : ∃ x, x = W9 := ⟨_, rfl⟩
          subst hWE
          refine hK.out _ _ HD.out.1 (fun hHeld => ?_)
          clear hK KC
          refine ready_call 7 ⟨some 30, Op.call { callee := Callee.builtin Builtin.append, args := #[Operand.tmp 27, Operand.tmp 29], argTypes := #[23, 23] }, _, _, _, none⟩ (by kernel_rfl) rfl (by kernel_rfl) (fun KC hK => ?_)
          have hzW := HD.out.2.2.2
          refine wp_appx (.tmp 27) (.tmp 29) 23 3 (by rfl) i0 (.int .i64 0) 8 (w.heap.size + 2) .int rfl Try.underlying23 hi0 hz0 hz1 hz2 rfl (by decide) (.slice (some ⟨m2, 0, none⟩) 0 0) [] d (fun k => (Value.slice (some ⟨m2, 0, none⟩) 0 0).ownBlock = some k) (by rfl) HQ.out.2.1 a2 k2 (by rfl) (HL.out.2.next HD.out.2.2.1) hbB hcB hzW ?_
          intro v2 W9 hO hg hwh
          have HM : Hid (m2 ≠ w.heap.size ∧ m2 ≠ w.heap.size + 1 ∧ w.heap.size ≤ m2) := Hid.intro (by have hm := OwnX.flat (e := .int) rfl (show OwnX W (w.heap.size + 2) (.list .int 3) [(.slice (some ⟨m2, 0, none⟩) 0 0)] [] _ from HQ.out.2.1); have hm := (hm.1.lt m2 rfl).1; omega)
          have HQ : Hid (PrQ .int 3 W9 (w.heap.size + 2) u d _ (some (v2, true)) _ [.slice none 0 0, .slice none 0 0]) := Hid.intro (HQ.out.row2 rfl hO hg (fun k hk => blkQ_some.2 hk) (fun k hk => hwh.elim (fun q => Or.inl (blkQ_some.2 (q ▸ hk))) (fun q => by rw [q] at hk; exact Or.inr (Option.some.inj hk).symm)))
          have HD : Hid (Bx W9 w.heap.size [.slice a1 u.length k1, .slice a2 d.length k2] ∧ Bx W9 (w.heap.size + 1) [.slice none 0 0, .slice none 0 0] ∧ Below w.heap.size w W9 ∧ w.heap.size + 2 ≤ W9.heap.size) := ⟨HD.out.1.grow hg (fun q => HM.out.1 (Option.some.inj q).symm), HD.out.2.1.grow hg (fun q => HM.out.2.1 (Option.some.inj q).symm), HD.out.2.2.1.grown hg HD.out.2.2.1.size (fun k hk => by have hk : m2 = k := Option.some.inj hk; have := HM.out.2.2; omega), Nat.le_trans HD.out.2.2.2 hg.size⟩
          obtain ⟨va2, vc2, hvf⟩ := OwnX.vform (show OwnX W9 (w.heap.size + 2) (.list .int 3) [v2] d _ from HQ.out.2.1)
          subst hvf
          clear hO hg hwh hzW
          obtain ⟨W, hWE⟩ : ∃ x, x = W9 := ⟨_, rfl⟩
          subst hWE
          refine hK.out _ _ HD.out.1 (fun hHeld => ?_)
          clear hK KC
          refine take_v (v := ?_) 8 ⟨some 31, Op.build 25 #[(0, Operand.tmp 26), (1, Operand.tmp 30)], _, _, _, none⟩ rfl (fun _ _ _ h => h) ?_ hHeld ?_
          rotate_left
          · (intro W _; go_simp <;> (try with_reducible rfl))
          refine ready_call 10 ⟨none, Op.store 25 (Operand.tmp 8) (Operand.tmp 31), _, _, _, none⟩ (by kernel_rfl) rfl (by kernel_rfl) (fun KC hK => ?_)
          have hq := HQ.out.2.2.1 b3 rfl
          have d0 := (hq.1).cell 0 rfl
          have d1 := (hq.1).cell 1 rfl
          have dz := (hq.1).2
          have df0 := (hq.1).frz 0 (by simp)
          have df1 := (hq.1).frz 1 (by simp)
          have hbb := hq.2
          go_wp2_with fail
          have HF := Hid.intro (PrS.of HQ.out)
          have HZ : Hid (Bx ((W.setCell ⟨b3, 0, none⟩ (.slice va1 u.length vc1)).setCell ⟨b3, 1, none⟩ (.slice va2 d.length vc2)) (w.heap.size + 1) [.slice none 0 0, .slice none 0 0] ∧ Below w.heap.size w ((W.setCell ⟨b3, 0, none⟩ (.slice va1 u.length vc1)).setCell ⟨b3, 1, none⟩ (.slice va2 d.length vc2))) := ⟨(HD.out.2.1.other (by omega)).other (by omega), (HD.out.2.2.1.setCell (p := ⟨b3, 0, none⟩) (by show w.heap.size ≤ b3; omega) _).setCell (p := ⟨b3, 1, none⟩) (by show w.heap.size ≤ b3; omega) _⟩
          have hnb : w.heap.size ≠ b3 := by omega
          clear d0 d1 dz df0 df1 hq
          refine hK.out _ _ ((HD.out.1.other hnb).other hnb) (fun hHeld => ?_)
          clear hK KC
          refine wpAnyH_done (by kernel_rfl) ?_ _
          refine NoPanic.normal ?_
          go_wp2_with fail
          go_meet
          obtain ⟨g1, c1, g2, c2, hF⟩ := CtS.of HF.out HG.out.1.1 HG.out.2.1
          exact ⟨b3, g1, c1, g2, c2, rfl, hF, HZ.out⟩
      ·
        go_wp2_with fail
        have hb := Go.Joins.below_alloc1 W (.cells #[] 3)
        have HQ := Hid.intro (HQ.out.made2 rfl)
        have HD : Hid (Bx (W.alloc (.cells #[] 3)) w.heap.size [.slice a1 u.length k1, .slice a2 d.length k2] ∧ Bx (W.alloc (.cells #[] 3)) (w.heap.size + 1) [.slice none 0 0, .slice none 0 0] ∧ Below w.heap.size w (W.alloc (.cells #[] 3)) ∧ w.heap.size + 2 ≤ (W.alloc (.cells #[] 3)).heap.size) := ⟨HD.out.1.next hb, HD.out.2.1.next hb, below_next HD.out.2.2.1 hb, Nat.le_trans HD.out.2.2.2 hb.size⟩
        obtain ⟨m2, hmE⟩ : ∃ x, x = W.heap.size := ⟨_, rfl⟩
        obtain ⟨W, hWE⟩ : ∃ x, x = W.alloc (.cells #[] 3) := ⟨_, rfl⟩
        rw [← hmE] at HQ ⊢
        rw [← hWE] at HQ HD ⊢
        clear hb hWE hmE
        refine hK.out _ _ HD.out.1 (fun hHeld => ?_)
        clear hK KC
        refine ready_call 0 ⟨some 23, Op.buildSlice 23 0 #[], _, _, _, none⟩ (by kernel_rfl) rfl (by kernel_rfl) (fun KC hK => ?_)
        go_wp2_with fail
        have hb := Go.Joins.below_alloc1 W (.cells #[] 3)
        have HQ := Hid.intro (HQ.out.made1 rfl)
        have HD : Hid (Bx (W.alloc (.cells #[] 3)) w.heap.size [.slice a1 u.length k1, .slice a2 d.length k2] ∧ Bx (W.alloc (.cells #[] 3)) (w.heap.size + 1) [.slice none 0 0, .slice none 0 0] ∧ Below w.heap.size w (W.alloc (.cells #[] 3)) ∧ w.heap.size + 2 ≤ (W.alloc (.cells #[] 3)).heap.size) := ⟨HD.out.1.next hb, HD.out.2.1.next hb, below_next HD.out.2.2.1 hb, Nat.le_trans HD.out.2.2.2 hb.size⟩
        obtain ⟨m1, hmE⟩ : ∃ x, x = W.heap.size := ⟨_, rfl⟩
        obtain ⟨W, hWE⟩ : ∃ x, x = W.alloc (.cells #[] 3) := ⟨_, rfl⟩
        rw [← hmE] at HQ ⊢
        rw [← hWE] at HQ HD ⊢
        clear hb hWE hmE
        refine hK.out _ _ HD.out.1 (fun hHeld => ?_)
        clear hK KC
        refine ready_call 3 ⟨some 26, Op.call { callee := Callee.builtin Builtin.append, args := #[Operand.tmp 23, Operand.tmp 25], argTypes := #[23, 23] }, _, _, _, none⟩ (by kernel_rfl) rfl (by kernel_rfl) (fun KC hK => ?_)
        have hzW := HD.out.2.2.2
        refine wp_appx (.tmp 23) (.tmp 25) 23 3 (by rfl) i0 (.int .i64 0) 8 (w.heap.size + 2) .int rfl Try.underlying23 hi0 hz0 hz1 hz2 rfl (by decide) (.slice (some ⟨m1, 0, none⟩) 0 0) [] u (fun k => (Value.slice (some ⟨m1, 0, none⟩) 0 0).ownBlock = some k) (by rfl) HQ.out.1 a1 k1 (by rfl) (HL.out.1.next HD.out.2.2.1) hbA hcA hzW ?_
        intro v1 W9 hO hg hwh
        have HM : Hid (m1 ≠ w.heap.size ∧ m1 ≠ w.heap.size + 1 ∧ w.heap.size ≤ m1) := Hid.intro (by have hm := OwnX.flat (e := .int) rfl (show OwnX W (w.heap.size + 2) (.list .int 3) [(.slice (some ⟨m1, 0, none⟩) 0 0)] [] _ from HQ.out.1); have hm := (hm.1.lt m1 rfl).1; omega)
        have HQ : Hid (PrQ .int 3 W9 (w.heap.size + 2) u d (some (v1, true)) _ _ [.slice none 0 0, .slice none 0 0]) := Hid.intro (HQ.out.row1 rfl hO hg (fun k hk => blkQ_some.2 hk) (fun k hk => hwh.elim (fun q => Or.inl (blkQ_some.2 (q ▸ hk))) (fun q => by rw [q] at hk; exact Or.inr (Option.some.inj hk).symm)))
        have HD : Hid (Bx W9 w.heap.size [.slice a1 u.length k1, .slice a2 d.length k2] ∧ Bx W9 (w.heap.size + 1) [.slice none 0 0, .slice none 0 0] ∧ Below w.heap.size w W9 ∧ w.heap.size + 2 ≤ W9.heap.size) := ⟨HD.out.1.grow hg (fun q => HM.out.1 (Option.some.inj q).symm), HD.out.2.1.grow hg (fun q => HM.out.2.1 (Option.some.inj q).symm), HD.out.2.2.1.grown hg HD.out.2.2.1.size (fun k hk => by have hk : m1 = k := Option.some.inj hk; have := HM.out.2.2; omega), Nat.le_trans HD.out.2.2.2 hg.size⟩
        obtain ⟨va1, vc1, hvf⟩ := OwnX.vform (show OwnX W9 (w.heap.size + 2) (.list .int 3) [v1] u _ from HQ.out.1)
        subst hvf
        clear hO hg hwh hzW
        obtain ⟨W, hWE⟩ : ∃ x, x = W9 := ⟨_, rfl⟩
        subst hWE
        refine hK.out _ _ HD.out.1 (fun hHeld => ?_)
        clear hK KC
        refine ready_call 7 ⟨some 30, Op.call { callee := Callee.builtin Builtin.append, args := #[Operand.tmp 27, Operand.tmp 29], argTypes := #[23, 23] }, _, _, _, none⟩ (by kernel_rfl) rfl (by kernel_rfl) (fun KC hK => ?_)
        have hzW := HD.out.2.2.2
        refine wp_appx (.tmp 27) (.tmp 29) 23 3 (by rfl) i0 (.int .i64 0) 8 (w.heap.size + 2) .int rfl Try.underlying23 hi0 hz0 hz1 hz2 rfl (by decide) (.slice (some ⟨m2, 0, none⟩) 0 0) [] d (fun k => (Value.slice (some ⟨m2, 0, none⟩) 0 0).ownBlock = some k) (by rfl) HQ.out.2.1 a2 k2 (by rfl) (HL.out.2.next HD.out.2.2.1) hbB hcB hzW ?_
        intro v2 W9 hO hg hwh
        have HM : Hid (m2 ≠ w.heap.size ∧ m2 ≠ w.heap.size + 1 ∧ w.heap.size ≤ m2) := Hid.intro (by have hm := OwnX.flat (e := .int) rfl (show OwnX W (w.heap.size + 2) (.list .int 3) [(.slice (some ⟨m2, 0, none⟩) 0 0)] [] _ from HQ.out.2.1); have hm := (hm.1.lt m2 rfl).1; omega)
        have HQ : Hid (PrQ .int 3 W9 (w.heap.size + 2) u d _ (some (v2, true)) _ [.slice none 0 0, .slice none 0 0]) := Hid.intro (HQ.out.row2 rfl hO hg (fun k hk => blkQ_some.2 hk) (fun k hk => hwh.elim (fun q => Or.inl (blkQ_some.2 (q ▸ hk))) (fun q => by rw [q] at hk; exact Or.inr (Option.some.inj hk).symm)))
        have HD : Hid (Bx W9 w.heap.size [.slice a1 u.length k1, .slice a2 d.length k2] ∧ Bx W9 (w.heap.size + 1) [.slice none 0 0, .slice none 0 0] ∧ Below w.heap.size w W9 ∧ w.heap.size + 2 ≤ W9.heap.size) := ⟨HD.out.1.grow hg (fun q => HM.out.1 (Option.some.inj q).symm), HD.out.2.1.grow hg (fun q => HM.out.2.1 (Option.some.inj q).symm), HD.out.2.2.1.grown hg HD.out.2.2.1.size (fun k hk => by have hk : m2 = k := Option.some.inj hk; have := HM.out.2.2; omega), Nat.le_trans HD.out.2.2.2 hg.size⟩
        obtain ⟨va2, vc2, hvf⟩ := OwnX.vform (show OwnX W9 (w.heap.size + 2) (.list .int 3) [v2] d _ from HQ.out.2.1)
        subst hvf
        clear hO hg hwh hzW
        obtain ⟨W, hWE⟩ : ∃ x, x = W9 := ⟨_, rfl⟩
        subst hWE
        refine hK.out _ _ HD.out.1 (fun hHeld => ?_)
        clear hK KC
        refine take_v (v := ?_) 8 ⟨some 31, Op.build 25 #[(0, Operand.tmp 26), (1, Operand.tmp 30)], _, _, _, none⟩ rfl (fun _ _ _ h => h) ?_ hHeld ?_
        rotate_left
        · (intro W _; go_simp <;> (try with_reducible rfl))
        refine ready_call 10 ⟨none, Op.store 25 (Operand.tmp 8) (Operand.tmp 31), _, _, _, none⟩ (by kernel_rfl) rfl (by kernel_rfl) (fun KC hK => ?_)
        have hq := HQ.out.2.2.1 b3 rfl
        have d0 := (hq.1).cell 0 rfl
        have d1 := (hq.1).cell 1 rfl
        have dz := (hq.1).2
        have df0 := (hq.1).frz 0 (by simp)
        have df1 := (hq.1).frz 1 (by simp)
        have hbb := hq.2
        go_wp2_with fail
        have HF := Hid.intro (PrS.of HQ.out)
        have HZ : Hid (Bx ((W.setCell ⟨b3, 0, none⟩ (.slice va1 u.length vc1)).setCell ⟨b3, 1, none⟩ (.slice va2 d.length vc2)) (w.heap.size + 1) [.slice none 0 0, .slice none 0 0] ∧ Below w.heap.size w ((W.setCell ⟨b3, 0, none⟩ (.slice va1 u.length vc1)).setCell ⟨b3, 1, none⟩ (.slice va2 d.length vc2))) := ⟨(HD.out.2.1.other (by omega)).other (by omega), (HD.out.2.2.1.setCell (p := ⟨b3, 0, none⟩) (by show w.heap.size ≤ b3; omega) _).setCell (p := ⟨b3, 1, none⟩) (by show w.heap.size ≤ b3; omega) _⟩
        have hnb : w.heap.size ≠ b3 := by omega
        clear d0 d1 dz df0 df1 hq
        refine hK.out _ _ ((HD.out.1.other hnb).other hnb) (fun hHeld => ?_)
        clear hK KC
        refine wpAnyH_done (by kernel_rfl) ?_ _
        refine NoPanic.normal ?_
        go_wp2_with fail
        go_meet
        obtain ⟨g1, c1, g2, c2, hF⟩ := CtS.of HF.out HG.out.1.1 HG.out.2.1
        exact ⟨b3, g1, c1, g2, c2, rfl, hF, HZ.out⟩
  case rest =>
    obtain ⟨b8, g1, c1, g2, c2, rfl, hS, hZ, hB⟩ := hcut
    have HS : Hid (CtS wc (w.heap.size + 2) b8 g1 c1 g2 c2 u d) := hS
    have HZ : Hid (Bx wc (w.heap.size + 1) [.slice none 0 0, .slice none 0 0] ∧ Below w.heap.size w wc) := ⟨hZ, hB⟩
    clear hS hZ hB HD
    have hk6 := HK6.out
    have hk6' : (k : Int) < 6 := by omega
    have hbb := HAB.out.2
    obtain ⟨hb1, hb2⟩ := hbb
    have hkt : ((k : Int)).toNat = k := by omega
    by_cases hs : 0 ≤ b
    · have hat := HS.out.2.1.at hk6
      obtain ⟨x, hx⟩ : ∃ x, x = atI u k := ⟨_, rfl⟩
      have hx1 := HG.out.1.2 k (by rw [HG.out.1.1]; exact hk6)
      rw [← hx] at hat hx1
      obtain ⟨q1, q2, q3⟩ := hat
      obtain ⟨hx0, hx1⟩ := hx1
      have HA : Hid (cbU u (k : Int) b = (u.set k (x + b)) ∧ cbD d (k : Int) b = d) := Hid.intro (by unfold cbU cbD; rw [hkt, ← hx]; constructor <;> (first | rw [if_pos (by omega)] | rw [if_neg (by omega)]))
      have HS9 : Hid (CtS (wc.setCell ⟨g1, k, none⟩ (.int .i64 (x + b))) (w.heap.size + 2) b8 g1 c1 g2 c2 (u.set k (x + b)) d) := Hid.intro (HS.out.setU hk6 _)
      have HZ9 : Hid (Bx (wc.setCell ⟨g1, k, none⟩ (.int .i64 (x + b))) (w.heap.size + 1) [.slice none 0 0, .slice none 0 0] ∧ Below w.heap.size w (wc.setCell ⟨g1, k, none⟩ (.int .i64 (x + b)))) := Hid.intro (by have h9 := HS.out.2.1.lt.2; exact ⟨HZ.out.1.other (by omega), HZ.out.2.setCell (p := ⟨g1, k, none⟩) (by show w.heap.size ≤ g1; omega) _⟩)
      have b0 := (HS.out.1).cell 0 rfl
      have b1 := (HS.out.1).cell 1 rfl
      have bz := (HS.out.1).2
      clear hx hkt
      obtain ⟨w9, hw9⟩ : ∃ y, y = wc.setCell ⟨g1, k, none⟩ (.int .i64 (x + b)) := ⟨_, rfl⟩
      rw [← hw9] at HS9 HZ9
      go_upto_region 7 with fail
      rw [← hw9]
      clear hw9 b0 b1 bz q1 q2 q3 HS HZ
      have b0 := (HS9.out.1).cell 0 rfl
      have b1 := (HS9.out.1).cell 1 rfl
      have bz := (HS9.out.1).2
      have r0 := (HZ9.out.1).cell 0 rfl
      have r1 := (HZ9.out.1).cell 1 rfl
      have rz := (HZ9.out.1).2
      have rf0 := (HZ9.out.1).frz 0 (by simp)
      have rf1 := (HZ9.out.1).frz 1 (by simp)
      have HLN : Hid (((u.set k (x + b))).length = 6 ∧ (d).length = 6) := ⟨HS9.out.2.1.2, HS9.out.2.2.1.2⟩
      have HB8 : Hid (w.heap.size + 2 ≤ b8) := Hid.intro HS9.out.2.2.2.2.2.2
      have hb8 : w.heap.size + 1 ≠ b8 := by have := HB8.out; omega
      go_wp2_with fail
      refine (specGoodCounter_n _ (u.set k (x + b)) d w9 (ct_small HLN.out.1 HLN.out.2) HS9.out.lies).mono ?_
      rintro r w10 ⟨rfl, hb⟩
      have HS10 := Hid.intro (HS9.out.next hb)
      have HZ10 : Hid (Bx w10 (w.heap.size + 1) [.slice none 0 0, .slice none 0 0] ∧ Below w.heap.size w w10) := ⟨HZ9.out.1.next hb, below_next HZ9.out.2 hb⟩
      clear hb b0 b1 bz r0 r1 rz rf0 rf1 HS9 HZ9
      have b0 := (HS10.out.1).cell 0 rfl
      have b1 := (HS10.out.1).cell 1 rfl
      have bz := (HS10.out.1).2
      have r0 := (HZ10.out.1).cell 0 rfl
      have r1 := (HZ10.out.1).cell 1 rfl
      have rz := (HZ10.out.1).2
      have rf0 := (HZ10.out.1).frz 0 (by simp)
      have rf1 := (HZ10.out.1).frz 1 (by simp)
      cases e : tf (goodC (u.set k (x + b)) d)
      · have HN : Hid (cbA u d (k : Int) b = ([], [], false)) := Hid.intro (cbA_no (fun q => by have q := q.2.2.2; rw [HA.out.1, HA.out.2] at q; rw [tf_yes q] at e; cases e))
        clear e
        go_wp2_with fail
        exact bodyPost_ret (v := .tuple #[.agg #[.slice none 0 0, .slice none 0 0], .bool false]) (by simp [results, Try.results22, go_sem, *]) rfl (CnP.zero HN.out (HZ10.out.2.trans ((set2 _ (w.heap.size + 1) _ _).below (fun k e => by have e : k = w.heap.size + 1 := e; omega) HZ10.out.2.size)))
      · have HN : Hid (cbA u d (k : Int) b = ((u.set k (x + b)), d, true)) := Hid.intro (by
          rw [cbA_yes ⟨HG.out, HAB.out.1, HAB.out.2, by rw [HA.out.1, HA.out.2]; exact tf_iff.1 e⟩, HA.out.1, HA.out.2])
        clear e
        have hse : Hid (TurnS (fun k => k = w.heap.size + 1) w10 ((w10.setCell ⟨w.heap.size + 1, 0, none⟩ (.slice (some ⟨g1, 0, none⟩) 6 c1)).setCell ⟨w.heap.size + 1, 1, none⟩ (.slice (some ⟨g2, 0, none⟩) 6 c2))) := Hid.intro (set2 w10 (w.heap.size + 1) _ _)
        go_wp2_with fail
        exact bodyPost_ret (v := .tuple #[.agg #[.slice (some ⟨g1, 0, none⟩) 6 c1, .slice (some ⟨g2, 0, none⟩) 6 c2], .bool true]) (by simp [results, Try.results22, go_sem, *]) rfl ((HS10.out.turn hse.out (fun k e => by have e : k = w.heap.size + 1 := e; omega)).done HN.out (HZ10.out.2.trans (hse.out.below (fun k e => by have e : k = w.heap.size + 1 := e; omega) HZ10.out.2.size)) (by omega))
    · have hat := HS.out.2.2.1.at hk6
      obtain ⟨x, hx⟩ : ∃ x, x = atI d k := ⟨_, rfl⟩
      have hx1 := HG.out.2.2 k (by rw [HG.out.2.1]; exact hk6)
      rw [← hx] at hat hx1
      obtain ⟨q1, q2, q3⟩ := hat
      obtain ⟨hx0, hx1⟩ := hx1
      have HA : Hid (cbU u (k : Int) b = u ∧ cbD d (k : Int) b = (d.set k (x - b))) := Hid.intro (by unfold cbU cbD; rw [hkt, ← hx]; constructor <;> (first | rw [if_pos (by omega)] | rw [if_neg (by omega)]))
      have HS9 : Hid (CtS (wc.setCell ⟨g2, k, none⟩ (.int .i64 (x - b))) (w.heap.size + 2) b8 g1 c1 g2 c2 u (d.set k (x - b))) := Hid.intro (HS.out.setD hk6 _)
      have HZ9 : Hid (Bx (wc.setCell ⟨g2, k, none⟩ (.int .i64 (x - b))) (w.heap.size + 1) [.slice none 0 0, .slice none 0 0] ∧ Below w.heap.size w (wc.setCell ⟨g2, k, none⟩ (.int .i64 (x - b)))) := Hid.intro (by have h9 := HS.out.2.2.1.lt.2; exact ⟨HZ.out.1.other (by omega), HZ.out.2.setCell (p := ⟨g2, k, none⟩) (by show w.heap.size ≤ g2; omega) _⟩)
      have b0 := (HS.out.1).cell 0 rfl
      have b1 := (HS.out.1).cell 1 rfl
      have bz := (HS.out.1).2
      clear hx hkt
      obtain ⟨w9, hw9⟩ : ∃ y, y = wc.setCell ⟨g2, k, none⟩ (.int .i64 (x - b)) := ⟨_, rfl⟩
      rw [← hw9] at HS9 HZ9
      go_upto_region 7 with fail
      rw [← hw9]
      clear hw9 b0 b1 bz q1 q2 q3 HS HZ
      have b0 := (HS9.out.1).cell 0 rfl
      have b1 := (HS9.out.1).cell 1 rfl
      have bz := (HS9.out.1).2
      have r0 := (HZ9.out.1).cell 0 rfl
      have r1 := (HZ9.out.1).cell 1 rfl
      have rz := (HZ9.out.1).2
      have rf0 := (HZ9.out.1).frz 0 (by simp)
      have rf1 := (HZ9.out.1).frz 1 (by simp)
      have HLN : Hid ((u).length = 6 ∧ ((d.set k (x - b))).length = 6) := ⟨HS9.out.2.1.2, HS9.out.2.2.1.2⟩
      have HB8 : Hid (w.heap.size + 2 ≤ b8) := Hid.intro HS9.out.2.2.2.2.2.2
      have hb8 : w.heap.size + 1 ≠ b8 := by have := HB8.out; omega
      go_wp2_with fail
      refine (specGoodCounter_n _ u (d.set k (x - b)) w9 (ct_small HLN.out.1 HLN.out.2) HS9.out.lies).mono ?_
      rintro r w10 ⟨rfl, hb⟩
      have HS10 := Hid.intro (HS9.out.next hb)
      have HZ10 : Hid (Bx w10 (w.heap.size + 1) [.slice none 0 0, .slice none 0 0] ∧ Below w.heap.size w w10) := ⟨HZ9.out.1.next hb, below_next HZ9.out.2 hb⟩
      clear hb b0 b1 bz r0 r1 rz rf0 rf1 HS9 HZ9
      have b0 := (HS10.out.1).cell 0 rfl
      have b1 := (HS10.out.1).cell 1 rfl
      have bz := (HS10.out.1).2
      have r0 := (HZ10.out.1).cell 0 rfl
      have r1 := (HZ10.out.1).cell 1 rfl
      have rz := (HZ10.out.1).2
      have rf0 := (HZ10.out.1).frz 0 (by simp)
      have rf1 := (HZ10.out.1).frz 1 (by simp)
      cases e : tf (goodC u (d.set k (x - b)))
      · have HN : Hid (cbA u d (k : Int) b = ([], [], false)) := Hid.intro (cbA_no (fun q => by have q := q.2.2.2; rw [HA.out.1, HA.out.2] at q; rw [tf_yes q] at e; cases e))
        clear e
        go_wp2_with fail
        exact bodyPost_ret (v := .tuple #[.agg #[.slice none 0 0, .slice none 0 0], .bool false]) (by simp [results, Try.results22, go_sem, *]) rfl (CnP.zero HN.out (HZ10.out.2.trans ((set2 _ (w.heap.size + 1) _ _).below (fun k e => by have e : k = w.heap.size + 1 := e; omega) HZ10.out.2.size)))
      · have HN : Hid (cbA u d (k : Int) b = (u, (d.set k (x - b)), true)) := Hid.intro (by
          rw [cbA_yes ⟨HG.out, HAB.out.1, HAB.out.2, by rw [HA.out.1, HA.out.2]; exact tf_iff.1 e⟩, HA.out.1, HA.out.2])
        clear e
        have hse : Hid (TurnS (fun k => k = w.heap.size + 1) w10 ((w10.setCell ⟨w.heap.size + 1, 0, none⟩ (.slice (some ⟨g1, 0, none⟩) 6 c1)).setCell ⟨w.heap.size + 1, 1, none⟩ (.slice (some ⟨g2, 0, none⟩) 6 c2))) := Hid.intro (set2 w10 (w.heap.size + 1) _ _)
        go_wp2_with fail
        exact bodyPost_ret (v := .tuple #[.agg #[.slice (some ⟨g1, 0, none⟩) 6 c1, .slice (some ⟨g2, 0, none⟩) 6 c2], .bool true]) (by simp [results, Try.results22, go_sem, *]) rfl ((HS10.out.turn hse.out (fun k e => by have e : k = w.heap.size + 1 := e; omega)).done HN.out (HZ10.out.2.trans (hse.out.below (fun k e => by have e : k = w.heap.size + 1 := e; omega) HZ10.out.2.size)) (by omega))
end Go.Proofs.Ytnglgndocmkbfaa
