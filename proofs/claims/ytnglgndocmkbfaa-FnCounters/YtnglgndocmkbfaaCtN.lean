/- Counters: MergeCounter, on both sides; contracts as the laws want them. Written by tools/mkCtN.py. -/
import Derived.Test.YtnglgndocmkbfaaCtM
import Derived.Test.YtnglgndocmkbfaaCtL
namespace Go.Proofs.Ytnglgndocmkbfaa
open Go.RowKit
set_option linter.unusedVariables false
set_option linter.unusedSimpArgs false

theorem rows_done {w W : World} {A : List (Sh.T .int) × List (Sh.T .int) × Bool} {lo g1 c1 g2 c2 : Nat} {u d : List (Sh.T .int)} (r1 : Rw 3 W lo g1 c1 u 6) (r2 : Rw 3 W lo g2 c2 d 6) (hne : g1 ≠ g2) (hA : A = (u, d, true)) (hb : Below w.heap.size w W) (hl : w.heap.size ≤ lo) : CnP A w (.returned (.tuple #[.agg #[.slice (some ⟨g1, 0, none⟩) 6 c1, .slice (some ⟨g2, 0, none⟩) 6 c2], .bool true])) W := by
  subst hA
  have h1 := r1.lt
  have h2 := r2.lt
  exact ⟨⟨[_, _], rfl, mkown_Counter (S1 := fun k => k = g1) (S2 := fun k => k = g2) (OwnX.own r1.1) (OwnX.own r2.1) (fun k e => by have e : k = g1 := e; simp only [Btw]; omega) (fun k e => by have e : k = g2 := e; simp only [Btw]; omega) (fun k e f => by have e : k = g1 := e; have f : k = g2 := f; omega), hb⟩, fun _ => ⟨g1, c1, g2, c2, rfl, r1.lower hl, r2.lower hl, hne⟩⟩


set_option maxRecDepth 100000 in
set_option maxHeartbeats 4000000 in
theorem mergeCounter_n (cs cs' : List Value) (u d u2 d2 : List (Sh.T .int)) (w : World) (hz : szD shCounter (u, d, ()) ≤ 1073741824) (hz' : szD shCounter (u2, d2, ()) ≤ 1073741824) (h : Lies w shCounter cs (u, d, ())) (h' : Lies w shCounter cs' (u2, d2, ())) :
    Calls Try.prog 18 #[.agg cs.toArray, .agg cs'.toArray] w (CnP (mcA u d u2 d2) w) := by
  obtain ⟨a1, k1, a2, k2, rfl, h1, h2⟩ := lies_Counter h
  obtain ⟨a3, k3, a4, k4, rfl, h3, h4⟩ := lies_Counter h'
  have HL : Hid (Lies w (.list .int) [.slice a1 u.length k1] u ∧ Lies w (.list .int) [.slice a2 d.length k2] d ∧ Lies w (.list .int) [.slice a3 u2.length k3] u2 ∧ Lies w (.list .int) [.slice a4 d2.length k4] d2) := ⟨h1, h2, h3, h4⟩
  obtain ⟨w0, hw0⟩ : ∃ x, x = ((w.alloc (.cells #[.slice a1 u.length k1, .slice a2 d.length k2] 25)).alloc (.cells #[.slice a3 u2.length k3, .slice a4 d2.length k4] 25)).alloc (.cells #[.slice none 0 0, .slice none 0 0] 25) := ⟨_, rfl⟩
  have HB0 : Hid (Bx w0 w.heap.size [.slice a1 u.length k1, .slice a2 d.length k2] ∧ Bx w0 (w.heap.size + 1) [.slice a3 u2.length k3, .slice a4 d2.length k4] ∧ Bx w0 (w.heap.size + 1 + 1) [.slice none 0 0, .slice none 0 0] ∧ Below w.heap.size w w0) := ⟨hw0 ▸ ((Bx.new w [_, _] _).alloc _).alloc _, hw0 ▸ (Bx.newAt (by simp)).alloc _, hw0 ▸ Bx.newAt (by simp), hw0 ▸ (((Below.refl _ _).alloc (Nat.le_refl _) _).alloc (by simp) _).alloc (by simp; omega) _⟩
  have HC : Hid (∀ W, Below w.heap.size w W → Calls Try.prog 42 #[.agg #[.slice a1 u.length k1, .slice a2 d.length k2]] W fun r w' => r = .returned (.bool (tf (goodC u d))) ∧ Below W.heap.size W w') := Hid.intro (fun W hb => goodCounter_n _ u d W hz (h.next hb))
  have HC2 : Hid (∀ W, Below w.heap.size w W → Calls Try.prog 42 #[.agg #[.slice a3 u2.length k3, .slice a4 d2.length k4]] W fun r w' => r = .returned (.bool (tf (goodC u2 d2))) ∧ Below W.heap.size W w') := Hid.intro (fun W hb => goodCounter_n _ u2 d2 W hz' (h'.next hb))
  clear h h' h1 h2 h3 h4 hz hz'
  go_enter Try.func18, Try.ntmps18
  go_upto_region 1 with fail
  rw [← hw0]
  clear hw0
  have s0 := (HB0.out.1).cell 0 rfl
  have s1 := (HB0.out.1).cell 1 rfl
  have sz := (HB0.out.1).2
  have t0 := (HB0.out.2.1).cell 0 rfl
  have t1 := (HB0.out.2.1).cell 1 rfl
  have tz := (HB0.out.2.1).2
  have r0 := (HB0.out.2.2.1).cell 0 rfl
  have r1 := (HB0.out.2.2.1).cell 1 rfl
  have rz := (HB0.out.2.2.1).2
  have rf0 := (HB0.out.2.2.1).frz 0 (by simp)
  have rf1 := (HB0.out.2.2.1).frz 1 (by simp)
  go_wp2_with fail
  refine (HC.out _ HB0.out.2.2.2).mono ?_
  rintro r w1 ⟨rfl, hb⟩
  have HB1 : Hid (Bx w1 w.heap.size [.slice a1 u.length k1, .slice a2 d.length k2] ∧ Bx w1 (w.heap.size + 1) [.slice a3 u2.length k3, .slice a4 d2.length k4] ∧ Bx w1 (w.heap.size + 1 + 1) [.slice none 0 0, .slice none 0 0] ∧ Below w.heap.size w w1) := ⟨HB0.out.1.next hb, HB0.out.2.1.next hb, HB0.out.2.2.1.next hb, below_next HB0.out.2.2.2 hb⟩
  clear hb HB0 s0 s1 sz t0 t1 tz r0 r1 rz rf0 rf1
  have s0 := (HB1.out.1).cell 0 rfl
  have s1 := (HB1.out.1).cell 1 rfl
  have sz := (HB1.out.1).2
  have t0 := (HB1.out.2.1).cell 0 rfl
  have t1 := (HB1.out.2.1).cell 1 rfl
  have tz := (HB1.out.2.1).2
  have r0 := (HB1.out.2.2.1).cell 0 rfl
  have r1 := (HB1.out.2.2.1).cell 1 rfl
  have rz := (HB1.out.2.2.1).2
  have rf0 := (HB1.out.2.2.1).frz 0 (by simp)
  have rf1 := (HB1.out.2.2.1).frz 1 (by simp)
  cases e1 : tf (goodC u d)
  · have HN : Hid (mcA u d u2 d2 = ([], [], false)) := Hid.intro (mcA_no (fun q => by rw [tf_yes q.1] at e1; cases e1))
    clear e1
    go_wp2_with fail
    exact bodyPost_ret (v := .tuple #[.agg #[.slice none 0 0, .slice none 0 0], .bool false]) (by simp [results, Try.results18, go_sem, *]) rfl (CnP.zero HN.out (HB1.out.2.2.2.trans ((set2 _ (w.heap.size + 1 + 1) _ _).below (fun k e => by have e : k = w.heap.size + 1 + 1 := e; omega) HB1.out.2.2.2.size)))
  have HG1 := Hid.intro (tf_iff.1 e1)
  clear e1
  go_wp2_with fail
  refine (HC2.out _ HB1.out.2.2.2).mono ?_
  rintro r w2 ⟨rfl, hb⟩
  have HB2 : Hid (Bx w2 w.heap.size [.slice a1 u.length k1, .slice a2 d.length k2] ∧ Bx w2 (w.heap.size + 1) [.slice a3 u2.length k3, .slice a4 d2.length k4] ∧ Bx w2 (w.heap.size + 1 + 1) [.slice none 0 0, .slice none 0 0] ∧ Below w.heap.size w w2) := ⟨HB1.out.1.next hb, HB1.out.2.1.next hb, HB1.out.2.2.1.next hb, below_next HB1.out.2.2.2 hb⟩
  clear hb HB1 s0 s1 sz t0 t1 tz r0 r1 rz rf0 rf1
  have s0 := (HB2.out.1).cell 0 rfl
  have s1 := (HB2.out.1).cell 1 rfl
  have sz := (HB2.out.1).2
  have t0 := (HB2.out.2.1).cell 0 rfl
  have t1 := (HB2.out.2.1).cell 1 rfl
  have tz := (HB2.out.2.1).2
  have r0 := (HB2.out.2.2.1).cell 0 rfl
  have r1 := (HB2.out.2.2.1).cell 1 rfl
  have rz := (HB2.out.2.2.1).2
  have rf0 := (HB2.out.2.2.1).frz 0 (by simp)
  have rf1 := (HB2.out.2.2.1).frz 1 (by simp)
  cases e2 : tf (goodC u2 d2)
  · have HN : Hid (mcA u d u2 d2 = ([], [], false)) := Hid.intro (mcA_no (fun q => by rw [tf_yes q.2] at e2; cases e2))
    clear e2
    go_wp2_with fail
    exact bodyPost_ret (v := .tuple #[.agg #[.slice none 0 0, .slice none 0 0], .bool false]) (by simp [results, Try.results18, go_sem, *]) rfl (CnP.zero HN.out (HB2.out.2.2.2.trans ((set2 _ (w.heap.size + 1 + 1) _ _).below (fun k e => by have e : k = w.heap.size + 1 + 1 := e; omega) HB2.out.2.2.2.size)))
  have HG2 := Hid.intro (tf_iff.1 e2)
  have HN : Hid (mcA u d u2 d2 = (mxL u u2, mxL d d2, true)) := Hid.intro (mcA_yes ⟨HG1.out, tf_iff.1 e2⟩)
  clear e2 s0 s1 sz t0 t1 tz r0 r1 rz rf0 rf1
  have HLN : Hid ((u.length = 6 ∧ d.length = 6) ∧ u2.length = 6 ∧ d2.length = 6) := ⟨⟨HG1.out.1.1, HG1.out.2.1⟩, HG2.out.1.1, HG2.out.2.1⟩
  have HCU : Hid (∀ W, Below w.heap.size w W → Calls Try.prog 63 #[.slice a1 u.length k1, .slice a3 u2.length k3] W (SixP (mxL u u2) W)) := Hid.intro (fun W hb => by have q := greaterCounts_n a1 k1 a3 k3 u u2 W HLN.out.1.1 HLN.out.2.1 (HL.out.1.next hb) (HL.out.2.2.1.next hb); rw [HLN.out.1.1, HLN.out.2.1]; exact q)
  have HCD : Hid (∀ W, Below w.heap.size w W → Calls Try.prog 63 #[.slice a2 d.length k2, .slice a4 d2.length k4] W (SixP (mxL d d2) W)) := Hid.intro (fun W hb => by have q := greaterCounts_n a2 k2 a4 k4 d d2 W HLN.out.1.2 HLN.out.2.2 (HL.out.2.1.next hb) (HL.out.2.2.2.next hb); rw [HLN.out.1.2, HLN.out.2.2]; exact q)
  obtain ⟨MU, hMU⟩ : ∃ x, x = mxL u u2 := ⟨_, rfl⟩
  obtain ⟨MD, hMD⟩ : ∃ x, x = mxL d d2 := ⟨_, rfl⟩
  rw [← hMU] at HN HCU
  rw [← hMD] at HN HCD
  clear hMU hMD
  have s0 := (HB2.out.1).cell 0 rfl
  have s1 := (HB2.out.1).cell 1 rfl
  have sz := (HB2.out.1).2
  have t0 := (HB2.out.2.1).cell 0 rfl
  have t1 := (HB2.out.2.1).cell 1 rfl
  have tz := (HB2.out.2.1).2
  go_upto_region 3 with fail
  clear s0 s1 sz t0 t1 tz
  have HD : Hid (Bx w2.drew w.heap.size [.slice a1 u.length k1, .slice a2 d.length k2] ∧ Bx w2.drew (w.heap.size + 1) [.slice a3 u2.length k3, .slice a4 d2.length k4] ∧ Bx w2.drew (w.heap.size + 1 + 1) [.slice none 0 0, .slice none 0 0] ∧ Below w.heap.size w w2.drew) := ⟨HB2.out.1.next (below_drew _), HB2.out.2.1.next (below_drew _), HB2.out.2.2.1.next (below_drew _), HB2.out.2.2.2.drew⟩
  refine wp_region_noPanic ?_
  refine wp_region_held_drew (S := fun W => Bx W w.heap.size [.slice a1 u.length k1, .slice a2 d.length k2] ∧ Bx W (w.heap.size + 1) [.slice a3 u2.length k3, .slice a4 d2.length k4]) (by kernel_rfl) ⟨HD.out.1, HD.out.2.1⟩ (fun hHeld => ?_)
  obtain ⟨W, hWE⟩ : ∃ x, x = w2.drew := ⟨_, rfl⟩
  rw [← hWE] at HD hHeld ⊢
  clear hWE
  refine take_v (v := ?_) 0 ⟨some 15, Op.fieldAddr 25 (Operand.tmp 2) 0, _, _, _, none⟩ rfl (fun _ _ _ h => h) ?_ hHeld ?_
  rotate_left
  · (intro W _; go_simp <;> (try with_reducible rfl))
  refine take_v (v := ?_) 1 ⟨some 16, Op.load 23 (Operand.tmp 15), _, _, _, none⟩ rfl (fun _ _ _ h => h) ?_ hHeld ?_
  rotate_left
  · (intro W hSW; (have s0 := hSW.1.cell 0 rfl; have s1 := hSW.1.cell 1 rfl; have sz := hSW.1.2; have t0 := hSW.2.cell 0 rfl; have t1 := hSW.2.cell 1 rfl; have tz := hSW.2.2); go_simp <;> (try with_reducible rfl))
  refine take_v (v := ?_) 2 ⟨some 17, Op.fieldAddr 25 (Operand.tmp 3) 0, _, _, _, none⟩ rfl (fun _ _ _ h => h) ?_ hHeld ?_
  rotate_left
  · (intro W _; go_simp <;> (try with_reducible rfl))
  refine take_v (v := ?_) 3 ⟨some 18, Op.load 23 (Operand.tmp 17), _, _, _, none⟩ rfl (fun _ _ _ h => h) ?_ hHeld ?_
  rotate_left
  · (intro W hSW; (have s0 := hSW.1.cell 0 rfl; have s1 := hSW.1.cell 1 rfl; have sz := hSW.1.2; have t0 := hSW.2.cell 0 rfl; have t1 := hSW.2.cell 1 rfl; have tz := hSW.2.2); go_simp <;> (try with_reducible rfl))
  refine take_v (v := ?_) 5 ⟨some 20, Op.fieldAddr 25 (Operand.tmp 2) 1, _, _, _, none⟩ rfl (fun _ _ _ h => h) ?_ hHeld ?_
  rotate_left
  · (intro W _; go_simp <;> (try with_reducible rfl))
  refine take_v (v := ?_) 6 ⟨some 21, Op.load 23 (Operand.tmp 20), _, _, _, none⟩ rfl (fun _ _ _ h => h) ?_ hHeld ?_
  rotate_left
  · (intro W hSW; (have s0 := hSW.1.cell 0 rfl; have s1 := hSW.1.cell 1 rfl; have sz := hSW.1.2; have t0 := hSW.2.cell 0 rfl; have t1 := hSW.2.cell 1 rfl; have tz := hSW.2.2); go_simp <;> (try with_reducible rfl))
  refine take_v (v := ?_) 7 ⟨some 22, Op.fieldAddr 25 (Operand.tmp 3) 1, _, _, _, none⟩ rfl (fun _ _ _ h => h) ?_ hHeld ?_
  rotate_left
  · (intro W _; go_simp <;> (try with_reducible rfl))
  refine take_v (v := ?_) 8 ⟨some 23, Op.load 23 (Operand.tmp 22), _, _, _, none⟩ rfl (fun _ _ _ h => h) ?_ hHeld ?_
  rotate_left
  · (intro W hSW; (have s0 := hSW.1.cell 0 rfl; have s1 := hSW.1.cell 1 rfl; have sz := hSW.1.2; have t0 := hSW.2.cell 0 rfl; have t1 := hSW.2.cell 1 rfl; have tz := hSW.2.2); go_simp <;> (try with_reducible rfl))
  refine ready_call 4 ⟨some 19, Op.call { callee := Callee.value (Operand.func 63), args := #[Operand.tmp 16, Operand.tmp 18], argTypes := #[23, 23] }, _, _, _, none⟩ (by kernel_rfl) rfl (by kernel_rfl) (fun KC hK => ?_)
  go_wp2_with fail
  refine (HCU.out _ HD.out.2.2.2).mono ?_
  rintro r W9 ⟨g1, c1, rfl, hR, hb⟩
  have hzW : w.heap.size + 1 + 1 + 1 ≤ W.heap.size := HD.out.2.2.1.2
  have HR1 : Hid (Rw 3 W9 (w.heap.size + 1 + 1 + 1) g1 c1 MU 6) := Hid.intro (hR.lower hzW)
  have HD := (show Hid (Bx W9 w.heap.size [.slice a1 u.length k1, .slice a2 d.length k2] ∧ Bx W9 (w.heap.size + 1) [.slice a3 u2.length k3, .slice a4 d2.length k4] ∧ Bx W9 (w.heap.size + 1 + 1) [.slice none 0 0, .slice none 0 0] ∧ Below w.heap.size w W9) from ⟨HD.out.1.next hb, HD.out.2.1.next hb, HD.out.2.2.1.next hb, below_next HD.out.2.2.2 hb⟩)
  clear hb hR hzW
  obtain ⟨W, hWE⟩ : ∃ x, x = W9 := ⟨_, rfl⟩
  subst hWE
  refine hK.out _ _ ⟨HD.out.1, HD.out.2.1⟩ (fun hHeld => ?_)
  clear hK KC
  refine ready_call 9 ⟨some 24, Op.call { callee := Callee.value (Operand.func 63), args := #[Operand.tmp 21, Operand.tmp 23], argTypes := #[23, 23] }, _, _, _, none⟩ (by kernel_rfl) rfl (by kernel_rfl) (fun KC hK => ?_)
  go_wp2_with fail
  refine (HCD.out _ HD.out.2.2.2).mono ?_
  rintro r W9 ⟨g2, c2, rfl, hR, hb⟩
  have hzW : w.heap.size + 1 + 1 + 1 ≤ W.heap.size := HD.out.2.2.1.2
  have HR2 : Hid (Rw 3 W9 (w.heap.size + 1 + 1 + 1) g2 c2 MD 6 ∧ g1 ≠ g2) := ⟨hR.lower hzW, by have q1 := HR1.out.lt; have q2 := hR.lt; omega⟩
  have HR1 := Hid.intro (HR1.out.next hb)
  have HD := (show Hid (Bx W9 w.heap.size [.slice a1 u.length k1, .slice a2 d.length k2] ∧ Bx W9 (w.heap.size + 1) [.slice a3 u2.length k3, .slice a4 d2.length k4] ∧ Bx W9 (w.heap.size + 1 + 1) [.slice none 0 0, .slice none 0 0] ∧ Below w.heap.size w W9) from ⟨HD.out.1.next hb, HD.out.2.1.next hb, HD.out.2.2.1.next hb, below_next HD.out.2.2.2 hb⟩)
  clear hb hR hzW
  obtain ⟨W, hWE⟩ : ∃ x, x = W9 := ⟨_, rfl⟩
  subst hWE
  refine hK.out _ _ ⟨HD.out.1, HD.out.2.1⟩ (fun hHeld => ?_)
  clear hK KC
  refine take_v (v := ?_) 10 ⟨some 25, Op.build 25 #[(0, Operand.tmp 19), (1, Operand.tmp 24)], _, _, _, none⟩ rfl (fun _ _ _ h => h) ?_ hHeld ?_
  rotate_left
  · (intro W _; go_simp <;> (try with_reducible rfl))
  refine ready_call 11 ⟨none, Op.store 25 (Operand.tmp 4) (Operand.tmp 25), _, _, _, none⟩ (by kernel_rfl) rfl (by kernel_rfl) (fun KC hK => ?_)
  have hq := HD.out.2.2.1
  have r0 := (hq).cell 0 rfl
  have r1 := (hq).cell 1 rfl
  have rz := (hq).2
  have rf0 := (hq).frz 0 (by simp)
  have rf1 := (hq).frz 1 (by simp)
  go_wp2_with fail
  clear hq
  refine hK.out _ _ ⟨(HD.out.1.other (by omega)).other (by omega), (HD.out.2.1.other (by omega)).other (by omega)⟩ (fun hHeld => ?_)
  clear hK KC
  refine take_v (v := ?_) 12 ⟨some 5, Op.assign (Operand.const (Value.bool true)), _, _, _, none⟩ rfl (fun _ _ _ h => h) ?_ hHeld ?_
  rotate_left
  · (intro W _; go_simp <;> (try with_reducible rfl))
  refine wpAnyH_done (by kernel_rfl) ?_ _
  refine NoPanic.normal ?_
  clear hHeld
  have hse : Hid (TurnS (fun k => k = w.heap.size + 1 + 1) W ((W.setCell ⟨w.heap.size + 1 + 1, 0, none⟩ (.slice (some ⟨g1, 0, none⟩) 6 c1)).setCell ⟨w.heap.size + 1 + 1, 1, none⟩ (.slice (some ⟨g2, 0, none⟩) 6 c2))) := Hid.intro (set2 W (w.heap.size + 1 + 1) _ _)
  have hl1 : w.heap.size + 1 + 1 + 1 ≤ g1 := HR1.out.lt.2
  have hl2 : w.heap.size + 1 + 1 + 1 ≤ g2 := HR2.out.1.lt.2
  have HF : Hid (CnP (mcA u d u2 d2) w (.returned (.tuple #[.agg #[.slice (some ⟨g1, 0, none⟩) 6 c1, .slice (some ⟨g2, 0, none⟩) 6 c2], .bool true])) ((W.setCell ⟨w.heap.size + 1 + 1, 0, none⟩ (.slice (some ⟨g1, 0, none⟩) 6 c1)).setCell ⟨w.heap.size + 1 + 1, 1, none⟩ (.slice (some ⟨g2, 0, none⟩) 6 c2))) := Hid.intro (rows_done (HR1.out.turn hse.out (fun e => by have e : g1 = w.heap.size + 1 + 1 := e; omega)) (HR2.out.1.turn hse.out (fun e => by have e : g2 = w.heap.size + 1 + 1 := e; omega)) HR2.out.2 HN.out (HD.out.2.2.2.trans (hse.out.below (fun k e => by have e : k = w.heap.size + 1 + 1 := e; omega) HD.out.2.2.2.size)) (by omega))
  go_wp2_with fail
  exact bodyPost_ret (v := .tuple #[.agg #[.slice (some ⟨g1, 0, none⟩) 6 c1, .slice (some ⟨g2, 0, none⟩) 6 c2], .bool true]) (by simp [results, Try.results18, go_sem, *]) rfl HF.out
theorem mergeCounter_l (cs cs' : List Value) (u d u2 d2 : List (Sh.T .int)) (w : World) (U D : List (Sh.T .int)) (z : Bool) (hA : mcA u d u2 d2 = (U, D, z)) (hz : szD shCounter (u, d, ()) ≤ 1073741824) (hz' : szD shCounter (u2, d2, ()) ≤ 1073741824) (h : Lies w shCounter cs (u, d, ())) (h' : Lies w shCounter cs' (u2, d2, ())) :
    Calls Try.prog 18 #[.agg cs.toArray, .agg cs'.toArray] w (AnsP shCounter (U, D, ()) z w) := by
  have h1 := mergeCounter_n cs cs' u d u2 d2 w hz hz' h h'
  unfold CnP at h1
  rw [hA] at h1
  exact h1.mono (fun _ _ q => q.1)

set_option maxRecDepth 100000 in
set_option maxHeartbeats 4000000 in
theorem specMergeCounter_n (cs cs' : List Value) (u d u2 d2 : List (Sh.T .int)) (w : World) (hz : szD shCounter (u, d, ()) ≤ 1073741824) (hz' : szD shCounter (u2, d2, ()) ≤ 1073741824) (h : Lies w shCounter cs (u, d, ())) (h' : Lies w shCounter cs' (u2, d2, ())) :
    Calls Try.prog 19 #[.agg cs.toArray, .agg cs'.toArray] w (CnP (mcA u d u2 d2) w) := by
  obtain ⟨a1, k1, a2, k2, rfl, h1, h2⟩ := lies_Counter h
  obtain ⟨a3, k3, a4, k4, rfl, h3, h4⟩ := lies_Counter h'
  have HL : Hid (Lies w (.list .int) [.slice a1 u.length k1] u ∧ Lies w (.list .int) [.slice a2 d.length k2] d ∧ Lies w (.list .int) [.slice a3 u2.length k3] u2 ∧ Lies w (.list .int) [.slice a4 d2.length k4] d2) := ⟨h1, h2, h3, h4⟩
  obtain ⟨w0, hw0⟩ : ∃ x, x = ((w.alloc (.cells #[.slice a1 u.length k1, .slice a2 d.length k2] 25)).alloc (.cells #[.slice a3 u2.length k3, .slice a4 d2.length k4] 25)).alloc (.cells #[.slice none 0 0, .slice none 0 0] 25) := ⟨_, rfl⟩
  have HB0 : Hid (Bx w0 w.heap.size [.slice a1 u.length k1, .slice a2 d.length k2] ∧ Bx w0 (w.heap.size + 1) [.slice a3 u2.length k3, .slice a4 d2.length k4] ∧ Bx w0 (w.heap.size + 1 + 1) [.slice none 0 0, .slice none 0 0] ∧ Below w.heap.size w w0) := ⟨hw0 ▸ ((Bx.new w [_, _] _).alloc _).alloc _, hw0 ▸ (Bx.newAt (by simp)).alloc _, hw0 ▸ Bx.newAt (by simp), hw0 ▸ (((Below.refl _ _).alloc (Nat.le_refl _) _).alloc (by simp) _).alloc (by simp; omega) _⟩
  have HC : Hid (∀ W, Below w.heap.size w W → Calls Try.prog 24 #[.agg #[.slice a1 u.length k1, .slice a2 d.length k2]] W fun r w' => r = .returned (.bool (tf (goodC u d))) ∧ Below W.heap.size W w') := Hid.intro (fun W hb => specGoodCounter_n _ u d W hz (h.next hb))
  have HC2 : Hid (∀ W, Below w.heap.size w W → Calls Try.prog 24 #[.agg #[.slice a3 u2.length k3, .slice a4 d2.length k4]] W fun r w' => r = .returned (.bool (tf (goodC u2 d2))) ∧ Below W.heap.size W w') := Hid.intro (fun W hb => specGoodCounter_n _ u2 d2 W hz' (h'.next hb))
  clear h h' h1 h2 h3 h4 hz hz'
  go_enter Try.func19, Try.ntmps19
  go_upto_region 1 with fail
  rw [← hw0]
  clear hw0
  have s0 := (HB0.out.1).cell 0 rfl
  have s1 := (HB0.out.1).cell 1 rfl
  have sz := (HB0.out.1).2
  have t0 := (HB0.out.2.1).cell 0 rfl
  have t1 := (HB0.out.2.1).cell 1 rfl
  have tz := (HB0.out.2.1).2
  have r0 := (HB0.out.2.2.1).cell 0 rfl
  have r1 := (HB0.out.2.2.1).cell 1 rfl
  have rz := (HB0.out.2.2.1).2
  have rf0 := (HB0.out.2.2.1).frz 0 (by simp)
  have rf1 := (HB0.out.2.2.1).frz 1 (by simp)
  go_wp2_with fail
  refine (HC.out _ HB0.out.2.2.2).mono ?_
  rintro r w1 ⟨rfl, hb⟩
  have HB1 : Hid (Bx w1 w.heap.size [.slice a1 u.length k1, .slice a2 d.length k2] ∧ Bx w1 (w.heap.size + 1) [.slice a3 u2.length k3, .slice a4 d2.length k4] ∧ Bx w1 (w.heap.size + 1 + 1) [.slice none 0 0, .slice none 0 0] ∧ Below w.heap.size w w1) := ⟨HB0.out.1.next hb, HB0.out.2.1.next hb, HB0.out.2.2.1.next hb, below_next HB0.out.2.2.2 hb⟩
  clear hb HB0 s0 s1 sz t0 t1 tz r0 r1 rz rf0 rf1
  have s0 := (HB1.out.1).cell 0 rfl
  have s1 := (HB1.out.1).cell 1 rfl
  have sz := (HB1.out.1).2
  have t0 := (HB1.out.2.1).cell 0 rfl
  have t1 := (HB1.out.2.1).cell 1 rfl
  have tz := (HB1.out.2.1).2
  have r0 := (HB1.out.2.2.1).cell 0 rfl
  have r1 := (HB1.out.2.2.1).cell 1 rfl
  have rz := (HB1.out.2.2.1).2
  have rf0 := (HB1.out.2.2.1).frz 0 (by simp)
  have rf1 := (HB1.out.2.2.1).frz 1 (by simp)
  cases e1 : tf (goodC u d)
  · have HN : Hid (mcA u d u2 d2 = ([], [], false)) := Hid.intro (mcA_no (fun q => by rw [tf_yes q.1] at e1; cases e1))
    clear e1
    go_wp2_with fail
    exact bodyPost_ret (v := .tuple #[.agg #[.slice none 0 0, .slice none 0 0], .bool false]) (by simp [results, Try.results19, go_sem, *]) rfl (CnP.zero HN.out (HB1.out.2.2.2.trans ((set2 _ (w.heap.size + 1 + 1) _ _).below (fun k e => by have e : k = w.heap.size + 1 + 1 := e; omega) HB1.out.2.2.2.size)))
  have HG1 := Hid.intro (tf_iff.1 e1)
  clear e1
  go_wp2_with fail
  refine (HC2.out _ HB1.out.2.2.2).mono ?_
  rintro r w2 ⟨rfl, hb⟩
  have HB2 : Hid (Bx w2 w.heap.size [.slice a1 u.length k1, .slice a2 d.length k2] ∧ Bx w2 (w.heap.size + 1) [.slice a3 u2.length k3, .slice a4 d2.length k4] ∧ Bx w2 (w.heap.size + 1 + 1) [.slice none 0 0, .slice none 0 0] ∧ Below w.heap.size w w2) := ⟨HB1.out.1.next hb, HB1.out.2.1.next hb, HB1.out.2.2.1.next hb, below_next HB1.out.2.2.2 hb⟩
  clear hb HB1 s0 s1 sz t0 t1 tz r0 r1 rz rf0 rf1
  have s0 := (HB2.out.1).cell 0 rfl
  have s1 := (HB2.out.1).cell 1 rfl
  have sz := (HB2.out.1).2
  have t0 := (HB2.out.2.1).cell 0 rfl
  have t1 := (HB2.out.2.1).cell 1 rfl
  have tz := (HB2.out.2.1).2
  have r0 := (HB2.out.2.2.1).cell 0 rfl
  have r1 := (HB2.out.2.2.1).cell 1 rfl
  have rz := (HB2.out.2.2.1).2
  have rf0 := (HB2.out.2.2.1).frz 0 (by simp)
  have rf1 := (HB2.out.2.2.1).frz 1 (by simp)
  cases e2 : tf (goodC u2 d2)
  · have HN : Hid (mcA u d u2 d2 = ([], [], false)) := Hid.intro (mcA_no (fun q => by rw [tf_yes q.2] at e2; cases e2))
    clear e2
    go_wp2_with fail
    exact bodyPost_ret (v := .tuple #[.agg #[.slice none 0 0, .slice none 0 0], .bool false]) (by simp [results, Try.results19, go_sem, *]) rfl (CnP.zero HN.out (HB2.out.2.2.2.trans ((set2 _ (w.heap.size + 1 + 1) _ _).below (fun k e => by have e : k = w.heap.size + 1 + 1 := e; omega) HB2.out.2.2.2.size)))
  have HG2 := Hid.intro (tf_iff.1 e2)
  have HN : Hid (mcA u d u2 d2 = (mxL u u2, mxL d d2, true)) := Hid.intro (mcA_yes ⟨HG1.out, tf_iff.1 e2⟩)
  clear e2 s0 s1 sz t0 t1 tz r0 r1 rz rf0 rf1
  have HLN : Hid ((u.length = 6 ∧ d.length = 6) ∧ u2.length = 6 ∧ d2.length = 6) := ⟨⟨HG1.out.1.1, HG1.out.2.1⟩, HG2.out.1.1, HG2.out.2.1⟩
  have HCU : Hid (∀ W, Below w.heap.size w W → Calls Try.prog 64 #[.slice a1 u.length k1, .slice a3 u2.length k3] W (SixP (mxL u u2) W)) := Hid.intro (fun W hb => by have q := l2Merge_n a1 k1 a3 k3 u u2 W HLN.out.1.1 HLN.out.2.1 (HL.out.1.next hb) (HL.out.2.2.1.next hb); rw [HLN.out.1.1, HLN.out.2.1]; exact q)
  have HCD : Hid (∀ W, Below w.heap.size w W → Calls Try.prog 64 #[.slice a2 d.length k2, .slice a4 d2.length k4] W (SixP (mxL d d2) W)) := Hid.intro (fun W hb => by have q := l2Merge_n a2 k2 a4 k4 d d2 W HLN.out.1.2 HLN.out.2.2 (HL.out.2.1.next hb) (HL.out.2.2.2.next hb); rw [HLN.out.1.2, HLN.out.2.2]; exact q)
  obtain ⟨MU, hMU⟩ : ∃ x, x = mxL u u2 := ⟨_, rfl⟩
  obtain ⟨MD, hMD⟩ : ∃ x, x = mxL d d2 := ⟨_, rfl⟩
  rw [← hMU] at HN HCU
  rw [← hMD] at HN HCD
  clear hMU hMD
  have s0 := (HB2.out.1).cell 0 rfl
  have s1 := (HB2.out.1).cell 1 rfl
  have sz := (HB2.out.1).2
  have t0 := (HB2.out.2.1).cell 0 rfl
  have t1 := (HB2.out.2.1).cell 1 rfl
  have tz := (HB2.out.2.1).2
  go_upto_region 3 with fail
  clear s0 s1 sz t0 t1 tz
  have HD : Hid (Bx w2.drew w.heap.size [.slice a1 u.length k1, .slice a2 d.length k2] ∧ Bx w2.drew (w.heap.size + 1) [.slice a3 u2.length k3, .slice a4 d2.length k4] ∧ Bx w2.drew (w.heap.size + 1 + 1) [.slice none 0 0, .slice none 0 0] ∧ Below w.heap.size w w2.drew) := ⟨HB2.out.1.next (below_drew _), HB2.out.2.1.next (below_drew _), HB2.out.2.2.1.next (below_drew _), HB2.out.2.2.2.drew⟩
  refine wp_region_noPanic ?_
  refine wp_region_held_drew (S := fun W => Bx W w.heap.size [.slice a1 u.length k1, .slice a2 d.length k2] ∧ Bx W (w.heap.size + 1) [.slice a3 u2.length k3, .slice a4 d2.length k4]) (by kernel_rfl) ⟨HD.out.1, HD.out.2.1⟩ (fun hHeld => ?_)
  obtain ⟨W, hWE⟩ : ∃ x, x = w2.drew := ⟨_, rfl⟩
  rw [← hWE] at HD hHeld ⊢
  clear hWE
  refine take_v (v := ?_) 0 ⟨some 15, Op.fieldAddr 25 (Operand.tmp 2) 0, _, _, _, none⟩ rfl (fun _ _ _ h => h) ?_ hHeld ?_
  rotate_left
  · (intro W _; go_simp <;> (try with_reducible rfl))
  refine take_v (v := ?_) 1 ⟨some 16, Op.load 23 (Operand.tmp 15), _, _, _, none⟩ rfl (fun _ _ _ h => h) ?_ hHeld ?_
  rotate_left
  · (intro W hSW; (have s0 := hSW.1.cell 0 rfl; have s1 := hSW.1.cell 1 rfl; have sz := hSW.1.2; have t0 := hSW.2.cell 0 rfl; have t1 := hSW.2.cell 1 rfl; have tz := hSW.2.2); go_simp <;> (try with_reducible rfl))
  refine take_v (v := ?_) 2 ⟨some 17, Op.fieldAddr 25 (Operand.tmp 3) 0, _, _, _, none⟩ rfl (fun _ _ _ h => h) ?_ hHeld ?_
  rotate_left
  · (intro W _; go_simp <;> (try with_reducible rfl))
  refine take_v (v := ?_) 3 ⟨some 18, Op.load 23 (Operand.tmp 17), _, _, _, none⟩ rfl (fun _ _ _ h => h) ?_ hHeld ?_
  rotate_left
  · (intro W hSW; (have s0 := hSW.1.cell 0 rfl; have s1 := hSW.1.cell 1 rfl; have sz := hSW.1.2; have t0 := hSW.2.cell 0 rfl; have t1 := hSW.2.cell 1 rfl; have tz := hSW.2.2); go_simp <;> (try with_reducible rfl))
  refine take_v (v := ?_) 5 ⟨some 20, Op.fieldAddr 25 (Operand.tmp 2) 1, _, _, _, none⟩ rfl (fun _ _ _ h => h) ?_ hHeld ?_
  rotate_left
  · (intro W _; go_simp <;> (try with_reducible rfl))
  refine take_v (v := ?_) 6 ⟨some 21, Op.load 23 (Operand.tmp 20), _, _, _, none⟩ rfl (fun _ _ _ h => h) ?_ hHeld ?_
  rotate_left
  · (intro W hSW; (have s0 := hSW.1.cell 0 rfl; have s1 := hSW.1.cell 1 rfl; have sz := hSW.1.2; have t0 := hSW.2.cell 0 rfl; have t1 := hSW.2.cell 1 rfl; have tz := hSW.2.2); go_simp <;> (try with_reducible rfl))
  refine take_v (v := ?_) 7 ⟨some 22, Op.fieldAddr 25 (Operand.tmp 3) 1, _, _, _, none⟩ rfl (fun _ _ _ h => h) ?_ hHeld ?_
  rotate_left
  · (intro W _; go_simp <;> (try with_reducible rfl))
  refine take_v (v := ?_) 8 ⟨some 23, Op.load 23 (Operand.tmp 22), _, _, _, none⟩ rfl (fun _ _ _ h => h) ?_ hHeld ?_
  rotate_left
  · (intro W hSW; (have s0 := hSW.1.cell 0 rfl; have s1 := hSW.1.cell 1 rfl; have sz := hSW.1.2; have t0 := hSW.2.cell 0 rfl; have t1 := hSW.2.cell 1 rfl; have tz := hSW.2.2); go_simp <;> (try with_reducible rfl))
  refine ready_call 4 ⟨some 19, Op.call { callee := Callee.value (Operand.func 64), args := #[Operand.tmp 16, Operand.tmp 18], argTypes := #[23, 23] }, _, _, _, none⟩ (by kernel_rfl) rfl (by kernel_rfl) (fun KC hK => ?_)
  go_wp2_with fail
  refine (HCU.out _ HD.out.2.2.2).mono ?_
  rintro r W9 ⟨g1, c1, rfl, hR, hb⟩
  have hzW : w.heap.size + 1 + 1 + 1 ≤ W.heap.size := HD.out.2.2.1.2
  have HR1 : Hid (Rw 3 W9 (w.heap.size + 1 + 1 + 1) g1 c1 MU 6) := Hid.intro (hR.lower hzW)
  have HD := (show Hid (Bx W9 w.heap.size [.slice a1 u.length k1, .slice a2 d.length k2] ∧ Bx W9 (w.heap.size + 1) [.slice a3 u2.length k3, .slice a4 d2.length k4] ∧ Bx W9 (w.heap.size + 1 + 1) [.slice none 0 0, .slice none 0 0] ∧ Below w.heap.size w W9) from ⟨HD.out.1.next hb, HD.out.2.1.next hb, HD.out.2.2.1.next hb, below_next HD.out.2.2.2 hb⟩)
  clear hb hR hzW
  obtain ⟨W, hWE⟩ : ∃ x, x = W9 := ⟨_, rfl⟩
  subst hWE
  refine hK.out _ _ ⟨HD.out.1, HD.out.2.1⟩ (fun hHeld => ?_)
  clear hK KC
  refine ready_call 9 ⟨some 24, Op.call { callee := Callee.value (Operand.func 64), args := #[Operand.tmp 21, Operand.tmp 23], argTypes := #[23, 23] }, _, _, _, none⟩ (by kernel_rfl) rfl (by kernel_rfl) (fun KC hK => ?_)
  go_wp2_with fail
  refine (HCD.out _ HD.out.2.2.2).mono ?_
  rintro r W9 ⟨g2, c2, rfl, hR, hb⟩
  have hzW : w.heap.size + 1 + 1 + 1 ≤ W.heap.size := HD.out.2.2.1.2
  have HR2 : Hid (Rw 3 W9 (w.heap.size + 1 + 1 + 1) g2 c2 MD 6 ∧ g1 ≠ g2) := ⟨hR.lower hzW, by have q1 := HR1.out.lt; have q2 := hR.lt; omega⟩
  have HR1 := Hid.intro (HR1.out.next hb)
  have HD := (show Hid (Bx W9 w.heap.size [.slice a1 u.length k1, .slice a2 d.length k2] ∧ Bx W9 (w.heap.size + 1) [.slice a3 u2.length k3, .slice a4 d2.length k4] ∧ Bx W9 (w.heap.size + 1 + 1) [.slice none 0 0, .slice none 0 0] ∧ Below w.heap.size w W9) from ⟨HD.out.1.next hb, HD.out.2.1.next hb, HD.out.2.2.1.next hb, below_next HD.out.2.2.2 hb⟩)
  clear hb hR hzW
  obtain ⟨W, hWE⟩ : ∃ x, x = W9 := ⟨_, rfl⟩
  subst hWE
  refine hK.out _ _ ⟨HD.out.1, HD.out.2.1⟩ (fun hHeld => ?_)
  clear hK KC
  refine take_v (v := ?_) 10 ⟨some 25, Op.build 25 #[(0, Operand.tmp 19), (1, Operand.tmp 24)], _, _, _, none⟩ rfl (fun _ _ _ h => h) ?_ hHeld ?_
  rotate_left
  · (intro W _; go_simp <;> (try with_reducible rfl))
  refine ready_call 11 ⟨none, Op.store 25 (Operand.tmp 4) (Operand.tmp 25), _, _, _, none⟩ (by kernel_rfl) rfl (by kernel_rfl) (fun KC hK => ?_)
  have hq := HD.out.2.2.1
  have r0 := (hq).cell 0 rfl
  have r1 := (hq).cell 1 rfl
  have rz := (hq).2
  have rf0 := (hq).frz 0 (by simp)
  have rf1 := (hq).frz 1 (by simp)
  go_wp2_with fail
  clear hq
  refine hK.out _ _ ⟨(HD.out.1.other (by omega)).other (by omega), (HD.out.2.1.other (by omega)).other (by omega)⟩ (fun hHeld => ?_)
  clear hK KC
  refine take_v (v := ?_) 12 ⟨some 5, Op.assign (Operand.const (Value.bool true)), _, _, _, none⟩ rfl (fun _ _ _ h => h) ?_ hHeld ?_
  rotate_left
  · (intro W _; go_simp <;> (try with_reducible rfl))
  refine wpAnyH_done (by kernel_rfl) ?_ _
  refine NoPanic.normal ?_
  clear hHeld
  have hse : Hid (TurnS (fun k => k = w.heap.size + 1 + 1) W ((W.setCell ⟨w.heap.size + 1 + 1, 0, none⟩ (.slice (some ⟨g1, 0, none⟩) 6 c1)).setCell ⟨w.heap.size + 1 + 1, 1, none⟩ (.slice (some ⟨g2, 0, none⟩) 6 c2))) := Hid.intro (set2 W (w.heap.size + 1 + 1) _ _)
  have hl1 : w.heap.size + 1 + 1 + 1 ≤ g1 := HR1.out.lt.2
  have hl2 : w.heap.size + 1 + 1 + 1 ≤ g2 := HR2.out.1.lt.2
  have HF : Hid (CnP (mcA u d u2 d2) w (.returned (.tuple #[.agg #[.slice (some ⟨g1, 0, none⟩) 6 c1, .slice (some ⟨g2, 0, none⟩) 6 c2], .bool true])) ((W.setCell ⟨w.heap.size + 1 + 1, 0, none⟩ (.slice (some ⟨g1, 0, none⟩) 6 c1)).setCell ⟨w.heap.size + 1 + 1, 1, none⟩ (.slice (some ⟨g2, 0, none⟩) 6 c2))) := Hid.intro (rows_done (HR1.out.turn hse.out (fun e => by have e : g1 = w.heap.size + 1 + 1 := e; omega)) (HR2.out.1.turn hse.out (fun e => by have e : g2 = w.heap.size + 1 + 1 := e; omega)) HR2.out.2 HN.out (HD.out.2.2.2.trans (hse.out.below (fun k e => by have e : k = w.heap.size + 1 + 1 := e; omega) HD.out.2.2.2.size)) (by omega))
  go_wp2_with fail
  exact bodyPost_ret (v := .tuple #[.agg #[.slice (some ⟨g1, 0, none⟩) 6 c1, .slice (some ⟨g2, 0, none⟩) 6 c2], .bool true]) (by simp [results, Try.results19, go_sem, *]) rfl HF.out
theorem specMergeCounter_l (cs cs' : List Value) (u d u2 d2 : List (Sh.T .int)) (w : World) (U D : List (Sh.T .int)) (z : Bool) (hA : mcA u d u2 d2 = (U, D, z)) (hz : szD shCounter (u, d, ()) ≤ 1073741824) (hz' : szD shCounter (u2, d2, ()) ≤ 1073741824) (h : Lies w shCounter cs (u, d, ())) (h' : Lies w shCounter cs' (u2, d2, ())) :
    Calls Try.prog 19 #[.agg cs.toArray, .agg cs'.toArray] w (AnsP shCounter (U, D, ()) z w) := by
  have h1 := specMergeCounter_n cs cs' u d u2 d2 w hz hz' h h'
  unfold CnP at h1
  rw [hA] at h1
  exact h1.mono (fun _ _ q => q.1)
theorem sz_mcA {u d u2 d2 U D : List (Sh.T .int)} {z : Bool} (h : mcA u d u2 d2 = (U, D, z)) : szD shCounter (U, D, ()) ≤ 1073741824 := by
  by_cases c : goodC u d ∧ goodC u2 d2
  · rw [mcA_yes c] at h
    cases h
    exact ct_small (mxL_len _ _) (mxL_len _ _)
  · rw [mcA_no c] at h
    cases h
    exact sz_ctr0
end Go.Proofs.Ytnglgndocmkbfaa
