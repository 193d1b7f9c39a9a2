/- Registers: spec.StepRegister. Written by tools/mkRsY.py. -/
import Derived.Test.YtaofolbnommpgaaRsX
import Derived.Test.YtaofolbnommpgaaRsO
import Derived.Test.YtaofolbnommpgaaRgS
namespace Go.Proofs.Ytaofolbnommpgaa
open Go.RowKit
set_option linter.unusedVariables false
set_option linter.unusedSimpArgs false

theorem toX_named {w w' : World} {r : Ending} {ck : Int} {cp : List (Sh.T shCopy)} {os : List (Sh.T shRegOp)} (h : ToX tyRegister (ck, cp, os, ()) w r w') : ∃ m1 n1 m2 n2 lo1 hi1, r = .returned (.agg #[.int .i64 ck, .slice m1 (List.length (α := Sh.T shCopy) cp) n1, .slice m2 (List.length (α := Sh.T shRegOp) os) n2]) ∧ lo1 = w.heap.size ∧ hi1 = w'.heap.size ∧ OwnX w' lo1 tyRegister [.int .i64 ck, .slice m1 (List.length (α := Sh.T shCopy) cp) n1, .slice m2 (List.length (α := Sh.T shRegOp) os) n2] (ck, cp, os, ()) (Btw lo1 hi1) ∧ Below w.heap.size w w' := by
  obtain ⟨cs2, rfl, hO, hb⟩ := h
  obtain ⟨va, _, vp, _, hcs, _⟩ := ownx_Register hO
  subst hcs
  obtain ⟨m1, n1, m2, n2, hm1, hm2⟩ := own_forms hO
  subst hm1 hm2
  exact ⟨m1, n1, m2, n2, _, _, rfl, rfl, rfl, hO, hb⟩
theorem out_box {w W : World} {lo b7 : Nat} {ck' : Int} {p q : Value} {cp' : List (Sh.T shCopy)} {os' : List (Sh.T shRegOp)} {S' : Nat → Prop} (h7 : Bx W b7 [.int .i64 0, .slice none 0 0, .slice none 0 0]) (hO : OwnX W lo tyRegister [.int .i64 ck', p, q] (ck', cp', os', ()) S') (hS : ∀ b, S' b → w.heap.size + 1 + 1 < b ∧ b < W.heap.size) (hn : ∀ b, S' b → b ≠ b7) (hz : Bx W (w.heap.size + 1 + 1) [.int .i64 0, .slice none 0 0, .slice none 0 0]) (hB : Below w.heap.size w W) (hl : w.heap.size + 1 + 1 < b7) :
    OwnX (((W.setCell ⟨b7, 0, none⟩ (.int .i64 ck')).setCell ⟨b7, 1, none⟩ p).setCell ⟨b7, 2, none⟩ q) lo tyRegister [.int .i64 ck', p, q] (ck', cp', os', ()) S' ∧ (∀ b, S' b → w.heap.size + 1 + 1 < b ∧ b < (((W.setCell ⟨b7, 0, none⟩ (.int .i64 ck')).setCell ⟨b7, 1, none⟩ p).setCell ⟨b7, 2, none⟩ q).heap.size) ∧ Bx (((W.setCell ⟨b7, 0, none⟩ (.int .i64 ck')).setCell ⟨b7, 1, none⟩ p).setCell ⟨b7, 2, none⟩ q) b7 [.int .i64 ck', p, q] ∧ Bx (((W.setCell ⟨b7, 0, none⟩ (.int .i64 ck')).setCell ⟨b7, 1, none⟩ p).setCell ⟨b7, 2, none⟩ q) (w.heap.size + 1 + 1) [.int .i64 0, .slice none 0 0, .slice none 0 0] ∧ Below w.heap.size w (((W.setCell ⟨b7, 0, none⟩ (.int .i64 ck')).setCell ⟨b7, 1, none⟩ p).setCell ⟨b7, 2, none⟩ q) := by
  have ht := set3 W b7 (.int .i64 ck') p q
  refine ⟨hO.turn ht (fun b hb e => hn b hb e), fun b hb => ⟨(hS b hb).1, by have := (hS b hb).2; have := ht.size; omega⟩, ((h7.set (k := 0) (by simp) _).set (k := 1) (by simp) _).set (k := 2) (by simp) _, ((hz.other (by omega)).other (by omega)).other (by omega), hB.trans (ht.below (fun b e => by have e : b = b7 := e; omega) hB.size)⟩

theorem fin_next {w W W' : World} {lo b7 : Nat} {ck' : Int} {p q : Value} {cp' : List (Sh.T shCopy)} {os' : List (Sh.T shRegOp)} {S' : Nat → Prop} (h : OwnX W lo tyRegister [.int .i64 ck', p, q] (ck', cp', os', ()) S' ∧ (∀ b, S' b → w.heap.size + 1 + 1 < b ∧ b < W.heap.size) ∧ Bx W b7 [.int .i64 ck', p, q] ∧ Bx W (w.heap.size + 1 + 1) [.int .i64 0, .slice none 0 0, .slice none 0 0] ∧ Below w.heap.size w W) (hb : Below W.heap.size W W') : OwnX W' lo tyRegister [.int .i64 ck', p, q] (ck', cp', os', ()) S' ∧ (∀ b, S' b → w.heap.size + 1 + 1 < b ∧ b < W'.heap.size) ∧ Bx W' b7 [.int .i64 ck', p, q] ∧ Bx W' (w.heap.size + 1 + 1) [.int .i64 0, .slice none 0 0, .slice none 0 0] ∧ Below w.heap.size w W' := ⟨h.1.next hb, fun b q => ⟨(h.2.1 b q).1, Nat.lt_of_lt_of_le (h.2.1 b q).2 hb.size⟩, h.2.2.1.next hb, h.2.2.2.1.next hb, below_next h.2.2.2.2 hb⟩

set_option maxRecDepth 100000 in
set_option maxHeartbeats 16000000 in
theorem specStepRegister_n (cs : List Value) (ck : Int) (cp : List (Sh.T shCopy)) (os : List (Sh.T shRegOp)) (bg : Bool) (cl : Int) (wt : Bool) (vl : ByteArray) (oi ni : Int) (w : World) (hz : szD shRegister (ck, cp, os, ()) ≤ 1073741824) (hv : vl.size ≤ 1073741824) (h : Lies w shRegister cs (ck, cp, os, ())) :
    Calls Try.prog 21 #[.agg cs.toArray, .agg #[.bool bg, .int .i64 cl, .bool wt, .string vl, .int .i64 oi, .int .i64 ni]] w (RsP (rsS ck cp os bg cl wt vl oi ni) w) := by
  obtain ⟨a1, k1, a2, k2, rfl, h1, h2⟩ := lies_Register h
  have HL : Hid (Lies w (.list shCopy) [.slice a1 cp.length k1] cp ∧ Lies w (.list shRegOp) [.slice a2 os.length k2] os) := ⟨h1, h2⟩
  have HZ : Hid (szD shRegister (ck, cp, os, ()) ≤ 1073741824 ∧ vl.size ≤ 1073741824) := ⟨hz, hv⟩
  clear h h1 h2 hz hv
  obtain ⟨w0, hw0⟩ : ∃ x, x = ((w.alloc (.cells #[.int .i64 ck, .slice a1 cp.length k1, .slice a2 os.length k2] 29)).alloc (.cells #[.bool bg, .int .i64 cl, .bool wt, .string vl, .int .i64 oi, .int .i64 ni] 42)).alloc (.cells #[.int .i64 0, .slice none 0 0, .slice none 0 0] 29) := ⟨_, rfl⟩
  have HB0 : Hid (Bx w0 w.heap.size [.int .i64 ck, .slice a1 cp.length k1, .slice a2 os.length k2] ∧ Bx w0 (w.heap.size + 1) (stC bg cl wt vl oi ni) ∧ Bx w0 (w.heap.size + 1 + 1) [.int .i64 0, .slice none 0 0, .slice none 0 0] ∧ Below w.heap.size w w0) :=
    ⟨hw0 ▸ ((Bx.new w [_, _, _] _).alloc _).alloc _, hw0 ▸ (Bx.newAt (by simp)).alloc _, hw0 ▸ Bx.newAt (by simp), hw0 ▸ (((Below.refl _ _).alloc (Nat.le_refl _) _).alloc (by simp) _).alloc (by simp <;> omega) _⟩
  go_enter Try.func21, Try.ntmps21
  go_wp2_with fail
  rw [← hw0]
  clear hw0
  refine (specGoodRegister_n [.int .i64 ck, .slice a1 cp.length k1, .slice a2 os.length k2] ck cp os _ HZ.out.1 (mk_Register (HL.out.1.next HB0.out.2.2.2) (HL.out.2.next HB0.out.2.2.2))).mono ?_
  rintro r w1 ⟨rfl, hb⟩
  have HD1 : Hid (Bx w1 w.heap.size [.int .i64 ck, .slice a1 cp.length k1, .slice a2 os.length k2] ∧ Bx w1 (w.heap.size + 1) (stC bg cl wt vl oi ni) ∧ Bx w1 (w.heap.size + 1 + 1) [.int .i64 0, .slice none 0 0, .slice none 0 0] ∧ Below w.heap.size w w1) := ⟨HB0.out.1.next hb, HB0.out.2.1.next hb, HB0.out.2.2.1.next hb, below_next HB0.out.2.2.2 hb⟩
  clear hb HB0
  by_cases c0 : goodR ck cp os
  case neg =>
    have r0 := (HD1.out.2.2.1).cell 0 rfl; have r1 := (HD1.out.2.2.1).cell 1 rfl; have r2 := (HD1.out.2.2.1).cell 2 rfl; have rz := (HD1.out.2.2.1).2
    have rf0 := HD1.out.2.2.1.frz 0 (by simp)
    have rf1 := HD1.out.2.2.1.frz 1 (by simp)
    have rf2 := HD1.out.2.2.1.frz 2 (by simp)
    rw [tf_no c0]
    have HN : Hid (rsS ck cp os bg cl wt vl oi ni = none) := Hid.intro (rsS_bad c0)
    clear c0
    go_wp2_with fail
    exact bodyPost_ret (v := .tuple #[.agg #[.int .i64 0, .slice none 0 0, .slice none 0 0], .bool false]) (by simp [results, Try.results21, go_sem, *]) rfl (RsP.zero HN.out (HD1.out.2.2.2.trans ((set3 w1 (w.heap.size + 1 + 1) _ _ _).below (fun k e => by have e : k = w.heap.size + 1 + 1 := e; omega) HD1.out.2.2.2.size)))
  rw [tf_yes c0]
  have HG : Hid (goodR ck cp os) := c0
  clear c0
  go_upto_region 3 with fail
  have HD : Hid (Bx w1.drew w.heap.size [.int .i64 ck, .slice a1 cp.length k1, .slice a2 os.length k2] ∧ Bx w1.drew (w.heap.size + 1) (stC bg cl wt vl oi ni) ∧ Bx w1.drew (w.heap.size + 1 + 1) [.int .i64 0, .slice none 0 0, .slice none 0 0] ∧ Below w.heap.size w w1.drew) := ⟨HD1.out.1.next (below_drew _), HD1.out.2.1.next (below_drew _), HD1.out.2.2.1.next (below_drew _), below_next HD1.out.2.2.2 (below_drew _)⟩
  clear HD1
  cases hE : rsC ck cp os bg cl wt vl oi ni
  · have HN : Hid (rsS ck cp os bg cl wt vl oi ni = none) := Hid.intro (by
      by_cases hk : ck = 1000
      · exact rsS_end hk
      · rw [rsC_on hk] at hE; exact rsS_none hE)
    have HEE := Hid.intro hE
    clear hE
    refine wp_region_noPanic ?_
    refine wp_region_held_drew (S := fun W => Bx W w.heap.size [.int .i64 ck, .slice a1 cp.length k1, .slice a2 os.length k2] ∧ Bx W (w.heap.size + 1) (stC bg cl wt vl oi ni)) (by kernel_rfl) ⟨HD.out.1, HD.out.2.1⟩ (fun hHeld => ?_)
    obtain ⟨X0, hX0⟩ : ∃ x, x = w1.drew := ⟨_, rfl⟩
    rw [← hX0] at HD hHeld ⊢
    clear hX0
    refine take_v (v := ?_) 0 ⟨some 13, Op.load 29 (Operand.tmp 2), _, _, _, none⟩ rfl (fun _ _ _ h => h) ?_ hHeld ?_
    rotate_left
    · (intro W hSW; (have s0 := hSW.1.cell 0 rfl; have s1 := hSW.1.cell 1 rfl; have s2 := hSW.1.cell 2 rfl; have sz := hSW.1.2; have t0 := hSW.2.cell 0 rfl; have t1 := hSW.2.cell 1 rfl; have t2 := hSW.2.cell 2 rfl; have t3 := hSW.2.cell 3 rfl; have t4 := hSW.2.cell 4 rfl; have t5 := hSW.2.cell 5 rfl; have tz := hSW.2.2); go_simp <;> (try with_reducible rfl))
    refine take_v (v := ?_) 2 ⟨some 15, Op.load 42 (Operand.tmp 3), _, _, _, none⟩ rfl (fun _ _ _ h => h) ?_ hHeld ?_
    rotate_left
    · (intro W hSW; (have s0 := hSW.1.cell 0 rfl; have s1 := hSW.1.cell 1 rfl; have s2 := hSW.1.cell 2 rfl; have sz := hSW.1.2; have t0 := hSW.2.cell 0 rfl; have t1 := hSW.2.cell 1 rfl; have t2 := hSW.2.cell 2 rfl; have t3 := hSW.2.cell 3 rfl; have t4 := hSW.2.cell 4 rfl; have t5 := hSW.2.cell 5 rfl; have tz := hSW.2.2); go_simp <;> (try with_reducible rfl))
    refine ready_two 1 7 ⟨some 14, Op.call { callee := Callee.value (Operand.func 48), args := #[Operand.tmp 13], argTypes := #[29] }, _, _, _, none⟩ ⟨some 6, Op.alloc 29, _, _, _, none⟩ (by kernel_rfl) rfl rfl (by kernel_rfl) (by kernel_rfl) (fun KC hK => ?_) (fun KC hK => ?_)
    ·
      go_wp2_with fail
      refine (l9Own_n [.int .i64 ck, .slice a1 cp.length k1, .slice a2 os.length k2] ck cp os _ (good_sml HG.out) (mk_Register (HL.out.1.next HD.out.2.2.2) (HL.out.2.next HD.out.2.2.2))).mono ?_
      intro r W1 hT1
      obtain ⟨m1, n1, m2, n2, lo1, hi1, rfl, hlo1, hhi1, hO, hb⟩ := toX_named hT1
      clear hT1
      have HO1 : Hid (OwnX W1 lo1 tyRegister [.int .i64 ck, .slice m1 (List.length (α := Sh.T shCopy) cp) n1, .slice m2 (List.length (α := Sh.T shRegOp) os) n2] (ck, cp, os, ()) (Btw lo1 hi1) ∧ w.heap.size + 1 + 1 < lo1 ∧ hi1 ≤ W1.heap.size ∧ lo1 ≤ hi1) := ⟨hO, by have := HD.out.2.2.1.2; omega, by omega, by have := hb.size; omega⟩
      (first | (have H7 : Hid (Bx W1 b7 [.int .i64 0, .slice none 0 0, .slice none 0 0] ∧ w.heap.size + 1 + 1 < b7 ∧ (b7 < lo1 ∨ hi1 ≤ b7)) := ⟨H7.out.1.next hb, H7.out.2, Or.inl (by have := H7.out.1.2; omega)⟩) | skip)
      have HD : Hid (Bx W1 w.heap.size [.int .i64 ck, .slice a1 cp.length k1, .slice a2 os.length k2] ∧ Bx W1 (w.heap.size + 1) (stC bg cl wt vl oi ni) ∧ Bx W1 (w.heap.size + 1 + 1) [.int .i64 0, .slice none 0 0, .slice none 0 0] ∧ Below w.heap.size w W1) := ⟨HD.out.1.next hb, HD.out.2.1.next hb, HD.out.2.2.1.next hb, below_next HD.out.2.2.2 hb⟩
      clear hb hO hlo1 hhi1
      refine hK.out _ _ ⟨HD.out.1, HD.out.2.1⟩ (fun hHeld => ?_)
      clear hK KC
      refine ready_two 3 7 ⟨some 16, Op.call { callee := Callee.value (Operand.func 47), args := #[Operand.tmp 14, Operand.tmp 15], argTypes := #[29, 42] }, _, _, _, none⟩ ⟨some 6, Op.alloc 29, _, _, _, none⟩ (by kernel_rfl) rfl rfl (by kernel_rfl) (by kernel_rfl) (fun KC hK => ?_) (fun KC hK => ?_)
      ·
        go_wp2_with fail
        refine (l9Step_n lo1 ck _ _ cp os (Btw lo1 hi1) bg cl wt vl oi ni _ HG.out HZ.out.2 (fun b hb => by have := HO1.out.2.2.1; simp only [Btw] at hb; omega) (by have := HO1.out.2.2; omega) HO1.out.1).mono ?_
        rintro r W2 ⟨ck', va', vp', cp', os', S', rfl, hO, hS', hT, hy⟩
        obtain ⟨p1, q1, p2, q2, hp1, hp2⟩ := own_forms hO
        subst hp1 hp2
        have hl1 := HO1.out.2.1
        have hl2 := HO1.out.2.2
        have hsz := HD.out.2.2.2.size
        have hnb : ∀ b, b ≤ w.heap.size + 1 + 1 → ¬ Btw lo1 hi1 b := fun b hb q => by simp only [Btw] at q; omega
        have HO2 : Hid (OwnX W2 lo1 tyRegister [.int .i64 ck', .slice p1 (List.length (α := Sh.T shCopy) cp') q1, .slice p2 (List.length (α := Sh.T shRegOp) os') q2] (ck', cp', os', ()) S' ∧ (∀ b, S' b → w.heap.size + 1 + 1 < b ∧ b < W2.heap.size) ∧ ∀ y : RgD, rsC ck cp os bg cl wt vl oi ni = some y → ck' = ck + 1 ∧ cp' = y.1 ∧ os' = y.2) := ⟨hO, fun b hb => ⟨by rcases (hS' b hb).2 with q | q; (· simp only [Btw] at q; omega); (· omega), (hS' b hb).1⟩, fun y e => hy y e⟩
        (first | (have HN7 : Hid (∀ b, S' b → b ≠ b7) := Hid.intro (fun b hb e => by have h7 := H7.out.2.2; have h8 := H7.out.1.2; rcases (hS' b hb).2 with q | q; (· simp only [Btw] at q; omega); (· omega)); have H7 : Hid (Bx W2 b7 [.int .i64 0, .slice none 0 0, .slice none 0 0] ∧ w.heap.size + 1 + 1 < b7) := ⟨H7.out.1.turnS hT (fun q => by have h7 := H7.out.2.2; simp only [Btw] at q; omega), H7.out.2.1⟩) | skip)
        have HD : Hid (Bx W2 w.heap.size [.int .i64 ck, .slice a1 cp.length k1, .slice a2 os.length k2] ∧ Bx W2 (w.heap.size + 1) (stC bg cl wt vl oi ni) ∧ Bx W2 (w.heap.size + 1 + 1) [.int .i64 0, .slice none 0 0, .slice none 0 0] ∧ Below w.heap.size w W2) := ⟨HD.out.1.turnS hT (hnb _ (by omega)), HD.out.2.1.turnS hT (hnb _ (by omega)), HD.out.2.2.1.turnS hT (hnb _ (by omega)), HD.out.2.2.2.trans (hT.below (fun b q => by simp only [Btw] at q; omega) hsz)⟩
        have HE3 := Hid.intro HEE.out
        rw [HEE.out]
        simp only [Option.isSome_none]
        clear hO hS' hT hy hl1 hl2 hsz hnb HO1
        refine hK.out _ _ ⟨HD.out.1, HD.out.2.1⟩ (fun hHeld => ?_)
        clear hK KC
        refine take_v (v := ?_) 4 ⟨some 12, Op.move (Operand.tmp 16), _, _, _, none⟩ rfl (fun _ _ _ h => h) ?_ hHeld ?_
        rotate_left
        · (intro W _; go_simp <;> (try with_reducible rfl))
        refine take_v (v := ?_) 5 ⟨some 17, Op.extract (Operand.tmp 12) 0, _, _, _, none⟩ rfl (fun _ _ _ h => h) ?_ hHeld ?_
        rotate_left
        · (intro W _; go_simp <;> (try with_reducible rfl))
        refine take_v (v := ?_) 6 ⟨some 18, Op.extract (Operand.tmp 12) 1, _, _, _, none⟩ rfl (fun _ _ _ h => h) ?_ hHeld ?_
        rotate_left
        · (intro W _; go_simp <;> (try with_reducible rfl))
        refine ready_call 7 ⟨some 6, Op.alloc 29, _, _, _, none⟩ (by kernel_rfl) rfl (by kernel_rfl) (fun KC hK => ?_)
        go_wp2_with fail
        (first | (obtain ⟨W7, hW7⟩ : ∃ x, x = W2.alloc (.cells #[.int .i64 0, .slice none 0 0, .slice none 0 0] 29) := ⟨_, rfl⟩; have hb : Below W2.heap.size W2 W7 := hW7 ▸ Go.Joins.below_alloc1 _ _; obtain ⟨b7, hb7⟩ : ∃ b, b = W2.heap.size := ⟨_, rfl⟩; have HN7 : Hid (∀ b, S' b → b ≠ b7) := Hid.intro (fun b hb => by have := (HO2.out.2.1 b hb).2; omega); have H7 : Hid (Bx W7 b7 [.int .i64 0, .slice none 0 0, .slice none 0 0] ∧ w.heap.size + 1 + 1 < b7) := ⟨hb7 ▸ hW7 ▸ Bx.new W2 [_, _, _] _, by have := HD.out.2.2.1.2; omega⟩; have HO2 : Hid (OwnX W7 lo1 tyRegister [.int .i64 ck', .slice p1 (List.length (α := Sh.T shCopy) cp') q1, .slice p2 (List.length (α := Sh.T shRegOp) os') q2] (ck', cp', os', ()) S' ∧ (∀ b, S' b → w.heap.size + 1 + 1 < b ∧ b < W7.heap.size) ∧ ∀ y : RgD, rsC ck cp os bg cl wt vl oi ni = some y → ck' = ck + 1 ∧ cp' = y.1 ∧ os' = y.2) := ⟨HO2.out.1.next hb, fun b hb' => ⟨(HO2.out.2.1 b hb').1, Nat.lt_of_lt_of_le (HO2.out.2.1 b hb').2 hb.size⟩, HO2.out.2.2⟩; have HD : Hid (Bx W7 w.heap.size [.int .i64 ck, .slice a1 cp.length k1, .slice a2 os.length k2] ∧ Bx W7 (w.heap.size + 1) (stC bg cl wt vl oi ni) ∧ Bx W7 (w.heap.size + 1 + 1) [.int .i64 0, .slice none 0 0, .slice none 0 0] ∧ Below w.heap.size w W7) := ⟨HD.out.1.next hb, HD.out.2.1.next hb, HD.out.2.2.1.next hb, below_next HD.out.2.2.2 hb⟩; rw [← hW7]; rw [← hb7]; clear hW7 hb hb7) | (obtain ⟨W7, hW7⟩ : ∃ x, x = W1.alloc (.cells #[.int .i64 0, .slice none 0 0, .slice none 0 0] 29) := ⟨_, rfl⟩; have hb : Below W1.heap.size W1 W7 := hW7 ▸ Go.Joins.below_alloc1 _ _; obtain ⟨b7, hb7⟩ : ∃ b, b = W1.heap.size := ⟨_, rfl⟩; have H7 : Hid (Bx W7 b7 [.int .i64 0, .slice none 0 0, .slice none 0 0] ∧ w.heap.size + 1 + 1 < b7 ∧ (b7 < lo1 ∨ hi1 ≤ b7)) := ⟨hb7 ▸ hW7 ▸ Bx.new W1 [_, _, _] _, by have := HD.out.2.2.1.2; omega, Or.inr (by have := HO1.out.2.2.1; omega)⟩; have HO1 : Hid (OwnX W7 lo1 tyRegister [.int .i64 ck, .slice m1 (List.length (α := Sh.T shCopy) cp) n1, .slice m2 (List.length (α := Sh.T shRegOp) os) n2] (ck, cp, os, ()) (Btw lo1 hi1) ∧ w.heap.size + 1 + 1 < lo1 ∧ hi1 ≤ W7.heap.size ∧ lo1 ≤ hi1) := ⟨HO1.out.1.next hb, HO1.out.2.1, Nat.le_trans HO1.out.2.2.1 hb.size, HO1.out.2.2.2⟩; have HD : Hid (Bx W7 w.heap.size [.int .i64 ck, .slice a1 cp.length k1, .slice a2 os.length k2] ∧ Bx W7 (w.heap.size + 1) (stC bg cl wt vl oi ni) ∧ Bx W7 (w.heap.size + 1 + 1) [.int .i64 0, .slice none 0 0, .slice none 0 0] ∧ Below w.heap.size w W7) := ⟨HD.out.1.next hb, HD.out.2.1.next hb, HD.out.2.2.1.next hb, below_next HD.out.2.2.2 hb⟩; rw [← hW7]; rw [← hb7]; clear hW7 hb hb7) | (obtain ⟨W7, hW7⟩ : ∃ x, x = X0.alloc (.cells #[.int .i64 0, .slice none 0 0, .slice none 0 0] 29) := ⟨_, rfl⟩; have hb : Below X0.heap.size X0 W7 := hW7 ▸ Go.Joins.below_alloc1 _ _; obtain ⟨b7, hb7⟩ : ∃ b, b = X0.heap.size := ⟨_, rfl⟩; have H7 : Hid (Bx W7 b7 [.int .i64 0, .slice none 0 0, .slice none 0 0] ∧ w.heap.size + 1 + 1 < b7) := ⟨hb7 ▸ hW7 ▸ Bx.new X0 [_, _, _] _, by have := HD.out.2.2.1.2; omega⟩; have HD : Hid (Bx W7 w.heap.size [.int .i64 ck, .slice a1 cp.length k1, .slice a2 os.length k2] ∧ Bx W7 (w.heap.size + 1) (stC bg cl wt vl oi ni) ∧ Bx W7 (w.heap.size + 1 + 1) [.int .i64 0, .slice none 0 0, .slice none 0 0] ∧ Below w.heap.size w W7) := ⟨HD.out.1.next hb, HD.out.2.1.next hb, HD.out.2.2.1.next hb, below_next HD.out.2.2.2 hb⟩; rw [← hW7]; rw [← hb7]; clear hW7 hb hb7))
        refine hK.out _ _ ⟨HD.out.1, HD.out.2.1⟩ (fun hHeld => ?_)
        clear hK KC
        refine ready_call 8 ⟨none, Op.store 29 (Operand.tmp 6) (Operand.tmp 17), _, _, _, none⟩ (by kernel_rfl) rfl (by kernel_rfl) (fun KC hK => ?_)
        have d0 := H7.out.1.cell 0 rfl
        have d1 := H7.out.1.cell 1 rfl
        have d2 := H7.out.1.cell 2 rfl
        have dz := H7.out.1.2
        have df0 := H7.out.1.frz 0 (by simp)
        have df1 := H7.out.1.frz 1 (by simp)
        have df2 := H7.out.1.frz 2 (by simp)
        go_wp2_with fail
        have h7 := H7.out.2
        have HF := Hid.intro (out_box (p := .slice p1 (List.length (α := Sh.T shCopy) cp') q1) (q := .slice p2 (List.length (α := Sh.T shRegOp) os') q2) H7.out.1 HO2.out.1 HO2.out.2.1 HN7.out HD.out.2.2.1 HD.out.2.2.2 h7)
        have HY := Hid.intro HO2.out.2.2
        clear d0 d1 d2 dz df0 df1 df2
        refine hK.out _ _ ⟨((HD.out.1.other (by omega)).other (by omega)).other (by omega), ((HD.out.2.1.other (by omega)).other (by omega)).other (by omega)⟩ (fun hHeld => ?_)
        clear hK KC
        refine take_v (v := ?_) 9 ⟨some 7, Op.assign (Operand.tmp 18), _, _, _, none⟩ rfl (fun _ _ _ h => h) ?_ hHeld ?_
        rotate_left
        · (intro W _; go_simp <;> (try with_reducible rfl))
        refine wpAnyH_done (by kernel_rfl) ?_ _
        refine NoPanic.normal ?_
        clear hHeld HO2 HN7 H7
        have r0 := (HF.out.2.2.2.1).cell 0 rfl; have r1 := (HF.out.2.2.2.1).cell 1 rfl; have r2 := (HF.out.2.2.2.1).cell 2 rfl; have rz := (HF.out.2.2.2.1).2
        have rf0 := HF.out.2.2.2.1.frz 0 (by simp)
        have rf1 := HF.out.2.2.2.1.frz 1 (by simp)
        have rf2 := HF.out.2.2.2.1.frz 2 (by simp)
        go_wp2_with fail
        exact bodyPost_ret (v := .tuple #[.agg #[.int .i64 0, .slice none 0 0, .slice none 0 0], .bool false]) (by simp [results, Try.results21, go_sem, *]) rfl (RsP.zero HN.out (HF.out.2.2.2.2.trans ((set3 _ (w.heap.size + 1 + 1) _ _ _).below (fun k e => by have e : k = w.heap.size + 1 + 1 := e; omega) HF.out.2.2.2.2.size)))
      ·
        go_wp2_with fail
        (first | (obtain ⟨W7, hW7⟩ : ∃ x, x = W2.alloc (.cells #[.int .i64 0, .slice none 0 0, .slice none 0 0] 29) := ⟨_, rfl⟩; have hb : Below W2.heap.size W2 W7 := hW7 ▸ Go.Joins.below_alloc1 _ _; obtain ⟨b7, hb7⟩ : ∃ b, b = W2.heap.size := ⟨_, rfl⟩; have HN7 : Hid (∀ b, S' b → b ≠ b7) := Hid.intro (fun b hb => by have := (HO2.out.2.1 b hb).2; omega); have H7 : Hid (Bx W7 b7 [.int .i64 0, .slice none 0 0, .slice none 0 0] ∧ w.heap.size + 1 + 1 < b7) := ⟨hb7 ▸ hW7 ▸ Bx.new W2 [_, _, _] _, by have := HD.out.2.2.1.2; omega⟩; have HO2 : Hid (OwnX W7 lo1 tyRegister [.int .i64 ck', .slice p1 (List.length (α := Sh.T shCopy) cp') q1, .slice p2 (List.length (α := Sh.T shRegOp) os') q2] (ck', cp', os', ()) S' ∧ (∀ b, S' b → w.heap.size + 1 + 1 < b ∧ b < W7.heap.size) ∧ ∀ y : RgD, rsC ck cp os bg cl wt vl oi ni = some y → ck' = ck + 1 ∧ cp' = y.1 ∧ os' = y.2) := ⟨HO2.out.1.next hb, fun b hb' => ⟨(HO2.out.2.1 b hb').1, Nat.lt_of_lt_of_le (HO2.out.2.1 b hb').2 hb.size⟩, HO2.out.2.2⟩; have HD : Hid (Bx W7 w.heap.size [.int .i64 ck, .slice a1 cp.length k1, .slice a2 os.length k2] ∧ Bx W7 (w.heap.size + 1) (stC bg cl wt vl oi ni) ∧ Bx W7 (w.heap.size + 1 + 1) [.int .i64 0, .slice none 0 0, .slice none 0 0] ∧ Below w.heap.size w W7) := ⟨HD.out.1.next hb, HD.out.2.1.next hb, HD.out.2.2.1.next hb, below_next HD.out.2.2.2 hb⟩; rw [← hW7]; rw [← hb7]; clear hW7 hb hb7) | (obtain ⟨W7, hW7⟩ : ∃ x, x = W1.alloc (.cells #[.int .i64 0, .slice none 0 0, .slice none 0 0] 29) := ⟨_, rfl⟩; have hb : Below W1.heap.size W1 W7 := hW7 ▸ Go.Joins.below_alloc1 _ _; obtain ⟨b7, hb7⟩ : ∃ b, b = W1.heap.size := ⟨_, rfl⟩; have H7 : Hid (Bx W7 b7 [.int .i64 0, .slice none 0 0, .slice none 0 0] ∧ w.heap.size + 1 + 1 < b7 ∧ (b7 < lo1 ∨ hi1 ≤ b7)) := ⟨hb7 ▸ hW7 ▸ Bx.new W1 [_, _, _] _, by have := HD.out.2.2.1.2; omega, Or.inr (by have := HO1.out.2.2.1; omega)⟩; have HO1 : Hid (OwnX W7 lo1 tyRegister [.int .i64 ck, .slice m1 (List.length (α := Sh.T shCopy) cp) n1, .slice m2 (List.length (α := Sh.T shRegOp) os) n2] (ck, cp, os, ()) (Btw lo1 hi1) ∧ w.heap.size + 1 + 1 < lo1 ∧ hi1 ≤ W7.heap.size ∧ lo1 ≤ hi1) := ⟨HO1.out.1.next hb, HO1.out.2.1, Nat.le_trans HO1.out.2.2.1 hb.size, HO1.out.2.2.2⟩; have HD : Hid (Bx W7 w.heap.size [.int .i64 ck, .slice a1 cp.length k1, .slice a2 os.length k2] ∧ Bx W7 (w.heap.size + 1) (stC bg cl wt vl oi ni) ∧ Bx W7 (w.heap.size + 1 + 1) [.int .i64 0, .slice none 0 0, .slice none 0 0] ∧ Below w.heap.size w W7) := ⟨HD.out.1.next hb, HD.out.2.1.next hb, HD.out.2.2.1.next hb, below_next HD.out.2.2.2 hb⟩; rw [← hW7]; rw [← hb7]; clear hW7 hb hb7) | (obtain ⟨W7, hW7⟩ : ∃ x, x = X0.alloc (.cells #[.int .i64 0, .slice none 0 0, .slice none 0 0] 29) := ⟨_, rfl⟩; have hb : Below X0.heap.size X0 W7 := hW7 ▸ Go.Joins.below_alloc1 _ _; obtain ⟨b7, hb7⟩ : ∃ b, b = X0.heap.size := ⟨_, rfl⟩; have H7 : Hid (Bx W7 b7 [.int .i64 0, .slice none 0 0, .slice none 0 0] ∧ w.heap.size + 1 + 1 < b7) := ⟨hb7 ▸ hW7 ▸ Bx.new X0 [_, _, _] _, by have := HD.out.2.2.1.2; omega⟩; have HD : Hid (Bx W7 w.heap.size [.int .i64 ck, .slice a1 cp.length k1, .slice a2 os.length k2] ∧ Bx W7 (w.heap.size + 1) (stC bg cl wt vl oi ni) ∧ Bx W7 (w.heap.size + 1 + 1) [.int .i64 0, .slice none 0 0, .slice none 0 0] ∧ Below w.heap.size w W7) := ⟨HD.out.1.next hb, HD.out.2.1.next hb, HD.out.2.2.1.next hb, below_next HD.out.2.2.2 hb⟩; rw [← hW7]; rw [← hb7]; clear hW7 hb hb7))
        refine hK.out _ _ ⟨HD.out.1, HD.out.2.1⟩ (fun hHeld => ?_)
        clear hK KC
        refine ready_call 3 ⟨some 16, Op.call { callee := Callee.value (Operand.func 47), args := #[Operand.tmp 14, Operand.tmp 15], argTypes := #[29, 42] }, _, _, _, none⟩ (by kernel_rfl) rfl (by kernel_rfl) (fun KC hK => ?_)
        go_wp2_with fail
        refine (l9Step_n lo1 ck _ _ cp os (Btw lo1 hi1) bg cl wt vl oi ni _ HG.out HZ.out.2 (fun b hb => by have := HO1.out.2.2.1; simp only [Btw] at hb; omega) (by have := HO1.out.2.2; omega) HO1.out.1).mono ?_
        rintro r W2 ⟨ck', va', vp', cp', os', S', rfl, hO, hS', hT, hy⟩
        obtain ⟨p1, q1, p2, q2, hp1, hp2⟩ := own_forms hO
        subst hp1 hp2
        have hl1 := HO1.out.2.1
        have hl2 := HO1.out.2.2
        have hsz := HD.out.2.2.2.size
        have hnb : ∀ b, b ≤ w.heap.size + 1 + 1 → ¬ Btw lo1 hi1 b := fun b hb q => by simp only [Btw] at q; omega
        have HO2 : Hid (OwnX W2 lo1 tyRegister [.int .i64 ck', .slice p1 (List.length (α := Sh.T shCopy) cp') q1, .slice p2 (List.length (α := Sh.T shRegOp) os') q2] (ck', cp', os', ()) S' ∧ (∀ b, S' b → w.heap.size + 1 + 1 < b ∧ b < W2.heap.size) ∧ ∀ y : RgD, rsC ck cp os bg cl wt vl oi ni = some y → ck' = ck + 1 ∧ cp' = y.1 ∧ os' = y.2) := ⟨hO, fun b hb => ⟨by rcases (hS' b hb).2 with q | q; (· simp only [Btw] at q; omega); (· omega), (hS' b hb).1⟩, fun y e => hy y e⟩
        (first | (have HN7 : Hid (∀ b, S' b → b ≠ b7) := Hid.intro (fun b hb e => by have h7 := H7.out.2.2; have h8 := H7.out.1.2; rcases (hS' b hb).2 with q | q; (· simp only [Btw] at q; omega); (· omega)); have H7 : Hid (Bx W2 b7 [.int .i64 0, .slice none 0 0, .slice none 0 0] ∧ w.heap.size + 1 + 1 < b7) := ⟨H7.out.1.turnS hT (fun q => by have h7 := H7.out.2.2; simp only [Btw] at q; omega), H7.out.2.1⟩) | skip)
        have HD : Hid (Bx W2 w.heap.size [.int .i64 ck, .slice a1 cp.length k1, .slice a2 os.length k2] ∧ Bx W2 (w.heap.size + 1) (stC bg cl wt vl oi ni) ∧ Bx W2 (w.heap.size + 1 + 1) [.int .i64 0, .slice none 0 0, .slice none 0 0] ∧ Below w.heap.size w W2) := ⟨HD.out.1.turnS hT (hnb _ (by omega)), HD.out.2.1.turnS hT (hnb _ (by omega)), HD.out.2.2.1.turnS hT (hnb _ (by omega)), HD.out.2.2.2.trans (hT.below (fun b q => by simp only [Btw] at q; omega) hsz)⟩
        have HE3 := Hid.intro HEE.out
        rw [HEE.out]
        simp only [Option.isSome_none]
        clear hO hS' hT hy hl1 hl2 hsz hnb HO1
        refine hK.out _ _ ⟨HD.out.1, HD.out.2.1⟩ (fun hHeld => ?_)
        clear hK KC
        refine take_v (v := ?_) 4 ⟨some 12, Op.move (Operand.tmp 16), _, _, _, none⟩ rfl (fun _ _ _ h => h) ?_ hHeld ?_
        rotate_left
        · (intro W _; go_simp <;> (try with_reducible rfl))
        refine take_v (v := ?_) 5 ⟨some 17, Op.extract (Operand.tmp 12) 0, _, _, _, none⟩ rfl (fun _ _ _ h => h) ?_ hHeld ?_
        rotate_left
        · (intro W _; go_simp <;> (try with_reducible rfl))
        refine take_v (v := ?_) 6 ⟨some 18, Op.extract (Operand.tmp 12) 1, _, _, _, none⟩ rfl (fun _ _ _ h => h) ?_ hHeld ?_
        rotate_left
        · (intro W _; go_simp <;> (try with_reducible rfl))
        refine ready_call 8 ⟨none, Op.store 29 (Operand.tmp 6) (Operand.tmp 17), _, _, _, none⟩ (by kernel_rfl) rfl (by kernel_rfl) (fun KC hK => ?_)
        have d0 := H7.out.1.cell 0 rfl
        have d1 := H7.out.1.cell 1 rfl
        have d2 := H7.out.1.cell 2 rfl
        have dz := H7.out.1.2
        have df0 := H7.out.1.frz 0 (by simp)
        have df1 := H7.out.1.frz 1 (by simp)
        have df2 := H7.out.1.frz 2 (by simp)
        go_wp2_with fail
        have h7 := H7.out.2
        have HF := Hid.intro (out_box (p := .slice p1 (List.length (α := Sh.T shCopy) cp') q1) (q := .slice p2 (List.length (α := Sh.T shRegOp) os') q2) H7.out.1 HO2.out.1 HO2.out.2.1 HN7.out HD.out.2.2.1 HD.out.2.2.2 h7)
        have HY := Hid.intro HO2.out.2.2
        clear d0 d1 d2 dz df0 df1 df2
        refine hK.out _ _ ⟨((HD.out.1.other (by omega)).other (by omega)).other (by omega), ((HD.out.2.1.other (by omega)).other (by omega)).other (by omega)⟩ (fun hHeld => ?_)
        clear hK KC
        refine take_v (v := ?_) 9 ⟨some 7, Op.assign (Operand.tmp 18), _, _, _, none⟩ rfl (fun _ _ _ h => h) ?_ hHeld ?_
        rotate_left
        · (intro W _; go_simp <;> (try with_reducible rfl))
        refine wpAnyH_done (by kernel_rfl) ?_ _
        refine NoPanic.normal ?_
        clear hHeld HO2 HN7 H7
        have r0 := (HF.out.2.2.2.1).cell 0 rfl; have r1 := (HF.out.2.2.2.1).cell 1 rfl; have r2 := (HF.out.2.2.2.1).cell 2 rfl; have rz := (HF.out.2.2.2.1).2
        have rf0 := HF.out.2.2.2.1.frz 0 (by simp)
        have rf1 := HF.out.2.2.2.1.frz 1 (by simp)
        have rf2 := HF.out.2.2.2.1.frz 2 (by simp)
        go_wp2_with fail
        exact bodyPost_ret (v := .tuple #[.agg #[.int .i64 0, .slice none 0 0, .slice none 0 0], .bool false]) (by simp [results, Try.results21, go_sem, *]) rfl (RsP.zero HN.out (HF.out.2.2.2.2.trans ((set3 _ (w.heap.size + 1 + 1) _ _ _).below (fun k e => by have e : k = w.heap.size + 1 + 1 := e; omega) HF.out.2.2.2.2.size)))
    ·
      go_wp2_with fail
      (first | (obtain ⟨W7, hW7⟩ : ∃ x, x = W2.alloc (.cells #[.int .i64 0, .slice none 0 0, .slice none 0 0] 29) := ⟨_, rfl⟩; have hb : Below W2.heap.size W2 W7 := hW7 ▸ Go.Joins.below_alloc1 _ _; obtain ⟨b7, hb7⟩ : ∃ b, b = W2.heap.size := ⟨_, rfl⟩; have HN7 : Hid (∀ b, S' b → b ≠ b7) := Hid.intro (fun b hb => by have := (HO2.out.2.1 b hb).2; omega); have H7 : Hid (Bx W7 b7 [.int .i64 0, .slice none 0 0, .slice none 0 0] ∧ w.heap.size + 1 + 1 < b7) := ⟨hb7 ▸ hW7 ▸ Bx.new W2 [_, _, _] _, by have := HD.out.2.2.1.2; omega⟩; have HO2 : Hid (OwnX W7 lo1 tyRegister [.int .i64 ck', .slice p1 (List.length (α := Sh.T shCopy) cp') q1, .slice p2 (List.length (α := Sh.T shRegOp) os') q2] (ck', cp', os', ()) S' ∧ (∀ b, S' b → w.heap.size + 1 + 1 < b ∧ b < W7.heap.size) ∧ ∀ y : RgD, rsC ck cp os bg cl wt vl oi ni = some y → ck' = ck + 1 ∧ cp' = y.1 ∧ os' = y.2) := ⟨HO2.out.1.next hb, fun b hb' => ⟨(HO2.out.2.1 b hb').1, Nat.lt_of_lt_of_le (HO2.out.2.1 b hb').2 hb.size⟩, HO2.out.2.2⟩; have HD : Hid (Bx W7 w.heap.size [.int .i64 ck, .slice a1 cp.length k1, .slice a2 os.length k2] ∧ Bx W7 (w.heap.size + 1) (stC bg cl wt vl oi ni) ∧ Bx W7 (w.heap.size + 1 + 1) [.int .i64 0, .slice none 0 0, .slice none 0 0] ∧ Below w.heap.size w W7) := ⟨HD.out.1.next hb, HD.out.2.1.next hb, HD.out.2.2.1.next hb, below_next HD.out.2.2.2 hb⟩; rw [← hW7]; rw [← hb7]; clear hW7 hb hb7) | (obtain ⟨W7, hW7⟩ : ∃ x, x = W1.alloc (.cells #[.int .i64 0, .slice none 0 0, .slice none 0 0] 29) := ⟨_, rfl⟩; have hb : Below W1.heap.size W1 W7 := hW7 ▸ Go.Joins.below_alloc1 _ _; obtain ⟨b7, hb7⟩ : ∃ b, b = W1.heap.size := ⟨_, rfl⟩; have H7 : Hid (Bx W7 b7 [.int .i64 0, .slice none 0 0, .slice none 0 0] ∧ w.heap.size + 1 + 1 < b7 ∧ (b7 < lo1 ∨ hi1 ≤ b7)) := ⟨hb7 ▸ hW7 ▸ Bx.new W1 [_, _, _] _, by have := HD.out.2.2.1.2; omega, Or.inr (by have := HO1.out.2.2.1; omega)⟩; have HO1 : Hid (OwnX W7 lo1 tyRegister [.int .i64 ck, .slice m1 (List.length (α := Sh.T shCopy) cp) n1, .slice m2 (List.length (α := Sh.T shRegOp) os) n2] (ck, cp, os, ()) (Btw lo1 hi1) ∧ w.heap.size + 1 + 1 < lo1 ∧ hi1 ≤ W7.heap.size ∧ lo1 ≤ hi1) := ⟨HO1.out.1.next hb, HO1.out.2.1, Nat.le_trans HO1.out.2.2.1 hb.size, HO1.out.2.2.2⟩; have HD : Hid (Bx W7 w.heap.size [.int .i64 ck, .slice a1 cp.length k1, .slice a2 os.length k2] ∧ Bx W7 (w.heap.size + 1) (stC bg cl wt vl oi ni) ∧ Bx W7 (w.heap.size + 1 + 1) [.int .i64 0, .slice none 0 0, .slice none 0 0] ∧ Below w.heap.size w W7) := ⟨HD.out.1.next hb, HD.out.2.1.next hb, HD.out.2.2.1.next hb, below_next HD.out.2.2.2 hb⟩; rw [← hW7]; rw [← hb7]; clear hW7 hb hb7) | (obtain ⟨W7, hW7⟩ : ∃ x, x = X0.alloc (.cells #[.int .i64 0, .slice none 0 0, .slice none 0 0] 29) := ⟨_, rfl⟩; have hb : Below X0.heap.size X0 W7 := hW7 ▸ Go.Joins.below_alloc1 _ _; obtain ⟨b7, hb7⟩ : ∃ b, b = X0.heap.size := ⟨_, rfl⟩; have H7 : Hid (Bx W7 b7 [.int .i64 0, .slice none 0 0, .slice none 0 0] ∧ w.heap.size + 1 + 1 < b7) := ⟨hb7 ▸ hW7 ▸ Bx.new X0 [_, _, _] _, by have := HD.out.2.2.1.2; omega⟩; have HD : Hid (Bx W7 w.heap.size [.int .i64 ck, .slice a1 cp.length k1, .slice a2 os.length k2] ∧ Bx W7 (w.heap.size + 1) (stC bg cl wt vl oi ni) ∧ Bx W7 (w.heap.size + 1 + 1) [.int .i64 0, .slice none 0 0, .slice none 0 0] ∧ Below w.heap.size w W7) := ⟨HD.out.1.next hb, HD.out.2.1.next hb, HD.out.2.2.1.next hb, below_next HD.out.2.2.2 hb⟩; rw [← hW7]; rw [← hb7]; clear hW7 hb hb7))
      refine hK.out _ _ ⟨HD.out.1, HD.out.2.1⟩ (fun hHeld => ?_)
      clear hK KC
      refine ready_call 1 ⟨some 14, Op.call { callee := Callee.value (Operand.func 48), args := #[Operand.tmp 13], argTypes := #[29] }, _, _, _, none⟩ (by kernel_rfl) rfl (by kernel_rfl) (fun KC hK => ?_)
      go_wp2_with fail
      refine (l9Own_n [.int .i64 ck, .slice a1 cp.length k1, .slice a2 os.length k2] ck cp os _ (good_sml HG.out) (mk_Register (HL.out.1.next HD.out.2.2.2) (HL.out.2.next HD.out.2.2.2))).mono ?_
      intro r W1 hT1
      obtain ⟨m1, n1, m2, n2, lo1, hi1, rfl, hlo1, hhi1, hO, hb⟩ := toX_named hT1
      clear hT1
      have HO1 : Hid (OwnX W1 lo1 tyRegister [.int .i64 ck, .slice m1 (List.length (α := Sh.T shCopy) cp) n1, .slice m2 (List.length (α := Sh.T shRegOp) os) n2] (ck, cp, os, ()) (Btw lo1 hi1) ∧ w.heap.size + 1 + 1 < lo1 ∧ hi1 ≤ W1.heap.size ∧ lo1 ≤ hi1) := ⟨hO, by have := HD.out.2.2.1.2; omega, by omega, by have := hb.size; omega⟩
      (first | (have H7 : Hid (Bx W1 b7 [.int .i64 0, .slice none 0 0, .slice none 0 0] ∧ w.heap.size + 1 + 1 < b7 ∧ (b7 < lo1 ∨ hi1 ≤ b7)) := ⟨H7.out.1.next hb, H7.out.2, Or.inl (by have := H7.out.1.2; omega)⟩) | skip)
      have HD : Hid (Bx W1 w.heap.size [.int .i64 ck, .slice a1 cp.length k1, .slice a2 os.length k2] ∧ Bx W1 (w.heap.size + 1) (stC bg cl wt vl oi ni) ∧ Bx W1 (w.heap.size + 1 + 1) [.int .i64 0, .slice none 0 0, .slice none 0 0] ∧ Below w.heap.size w W1) := ⟨HD.out.1.next hb, HD.out.2.1.next hb, HD.out.2.2.1.next hb, below_next HD.out.2.2.2 hb⟩
      clear hb hO hlo1 hhi1
      refine hK.out _ _ ⟨HD.out.1, HD.out.2.1⟩ (fun hHeld => ?_)
      clear hK KC
      refine ready_call 3 ⟨some 16, Op.call { callee := Callee.value (Operand.func 47), args := #[Operand.tmp 14, Operand.tmp 15], argTypes := #[29, 42] }, _, _, _, none⟩ (by kernel_rfl) rfl (by kernel_rfl) (fun KC hK => ?_)
      go_wp2_with fail
      refine (l9Step_n lo1 ck _ _ cp os (Btw lo1 hi1) bg cl wt vl oi ni _ HG.out HZ.out.2 (fun b hb => by have := HO1.out.2.2.1; simp only [Btw] at hb; omega) (by have := HO1.out.2.2; omega) HO1.out.1).mono ?_
      rintro r W2 ⟨ck', va', vp', cp', os', S', rfl, hO, hS', hT, hy⟩
      obtain ⟨p1, q1, p2, q2, hp1, hp2⟩ := own_forms hO
      subst hp1 hp2
      have hl1 := HO1.out.2.1
      have hl2 := HO1.out.2.2
      have hsz := HD.out.2.2.2.size
      have hnb : ∀ b, b ≤ w.heap.size + 1 + 1 → ¬ Btw lo1 hi1 b := fun b hb q => by simp only [Btw] at q; omega
      have HO2 : Hid (OwnX W2 lo1 tyRegister [.int .i64 ck', .slice p1 (List.length (α := Sh.T shCopy) cp') q1, .slice p2 (List.length (α := Sh.T shRegOp) os') q2] (ck', cp', os', ()) S' ∧ (∀ b, S' b → w.heap.size + 1 + 1 < b ∧ b < W2.heap.size) ∧ ∀ y : RgD, rsC ck cp os bg cl wt vl oi ni = some y → ck' = ck + 1 ∧ cp' = y.1 ∧ os' = y.2) := ⟨hO, fun b hb => ⟨by rcases (hS' b hb).2 with q | q; (· simp only [Btw] at q; omega); (· omega), (hS' b hb).1⟩, fun y e => hy y e⟩
      (first | (have HN7 : Hid (∀ b, S' b → b ≠ b7) := Hid.intro (fun b hb e => by have h7 := H7.out.2.2; have h8 := H7.out.1.2; rcases (hS' b hb).2 with q | q; (· simp only [Btw] at q; omega); (· omega)); have H7 : Hid (Bx W2 b7 [.int .i64 0, .slice none 0 0, .slice none 0 0] ∧ w.heap.size + 1 + 1 < b7) := ⟨H7.out.1.turnS hT (fun q => by have h7 := H7.out.2.2; simp only [Btw] at q; omega), H7.out.2.1⟩) | skip)
      have HD : Hid (Bx W2 w.heap.size [.int .i64 ck, .slice a1 cp.length k1, .slice a2 os.length k2] ∧ Bx W2 (w.heap.size + 1) (stC bg cl wt vl oi ni) ∧ Bx W2 (w.heap.size + 1 + 1) [.int .i64 0, .slice none 0 0, .slice none 0 0] ∧ Below w.heap.size w W2) := ⟨HD.out.1.turnS hT (hnb _ (by omega)), HD.out.2.1.turnS hT (hnb _ (by omega)), HD.out.2.2.1.turnS hT (hnb _ (by omega)), HD.out.2.2.2.trans (hT.below (fun b q => by simp only [Btw] at q; omega) hsz)⟩
      have HE3 := Hid.intro HEE.out
      rw [HEE.out]
      simp only [Option.isSome_none]
      clear hO hS' hT hy hl1 hl2 hsz hnb HO1
      refine hK.out _ _ ⟨HD.out.1, HD.out.2.1⟩ (fun hHeld => ?_)
      clear hK KC
      refine take_v (v := ?_) 4 ⟨some 12, Op.move (Operand.tmp 16), _, _, _, none⟩ rfl (fun _ _ _ h => h) ?_ hHeld ?_
      rotate_left
      · (intro W _; go_simp <;> (try with_reducible rfl))
      refine take_v (v := ?_) 5 ⟨some 17, Op.extract (Operand.tmp 12) 0, _, _, _, none⟩ rfl (fun _ _ _ h => h) ?_ hHeld ?_
      rotate_left
      · (intro W _; go_simp <;> (try with_reducible rfl))
      refine take_v (v := ?_) 6 ⟨some 18, Op.extract (Operand.tmp 12) 1, _, _, _, none⟩ rfl (fun _ _ _ h => h) ?_ hHeld ?_
      rotate_left
      · (intro W _; go_simp <;> (try with_reducible rfl))
      refine ready_call 8 ⟨none, Op.store 29 (Operand.tmp 6) (Operand.tmp 17), _, _, _, none⟩ (by kernel_rfl) rfl (by kernel_rfl) (fun KC hK => ?_)
      have d0 := H7.out.1.cell 0 rfl
      have d1 := H7.out.1.cell 1 rfl
      have d2 := H7.out.1.cell 2 rfl
      have dz := H7.out.1.2
      have df0 := H7.out.1.frz 0 (by simp)
      have df1 := H7.out.1.frz 1 (by simp)
      have df2 := H7.out.1.frz 2 (by simp)
      go_wp2_with fail
      have h7 := H7.out.2
      have HF := Hid.intro (out_box (p := .slice p1 (List.length (α := Sh.T shCopy) cp') q1) (q := .slice p2 (List.length (α := Sh.T shRegOp) os') q2) H7.out.1 HO2.out.1 HO2.out.2.1 HN7.out HD.out.2.2.1 HD.out.2.2.2 h7)
      have HY := Hid.intro HO2.out.2.2
      clear d0 d1 d2 dz df0 df1 df2
      refine hK.out _ _ ⟨((HD.out.1.other (by omega)).other (by omega)).other (by omega), ((HD.out.2.1.other (by omega)).other (by omega)).other (by omega)⟩ (fun hHeld => ?_)
      clear hK KC
      refine take_v (v := ?_) 9 ⟨some 7, Op.assign (Operand.tmp 18), _, _, _, none⟩ rfl (fun _ _ _ h => h) ?_ hHeld ?_
      rotate_left
      · (intro W _; go_simp <;> (try with_reducible rfl))
      refine wpAnyH_done (by kernel_rfl) ?_ _
      refine NoPanic.normal ?_
      clear hHeld HO2 HN7 H7
      have r0 := (HF.out.2.2.2.1).cell 0 rfl; have r1 := (HF.out.2.2.2.1).cell 1 rfl; have r2 := (HF.out.2.2.2.1).cell 2 rfl; have rz := (HF.out.2.2.2.1).2
      have rf0 := HF.out.2.2.2.1.frz 0 (by simp)
      have rf1 := HF.out.2.2.2.1.frz 1 (by simp)
      have rf2 := HF.out.2.2.2.1.frz 2 (by simp)
      go_wp2_with fail
      exact bodyPost_ret (v := .tuple #[.agg #[.int .i64 0, .slice none 0 0, .slice none 0 0], .bool false]) (by simp [results, Try.results21, go_sem, *]) rfl (RsP.zero HN.out (HF.out.2.2.2.2.trans ((set3 _ (w.heap.size + 1 + 1) _ _ _).below (fun k e => by have e : k = w.heap.size + 1 + 1 := e; omega) HF.out.2.2.2.2.size)))
  · rename_i y
    have hk : ck ≠ 1000 := fun hk => by rw [rsC_end hk] at hE; cases hE
    have hE2 := hE
    rw [rsC_on hk] at hE2
    have HSM := Hid.intro (rsB_sml HG.out hk hE2)
    have HEE := Hid.intro hE
    have HKE := Hid.intro (And.intro hk hE2)
    clear hE hk hE2
    refine wp_region_noPanic ?_
    refine wp_region_held_drew (S := fun W => Bx W w.heap.size [.int .i64 ck, .slice a1 cp.length k1, .slice a2 os.length k2] ∧ Bx W (w.heap.size + 1) (stC bg cl wt vl oi ni)) (by kernel_rfl) ⟨HD.out.1, HD.out.2.1⟩ (fun hHeld => ?_)
    obtain ⟨X0, hX0⟩ : ∃ x, x = w1.drew := ⟨_, rfl⟩
    rw [← hX0] at HD hHeld ⊢
    clear hX0
    refine take_v (v := ?_) 0 ⟨some 13, Op.load 29 (Operand.tmp 2), _, _, _, none⟩ rfl (fun _ _ _ h => h) ?_ hHeld ?_
    rotate_left
    · (intro W hSW; (have s0 := hSW.1.cell 0 rfl; have s1 := hSW.1.cell 1 rfl; have s2 := hSW.1.cell 2 rfl; have sz := hSW.1.2; have t0 := hSW.2.cell 0 rfl; have t1 := hSW.2.cell 1 rfl; have t2 := hSW.2.cell 2 rfl; have t3 := hSW.2.cell 3 rfl; have t4 := hSW.2.cell 4 rfl; have t5 := hSW.2.cell 5 rfl; have tz := hSW.2.2); go_simp <;> (try with_reducible rfl))
    refine take_v (v := ?_) 2 ⟨some 15, Op.load 42 (Operand.tmp 3), _, _, _, none⟩ rfl (fun _ _ _ h => h) ?_ hHeld ?_
    rotate_left
    · (intro W hSW; (have s0 := hSW.1.cell 0 rfl; have s1 := hSW.1.cell 1 rfl; have s2 := hSW.1.cell 2 rfl; have sz := hSW.1.2; have t0 := hSW.2.cell 0 rfl; have t1 := hSW.2.cell 1 rfl; have t2 := hSW.2.cell 2 rfl; have t3 := hSW.2.cell 3 rfl; have t4 := hSW.2.cell 4 rfl; have t5 := hSW.2.cell 5 rfl; have tz := hSW.2.2); go_simp <;> (try with_reducible rfl))
    refine ready_two 1 7 ⟨some 14, Op.call { callee := Callee.value (Operand.func 48), args := #[Operand.tmp 13], argTypes := #[29] }, _, _, _, none⟩ ⟨some 6, Op.alloc 29, _, _, _, none⟩ (by kernel_rfl) rfl rfl (by kernel_rfl) (by kernel_rfl) (fun KC hK => ?_) (fun KC hK => ?_)
    ·
      go_wp2_with fail
      refine (l9Own_n [.int .i64 ck, .slice a1 cp.length k1, .slice a2 os.length k2] ck cp os _ (good_sml HG.out) (mk_Register (HL.out.1.next HD.out.2.2.2) (HL.out.2.next HD.out.2.2.2))).mono ?_
      intro r W1 hT1
      obtain ⟨m1, n1, m2, n2, lo1, hi1, rfl, hlo1, hhi1, hO, hb⟩ := toX_named hT1
      clear hT1
      have HO1 : Hid (OwnX W1 lo1 tyRegister [.int .i64 ck, .slice m1 (List.length (α := Sh.T shCopy) cp) n1, .slice m2 (List.length (α := Sh.T shRegOp) os) n2] (ck, cp, os, ()) (Btw lo1 hi1) ∧ w.heap.size + 1 + 1 < lo1 ∧ hi1 ≤ W1.heap.size ∧ lo1 ≤ hi1) := ⟨hO, by have := HD.out.2.2.1.2; omega, by omega, by have := hb.size; omega⟩
      (first | (have H7 : Hid (Bx W1 b7 [.int .i64 0, .slice none 0 0, .slice none 0 0] ∧ w.heap.size + 1 + 1 < b7 ∧ (b7 < lo1 ∨ hi1 ≤ b7)) := ⟨H7.out.1.next hb, H7.out.2, Or.inl (by have := H7.out.1.2; omega)⟩) | skip)
      have HD : Hid (Bx W1 w.heap.size [.int .i64 ck, .slice a1 cp.length k1, .slice a2 os.length k2] ∧ Bx W1 (w.heap.size + 1) (stC bg cl wt vl oi ni) ∧ Bx W1 (w.heap.size + 1 + 1) [.int .i64 0, .slice none 0 0, .slice none 0 0] ∧ Below w.heap.size w W1) := ⟨HD.out.1.next hb, HD.out.2.1.next hb, HD.out.2.2.1.next hb, below_next HD.out.2.2.2 hb⟩
      clear hb hO hlo1 hhi1
      refine hK.out _ _ ⟨HD.out.1, HD.out.2.1⟩ (fun hHeld => ?_)
      clear hK KC
      refine ready_two 3 7 ⟨some 16, Op.call { callee := Callee.value (Operand.func 47), args := #[Operand.tmp 14, Operand.tmp 15], argTypes := #[29, 42] }, _, _, _, none⟩ ⟨some 6, Op.alloc 29, _, _, _, none⟩ (by kernel_rfl) rfl rfl (by kernel_rfl) (by kernel_rfl) (fun KC hK => ?_) (fun KC hK => ?_)
      ·
        go_wp2_with fail
        refine (l9Step_n lo1 ck _ _ cp os (Btw lo1 hi1) bg cl wt vl oi ni _ HG.out HZ.out.2 (fun b hb => by have := HO1.out.2.2.1; simp only [Btw] at hb; omega) (by have := HO1.out.2.2; omega) HO1.out.1).mono ?_
        rintro r W2 ⟨ck', va', vp', cp', os', S', rfl, hO, hS', hT, hy⟩
        obtain ⟨p1, q1, p2, q2, hp1, hp2⟩ := own_forms hO
        subst hp1 hp2
        have hl1 := HO1.out.2.1
        have hl2 := HO1.out.2.2
        have hsz := HD.out.2.2.2.size
        have hnb : ∀ b, b ≤ w.heap.size + 1 + 1 → ¬ Btw lo1 hi1 b := fun b hb q => by simp only [Btw] at q; omega
        have HO2 : Hid (OwnX W2 lo1 tyRegister [.int .i64 ck', .slice p1 (List.length (α := Sh.T shCopy) cp') q1, .slice p2 (List.length (α := Sh.T shRegOp) os') q2] (ck', cp', os', ()) S' ∧ (∀ b, S' b → w.heap.size + 1 + 1 < b ∧ b < W2.heap.size) ∧ ∀ y : RgD, rsC ck cp os bg cl wt vl oi ni = some y → ck' = ck + 1 ∧ cp' = y.1 ∧ os' = y.2) := ⟨hO, fun b hb => ⟨by rcases (hS' b hb).2 with q | q; (· simp only [Btw] at q; omega); (· omega), (hS' b hb).1⟩, fun y e => hy y e⟩
        (first | (have HN7 : Hid (∀ b, S' b → b ≠ b7) := Hid.intro (fun b hb e => by have h7 := H7.out.2.2; have h8 := H7.out.1.2; rcases (hS' b hb).2 with q | q; (· simp only [Btw] at q; omega); (· omega)); have H7 : Hid (Bx W2 b7 [.int .i64 0, .slice none 0 0, .slice none 0 0] ∧ w.heap.size + 1 + 1 < b7) := ⟨H7.out.1.turnS hT (fun q => by have h7 := H7.out.2.2; simp only [Btw] at q; omega), H7.out.2.1⟩) | skip)
        have HD : Hid (Bx W2 w.heap.size [.int .i64 ck, .slice a1 cp.length k1, .slice a2 os.length k2] ∧ Bx W2 (w.heap.size + 1) (stC bg cl wt vl oi ni) ∧ Bx W2 (w.heap.size + 1 + 1) [.int .i64 0, .slice none 0 0, .slice none 0 0] ∧ Below w.heap.size w W2) := ⟨HD.out.1.turnS hT (hnb _ (by omega)), HD.out.2.1.turnS hT (hnb _ (by omega)), HD.out.2.2.1.turnS hT (hnb _ (by omega)), HD.out.2.2.2.trans (hT.below (fun b q => by simp only [Btw] at q; omega) hsz)⟩
        have HE3 := Hid.intro HEE.out
        rw [HEE.out]
        simp only [Option.isSome_some]
        clear hO hS' hT hy hl1 hl2 hsz hnb HO1
        refine hK.out _ _ ⟨HD.out.1, HD.out.2.1⟩ (fun hHeld => ?_)
        clear hK KC
        refine take_v (v := ?_) 4 ⟨some 12, Op.move (Operand.tmp 16), _, _, _, none⟩ rfl (fun _ _ _ h => h) ?_ hHeld ?_
        rotate_left
        · (intro W _; go_simp <;> (try with_reducible rfl))
        refine take_v (v := ?_) 5 ⟨some 17, Op.extract (Operand.tmp 12) 0, _, _, _, none⟩ rfl (fun _ _ _ h => h) ?_ hHeld ?_
        rotate_left
        · (intro W _; go_simp <;> (try with_reducible rfl))
        refine take_v (v := ?_) 6 ⟨some 18, Op.extract (Operand.tmp 12) 1, _, _, _, none⟩ rfl (fun _ _ _ h => h) ?_ hHeld ?_
        rotate_left
        · (intro W _; go_simp <;> (try with_reducible rfl))
        refine ready_call 7 ⟨some 6, Op.alloc 29, _, _, _, none⟩ (by kernel_rfl) rfl (by kernel_rfl) (fun KC hK => ?_)
        go_wp2_with fail
        (first | (obtain ⟨W7, hW7⟩ : ∃ x, x = W2.alloc (.cells #[.int .i64 0, .slice none 0 0, .slice none 0 0] 29) := ⟨_, rfl⟩; have hb : Below W2.heap.size W2 W7 := hW7 ▸ Go.Joins.below_alloc1 _ _; obtain ⟨b7, hb7⟩ : ∃ b, b = W2.heap.size := ⟨_, rfl⟩; have HN7 : Hid (∀ b, S' b → b ≠ b7) := Hid.intro (fun b hb => by have := (HO2.out.2.1 b hb).2; omega); have H7 : Hid (Bx W7 b7 [.int .i64 0, .slice none 0 0, .slice none 0 0] ∧ w.heap.size + 1 + 1 < b7) := ⟨hb7 ▸ hW7 ▸ Bx.new W2 [_, _, _] _, by have := HD.out.2.2.1.2; omega⟩; have HO2 : Hid (OwnX W7 lo1 tyRegister [.int .i64 ck', .slice p1 (List.length (α := Sh.T shCopy) cp') q1, .slice p2 (List.length (α := Sh.T shRegOp) os') q2] (ck', cp', os', ()) S' ∧ (∀ b, S' b → w.heap.size + 1 + 1 < b ∧ b < W7.heap.size) ∧ ∀ y : RgD, rsC ck cp os bg cl wt vl oi ni = some y → ck' = ck + 1 ∧ cp' = y.1 ∧ os' = y.2) := ⟨HO2.out.1.next hb, fun b hb' => ⟨(HO2.out.2.1 b hb').1, Nat.lt_of_lt_of_le (HO2.out.2.1 b hb').2 hb.size⟩, HO2.out.2.2⟩; have HD : Hid (Bx W7 w.heap.size [.int .i64 ck, .slice a1 cp.length k1, .slice a2 os.length k2] ∧ Bx W7 (w.heap.size + 1) (stC bg cl wt vl oi ni) ∧ Bx W7 (w.heap.size + 1 + 1) [.int .i64 0, .slice none 0 0, .slice none 0 0] ∧ Below w.heap.size w W7) := ⟨HD.out.1.next hb, HD.out.2.1.next hb, HD.out.2.2.1.next hb, below_next HD.out.2.2.2 hb⟩; rw [← hW7]; rw [← hb7]; clear hW7 hb hb7) | (obtain ⟨W7, hW7⟩ : ∃ x, x = W1.alloc (.cells #[.int .i64 0, .slice none 0 0, .slice none 0 0] 29) := ⟨_, rfl⟩; have hb : Below W1.heap.size W1 W7 := hW7 ▸ Go.Joins.below_alloc1 _ _; obtain ⟨b7, hb7⟩ : ∃ b, b = W1.heap.size := ⟨_, rfl⟩; have H7 : Hid (Bx W7 b7 [.int .i64 0, .slice none 0 0, .slice none 0 0] ∧ w.heap.size + 1 + 1 < b7 ∧ (b7 < lo1 ∨ hi1 ≤ b7)) := ⟨hb7 ▸ hW7 ▸ Bx.new W1 [_, _, _] _, by have := HD.out.2.2.1.2; omega, Or.inr (by have := HO1.out.2.2.1; omega)⟩; have HO1 : Hid (OwnX W7 lo1 tyRegister [.int .i64 ck, .slice m1 (List.length (α := Sh.T shCopy) cp) n1, .slice m2 (List.length (α := Sh.T shRegOp) os) n2] (ck, cp, os, ()) (Btw lo1 hi1) ∧ w.heap.size + 1 + 1 < lo1 ∧ hi1 ≤ W7.heap.size ∧ lo1 ≤ hi1) := ⟨HO1.out.1.next hb, HO1.out.2.1, Nat.le_trans HO1.out.2.2.1 hb.size, HO1.out.2.2.2⟩; have HD : Hid (Bx W7 w.heap.size [.int .i64 ck, .slice a1 cp.length k1, .slice a2 os.length k2] ∧ Bx W7 (w.heap.size + 1) (stC bg cl wt vl oi ni) ∧ Bx W7 (w.heap.size + 1 + 1) [.int .i64 0, .slice none 0 0, .slice none 0 0] ∧ Below w.heap.size w W7) := ⟨HD.out.1.next hb, HD.out.2.1.next hb, HD.out.2.2.1.next hb, below_next HD.out.2.2.2 hb⟩; rw [← hW7]; rw [← hb7]; clear hW7 hb hb7) | (obtain ⟨W7, hW7⟩ : ∃ x, x = X0.alloc (.cells #[.int .i64 0, .slice none 0 0, .slice none 0 0] 29) := ⟨_, rfl⟩; have hb : Below X0.heap.size X0 W7 := hW7 ▸ Go.Joins.below_alloc1 _ _; obtain ⟨b7, hb7⟩ : ∃ b, b = X0.heap.size := ⟨_, rfl⟩; have H7 : Hid (Bx W7 b7 [.int .i64 0, .slice none 0 0, .slice none 0 0] ∧ w.heap.size + 1 + 1 < b7) := ⟨hb7 ▸ hW7 ▸ Bx.new X0 [_, _, _] _, by have := HD.out.2.2.1.2; omega⟩; have HD : Hid (Bx W7 w.heap.size [.int .i64 ck, .slice a1 cp.length k1, .slice a2 os.length k2] ∧ Bx W7 (w.heap.size + 1) (stC bg cl wt vl oi ni) ∧ Bx W7 (w.heap.size + 1 + 1) [.int .i64 0, .slice none 0 0, .slice none 0 0] ∧ Below w.heap.size w W7) := ⟨HD.out.1.next hb, HD.out.2.1.next hb, HD.out.2.2.1.next hb, below_next HD.out.2.2.2 hb⟩; rw [← hW7]; rw [← hb7]; clear hW7 hb hb7))
        refine hK.out _ _ ⟨HD.out.1, HD.out.2.1⟩ (fun hHeld => ?_)
        clear hK KC
        refine ready_call 8 ⟨none, Op.store 29 (Operand.tmp 6) (Operand.tmp 17), _, _, _, none⟩ (by kernel_rfl) rfl (by kernel_rfl) (fun KC hK => ?_)
        have d0 := H7.out.1.cell 0 rfl
        have d1 := H7.out.1.cell 1 rfl
        have d2 := H7.out.1.cell 2 rfl
        have dz := H7.out.1.2
        have df0 := H7.out.1.frz 0 (by simp)
        have df1 := H7.out.1.frz 1 (by simp)
        have df2 := H7.out.1.frz 2 (by simp)
        go_wp2_with fail
        have h7 := H7.out.2
        have HF := Hid.intro (out_box (p := .slice p1 (List.length (α := Sh.T shCopy) cp') q1) (q := .slice p2 (List.length (α := Sh.T shRegOp) os') q2) H7.out.1 HO2.out.1 HO2.out.2.1 HN7.out HD.out.2.2.1 HD.out.2.2.2 h7)
        have HY := Hid.intro HO2.out.2.2
        clear d0 d1 d2 dz df0 df1 df2
        refine hK.out _ _ ⟨((HD.out.1.other (by omega)).other (by omega)).other (by omega), ((HD.out.2.1.other (by omega)).other (by omega)).other (by omega)⟩ (fun hHeld => ?_)
        clear hK KC
        refine take_v (v := ?_) 9 ⟨some 7, Op.assign (Operand.tmp 18), _, _, _, none⟩ rfl (fun _ _ _ h => h) ?_ hHeld ?_
        rotate_left
        · (intro W _; go_simp <;> (try with_reducible rfl))
        refine wpAnyH_done (by kernel_rfl) ?_ _
        refine NoPanic.normal ?_
        clear hHeld HO2 HN7 H7
        obtain ⟨rfl, rfl, rfl⟩ := HY.out _ HEE.out
        have b0 := (HF.out.2.2.1).cell 0 rfl; have b1 := (HF.out.2.2.1).cell 1 rfl; have b2 := (HF.out.2.2.1).cell 2 rfl; have bz := (HF.out.2.2.1).2
        obtain ⟨z, hzE⟩ : ∃ z, z = tf (goodR (ck + 1) y.1 y.2) := ⟨_, rfl⟩
        have HZE := Hid.intro hzE
        clear hzE
        go_wp2_with (first | (go_at_call 18; refine (HZE.out.symm ▸ specGoodRegister_n [.int .i64 (ck + 1), .slice p1 (List.length (α := Sh.T shCopy) y.1) q1, .slice p2 (List.length (α := Sh.T shRegOp) y.2) q2] (ck + 1) y.1 y.2 _ (Nat.le_trans (sz_small HSM.out) (by decide)) HF.out.1.lies).mono ?_; rintro r W9 ⟨rfl, hb⟩; have HF9 := Hid.intro (fin_next HF.out hb); clear hb b0 b1 b2 bz; have b0 := HF9.out.2.2.1.cell 0 rfl; have b1 := HF9.out.2.2.1.cell 1 rfl; have b2 := HF9.out.2.2.1.cell 2 rfl; have bz := HF9.out.2.2.1.2; have r0 := HF9.out.2.2.2.1.cell 0 rfl; have r1 := HF9.out.2.2.2.1.cell 1 rfl; have r2 := HF9.out.2.2.2.1.cell 2 rfl; have rz := HF9.out.2.2.2.1.2; have rf0 := HF9.out.2.2.2.1.frz 0 (by simp); have rf1 := HF9.out.2.2.2.1.frz 1 (by simp); have rf2 := HF9.out.2.2.2.1.frz 2 (by simp); cases z))
        · have HN : Hid (rsS ck cp os bg cl wt vl oi ni = none) := Hid.intro (rsS_no HKE.out.2 (fun q => by have := HZE.out; rw [tf_yes q] at this; cases this))
          exact bodyPost_ret (v := .tuple #[.agg #[.int .i64 0, .slice none 0 0, .slice none 0 0], .bool false]) (by simp [results, Try.results21, go_sem, *]) rfl (RsP.zero HN.out (HF9.out.2.2.2.2.trans ((set3 _ (w.heap.size + 1 + 1) _ _ _).below (fun k e => by have e : k = w.heap.size + 1 + 1 := e; omega) HF9.out.2.2.2.2.size)))
        · have HN : Hid (rsS ck cp os bg cl wt vl oi ni = some (ck + 1, y.1, y.2, ())) := Hid.intro (rsS_yes HG.out HKE.out.1 HKE.out.2 (tf_iff.1 HZE.out.symm))
          exact bodyPost_ret (v := .tuple #[.agg #[.int .i64 (ck + 1), .slice p1 (List.length (α := Sh.T shCopy) y.1) q1, .slice p2 (List.length (α := Sh.T shRegOp) y.2) q2], .bool true]) (by simp [results, Try.results21, go_sem, *]) rfl (RsP.some HN.out (HF9.out.1.turn (set3 _ (w.heap.size + 1 + 1) _ _ _) (fun b hb e => by have e : b = w.heap.size + 1 + 1 := e; have := (HF9.out.2.1 b hb).1; omega)) (fun b hb => by have := HF9.out.2.1 b hb; simp only [Btw, World.size_setCell]; omega) (HF9.out.2.2.2.2.trans ((set3 _ (w.heap.size + 1 + 1) _ _ _).below (fun k e => by have e : k = w.heap.size + 1 + 1 := e; omega) HF9.out.2.2.2.2.size)))
      ·
        go_wp2_with fail
        (first | (obtain ⟨W7, hW7⟩ : ∃ x, x = W2.alloc (.cells #[.int .i64 0, .slice none 0 0, .slice none 0 0] 29) := ⟨_, rfl⟩; have hb : Below W2.heap.size W2 W7 := hW7 ▸ Go.Joins.below_alloc1 _ _; obtain ⟨b7, hb7⟩ : ∃ b, b = W2.heap.size := ⟨_, rfl⟩; have HN7 : Hid (∀ b, S' b → b ≠ b7) := Hid.intro (fun b hb => by have := (HO2.out.2.1 b hb).2; omega); have H7 : Hid (Bx W7 b7 [.int .i64 0, .slice none 0 0, .slice none 0 0] ∧ w.heap.size + 1 + 1 < b7) := ⟨hb7 ▸ hW7 ▸ Bx.new W2 [_, _, _] _, by have := HD.out.2.2.1.2; omega⟩; have HO2 : Hid (OwnX W7 lo1 tyRegister [.int .i64 ck', .slice p1 (List.length (α := Sh.T shCopy) cp') q1, .slice p2 (List.length (α := Sh.T shRegOp) os') q2] (ck', cp', os', ()) S' ∧ (∀ b, S' b → w.heap.size + 1 + 1 < b ∧ b < W7.heap.size) ∧ ∀ y : RgD, rsC ck cp os bg cl wt vl oi ni = some y → ck' = ck + 1 ∧ cp' = y.1 ∧ os' = y.2) := ⟨HO2.out.1.next hb, fun b hb' => ⟨(HO2.out.2.1 b hb').1, Nat.lt_of_lt_of_le (HO2.out.2.1 b hb').2 hb.size⟩, HO2.out.2.2⟩; have HD : Hid (Bx W7 w.heap.size [.int .i64 ck, .slice a1 cp.length k1, .slice a2 os.length k2] ∧ Bx W7 (w.heap.size + 1) (stC bg cl wt vl oi ni) ∧ Bx W7 (w.heap.size + 1 + 1) [.int .i64 0, .slice none 0 0, .slice none 0 0] ∧ Below w.heap.size w W7) := ⟨HD.out.1.next hb, HD.out.2.1.next hb, HD.out.2.2.1.next hb, below_next HD.out.2.2.2 hb⟩; rw [← hW7]; rw [← hb7]; clear hW7 hb hb7) | (obtain ⟨W7, hW7⟩ : ∃ x, x = W1.alloc (.cells #[.int .i64 0, .slice none 0 0, .slice none 0 0] 29) := ⟨_, rfl⟩; have hb : Below W1.heap.size W1 W7 := hW7 ▸ Go.Joins.below_alloc1 _ _; obtain ⟨b7, hb7⟩ : ∃ b, b = W1.heap.size := ⟨_, rfl⟩; have H7 : Hid (Bx W7 b7 [.int .i64 0, .slice none 0 0, .slice none 0 0] ∧ w.heap.size + 1 + 1 < b7 ∧ (b7 < lo1 ∨ hi1 ≤ b7)) := ⟨hb7 ▸ hW7 ▸ Bx.new W1 [_, _, _] _, by have := HD.out.2.2.1.2; omega, Or.inr (by have := HO1.out.2.2.1; omega)⟩; have HO1 : Hid (OwnX W7 lo1 tyRegister [.int .i64 ck, .slice m1 (List.length (α := Sh.T shCopy) cp) n1, .slice m2 (List.length (α := Sh.T shRegOp) os) n2] (ck, cp, os, ()) (Btw lo1 hi1) ∧ w.heap.size + 1 + 1 < lo1 ∧ hi1 ≤ W7.heap.size ∧ lo1 ≤ hi1) := ⟨HO1.out.1.next hb, HO1.out.2.1, Nat.le_trans HO1.out.2.2.1 hb.size, HO1.out.2.2.2⟩; have HD : Hid (Bx W7 w.heap.size [.int .i64 ck, .slice a1 cp.length k1, .slice a2 os.length k2] ∧ Bx W7 (w.heap.size + 1) (stC bg cl wt vl oi ni) ∧ Bx W7 (w.heap.size + 1 + 1) [.int .i64 0, .slice none 0 0, .slice none 0 0] ∧ Below w.heap.size w W7) := ⟨HD.out.1.next hb, HD.out.2.1.next hb, HD.out.2.2.1.next hb, below_next HD.out.2.2.2 hb⟩; rw [← hW7]; rw [← hb7]; clear hW7 hb hb7) | (obtain ⟨W7, hW7⟩ : ∃ x, x = X0.alloc (.cells #[.int .i64 0, .slice none 0 0, .slice none 0 0] 29) := ⟨_, rfl⟩; have hb : Below X0.heap.size X0 W7 := hW7 ▸ Go.Joins.below_alloc1 _ _; obtain ⟨b7, hb7⟩ : ∃ b, b = X0.heap.size := ⟨_, rfl⟩; have H7 : Hid (Bx W7 b7 [.int .i64 0, .slice none 0 0, .slice none 0 0] ∧ w.heap.size + 1 + 1 < b7) := ⟨hb7 ▸ hW7 ▸ Bx.new X0 [_, _, _] _, by have := HD.out.2.2.1.2; omega⟩; have HD : Hid (Bx W7 w.heap.size [.int .i64 ck, .slice a1 cp.length k1, .slice a2 os.length k2] ∧ Bx W7 (w.heap.size + 1) (stC bg cl wt vl oi ni) ∧ Bx W7 (w.heap.size + 1 + 1) [.int .i64 0, .slice none 0 0, .slice none 0 0] ∧ Below w.heap.size w W7) := ⟨HD.out.1.next hb, HD.out.2.1.next hb, HD.out.2.2.1.next hb, below_next HD.out.2.2.2 hb⟩; rw [← hW7]; rw [← hb7]; clear hW7 hb hb7))
        refine hK.out _ _ ⟨HD.out.1, HD.out.2.1⟩ (fun hHeld => ?_)
        clear hK KC
        refine ready_call 3 ⟨some 16, Op.call { callee := Callee.value (Operand.func 47), args := #[Operand.tmp 14, Operand.tmp 15], argTypes := #[29, 42] }, _, _, _, none⟩ (by kernel_rfl) rfl (by kernel_rfl) (fun KC hK => ?_)
        go_wp2_with fail
        refine (l9Step_n lo1 ck _ _ cp os (Btw lo1 hi1) bg cl wt vl oi ni _ HG.out HZ.out.2 (fun b hb => by have := HO1.out.2.2.1; simp only [Btw] at hb; omega) (by have := HO1.out.2.2; omega) HO1.out.1).mono ?_
        rintro r W2 ⟨ck', va', vp', cp', os', S', rfl, hO, hS', hT, hy⟩
        obtain ⟨p1, q1, p2, q2, hp1, hp2⟩ := own_forms hO
        subst hp1 hp2
        have hl1 := HO1.out.2.1
        have hl2 := HO1.out.2.2
        have hsz := HD.out.2.2.2.size
        have hnb : ∀ b, b ≤ w.heap.size + 1 + 1 → ¬ Btw lo1 hi1 b := fun b hb q => by simp only [Btw] at q; omega
        have HO2 : Hid (OwnX W2 lo1 tyRegister [.int .i64 ck', .slice p1 (List.length (α := Sh.T shCopy) cp') q1, .slice p2 (List.length (α := Sh.T shRegOp) os') q2] (ck', cp', os', ()) S' ∧ (∀ b, S' b → w.heap.size + 1 + 1 < b ∧ b < W2.heap.size) ∧ ∀ y : RgD, rsC ck cp os bg cl wt vl oi ni = some y → ck' = ck + 1 ∧ cp' = y.1 ∧ os' = y.2) := ⟨hO, fun b hb => ⟨by rcases (hS' b hb).2 with q | q; (· simp only [Btw] at q; omega); (· omega), (hS' b hb).1⟩, fun y e => hy y e⟩
        (first | (have HN7 : Hid (∀ b, S' b → b ≠ b7) := Hid.intro (fun b hb e => by have h7 := H7.out.2.2; have h8 := H7.out.1.2; rcases (hS' b hb).2 with q | q; (· simp only [Btw] at q; omega); (· omega)); have H7 : Hid (Bx W2 b7 [.int .i64 0, .slice none 0 0, .slice none 0 0] ∧ w.heap.size + 1 + 1 < b7) := ⟨H7.out.1.turnS hT (fun q => by have h7 := H7.out.2.2; simp only [Btw] at q; omega), H7.out.2.1⟩) | skip)
        have HD : Hid (Bx W2 w.heap.size [.int .i64 ck, .slice a1 cp.length k1, .slice a2 os.length k2] ∧ Bx W2 (w.heap.size + 1) (stC bg cl wt vl oi ni) ∧ Bx W2 (w.heap.size + 1 + 1) [.int .i64 0, .slice none 0 0, .slice none 0 0] ∧ Below w.heap.size w W2) := ⟨HD.out.1.turnS hT (hnb _ (by omega)), HD.out.2.1.turnS hT (hnb _ (by omega)), HD.out.2.2.1.turnS hT (hnb _ (by omega)), HD.out.2.2.2.trans (hT.below (fun b q => by simp only [Btw] at q; omega) hsz)⟩
        have HE3 := Hid.intro HEE.out
        rw [HEE.out]
        simp only [Option.isSome_some]
        clear hO hS' hT hy hl1 hl2 hsz hnb HO1
        refine hK.out _ _ ⟨HD.out.1, HD.out.2.1⟩ (fun hHeld => ?_)
        clear hK KC
        refine take_v (v := ?_) 4 ⟨some 12, Op.move (Operand.tmp 16), _, _, _, none⟩ rfl (fun _ _ _ h => h) ?_ hHeld ?_
        rotate_left
        · (intro W _; go_simp <;> (try with_reducible rfl))
        refine take_v (v := ?_) 5 ⟨some 17, Op.extract (Operand.tmp 12) 0, _, _, _, none⟩ rfl (fun _ _ _ h => h) ?_ hHeld ?_
        rotate_left
        · (intro W _; go_simp <;> (try with_reducible rfl))
        refine take_v (v := ?_) 6 ⟨some 18, Op.extract (Operand.tmp 12) 1, _, _, _, none⟩ rfl (fun _ _ _ h => h) ?_ hHeld ?_
        rotate_left
        · (intro W _; go_simp <;> (try with_reducible rfl))
        refine ready_call 8 ⟨none, Op.store 29 (Operand.tmp 6) (Operand.tmp 17), _, _, _, none⟩ (by kernel_rfl) rfl (by kernel_rfl) (fun KC hK => ?_)
        have d0 := H7.out.1.cell 0 rfl
        have d1 := H7.out.1.cell 1 rfl
        have d2 := H7.out.1.cell 2 rfl
        have dz := H7.out.1.2
        have df0 := H7.out.1.frz 0 (by simp)
        have df1 := H7.out.1.frz 1 (by simp)
        have df2 := H7.out.1.frz 2 (by simp)
        go_wp2_with fail
        have h7 := H7.out.2
        have HF := Hid.intro (out_box (p := .slice p1 (List.length (α := Sh.T shCopy) cp') q1) (q := .slice p2 (List.length (α := Sh.T shRegOp) os') q2) H7.out.1 HO2.out.1 HO2.out.2.1 HN7.out HD.out.2.2.1 HD.out.2.2.2 h7)
        have HY := Hid.intro HO2.out.2.2
        clear d0 d1 d2 dz df0 df1 df2
        refine hK.out _ _ ⟨((HD.out.1.other (by omega)).other (by omega)).other (by omega), ((HD.out.2.1.other (by omega)).other (by omega)).other (by omega)⟩ (fun hHeld => ?_)
        clear hK KC
        refine take_v (v := ?_) 9 ⟨some 7, Op.assign (Operand.tmp 18), _, _, _, none⟩ rfl (fun _ _ _ h => h) ?_ hHeld ?_
        rotate_left
        · (intro W _; go_simp <;> (try with_reducible rfl))
        refine wpAnyH_done (by kernel_rfl) ?_ _
        refine NoPanic.normal ?_
        clear hHeld HO2 HN7 H7
        obtain ⟨rfl, rfl, rfl⟩ := HY.out _ HEE.out
        have b0 := (HF.out.2.2.1).cell 0 rfl; have b1 := (HF.out.2.2.1).cell 1 rfl; have b2 := (HF.out.2.2.1).cell 2 rfl; have bz := (HF.out.2.2.1).2
        obtain ⟨z, hzE⟩ : ∃ z, z = tf (goodR (ck + 1) y.1 y.2) := ⟨_, rfl⟩
        have HZE := Hid.intro hzE
        clear hzE
        go_wp2_with (first | (go_at_call 18; refine (HZE.out.symm ▸ specGoodRegister_n [.int .i64 (ck + 1), .slice p1 (List.length (α := Sh.T shCopy) y.1) q1, .slice p2 (List.length (α := Sh.T shRegOp) y.2) q2] (ck + 1) y.1 y.2 _ (Nat.le_trans (sz_small HSM.out) (by decide)) HF.out.1.lies).mono ?_; rintro r W9 ⟨rfl, hb⟩; have HF9 := Hid.intro (fin_next HF.out hb); clear hb b0 b1 b2 bz; have b0 := HF9.out.2.2.1.cell 0 rfl; have b1 := HF9.out.2.2.1.cell 1 rfl; have b2 := HF9.out.2.2.1.cell 2 rfl; have bz := HF9.out.2.2.1.2; have r0 := HF9.out.2.2.2.1.cell 0 rfl; have r1 := HF9.out.2.2.2.1.cell 1 rfl; have r2 := HF9.out.2.2.2.1.cell 2 rfl; have rz := HF9.out.2.2.2.1.2; have rf0 := HF9.out.2.2.2.1.frz 0 (by simp); have rf1 := HF9.out.2.2.2.1.frz 1 (by simp); have rf2 := HF9.out.2.2.2.1.frz 2 (by simp); cases z))
        · have HN : Hid (rsS ck cp os bg cl wt vl oi ni = none) := Hid.intro (rsS_no HKE.out.2 (fun q => by have := HZE.out; rw [tf_yes q] at this; cases this))
          exact bodyPost_ret (v := .tuple #[.agg #[.int .i64 0, .slice none 0 0, .slice none 0 0], .bool false]) (by simp [results, Try.results21, go_sem, *]) rfl (RsP.zero HN.out (HF9.out.2.2.2.2.trans ((set3 _ (w.heap.size + 1 + 1) _ _ _).below (fun k e => by have e : k = w.heap.size + 1 + 1 := e; omega) HF9.out.2.2.2.2.size)))
        · have HN : Hid (rsS ck cp os bg cl wt vl oi ni = some (ck + 1, y.1, y.2, ())) := Hid.intro (rsS_yes HG.out HKE.out.1 HKE.out.2 (tf_iff.1 HZE.out.symm))
          exact bodyPost_ret (v := .tuple #[.agg #[.int .i64 (ck + 1), .slice p1 (List.length (α := Sh.T shCopy) y.1) q1, .slice p2 (List.length (α := Sh.T shRegOp) y.2) q2], .bool true]) (by simp [results, Try.results21, go_sem, *]) rfl (RsP.some HN.out (HF9.out.1.turn (set3 _ (w.heap.size + 1 + 1) _ _ _) (fun b hb e => by have e : b = w.heap.size + 1 + 1 := e; have := (HF9.out.2.1 b hb).1; omega)) (fun b hb => by have := HF9.out.2.1 b hb; simp only [Btw, World.size_setCell]; omega) (HF9.out.2.2.2.2.trans ((set3 _ (w.heap.size + 1 + 1) _ _ _).below (fun k e => by have e : k = w.heap.size + 1 + 1 := e; omega) HF9.out.2.2.2.2.size)))
    ·
      go_wp2_with fail
      (first | (obtain ⟨W7, hW7⟩ : ∃ x, x = W2.alloc (.cells #[.int .i64 0, .slice none 0 0, .slice none 0 0] 29) := ⟨_, rfl⟩; have hb : Below W2.heap.size W2 W7 := hW7 ▸ Go.Joins.below_alloc1 _ _; obtain ⟨b7, hb7⟩ : ∃ b, b = W2.heap.size := ⟨_, rfl⟩; have HN7 : Hid (∀ b, S' b → b ≠ b7) := Hid.intro (fun b hb => by have := (HO2.out.2.1 b hb).2; omega); have H7 : Hid (Bx W7 b7 [.int .i64 0, .slice none 0 0, .slice none 0 0] ∧ w.heap.size + 1 + 1 < b7) := ⟨hb7 ▸ hW7 ▸ Bx.new W2 [_, _, _] _, by have := HD.out.2.2.1.2; omega⟩; have HO2 : Hid (OwnX W7 lo1 tyRegister [.int .i64 ck', .slice p1 (List.length (α := Sh.T shCopy) cp') q1, .slice p2 (List.length (α := Sh.T shRegOp) os') q2] (ck', cp', os', ()) S' ∧ (∀ b, S' b → w.heap.size + 1 + 1 < b ∧ b < W7.heap.size) ∧ ∀ y : RgD, rsC ck cp os bg cl wt vl oi ni = some y → ck' = ck + 1 ∧ cp' = y.1 ∧ os' = y.2) := ⟨HO2.out.1.next hb, fun b hb' => ⟨(HO2.out.2.1 b hb').1, Nat.lt_of_lt_of_le (HO2.out.2.1 b hb').2 hb.size⟩, HO2.out.2.2⟩; have HD : Hid (Bx W7 w.heap.size [.int .i64 ck, .slice a1 cp.length k1, .slice a2 os.length k2] ∧ Bx W7 (w.heap.size + 1) (stC bg cl wt vl oi ni) ∧ Bx W7 (w.heap.size + 1 + 1) [.int .i64 0, .slice none 0 0, .slice none 0 0] ∧ Below w.heap.size w W7) := ⟨HD.out.1.next hb, HD.out.2.1.next hb, HD.out.2.2.1.next hb, below_next HD.out.2.2.2 hb⟩; rw [← hW7]; rw [← hb7]; clear hW7 hb hb7) | (obtain ⟨W7, hW7⟩ : ∃ x, x = W1.alloc (.cells #[.int .i64 0, .slice none 0 0, .slice none 0 0] 29) := ⟨_, rfl⟩; have hb : Below W1.heap.size W1 W7 := hW7 ▸ Go.Joins.below_alloc1 _ _; obtain ⟨b7, hb7⟩ : ∃ b, b = W1.heap.size := ⟨_, rfl⟩; have H7 : Hid (Bx W7 b7 [.int .i64 0, .slice none 0 0, .slice none 0 0] ∧ w.heap.size + 1 + 1 < b7 ∧ (b7 < lo1 ∨ hi1 ≤ b7)) := ⟨hb7 ▸ hW7 ▸ Bx.new W1 [_, _, _] _, by have := HD.out.2.2.1.2; omega, Or.inr (by have := HO1.out.2.2.1; omega)⟩; have HO1 : Hid (OwnX W7 lo1 tyRegister [.int .i64 ck, .slice m1 (List.length (α := Sh.T shCopy) cp) n1, .slice m2 (List.length (α := Sh.T shRegOp) os) n2] (ck, cp, os, ()) (Btw lo1 hi1) ∧ w.heap.size + 1 + 1 < lo1 ∧ hi1 ≤ W7.heap.size ∧ lo1 ≤ hi1) := ⟨HO1.out.1.next hb, HO1.out.2.1, Nat.le_trans HO1.out.2.2.1 hb.size, HO1.out.2.2.2⟩; have HD : Hid (Bx W7 w.heap.size [.int .i64 ck, .slice a1 cp.length k1, .slice a2 os.length k2] ∧ Bx W7 (w.heap.size + 1) (stC bg cl wt vl oi ni) ∧ Bx W7 (w.heap.size + 1 + 1) [.int .i64 0, .slice none 0 0, .slice none 0 0] ∧ Below w.heap.size w W7) := ⟨HD.out.1.next hb, HD.out.2.1.next hb, HD.out.2.2.1.next hb, below_next HD.out.2.2.2 hb⟩; rw [← hW7]; rw [← hb7]; clear hW7 hb hb7) | (obtain ⟨W7, hW7⟩ : ∃ x, x = X0.alloc (.cells #[.int .i64 0, .slice none 0 0, .slice none 0 0] 29) := ⟨_, rfl⟩; have hb : Below X0.heap.size X0 W7 := hW7 ▸ Go.Joins.below_alloc1 _ _; obtain ⟨b7, hb7⟩ : ∃ b, b = X0.heap.size := ⟨_, rfl⟩; have H7 : Hid (Bx W7 b7 [.int .i64 0, .slice none 0 0, .slice none 0 0] ∧ w.heap.size + 1 + 1 < b7) := ⟨hb7 ▸ hW7 ▸ Bx.new X0 [_, _, _] _, by have := HD.out.2.2.1.2; omega⟩; have HD : Hid (Bx W7 w.heap.size [.int .i64 ck, .slice a1 cp.length k1, .slice a2 os.length k2] ∧ Bx W7 (w.heap.size + 1) (stC bg cl wt vl oi ni) ∧ Bx W7 (w.heap.size + 1 + 1) [.int .i64 0, .slice none 0 0, .slice none 0 0] ∧ Below w.heap.size w W7) := ⟨HD.out.1.next hb, HD.out.2.1.next hb, HD.out.2.2.1.next hb, below_next HD.out.2.2.2 hb⟩; rw [← hW7]; rw [← hb7]; clear hW7 hb hb7))
      refine hK.out _ _ ⟨HD.out.1, HD.out.2.1⟩ (fun hHeld => ?_)
      clear hK KC
      refine ready_call 1 ⟨some 14, Op.call { callee := Callee.value (Operand.func 48), args := #[Operand.tmp 13], argTypes := #[29] }, _, _, _, none⟩ (by kernel_rfl) rfl (by kernel_rfl) (fun KC hK => ?_)
      go_wp2_with fail
      refine (l9Own_n [.int .i64 ck, .slice a1 cp.length k1, .slice a2 os.length k2] ck cp os _ (good_sml HG.out) (mk_Register (HL.out.1.next HD.out.2.2.2) (HL.out.2.next HD.out.2.2.2))).mono ?_
      intro r W1 hT1
      obtain ⟨m1, n1, m2, n2, lo1, hi1, rfl, hlo1, hhi1, hO, hb⟩ := toX_named hT1
      clear hT1
      have HO1 : Hid (OwnX W1 lo1 tyRegister [.int .i64 ck, .slice m1 (List.length (α := Sh.T shCopy) cp) n1, .slice m2 (List.length (α := Sh.T shRegOp) os) n2] (ck, cp, os, ()) (Btw lo1 hi1) ∧ w.heap.size + 1 + 1 < lo1 ∧ hi1 ≤ W1.heap.size ∧ lo1 ≤ hi1) := ⟨hO, by have := HD.out.2.2.1.2; omega, by omega, by have := hb.size; omega⟩
      (first | (have H7 : Hid (Bx W1 b7 [.int .i64 0, .slice none 0 0, .slice none 0 0] ∧ w.heap.size + 1 + 1 < b7 ∧ (b7 < lo1 ∨ hi1 ≤ b7)) := ⟨H7.out.1.next hb, H7.out.2, Or.inl (by have := H7.out.1.2; omega)⟩) | skip)
      have HD : Hid (Bx W1 w.heap.size [.int .i64 ck, .slice a1 cp.length k1, .slice a2 os.length k2] ∧ Bx W1 (w.heap.size + 1) (stC bg cl wt vl oi ni) ∧ Bx W1 (w.heap.size + 1 + 1) [.int .i64 0, .slice none 0 0, .slice none 0 0] ∧ Below w.heap.size w W1) := ⟨HD.out.1.next hb, HD.out.2.1.next hb, HD.out.2.2.1.next hb, below_next HD.out.2.2.2 hb⟩
      clear hb hO hlo1 hhi1
      refine hK.out _ _ ⟨HD.out.1, HD.out.2.1⟩ (fun hHeld => ?_)
      clear hK KC
      refine ready_call 3 ⟨some 16, Op.call { callee := Callee.value (Operand.func 47), args := #[Operand.tmp 14, Operand.tmp 15], argTypes := #[29, 42] }, _, _, _, none⟩ (by kernel_rfl) rfl (by kernel_rfl) (fun KC hK => ?_)
      go_wp2_with fail
      refine (l9Step_n lo1 ck _ _ cp os (Btw lo1 hi1) bg cl wt vl oi ni _ HG.out HZ.out.2 (fun b hb => by have := HO1.out.2.2.1; simp only [Btw] at hb; omega) (by have := HO1.out.2.2; omega) HO1.out.1).mono ?_
      rintro r W2 ⟨ck', va', vp', cp', os', S', rfl, hO, hS', hT, hy⟩
      obtain ⟨p1, q1, p2, q2, hp1, hp2⟩ := own_forms hO
      subst hp1 hp2
      have hl1 := HO1.out.2.1
      have hl2 := HO1.out.2.2
      have hsz := HD.out.2.2.2.size
      have hnb : ∀ b, b ≤ w.heap.size + 1 + 1 → ¬ Btw lo1 hi1 b := fun b hb q => by simp only [Btw] at q; omega
      have HO2 : Hid (OwnX W2 lo1 tyRegister [.int .i64 ck', .slice p1 (List.length (α := Sh.T shCopy) cp') q1, .slice p2 (List.length (α := Sh.T shRegOp) os') q2] (ck', cp', os', ()) S' ∧ (∀ b, S' b → w.heap.size + 1 + 1 < b ∧ b < W2.heap.size) ∧ ∀ y : RgD, rsC ck cp os bg cl wt vl oi ni = some y → ck' = ck + 1 ∧ cp' = y.1 ∧ os' = y.2) := ⟨hO, fun b hb => ⟨by rcases (hS' b hb).2 with q | q; (· simp only [Btw] at q; omega); (· omega), (hS' b hb).1⟩, fun y e => hy y e⟩
      (first | (have HN7 : Hid (∀ b, S' b → b ≠ b7) := Hid.intro (fun b hb e => by have h7 := H7.out.2.2; have h8 := H7.out.1.2; rcases (hS' b hb).2 with q | q; (· simp only [Btw] at q; omega); (· omega)); have H7 : Hid (Bx W2 b7 [.int .i64 0, .slice none 0 0, .slice none 0 0] ∧ w.heap.size + 1 + 1 < b7) := ⟨H7.out.1.turnS hT (fun q => by have h7 := H7.out.2.2; simp only [Btw] at q; omega), H7.out.2.1⟩) | skip)
      have HD : Hid (Bx W2 w.heap.size [.int .i64 ck, .slice a1 cp.length k1, .slice a2 os.length k2] ∧ Bx W2 (w.heap.size + 1) (stC bg cl wt vl oi ni) ∧ Bx W2 (w.heap.size + 1 + 1) [.int .i64 0, .slice none 0 0, .slice none 0 0] ∧ Below w.heap.size w W2) := ⟨HD.out.1.turnS hT (hnb _ (by omega)), HD.out.2.1.turnS hT (hnb _ (by omega)), HD.out.2.2.1.turnS hT (hnb _ (by omega)), HD.out.2.2.2.trans (hT.below (fun b q => by simp only [Btw] at q; omega) hsz)⟩
      have HE3 := Hid.intro HEE.out
      rw [HEE.out]
      simp only [Option.isSome_some]
      clear hO hS' hT hy hl1 hl2 hsz hnb HO1
      refine hK.out _ _ ⟨HD.out.1, HD.out.2.1⟩ (fun hHeld => ?_)
      clear hK KC
      refine take_v (v := ?_) 4 ⟨some 12, Op.move (Operand.tmp 16), _, _, _, none⟩ rfl (fun _ _ _ h => h) ?_ hHeld ?_
      rotate_left
      · (intro W _; go_simp <;> (try with_reducible rfl))
      refine take_v (v := ?_) 5 ⟨some 17, Op.extract (Operand.tmp 12) 0, _, _, _, none⟩ rfl (fun _ _ _ h => h) ?_ hHeld ?_
      rotate_left
      · (intro W _; go_simp <;> (try with_reducible rfl))
      refine take_v (v := ?_) 6 ⟨some 18, Op.extract (Operand.tmp 12) 1, _, _, _, none⟩ rfl (fun _ _ _ h => h) ?_ hHeld ?_
      rotate_left
      · (intro W _; go_simp <;> (try with_reducible rfl))
      refine ready_call 8 ⟨none, Op.store 29 (Operand.tmp 6) (Operand.tmp 17), _, _, _, none⟩ (by kernel_rfl) rfl (by kernel_rfl) (fun KC hK => ?_)
      have d0 := H7.out.1.cell 0 rfl
      have d1 := H7.out.1.cell 1 rfl
      have d2 := H7.out.1.cell 2 rfl
      have dz := H7.out.1.2
      have df0 := H7.out.1.frz 0 (by simp)
      have df1 := H7.out.1.frz 1 (by simp)
      have df2 := H7.out.1.frz 2 (by simp)
      go_wp2_with fail
      have h7 := H7.out.2
      have HF := Hid.intro (out_box (p := .slice p1 (List.length (α := Sh.T shCopy) cp') q1) (q := .slice p2 (List.length (α := Sh.T shRegOp) os') q2) H7.out.1 HO2.out.1 HO2.out.2.1 HN7.out HD.out.2.2.1 HD.out.2.2.2 h7)
      have HY := Hid.intro HO2.out.2.2
      clear d0 d1 d2 dz df0 df1 df2
      refine hK.out _ _ ⟨((HD.out.1.other (by omega)).other (by omega)).other (by omega), ((HD.out.2.1.other (by omega)).other (by omega)).other (by omega)⟩ (fun hHeld => ?_)
      clear hK KC
      refine take_v (v := ?_) 9 ⟨some 7, Op.assign (Operand.tmp 18), _, _, _, none⟩ rfl (fun _ _ _ h => h) ?_ hHeld ?_
      rotate_left
      · (intro W _; go_simp <;> (try with_reducible rfl))
      refine wpAnyH_done (by kernel_rfl) ?_ _
      refine NoPanic.normal ?_
      clear hHeld HO2 HN7 H7
      obtain ⟨rfl, rfl, rfl⟩ := HY.out _ HEE.out
      have b0 := (HF.out.2.2.1).cell 0 rfl; have b1 := (HF.out.2.2.1).cell 1 rfl; have b2 := (HF.out.2.2.1).cell 2 rfl; have bz := (HF.out.2.2.1).2
      obtain ⟨z, hzE⟩ : ∃ z, z = tf (goodR (ck + 1) y.1 y.2) := ⟨_, rfl⟩
      have HZE := Hid.intro hzE
      clear hzE
      go_wp2_with (first | (go_at_call 18; refine (HZE.out.symm ▸ specGoodRegister_n [.int .i64 (ck + 1), .slice p1 (List.length (α := Sh.T shCopy) y.1) q1, .slice p2 (List.length (α := Sh.T shRegOp) y.2) q2] (ck + 1) y.1 y.2 _ (Nat.le_trans (sz_small HSM.out) (by decide)) HF.out.1.lies).mono ?_; rintro r W9 ⟨rfl, hb⟩; have HF9 := Hid.intro (fin_next HF.out hb); clear hb b0 b1 b2 bz; have b0 := HF9.out.2.2.1.cell 0 rfl; have b1 := HF9.out.2.2.1.cell 1 rfl; have b2 := HF9.out.2.2.1.cell 2 rfl; have bz := HF9.out.2.2.1.2; have r0 := HF9.out.2.2.2.1.cell 0 rfl; have r1 := HF9.out.2.2.2.1.cell 1 rfl; have r2 := HF9.out.2.2.2.1.cell 2 rfl; have rz := HF9.out.2.2.2.1.2; have rf0 := HF9.out.2.2.2.1.frz 0 (by simp); have rf1 := HF9.out.2.2.2.1.frz 1 (by simp); have rf2 := HF9.out.2.2.2.1.frz 2 (by simp); cases z))
      · have HN : Hid (rsS ck cp os bg cl wt vl oi ni = none) := Hid.intro (rsS_no HKE.out.2 (fun q => by have := HZE.out; rw [tf_yes q] at this; cases this))
        exact bodyPost_ret (v := .tuple #[.agg #[.int .i64 0, .slice none 0 0, .slice none 0 0], .bool false]) (by simp [results, Try.results21, go_sem, *]) rfl (RsP.zero HN.out (HF9.out.2.2.2.2.trans ((set3 _ (w.heap.size + 1 + 1) _ _ _).below (fun k e => by have e : k = w.heap.size + 1 + 1 := e; omega) HF9.out.2.2.2.2.size)))
      · have HN : Hid (rsS ck cp os bg cl wt vl oi ni = some (ck + 1, y.1, y.2, ())) := Hid.intro (rsS_yes HG.out HKE.out.1 HKE.out.2 (tf_iff.1 HZE.out.symm))
        exact bodyPost_ret (v := .tuple #[.agg #[.int .i64 (ck + 1), .slice p1 (List.length (α := Sh.T shCopy) y.1) q1, .slice p2 (List.length (α := Sh.T shRegOp) y.2) q2], .bool true]) (by simp [results, Try.results21, go_sem, *]) rfl (RsP.some HN.out (HF9.out.1.turn (set3 _ (w.heap.size + 1 + 1) _ _ _) (fun b hb e => by have e : b = w.heap.size + 1 + 1 := e; have := (HF9.out.2.1 b hb).1; omega)) (fun b hb => by have := HF9.out.2.1 b hb; simp only [Btw, World.size_setCell]; omega) (HF9.out.2.2.2.2.trans ((set3 _ (w.heap.size + 1 + 1) _ _ _).below (fun k e => by have e : k = w.heap.size + 1 + 1 := e; omega) HF9.out.2.2.2.2.size)))
end Go.Proofs.Ytaofolbnommpgaa
