/- Leases: spec.StepLease; NewLeases on both sides. Written by tools/mkLsE.py. -/
import Derived.Test.YtidalpgkljafdaaLsD
namespace Go.Proofs.Ytidalpgkljafdaa
open Go.RowKit
set_option linter.unusedVariables false
set_option linter.unusedSimpArgs false

theorem boxL {w W : World} {lo b7 g1 k1 g2 k2 m : Nat} {cl kn : List (Sh.T .int)} (h7 : Bx W b7 [.int .i64 0, .int .i64 0, .slice none 0 0, .int .i64 0, .int .i64 0, .slice none 0 0]) (hb7 : w.heap.size + 1 + 1 < b7) (r1 : Rw 3 W lo g1 k1 cl m) (r2 : Rw 3 W lo g2 k2 kn m) (n1 : g1 ≠ b7) (n2 : g2 ≠ b7) (hr : Bx W (w.heap.size + 1 + 1) [.int .i64 0, .int .i64 0, .slice none 0 0, .int .i64 0, .int .i64 0, .slice none 0 0]) (hb : Below w.heap.size w W) (u0 u1 u2 u3 u4 u5 : Value) :
    Bx ((((((W.setCell ⟨b7, 0, none⟩ u0).setCell ⟨b7, 1, none⟩ u1).setCell ⟨b7, 2, none⟩ u2).setCell ⟨b7, 3, none⟩ u3).setCell ⟨b7, 4, none⟩ u4).setCell ⟨b7, 5, none⟩ u5) b7 [u0, u1, u2, u3, u4, u5] ∧ Rw 3 ((((((W.setCell ⟨b7, 0, none⟩ u0).setCell ⟨b7, 1, none⟩ u1).setCell ⟨b7, 2, none⟩ u2).setCell ⟨b7, 3, none⟩ u3).setCell ⟨b7, 4, none⟩ u4).setCell ⟨b7, 5, none⟩ u5) lo g1 k1 cl m ∧ Rw 3 ((((((W.setCell ⟨b7, 0, none⟩ u0).setCell ⟨b7, 1, none⟩ u1).setCell ⟨b7, 2, none⟩ u2).setCell ⟨b7, 3, none⟩ u3).setCell ⟨b7, 4, none⟩ u4).setCell ⟨b7, 5, none⟩ u5) lo g2 k2 kn m ∧ Bx ((((((W.setCell ⟨b7, 0, none⟩ u0).setCell ⟨b7, 1, none⟩ u1).setCell ⟨b7, 2, none⟩ u2).setCell ⟨b7, 3, none⟩ u3).setCell ⟨b7, 4, none⟩ u4).setCell ⟨b7, 5, none⟩ u5) (w.heap.size + 1 + 1) [.int .i64 0, .int .i64 0, .slice none 0 0, .int .i64 0, .int .i64 0, .slice none 0 0] ∧ Below w.heap.size w ((((((W.setCell ⟨b7, 0, none⟩ u0).setCell ⟨b7, 1, none⟩ u1).setCell ⟨b7, 2, none⟩ u2).setCell ⟨b7, 3, none⟩ u3).setCell ⟨b7, 4, none⟩ u4).setCell ⟨b7, 5, none⟩ u5) :=
  ⟨(((((h7.set (k := 0) (by simp) u0).set (k := 1) (by simp) u1).set (k := 2) (by simp) u2).set (k := 3) (by simp) u3).set (k := 4) (by simp) u4).set (k := 5) (by simp) u5, r1.turn (set6 W b7 _ _ _ _ _ _) n1, r2.turn (set6 W b7 _ _ _ _ _ _) n2, hr.turnS (set6 W b7 _ _ _ _ _ _) (by omega), hb.trans ((set6 W b7 _ _ _ _ _ _).below (fun k e => by have e : k = b7 := e; omega) hb.size)⟩


set_option maxRecDepth 100000 in
set_option maxHeartbeats 8000000 in
theorem specStepLease_n (cs : List Value) (sk nw : Int) (cl : List (Sh.T .int)) (ho un : Int) (kn : List (Sh.T .int)) (a b n : Int) (w : World) (hz : szD shLeases (sk, nw, cl, ho, un, kn, ()) ≤ 1073741824) (h : Lies w shLeases cs (sk, nw, cl, ho, un, kn, ())) :
    Calls Try.prog 17 #[.agg cs.toArray, .agg #[.int .i64 a, .int .i64 b, .int .i64 n]] w (LsP (leS sk nw cl ho un kn a b n) w) := by
  obtain ⟨a1, c1, a2, c2, rfl, h1, h2⟩ := lies_Leases h
  have HL : Hid (Lies w (.list .int) [.slice a1 cl.length c1] cl ∧ Lies w (.list .int) [.slice a2 kn.length c2] kn) := ⟨h1, h2⟩
  have HZ : Hid (szD shLeases (sk, nw, cl, ho, un, kn, ()) ≤ 1073741824) := hz
  clear h h1 h2 hz
  obtain ⟨w0, hw0⟩ : ∃ x, x = ((w.alloc (.cells #[.int .i64 sk, .int .i64 nw, .slice a1 cl.length c1, .int .i64 ho, .int .i64 un, .slice a2 kn.length c2] 28)).alloc (.cells #[.int .i64 a, .int .i64 b, .int .i64 n] 34)).alloc (.cells #[.int .i64 0, .int .i64 0, .slice none 0 0, .int .i64 0, .int .i64 0, .slice none 0 0] 28) := ⟨_, rfl⟩
  have HB0 : Hid (Bx w0 w.heap.size [.int .i64 sk, .int .i64 nw, .slice a1 cl.length c1, .int .i64 ho, .int .i64 un, .slice a2 kn.length c2] ∧ Bx w0 (w.heap.size + 1) [.int .i64 a, .int .i64 b, .int .i64 n] ∧ Bx w0 (w.heap.size + 1 + 1) [.int .i64 0, .int .i64 0, .slice none 0 0, .int .i64 0, .int .i64 0, .slice none 0 0] ∧ Below w.heap.size w w0) :=
    ⟨hw0 ▸ ((Bx.new w [_, _, _, _, _, _] _).alloc _).alloc _, hw0 ▸ (Bx.newAt (by simp)).alloc _, hw0 ▸ Bx.newAt (by simp), hw0 ▸ (((Below.refl _ _).alloc (Nat.le_refl _) _).alloc (by simp) _).alloc (by simp; omega) _⟩
  go_enter Try.func17, Try.ntmps17
  go_wp2_with fail
  rw [← hw0]
  clear hw0
  refine (specGoodLeases_n [.int .i64 sk, .int .i64 nw, .slice a1 cl.length c1, .int .i64 ho, .int .i64 un, .slice a2 kn.length c2] sk nw cl ho un kn _ HZ.out (mk_Leases (HL.out.1.next HB0.out.2.2.2) (HL.out.2.next HB0.out.2.2.2))).mono ?_
  rintro r w1 ⟨rfl, hb⟩
  have HD1 : Hid (Bx w1 w.heap.size [.int .i64 sk, .int .i64 nw, .slice a1 cl.length c1, .int .i64 ho, .int .i64 un, .slice a2 kn.length c2] ∧ Bx w1 (w.heap.size + 1) [.int .i64 a, .int .i64 b, .int .i64 n] ∧ Bx w1 (w.heap.size + 1 + 1) [.int .i64 0, .int .i64 0, .slice none 0 0, .int .i64 0, .int .i64 0, .slice none 0 0] ∧ Below w.heap.size w w1) := ⟨HB0.out.1.next hb, HB0.out.2.1.next hb, HB0.out.2.2.1.next hb, below_next HB0.out.2.2.2 hb⟩
  clear hb HB0
  by_cases c0 : goodL sk nw cl ho un kn
  case neg =>
    have r0 := HD1.out.2.2.1.cell 0 rfl
    have r1 := HD1.out.2.2.1.cell 1 rfl
    have r2 := HD1.out.2.2.1.cell 2 rfl
    have r3 := HD1.out.2.2.1.cell 3 rfl
    have r4 := HD1.out.2.2.1.cell 4 rfl
    have r5 := HD1.out.2.2.1.cell 5 rfl
    have rz := HD1.out.2.2.1.2
    have rf0 := HD1.out.2.2.1.frz 0 (by simp)
    have rf1 := HD1.out.2.2.1.frz 1 (by simp)
    have rf2 := HD1.out.2.2.1.frz 2 (by simp)
    have rf3 := HD1.out.2.2.1.frz 3 (by simp)
    have rf4 := HD1.out.2.2.1.frz 4 (by simp)
    have rf5 := HD1.out.2.2.1.frz 5 (by simp)
    rw [tf_no c0]
    have HN : Hid (leS sk nw cl ho un kn a b n = none) := Hid.intro (leS_no c0)
    clear c0
    go_wp2_with fail
    exact bodyPost_ret (v := .tuple #[.agg #[.int .i64 0, .int .i64 0, .slice none 0 0, .int .i64 0, .int .i64 0, .slice none 0 0], .bool false]) (by simp [results, Try.results17, go_sem, *]) rfl (LsP.zero HN.out (HD1.out.2.2.2.trans ((set6 w1 (w.heap.size + 1 + 1) _ _ _ _ _ _).below (fun k e => by have e : k = w.heap.size + 1 + 1 := e; omega) HD1.out.2.2.2.size)))
  rw [tf_yes c0]
  have HG : Hid (goodL sk nw cl ho un kn) := c0
  have HS : Hid (leS sk nw cl ho un kn a b n = leB sk nw cl ho un kn a b n) := Hid.intro (leS_yes c0)
  clear c0
  go_upto_region 3 with fail
  have HD : Hid (Bx w1.drew w.heap.size [.int .i64 sk, .int .i64 nw, .slice a1 cl.length c1, .int .i64 ho, .int .i64 un, .slice a2 kn.length c2] ∧ Bx w1.drew (w.heap.size + 1) [.int .i64 a, .int .i64 b, .int .i64 n] ∧ Bx w1.drew (w.heap.size + 1 + 1) [.int .i64 0, .int .i64 0, .slice none 0 0, .int .i64 0, .int .i64 0, .slice none 0 0] ∧ Below w.heap.size w w1.drew) := ⟨HD1.out.1.next (below_drew _), HD1.out.2.1.next (below_drew _), HD1.out.2.2.1.next (below_drew _), below_next HD1.out.2.2.2 (below_drew _)⟩
  clear HD1
  refine wp_region_noPanic ?_
  refine wp_region_held_drew (S := fun W => Bx W w.heap.size [.int .i64 sk, .int .i64 nw, .slice a1 cl.length c1, .int .i64 ho, .int .i64 un, .slice a2 kn.length c2] ∧ Bx W (w.heap.size + 1) [.int .i64 a, .int .i64 b, .int .i64 n]) (by kernel_rfl) ⟨HD.out.1, HD.out.2.1⟩ (fun hHeld => ?_)
  obtain ⟨X0, hX0⟩ : ∃ x, x = w1.drew := ⟨_, rfl⟩
  rw [← hX0] at HD hHeld ⊢
  clear hX0
  refine take_v (v := ?_) 0 ⟨some 13, Op.load 28 (Operand.tmp 2), _, _, _, none⟩ rfl (fun _ _ _ h => h) ?_ hHeld ?_
  rotate_left
  · (intro W hSW; (have s0 := hSW.1.cell 0 rfl; have s1 := hSW.1.cell 1 rfl; have s2 := hSW.1.cell 2 rfl; have s3 := hSW.1.cell 3 rfl; have s4 := hSW.1.cell 4 rfl; have s5 := hSW.1.cell 5 rfl; have sz := hSW.1.2; have t0 := hSW.2.cell 0 rfl; have t1 := hSW.2.cell 1 rfl; have t2 := hSW.2.cell 2 rfl; have tz := hSW.2.2); go_simp <;> (try with_reducible rfl))
  refine take_v (v := ?_) 2 ⟨some 15, Op.load 34 (Operand.tmp 3), _, _, _, none⟩ rfl (fun _ _ _ h => h) ?_ hHeld ?_
  rotate_left
  · (intro W hSW; (have s0 := hSW.1.cell 0 rfl; have s1 := hSW.1.cell 1 rfl; have s2 := hSW.1.cell 2 rfl; have s3 := hSW.1.cell 3 rfl; have s4 := hSW.1.cell 4 rfl; have s5 := hSW.1.cell 5 rfl; have sz := hSW.1.2; have t0 := hSW.2.cell 0 rfl; have t1 := hSW.2.cell 1 rfl; have t2 := hSW.2.cell 2 rfl; have tz := hSW.2.2); go_simp <;> (try with_reducible rfl))
  refine ready_two 1 7 ⟨some 14, Op.call { callee := Callee.value (Operand.func 43), args := #[Operand.tmp 13], argTypes := #[28] }, _, _, _, none⟩ ⟨some 6, Op.alloc 28, _, _, _, none⟩ (by kernel_rfl) rfl rfl (by kernel_rfl) (by kernel_rfl) (fun KC hK => ?_) (fun KC hK => ?_)
  ·
    go_wp2_with fail
    refine (l11Own_n [.int .i64 sk, .int .i64 nw, .slice a1 cl.length c1, .int .i64 ho, .int .i64 un, .slice a2 kn.length c2] sk nw cl ho un kn _ HZ.out (mk_Leases (HL.out.1.next HD.out.2.2.2) (HL.out.2.next HD.out.2.2.2))).mono ?_
    intro r W1 hT1
    obtain ⟨g1, k1, g2, k2, m, rfl, hr1, hr2, hne, hb, hm12⟩ := toX_rows HG.out hT1
    have hz1 := HD.out.2.2.1.2
    have hy1 := hr1.lt.2
    have hy2 := hr2.lt.2
    have hl1 := HD.out.2.2.2.size
    (first | (have HO1 := (show Hid (Rw 3 W1 w.heap.size g1 k1 cl m ∧ Rw 3 W1 w.heap.size g2 k2 kn m ∧ g1 ≠ g2 ∧ w.heap.size + 1 + 1 < g1 ∧ w.heap.size + 1 + 1 < g2 ∧ g1 ≠ b7 ∧ g2 ≠ b7) from ⟨hr1.lower hl1, hr2.lower hl1, hne, by omega, by omega, by have := H7.out.1.2; omega, by have := H7.out.1.2; omega⟩)) | (have HO1 := (show Hid (Rw 3 W1 w.heap.size g1 k1 cl m ∧ Rw 3 W1 w.heap.size g2 k2 kn m ∧ g1 ≠ g2 ∧ w.heap.size + 1 + 1 < g1 ∧ w.heap.size + 1 + 1 < g2) from ⟨hr1.lower hl1, hr2.lower hl1, hne, by omega, by omega⟩)))
    have HD := (show Hid (Bx W1 w.heap.size [.int .i64 sk, .int .i64 nw, .slice a1 cl.length c1, .int .i64 ho, .int .i64 un, .slice a2 kn.length c2] ∧ Bx W1 (w.heap.size + 1) [.int .i64 a, .int .i64 b, .int .i64 n] ∧ Bx W1 (w.heap.size + 1 + 1) [.int .i64 0, .int .i64 0, .slice none 0 0, .int .i64 0, .int .i64 0, .slice none 0 0] ∧ Below w.heap.size w W1) from ⟨HD.out.1.next hb, HD.out.2.1.next hb, HD.out.2.2.1.next hb, below_next HD.out.2.2.2 hb⟩)
    (first | (have H7 := (show Hid (Bx W1 b7 [.int .i64 0, .int .i64 0, .slice none 0 0, .int .i64 0, .int .i64 0, .slice none 0 0] ∧ w.heap.size + 1 + 1 < b7) from ⟨H7.out.1.next hb, H7.out.2⟩)) | skip)
    clear hb hr1 hr2 hT1 hz1 hy1 hy2 hl1 hne hm12
    refine hK.out _ _ ⟨HD.out.1, HD.out.2.1⟩ (fun hHeld => ?_)
    clear hK KC
    refine ready_two 3 7 ⟨some 16, Op.call { callee := Callee.value (Operand.func 42), args := #[Operand.tmp 14, Operand.tmp 15], argTypes := #[28, 34] }, _, _, _, none⟩ ⟨some 6, Op.alloc 28, _, _, _, none⟩ (by kernel_rfl) rfl rfl (by kernel_rfl) (by kernel_rfl) (fun KC hK => ?_) (fun KC hK => ?_)
    ·
      go_wp2_with fail
      refine (l11Step_n w.heap.size sk nw g1 k1 cl ho un g2 k2 kn m a b n _ HG.out HO1.out.1 HO1.out.2.1 HO1.out.2.2.1).mono ?_
      intro r W2 hQ2
      obtain ⟨sk', nw', cl', ho', un', kn', rfl, hT, hr1, hr2, hy⟩ := hQ2
      have HY := Hid.intro hy
      have hg1 := HO1.out.2.2.2.1
      (first | (have hg2 := HO1.out.2.2.2.2.1) | (have hg2 := HO1.out.2.2.2.2))
      (first | (have HO2 := (show Hid (Rw 3 W2 w.heap.size g1 k1 cl' m ∧ Rw 3 W2 w.heap.size g2 k2 kn' m ∧ g1 ≠ g2 ∧ w.heap.size + 1 + 1 < g1 ∧ w.heap.size + 1 + 1 < g2 ∧ g1 ≠ b7 ∧ g2 ≠ b7) from ⟨hr1, hr2, HO1.out.2.2.1, hg1, hg2, HO1.out.2.2.2.2.2⟩)) | (have HO2 := (show Hid (Rw 3 W2 w.heap.size g1 k1 cl' m ∧ Rw 3 W2 w.heap.size g2 k2 kn' m ∧ g1 ≠ g2 ∧ w.heap.size + 1 + 1 < g1 ∧ w.heap.size + 1 + 1 < g2) from ⟨hr1, hr2, HO1.out.2.2.1, hg1, hg2⟩)))
      (first | (have H7 := (show Hid (Bx W2 b7 [.int .i64 0, .int .i64 0, .slice none 0 0, .int .i64 0, .int .i64 0, .slice none 0 0] ∧ w.heap.size + 1 + 1 < b7) from ⟨H7.out.1.turnS hT (fun q => by have q : b7 = g1 ∨ b7 = g2 := q; have := HO1.out.2.2.2.2.2; omega), H7.out.2⟩)) | skip)
      have HD := (show Hid (Bx W2 w.heap.size [.int .i64 sk, .int .i64 nw, .slice a1 cl.length c1, .int .i64 ho, .int .i64 un, .slice a2 kn.length c2] ∧ Bx W2 (w.heap.size + 1) [.int .i64 a, .int .i64 b, .int .i64 n] ∧ Bx W2 (w.heap.size + 1 + 1) [.int .i64 0, .int .i64 0, .slice none 0 0, .int .i64 0, .int .i64 0, .slice none 0 0] ∧ Below w.heap.size w W2) from ⟨HD.out.1.turnS hT (fun q => by have q : w.heap.size = g1 ∨ w.heap.size = g2 := q; omega), HD.out.2.1.turnS hT (fun q => by have q : w.heap.size + 1 = g1 ∨ w.heap.size + 1 = g2 := q; omega), HD.out.2.2.1.turnS hT (fun q => by have q : w.heap.size + 1 + 1 = g1 ∨ w.heap.size + 1 + 1 = g2 := q; omega), HD.out.2.2.2.trans (hT.below (fun k q => by have q : k = g1 ∨ k = g2 := q; omega) HD.out.2.2.2.size)⟩)
      clear hT hr1 hr2 hy hg1 hg2
      refine hK.out _ _ ⟨HD.out.1, HD.out.2.1⟩ (fun hHeld => ?_)
      clear hK KC
      refine take_v (v := ?_) 4 ⟨some 12, Op.move (Operand.tmp 16), _, _, _, none⟩ rfl (fun _ _ _ h => h) ?_ hHeld ?_
      rotate_left
      · (intro W _; go_simp <;> (try with_reducible rfl))
      refine take_v (v := ?_) 5 ⟨some 17, Op.extract (Operand.tmp 12) 0, _, _, _, none⟩ rfl (fun _ _ _ h => h) ?_ hHeld ?_
      rotate_left
      · (intro W _; go_simp <;> (try with_reducible rfl))
      refine take_v (v := ?_) 6 ⟨some 18, Op.extract (Operand.tmp 12) 1, _, _, _, none⟩ rfl (fun _ _ _ h => h) ?_ hHeld ?_
      rotate_left
      · (intro W _; go_simp <;> (try with_reducible rfl))
      refine ready_call 7 ⟨some 6, Op.alloc 28, _, _, _, none⟩ (by kernel_rfl) rfl (by kernel_rfl) (fun KC hK => ?_)
      go_wp2_with fail
      (first | (obtain ⟨W7, hW7⟩ : ∃ x, x = W2.alloc (.cells #[.int .i64 0, .int .i64 0, .slice none 0 0, .int .i64 0, .int .i64 0, .slice none 0 0] 28) := ⟨_, rfl⟩; have hb : Below W2.heap.size W2 W7 := hW7 ▸ Go.Joins.below_alloc1 _ _; obtain ⟨b7, hb7⟩ : ∃ b, b = W2.heap.size := ⟨_, rfl⟩; have H7 : Hid (Bx W7 b7 [.int .i64 0, .int .i64 0, .slice none 0 0, .int .i64 0, .int .i64 0, .slice none 0 0] ∧ w.heap.size + 1 + 1 < b7) := ⟨hb7 ▸ hW7 ▸ Bx.new W2 [_, _, _, _, _, _] _, by have := HD.out.2.2.1.2; omega⟩; have HO2 := (show Hid (Rw 3 W7 w.heap.size g1 k1 cl' m ∧ Rw 3 W7 w.heap.size g2 k2 kn' m ∧ g1 ≠ g2 ∧ w.heap.size + 1 + 1 < g1 ∧ w.heap.size + 1 + 1 < g2 ∧ g1 ≠ b7 ∧ g2 ≠ b7) from ⟨HO2.out.1.next hb, HO2.out.2.1.next hb, HO2.out.2.2.1, HO2.out.2.2.2.1, HO2.out.2.2.2.2, by have := HO2.out.1.lt.1; omega, by have := HO2.out.2.1.lt.1; omega⟩); have HD := (show Hid (Bx W7 w.heap.size [.int .i64 sk, .int .i64 nw, .slice a1 cl.length c1, .int .i64 ho, .int .i64 un, .slice a2 kn.length c2] ∧ Bx W7 (w.heap.size + 1) [.int .i64 a, .int .i64 b, .int .i64 n] ∧ Bx W7 (w.heap.size + 1 + 1) [.int .i64 0, .int .i64 0, .slice none 0 0, .int .i64 0, .int .i64 0, .slice none 0 0] ∧ Below w.heap.size w W7) from ⟨HD.out.1.next hb, HD.out.2.1.next hb, HD.out.2.2.1.next hb, below_next HD.out.2.2.2 hb⟩); rw [← hW7, ← hb7]; clear hW7 hb7 hb) | (obtain ⟨W7, hW7⟩ : ∃ x, x = W1.alloc (.cells #[.int .i64 0, .int .i64 0, .slice none 0 0, .int .i64 0, .int .i64 0, .slice none 0 0] 28) := ⟨_, rfl⟩; have hb : Below W1.heap.size W1 W7 := hW7 ▸ Go.Joins.below_alloc1 _ _; obtain ⟨b7, hb7⟩ : ∃ b, b = W1.heap.size := ⟨_, rfl⟩; have H7 : Hid (Bx W7 b7 [.int .i64 0, .int .i64 0, .slice none 0 0, .int .i64 0, .int .i64 0, .slice none 0 0] ∧ w.heap.size + 1 + 1 < b7) := ⟨hb7 ▸ hW7 ▸ Bx.new W1 [_, _, _, _, _, _] _, by have := HD.out.2.2.1.2; omega⟩; have HO1 := (show Hid (Rw 3 W7 w.heap.size g1 k1 cl m ∧ Rw 3 W7 w.heap.size g2 k2 kn m ∧ g1 ≠ g2 ∧ w.heap.size + 1 + 1 < g1 ∧ w.heap.size + 1 + 1 < g2 ∧ g1 ≠ b7 ∧ g2 ≠ b7) from ⟨HO1.out.1.next hb, HO1.out.2.1.next hb, HO1.out.2.2.1, HO1.out.2.2.2.1, HO1.out.2.2.2.2, by have := HO1.out.1.lt.1; omega, by have := HO1.out.2.1.lt.1; omega⟩); have HD := (show Hid (Bx W7 w.heap.size [.int .i64 sk, .int .i64 nw, .slice a1 cl.length c1, .int .i64 ho, .int .i64 un, .slice a2 kn.length c2] ∧ Bx W7 (w.heap.size + 1) [.int .i64 a, .int .i64 b, .int .i64 n] ∧ Bx W7 (w.heap.size + 1 + 1) [.int .i64 0, .int .i64 0, .slice none 0 0, .int .i64 0, .int .i64 0, .slice none 0 0] ∧ Below w.heap.size w W7) from ⟨HD.out.1.next hb, HD.out.2.1.next hb, HD.out.2.2.1.next hb, below_next HD.out.2.2.2 hb⟩); rw [← hW7, ← hb7]; clear hW7 hb7 hb) | (obtain ⟨W7, hW7⟩ : ∃ x, x = X0.alloc (.cells #[.int .i64 0, .int .i64 0, .slice none 0 0, .int .i64 0, .int .i64 0, .slice none 0 0] 28) := ⟨_, rfl⟩; have hb : Below X0.heap.size X0 W7 := hW7 ▸ Go.Joins.below_alloc1 _ _; obtain ⟨b7, hb7⟩ : ∃ b, b = X0.heap.size := ⟨_, rfl⟩; have H7 : Hid (Bx W7 b7 [.int .i64 0, .int .i64 0, .slice none 0 0, .int .i64 0, .int .i64 0, .slice none 0 0] ∧ w.heap.size + 1 + 1 < b7) := ⟨hb7 ▸ hW7 ▸ Bx.new X0 [_, _, _, _, _, _] _, by have := HD.out.2.2.1.2; omega⟩; skip; have HD := (show Hid (Bx W7 w.heap.size [.int .i64 sk, .int .i64 nw, .slice a1 cl.length c1, .int .i64 ho, .int .i64 un, .slice a2 kn.length c2] ∧ Bx W7 (w.heap.size + 1) [.int .i64 a, .int .i64 b, .int .i64 n] ∧ Bx W7 (w.heap.size + 1 + 1) [.int .i64 0, .int .i64 0, .slice none 0 0, .int .i64 0, .int .i64 0, .slice none 0 0] ∧ Below w.heap.size w W7) from ⟨HD.out.1.next hb, HD.out.2.1.next hb, HD.out.2.2.1.next hb, below_next HD.out.2.2.2 hb⟩); rw [← hW7, ← hb7]; clear hW7 hb7 hb))
      refine hK.out _ _ ⟨HD.out.1, HD.out.2.1⟩ (fun hHeld => ?_)
      clear hK KC
      refine ready_call 8 ⟨none, Op.store 28 (Operand.tmp 6) (Operand.tmp 17), _, _, _, none⟩ (by kernel_rfl) rfl (by kernel_rfl) (fun KC hK => ?_)
      have d0 := H7.out.1.cell 0 rfl
      have d1 := H7.out.1.cell 1 rfl
      have d2 := H7.out.1.cell 2 rfl
      have d3 := H7.out.1.cell 3 rfl
      have d4 := H7.out.1.cell 4 rfl
      have d5 := H7.out.1.cell 5 rfl
      have dz := H7.out.1.2
      have df0 := H7.out.1.frz 0 (by simp)
      have df1 := H7.out.1.frz 1 (by simp)
      have df2 := H7.out.1.frz 2 (by simp)
      have df3 := H7.out.1.frz 3 (by simp)
      have df4 := H7.out.1.frz 4 (by simp)
      have df5 := H7.out.1.frz 5 (by simp)
      have h7 := H7.out.2
      go_wp2_with fail
      have HF := Hid.intro (boxL H7.out.1 H7.out.2 HO2.out.1 HO2.out.2.1 HO2.out.2.2.2.2.2.1 HO2.out.2.2.2.2.2.2 HD.out.2.2.1 HD.out.2.2.2 (.int .i64 sk') (.int .i64 nw') (.slice (some ⟨g1, 0, none⟩) m k1) (.int .i64 ho') (.int .i64 un') (.slice (some ⟨g2, 0, none⟩) m k2))
      have HGE := Hid.intro HO2.out.2.2
      clear d0 df0 d1 df1 d2 df2 d3 df3 d4 df4 d5 df5 dz
      refine hK.out _ _ ⟨HD.out.1.turnS (set6 _ b7 _ _ _ _ _ _) (by omega), HD.out.2.1.turnS (set6 _ b7 _ _ _ _ _ _) (by omega)⟩ (fun hHeld => ?_)
      clear hK KC
      refine take_v (v := ?_) 9 ⟨some 7, Op.assign (Operand.tmp 18), _, _, _, none⟩ rfl (fun _ _ _ h => h) ?_ hHeld ?_
      rotate_left
      · (intro W _; go_simp <;> (try with_reducible rfl))
      refine wpAnyH_done (by kernel_rfl) ?_ _
      refine NoPanic.normal ?_
      clear hHeld
      have r0 := HF.out.2.2.2.1.cell 0 rfl
      have r1 := HF.out.2.2.2.1.cell 1 rfl
      have r2 := HF.out.2.2.2.1.cell 2 rfl
      have r3 := HF.out.2.2.2.1.cell 3 rfl
      have r4 := HF.out.2.2.2.1.cell 4 rfl
      have r5 := HF.out.2.2.2.1.cell 5 rfl
      have rz := HF.out.2.2.2.1.2
      have rf0 := HF.out.2.2.2.1.frz 0 (by simp)
      have rf1 := HF.out.2.2.2.1.frz 1 (by simp)
      have rf2 := HF.out.2.2.2.1.frz 2 (by simp)
      have rf3 := HF.out.2.2.2.1.frz 3 (by simp)
      have rf4 := HF.out.2.2.2.1.frz 4 (by simp)
      have rf5 := HF.out.2.2.2.1.frz 5 (by simp)
      have b0 := HF.out.1.cell 0 rfl
      have b1 := HF.out.1.cell 1 rfl
      have b2 := HF.out.1.cell 2 rfl
      have b3 := HF.out.1.cell 3 rfl
      have b4 := HF.out.1.cell 4 rfl
      have b5 := HF.out.1.cell 5 rfl
      have bz := HF.out.1.2
      have hne : b7 ≠ w.heap.size + 1 + 1 := by omega
      (obtain ⟨E, hEE⟩ : ∃ E, E = leB sk nw cl ho un kn a b n := ⟨_, rfl⟩)
      rw [← hEE] at HS HY ⊢
      clear hEE HO1 HO2 H7 HD
      cases E with
      | none =>
        simp only [Option.isSome_none]
        go_wp2_with fail
        exact bodyPost_ret (v := .tuple #[.agg #[.int .i64 0, .int .i64 0, .slice none 0 0, .int .i64 0, .int .i64 0, .slice none 0 0], .bool false]) (by simp [results, Try.results17, go_sem, *]) rfl (LsP.zero HS.out (HF.out.2.2.2.2.trans ((set6 _ (w.heap.size + 1 + 1) _ _ _ _ _ _).below (fun k e => by have e : k = w.heap.size + 1 + 1 := e; omega) HF.out.2.2.2.2.size)))
      | some y =>
        have HN : Hid (leS sk nw cl ho un kn a b n = some (sk', nw', cl', ho', un', kn', ())) := Hid.intro (by rw [HS.out, HY.out y rfl]; rfl)
        simp only [Option.isSome_some]
        go_wp2_with fail
        exact bodyPost_ret (v := .tuple #[.agg #[.int .i64 sk', .int .i64 nw', .slice (some ⟨g1, 0, none⟩) m k1, .int .i64 ho', .int .i64 un', .slice (some ⟨g2, 0, none⟩) m k2], .bool true]) (by simp [results, Try.results17, go_sem, *]) rfl (LsP.done HN.out (HF.out.2.1.turn (set6 _ (w.heap.size + 1 + 1) _ _ _ _ _ _) (fun e => by have e : g1 = w.heap.size + 1 + 1 := e; have := HGE.out.2.1; omega)) (HF.out.2.2.1.turn (set6 _ (w.heap.size + 1 + 1) _ _ _ _ _ _) (fun e => by have e : g2 = w.heap.size + 1 + 1 := e; have := HGE.out.2.2.1; omega)) HGE.out.1 (by have := HGE.out.2.1; omega) (by have := HGE.out.2.2.1; omega) (HF.out.2.2.2.2.trans ((set6 _ (w.heap.size + 1 + 1) _ _ _ _ _ _).below (fun k e => by have e : k = w.heap.size + 1 + 1 := e; omega) HF.out.2.2.2.2.size)))
    ·
      go_wp2_with fail
      (first | (obtain ⟨W7, hW7⟩ : ∃ x, x = W2.alloc (.cells #[.int .i64 0, .int .i64 0, .slice none 0 0, .int .i64 0, .int .i64 0, .slice none 0 0] 28) := ⟨_, rfl⟩; have hb : Below W2.heap.size W2 W7 := hW7 ▸ Go.Joins.below_alloc1 _ _; obtain ⟨b7, hb7⟩ : ∃ b, b = W2.heap.size := ⟨_, rfl⟩; have H7 : Hid (Bx W7 b7 [.int .i64 0, .int .i64 0, .slice none 0 0, .int .i64 0, .int .i64 0, .slice none 0 0] ∧ w.heap.size + 1 + 1 < b7) := ⟨hb7 ▸ hW7 ▸ Bx.new W2 [_, _, _, _, _, _] _, by have := HD.out.2.2.1.2; omega⟩; have HO2 := (show Hid (Rw 3 W7 w.heap.size g1 k1 cl' m ∧ Rw 3 W7 w.heap.size g2 k2 kn' m ∧ g1 ≠ g2 ∧ w.heap.size + 1 + 1 < g1 ∧ w.heap.size + 1 + 1 < g2 ∧ g1 ≠ b7 ∧ g2 ≠ b7) from ⟨HO2.out.1.next hb, HO2.out.2.1.next hb, HO2.out.2.2.1, HO2.out.2.2.2.1, HO2.out.2.2.2.2, by have := HO2.out.1.lt.1; omega, by have := HO2.out.2.1.lt.1; omega⟩); have HD := (show Hid (Bx W7 w.heap.size [.int .i64 sk, .int .i64 nw, .slice a1 cl.length c1, .int .i64 ho, .int .i64 un, .slice a2 kn.length c2] ∧ Bx W7 (w.heap.size + 1) [.int .i64 a, .int .i64 b, .int .i64 n] ∧ Bx W7 (w.heap.size + 1 + 1) [.int .i64 0, .int .i64 0, .slice none 0 0, .int .i64 0, .int .i64 0, .slice none 0 0] ∧ Below w.heap.size w W7) from ⟨HD.out.1.next hb, HD.out.2.1.next hb, HD.out.2.2.1.next hb, below_next HD.out.2.2.2 hb⟩); rw [← hW7, ← hb7]; clear hW7 hb7 hb) | (obtain ⟨W7, hW7⟩ : ∃ x, x = W1.alloc (.cells #[.int .i64 0, .int .i64 0, .slice none 0 0, .int .i64 0, .int .i64 0, .slice none 0 0] 28) := ⟨_, rfl⟩; have hb : Below W1.heap.size W1 W7 := hW7 ▸ Go.Joins.below_alloc1 _ _; obtain ⟨b7, hb7⟩ : ∃ b, b = W1.heap.size := ⟨_, rfl⟩; have H7 : Hid (Bx W7 b7 [.int .i64 0, .int .i64 0, .slice none 0 0, .int .i64 0, .int .i64 0, .slice none 0 0] ∧ w.heap.size + 1 + 1 < b7) := ⟨hb7 ▸ hW7 ▸ Bx.new W1 [_, _, _, _, _, _] _, by have := HD.out.2.2.1.2; omega⟩; have HO1 := (show Hid (Rw 3 W7 w.heap.size g1 k1 cl m ∧ Rw 3 W7 w.heap.size g2 k2 kn m ∧ g1 ≠ g2 ∧ w.heap.size + 1 + 1 < g1 ∧ w.heap.size + 1 + 1 < g2 ∧ g1 ≠ b7 ∧ g2 ≠ b7) from ⟨HO1.out.1.next hb, HO1.out.2.1.next hb, HO1.out.2.2.1, HO1.out.2.2.2.1, HO1.out.2.2.2.2, by have := HO1.out.1.lt.1; omega, by have := HO1.out.2.1.lt.1; omega⟩); have HD := (show Hid (Bx W7 w.heap.size [.int .i64 sk, .int .i64 nw, .slice a1 cl.length c1, .int .i64 ho, .int .i64 un, .slice a2 kn.length c2] ∧ Bx W7 (w.heap.size + 1) [.int .i64 a, .int .i64 b, .int .i64 n] ∧ Bx W7 (w.heap.size + 1 + 1) [.int .i64 0, .int .i64 0, .slice none 0 0, .int .i64 0, .int .i64 0, .slice none 0 0] ∧ Below w.heap.size w W7) from ⟨HD.out.1.next hb, HD.out.2.1.next hb, HD.out.2.2.1.next hb, below_next HD.out.2.2.2 hb⟩); rw [← hW7, ← hb7]; clear hW7 hb7 hb) | (obtain ⟨W7, hW7⟩ : ∃ x, x = X0.alloc (.cells #[.int .i64 0, .int .i64 0, .slice none 0 0, .int .i64 0, .int .i64 0, .slice none 0 0] 28) := ⟨_, rfl⟩; have hb : Below X0.heap.size X0 W7 := hW7 ▸ Go.Joins.below_alloc1 _ _; obtain ⟨b7, hb7⟩ : ∃ b, b = X0.heap.size := ⟨_, rfl⟩; have H7 : Hid (Bx W7 b7 [.int .i64 0, .int .i64 0, .slice none 0 0, .int .i64 0, .int .i64 0, .slice none 0 0] ∧ w.heap.size + 1 + 1 < b7) := ⟨hb7 ▸ hW7 ▸ Bx.new X0 [_, _, _, _, _, _] _, by have := HD.out.2.2.1.2; omega⟩; skip; have HD := (show Hid (Bx W7 w.heap.size [.int .i64 sk, .int .i64 nw, .slice a1 cl.length c1, .int .i64 ho, .int .i64 un, .slice a2 kn.length c2] ∧ Bx W7 (w.heap.size + 1) [.int .i64 a, .int .i64 b, .int .i64 n] ∧ Bx W7 (w.heap.size + 1 + 1) [.int .i64 0, .int .i64 0, .slice none 0 0, .int .i64 0, .int .i64 0, .slice none 0 0] ∧ Below w.heap.size w W7) from ⟨HD.out.1.next hb, HD.out.2.1.next hb, HD.out.2.2.1.next hb, below_next HD.out.2.2.2 hb⟩); rw [← hW7, ← hb7]; clear hW7 hb7 hb))
      refine hK.out _ _ ⟨HD.out.1, HD.out.2.1⟩ (fun hHeld => ?_)
      clear hK KC
      refine ready_call 3 ⟨some 16, Op.call { callee := Callee.value (Operand.func 42), args := #[Operand.tmp 14, Operand.tmp 15], argTypes := #[28, 34] }, _, _, _, none⟩ (by kernel_rfl) rfl (by kernel_rfl) (fun KC hK => ?_)
      go_wp2_with fail
      refine (l11Step_n w.heap.size sk nw g1 k1 cl ho un g2 k2 kn m a b n _ HG.out HO1.out.1 HO1.out.2.1 HO1.out.2.2.1).mono ?_
      intro r W2 hQ2
      obtain ⟨sk', nw', cl', ho', un', kn', rfl, hT, hr1, hr2, hy⟩ := hQ2
      have HY := Hid.intro hy
      have hg1 := HO1.out.2.2.2.1
      (first | (have hg2 := HO1.out.2.2.2.2.1) | (have hg2 := HO1.out.2.2.2.2))
      (first | (have HO2 := (show Hid (Rw 3 W2 w.heap.size g1 k1 cl' m ∧ Rw 3 W2 w.heap.size g2 k2 kn' m ∧ g1 ≠ g2 ∧ w.heap.size + 1 + 1 < g1 ∧ w.heap.size + 1 + 1 < g2 ∧ g1 ≠ b7 ∧ g2 ≠ b7) from ⟨hr1, hr2, HO1.out.2.2.1, hg1, hg2, HO1.out.2.2.2.2.2⟩)) | (have HO2 := (show Hid (Rw 3 W2 w.heap.size g1 k1 cl' m ∧ Rw 3 W2 w.heap.size g2 k2 kn' m ∧ g1 ≠ g2 ∧ w.heap.size + 1 + 1 < g1 ∧ w.heap.size + 1 + 1 < g2) from ⟨hr1, hr2, HO1.out.2.2.1, hg1, hg2⟩)))
      (first | (have H7 := (show Hid (Bx W2 b7 [.int .i64 0, .int .i64 0, .slice none 0 0, .int .i64 0, .int .i64 0, .slice none 0 0] ∧ w.heap.size + 1 + 1 < b7) from ⟨H7.out.1.turnS hT (fun q => by have q : b7 = g1 ∨ b7 = g2 := q; have := HO1.out.2.2.2.2.2; omega), H7.out.2⟩)) | skip)
      have HD := (show Hid (Bx W2 w.heap.size [.int .i64 sk, .int .i64 nw, .slice a1 cl.length c1, .int .i64 ho, .int .i64 un, .slice a2 kn.length c2] ∧ Bx W2 (w.heap.size + 1) [.int .i64 a, .int .i64 b, .int .i64 n] ∧ Bx W2 (w.heap.size + 1 + 1) [.int .i64 0, .int .i64 0, .slice none 0 0, .int .i64 0, .int .i64 0, .slice none 0 0] ∧ Below w.heap.size w W2) from ⟨HD.out.1.turnS hT (fun q => by have q : w.heap.size = g1 ∨ w.heap.size = g2 := q; omega), HD.out.2.1.turnS hT (fun q => by have q : w.heap.size + 1 = g1 ∨ w.heap.size + 1 = g2 := q; omega), HD.out.2.2.1.turnS hT (fun q => by have q : w.heap.size + 1 + 1 = g1 ∨ w.heap.size + 1 + 1 = g2 := q; omega), HD.out.2.2.2.trans (hT.below (fun k q => by have q : k = g1 ∨ k = g2 := q; omega) HD.out.2.2.2.size)⟩)
      clear hT hr1 hr2 hy hg1 hg2
      refine hK.out _ _ ⟨HD.out.1, HD.out.2.1⟩ (fun hHeld => ?_)
      clear hK KC
      refine take_v (v := ?_) 4 ⟨some 12, Op.move (Operand.tmp 16), _, _, _, none⟩ rfl (fun _ _ _ h => h) ?_ hHeld ?_
      rotate_left
      · (intro W _; go_simp <;> (try with_reducible rfl))
      refine take_v (v := ?_) 5 ⟨some 17, Op.extract (Operand.tmp 12) 0, _, _, _, none⟩ rfl (fun _ _ _ h => h) ?_ hHeld ?_
      rotate_left
      · (intro W _; go_simp <;> (try with_reducible rfl))
      refine take_v (v := ?_) 6 ⟨some 18, Op.extract (Operand.tmp 12) 1, _, _, _, none⟩ rfl (fun _ _ _ h => h) ?_ hHeld ?_
      rotate_left
      · (intro W _; go_simp <;> (try with_reducible rfl))
      refine ready_call 8 ⟨none, Op.store 28 (Operand.tmp 6) (Operand.tmp 17), _, _, _, none⟩ (by kernel_rfl) rfl (by kernel_rfl) (fun KC hK => ?_)
      have d0 := H7.out.1.cell 0 rfl
      have d1 := H7.out.1.cell 1 rfl
      have d2 := H7.out.1.cell 2 rfl
      have d3 := H7.out.1.cell 3 rfl
      have d4 := H7.out.1.cell 4 rfl
      have d5 := H7.out.1.cell 5 rfl
      have dz := H7.out.1.2
      have df0 := H7.out.1.frz 0 (by simp)
      have df1 := H7.out.1.frz 1 (by simp)
      have df2 := H7.out.1.frz 2 (by simp)
      have df3 := H7.out.1.frz 3 (by simp)
      have df4 := H7.out.1.frz 4 (by simp)
      have df5 := H7.out.1.frz 5 (by simp)
      have h7 := H7.out.2
      go_wp2_with fail
      have HF := Hid.intro (boxL H7.out.1 H7.out.2 HO2.out.1 HO2.out.2.1 HO2.out.2.2.2.2.2.1 HO2.out.2.2.2.2.2.2 HD.out.2.2.1 HD.out.2.2.2 (.int .i64 sk') (.int .i64 nw') (.slice (some ⟨g1, 0, none⟩) m k1) (.int .i64 ho') (.int .i64 un') (.slice (some ⟨g2, 0, none⟩) m k2))
      have HGE := Hid.intro HO2.out.2.2
      clear d0 df0 d1 df1 d2 df2 d3 df3 d4 df4 d5 df5 dz
      refine hK.out _ _ ⟨HD.out.1.turnS (set6 _ b7 _ _ _ _ _ _) (by omega), HD.out.2.1.turnS (set6 _ b7 _ _ _ _ _ _) (by omega)⟩ (fun hHeld => ?_)
      clear hK KC
      refine take_v (v := ?_) 9 ⟨some 7, Op.assign (Operand.tmp 18), _, _, _, none⟩ rfl (fun _ _ _ h => h) ?_ hHeld ?_
      rotate_left
      · (intro W _; go_simp <;> (try with_reducible rfl))
      refine wpAnyH_done (by kernel_rfl) ?_ _
      refine NoPanic.normal ?_
      clear hHeld
      have r0 := HF.out.2.2.2.1.cell 0 rfl
      have r1 := HF.out.2.2.2.1.cell 1 rfl
      have r2 := HF.out.2.2.2.1.cell 2 rfl
      have r3 := HF.out.2.2.2.1.cell 3 rfl
      have r4 := HF.out.2.2.2.1.cell 4 rfl
      have r5 := HF.out.2.2.2.1.cell 5 rfl
      have rz := HF.out.2.2.2.1.2
      have rf0 := HF.out.2.2.2.1.frz 0 (by simp)
      have rf1 := HF.out.2.2.2.1.frz 1 (by simp)
      have rf2 := HF.out.2.2.2.1.frz 2 (by simp)
      have rf3 := HF.out.2.2.2.1.frz 3 (by simp)
      have rf4 := HF.out.2.2.2.1.frz 4 (by simp)
      have rf5 := HF.out.2.2.2.1.frz 5 (by simp)
      have b0 := HF.out.1.cell 0 rfl
      have b1 := HF.out.1.cell 1 rfl
      have b2 := HF.out.1.cell 2 rfl
      have b3 := HF.out.1.cell 3 rfl
      have b4 := HF.out.1.cell 4 rfl
      have b5 := HF.out.1.cell 5 rfl
      have bz := HF.out.1.2
      have hne : b7 ≠ w.heap.size + 1 + 1 := by omega
      (obtain ⟨E, hEE⟩ : ∃ E, E = leB sk nw cl ho un kn a b n := ⟨_, rfl⟩)
      rw [← hEE] at HS HY ⊢
      clear hEE HO1 HO2 H7 HD
      cases E with
      | none =>
        simp only [Option.isSome_none]
        go_wp2_with fail
        exact bodyPost_ret (v := .tuple #[.agg #[.int .i64 0, .int .i64 0, .slice none 0 0, .int .i64 0, .int .i64 0, .slice none 0 0], .bool false]) (by simp [results, Try.results17, go_sem, *]) rfl (LsP.zero HS.out (HF.out.2.2.2.2.trans ((set6 _ (w.heap.size + 1 + 1) _ _ _ _ _ _).below (fun k e => by have e : k = w.heap.size + 1 + 1 := e; omega) HF.out.2.2.2.2.size)))
      | some y =>
        have HN : Hid (leS sk nw cl ho un kn a b n = some (sk', nw', cl', ho', un', kn', ())) := Hid.intro (by rw [HS.out, HY.out y rfl]; rfl)
        simp only [Option.isSome_some]
        go_wp2_with fail
        exact bodyPost_ret (v := .tuple #[.agg #[.int .i64 sk', .int .i64 nw', .slice (some ⟨g1, 0, none⟩) m k1, .int .i64 ho', .int .i64 un', .slice (some ⟨g2, 0, none⟩) m k2], .bool true]) (by simp [results, Try.results17, go_sem, *]) rfl (LsP.done HN.out (HF.out.2.1.turn (set6 _ (w.heap.size + 1 + 1) _ _ _ _ _ _) (fun e => by have e : g1 = w.heap.size + 1 + 1 := e; have := HGE.out.2.1; omega)) (HF.out.2.2.1.turn (set6 _ (w.heap.size + 1 + 1) _ _ _ _ _ _) (fun e => by have e : g2 = w.heap.size + 1 + 1 := e; have := HGE.out.2.2.1; omega)) HGE.out.1 (by have := HGE.out.2.1; omega) (by have := HGE.out.2.2.1; omega) (HF.out.2.2.2.2.trans ((set6 _ (w.heap.size + 1 + 1) _ _ _ _ _ _).below (fun k e => by have e : k = w.heap.size + 1 + 1 := e; omega) HF.out.2.2.2.2.size)))
  ·
    go_wp2_with fail
    (first | (obtain ⟨W7, hW7⟩ : ∃ x, x = W2.alloc (.cells #[.int .i64 0, .int .i64 0, .slice none 0 0, .int .i64 0, .int .i64 0, .slice none 0 0] 28) := ⟨_, rfl⟩; have hb : Below W2.heap.size W2 W7 := hW7 ▸ Go.Joins.below_alloc1 _ _; obtain ⟨b7, hb7⟩ : ∃ b, b = W2.heap.size := ⟨_, rfl⟩; have H7 : Hid (Bx W7 b7 [.int .i64 0, .int .i64 0, .slice none 0 0, .int .i64 0, .int .i64 0, .slice none 0 0] ∧ w.heap.size + 1 + 1 < b7) := ⟨hb7 ▸ hW7 ▸ Bx.new W2 [_, _, _, _, _, _] _, by have := HD.out.2.2.1.2; omega⟩; have HO2 := (show Hid (Rw 3 W7 w.heap.size g1 k1 cl' m ∧ Rw 3 W7 w.heap.size g2 k2 kn' m ∧ g1 ≠ g2 ∧ w.heap.size + 1 + 1 < g1 ∧ w.heap.size + 1 + 1 < g2 ∧ g1 ≠ b7 ∧ g2 ≠ b7) from ⟨HO2.out.1.next hb, HO2.out.2.1.next hb, HO2.out.2.2.1, HO2.out.2.2.2.1, HO2.out.2.2.2.2, by have := HO2.out.1.lt.1; omega, by have := HO2.out.2.1.lt.1; omega⟩); have HD := (show Hid (Bx W7 w.heap.size [.int .i64 sk, .int .i64 nw, .slice a1 cl.length c1, .int .i64 ho, .int .i64 un, .slice a2 kn.length c2] ∧ Bx W7 (w.heap.size + 1) [.int .i64 a, .int .i64 b, .int .i64 n] ∧ Bx W7 (w.heap.size + 1 + 1) [.int .i64 0, .int .i64 0, .slice none 0 0, .int .i64 0, .int .i64 0, .slice none 0 0] ∧ Below w.heap.size w W7) from ⟨HD.out.1.next hb, HD.out.2.1.next hb, HD.out.2.2.1.next hb, below_next HD.out.2.2.2 hb⟩); rw [← hW7, ← hb7]; clear hW7 hb7 hb) | (obtain ⟨W7, hW7⟩ : ∃ x, x = W1.alloc (.cells #[.int .i64 0, .int .i64 0, .slice none 0 0, .int .i64 0, .int .i64 0, .slice none 0 0] 28) := ⟨_, rfl⟩; have hb : Below W1.heap.size W1 W7 := hW7 ▸ Go.Joins.below_alloc1 _ _; obtain ⟨b7, hb7⟩ : ∃ b, b = W1.heap.size := ⟨_, rfl⟩; have H7 : Hid (Bx W7 b7 [.int .i64 0, .int .i64 0, .slice none 0 0, .int .i64 0, .int .i64 0, .slice none 0 0] ∧ w.heap.size + 1 + 1 < b7) := ⟨hb7 ▸ hW7 ▸ Bx.new W1 [_, _, _, _, _, _] _, by have := HD.out.2.2.1.2; omega⟩; have HO1 := (show Hid (Rw 3 W7 w.heap.size g1 k1 cl m ∧ Rw 3 W7 w.heap.size g2 k2 kn m ∧ g1 ≠ g2 ∧ w.heap.size + 1 + 1 < g1 ∧ w.heap.size + 1 + 1 < g2 ∧ g1 ≠ b7 ∧ g2 ≠ b7) from ⟨HO1.out.1.next hb, HO1.out.2.1.next hb, HO1.out.2.2.1, HO1.out.2.2.2.1, HO1.out.2.2.2.2, by have := HO1.out.1.lt.1; omega, by have := HO1.out.2.1.lt.1; omega⟩); have HD := (show Hid (Bx W7 w.heap.size [.int .i64 sk, .int .i64 nw, .slice a1 cl.length c1, .int .i64 ho, .int .i64 un, .slice a2 kn.length c2] ∧ Bx W7 (w.heap.size + 1) [.int .i64 a, .int .i64 b, .int .i64 n] ∧ Bx W7 (w.heap.size + 1 + 1) [.int .i64 0, .int .i64 0, .slice none 0 0, .int .i64 0, .int .i64 0, .slice none 0 0] ∧ Below w.heap.size w W7) from ⟨HD.out.1.next hb, HD.out.2.1.next hb, HD.out.2.2.1.next hb, below_next HD.out.2.2.2 hb⟩); rw [← hW7, ← hb7]; clear hW7 hb7 hb) | (obtain ⟨W7, hW7⟩ : ∃ x, x = X0.alloc (.cells #[.int .i64 0, .int .i64 0, .slice none 0 0, .int .i64 0, .int .i64 0, .slice none 0 0] 28) := ⟨_, rfl⟩; have hb : Below X0.heap.size X0 W7 := hW7 ▸ Go.Joins.below_alloc1 _ _; obtain ⟨b7, hb7⟩ : ∃ b, b = X0.heap.size := ⟨_, rfl⟩; have H7 : Hid (Bx W7 b7 [.int .i64 0, .int .i64 0, .slice none 0 0, .int .i64 0, .int .i64 0, .slice none 0 0] ∧ w.heap.size + 1 + 1 < b7) := ⟨hb7 ▸ hW7 ▸ Bx.new X0 [_, _, _, _, _, _] _, by have := HD.out.2.2.1.2; omega⟩; skip; have HD := (show Hid (Bx W7 w.heap.size [.int .i64 sk, .int .i64 nw, .slice a1 cl.length c1, .int .i64 ho, .int .i64 un, .slice a2 kn.length c2] ∧ Bx W7 (w.heap.size + 1) [.int .i64 a, .int .i64 b, .int .i64 n] ∧ Bx W7 (w.heap.size + 1 + 1) [.int .i64 0, .int .i64 0, .slice none 0 0, .int .i64 0, .int .i64 0, .slice none 0 0] ∧ Below w.heap.size w W7) from ⟨HD.out.1.next hb, HD.out.2.1.next hb, HD.out.2.2.1.next hb, below_next HD.out.2.2.2 hb⟩); rw [← hW7, ← hb7]; clear hW7 hb7 hb))
    refine hK.out _ _ ⟨HD.out.1, HD.out.2.1⟩ (fun hHeld => ?_)
    clear hK KC
    refine ready_call 1 ⟨some 14, Op.call { callee := Callee.value (Operand.func 43), args := #[Operand.tmp 13], argTypes := #[28] }, _, _, _, none⟩ (by kernel_rfl) rfl (by kernel_rfl) (fun KC hK => ?_)
    go_wp2_with fail
    refine (l11Own_n [.int .i64 sk, .int .i64 nw, .slice a1 cl.length c1, .int .i64 ho, .int .i64 un, .slice a2 kn.length c2] sk nw cl ho un kn _ HZ.out (mk_Leases (HL.out.1.next HD.out.2.2.2) (HL.out.2.next HD.out.2.2.2))).mono ?_
    intro r W1 hT1
    obtain ⟨g1, k1, g2, k2, m, rfl, hr1, hr2, hne, hb, hm12⟩ := toX_rows HG.out hT1
    have hz1 := HD.out.2.2.1.2
    have hy1 := hr1.lt.2
    have hy2 := hr2.lt.2
    have hl1 := HD.out.2.2.2.size
    (first | (have HO1 := (show Hid (Rw 3 W1 w.heap.size g1 k1 cl m ∧ Rw 3 W1 w.heap.size g2 k2 kn m ∧ g1 ≠ g2 ∧ w.heap.size + 1 + 1 < g1 ∧ w.heap.size + 1 + 1 < g2 ∧ g1 ≠ b7 ∧ g2 ≠ b7) from ⟨hr1.lower hl1, hr2.lower hl1, hne, by omega, by omega, by have := H7.out.1.2; omega, by have := H7.out.1.2; omega⟩)) | (have HO1 := (show Hid (Rw 3 W1 w.heap.size g1 k1 cl m ∧ Rw 3 W1 w.heap.size g2 k2 kn m ∧ g1 ≠ g2 ∧ w.heap.size + 1 + 1 < g1 ∧ w.heap.size + 1 + 1 < g2) from ⟨hr1.lower hl1, hr2.lower hl1, hne, by omega, by omega⟩)))
    have HD := (show Hid (Bx W1 w.heap.size [.int .i64 sk, .int .i64 nw, .slice a1 cl.length c1, .int .i64 ho, .int .i64 un, .slice a2 kn.length c2] ∧ Bx W1 (w.heap.size + 1) [.int .i64 a, .int .i64 b, .int .i64 n] ∧ Bx W1 (w.heap.size + 1 + 1) [.int .i64 0, .int .i64 0, .slice none 0 0, .int .i64 0, .int .i64 0, .slice none 0 0] ∧ Below w.heap.size w W1) from ⟨HD.out.1.next hb, HD.out.2.1.next hb, HD.out.2.2.1.next hb, below_next HD.out.2.2.2 hb⟩)
    (first | (have H7 := (show Hid (Bx W1 b7 [.int .i64 0, .int .i64 0, .slice none 0 0, .int .i64 0, .int .i64 0, .slice none 0 0] ∧ w.heap.size + 1 + 1 < b7) from ⟨H7.out.1.next hb, H7.out.2⟩)) | skip)
    clear hb hr1 hr2 hT1 hz1 hy1 hy2 hl1 hne hm12
    refine hK.out _ _ ⟨HD.out.1, HD.out.2.1⟩ (fun hHeld => ?_)
    clear hK KC
    refine ready_call 3 ⟨some 16, Op.call { callee := Callee.value (Operand.func 42), args := #[Operand.tmp 14, Operand.tmp 15], argTypes := #[28, 34] }, _, _, _, none⟩ (by kernel_rfl) rfl (by kernel_rfl) (fun KC hK => ?_)
    go_wp2_with fail
    refine (l11Step_n w.heap.size sk nw g1 k1 cl ho un g2 k2 kn m a b n _ HG.out HO1.out.1 HO1.out.2.1 HO1.out.2.2.1).mono ?_
    intro r W2 hQ2
    obtain ⟨sk', nw', cl', ho', un', kn', rfl, hT, hr1, hr2, hy⟩ := hQ2
    have HY := Hid.intro hy
    have hg1 := HO1.out.2.2.2.1
    (first | (have hg2 := HO1.out.2.2.2.2.1) | (have hg2 := HO1.out.2.2.2.2))
    (first | (have HO2 := (show Hid (Rw 3 W2 w.heap.size g1 k1 cl' m ∧ Rw 3 W2 w.heap.size g2 k2 kn' m ∧ g1 ≠ g2 ∧ w.heap.size + 1 + 1 < g1 ∧ w.heap.size + 1 + 1 < g2 ∧ g1 ≠ b7 ∧ g2 ≠ b7) from ⟨hr1, hr2, HO1.out.2.2.1, hg1, hg2, HO1.out.2.2.2.2.2⟩)) | (have HO2 := (show Hid (Rw 3 W2 w.heap.size g1 k1 cl' m ∧ Rw 3 W2 w.heap.size g2 k2 kn' m ∧ g1 ≠ g2 ∧ w.heap.size + 1 + 1 < g1 ∧ w.heap.size + 1 + 1 < g2) from ⟨hr1, hr2, HO1.out.2.2.1, hg1, hg2⟩)))
    (first | (have H7 := (show Hid (Bx W2 b7 [.int .i64 0, .int .i64 0, .slice none 0 0, .int .i64 0, .int .i64 0, .slice none 0 0] ∧ w.heap.size + 1 + 1 < b7) from ⟨H7.out.1.turnS hT (fun q => by have q : b7 = g1 ∨ b7 = g2 := q; have := HO1.out.2.2.2.2.2; omega), H7.out.2⟩)) | skip)
    have HD := (show Hid (Bx W2 w.heap.size [.int .i64 sk, .int .i64 nw, .slice a1 cl.length c1, .int .i64 ho, .int .i64 un, .slice a2 kn.length c2] ∧ Bx W2 (w.heap.size + 1) [.int .i64 a, .int .i64 b, .int .i64 n] ∧ Bx W2 (w.heap.size + 1 + 1) [.int .i64 0, .int .i64 0, .slice none 0 0, .int .i64 0, .int .i64 0, .slice none 0 0] ∧ Below w.heap.size w W2) from ⟨HD.out.1.turnS hT (fun q => by have q : w.heap.size = g1 ∨ w.heap.size = g2 := q; omega), HD.out.2.1.turnS hT (fun q => by have q : w.heap.size + 1 = g1 ∨ w.heap.size + 1 = g2 := q; omega), HD.out.2.2.1.turnS hT (fun q => by have q : w.heap.size + 1 + 1 = g1 ∨ w.heap.size + 1 + 1 = g2 := q; omega), HD.out.2.2.2.trans (hT.below (fun k q => by have q : k = g1 ∨ k = g2 := q; omega) HD.out.2.2.2.size)⟩)
    clear hT hr1 hr2 hy hg1 hg2
    refine hK.out _ _ ⟨HD.out.1, HD.out.2.1⟩ (fun hHeld => ?_)
    clear hK KC
    refine take_v (v := ?_) 4 ⟨some 12, Op.move (Operand.tmp 16), _, _, _, none⟩ rfl (fun _ _ _ h => h) ?_ hHeld ?_
    rotate_left
    · (intro W _; go_simp <;> (try with_reducible rfl))
    refine take_v (v := ?_) 5 ⟨some 17, Op.extract (Operand.tmp 12) 0, _, _, _, none⟩ rfl (fun _ _ _ h => h) ?_ hHeld ?_
    rotate_left
    · (intro W _; go_simp <;> (try with_reducible rfl))
    refine take_v (v := ?_) 6 ⟨some 18, Op.extract (Operand.tmp 12) 1, _, _, _, none⟩ rfl (fun _ _ _ h => h) ?_ hHeld ?_
    rotate_left
    · (intro W _; go_simp <;> (try with_reducible rfl))
    refine ready_call 8 ⟨none, Op.store 28 (Operand.tmp 6) (Operand.tmp 17), _, _, _, none⟩ (by kernel_rfl) rfl (by kernel_rfl) (fun KC hK => ?_)
    have d0 := H7.out.1.cell 0 rfl
    have d1 := H7.out.1.cell 1 rfl
    have d2 := H7.out.1.cell 2 rfl
    have d3 := H7.out.1.cell 3 rfl
    have d4 := H7.out.1.cell 4 rfl
    have d5 := H7.out.1.cell 5 rfl
    have dz := H7.out.1.2
    have df0 := H7.out.1.frz 0 (by simp)
    have df1 := H7.out.1.frz 1 (by simp)
    have df2 := H7.out.1.frz 2 (by simp)
    have df3 := H7.out.1.frz 3 (by simp)
    have df4 := H7.out.1.frz 4 (by simp)
    have df5 := H7.out.1.frz 5 (by simp)
    have h7 := H7.out.2
    go_wp2_with fail
    have HF := Hid.intro (boxL H7.out.1 H7.out.2 HO2.out.1 HO2.out.2.1 HO2.out.2.2.2.2.2.1 HO2.out.2.2.2.2.2.2 HD.out.2.2.1 HD.out.2.2.2 (.int .i64 sk') (.int .i64 nw') (.slice (some ⟨g1, 0, none⟩) m k1) (.int .i64 ho') (.int .i64 un') (.slice (some ⟨g2, 0, none⟩) m k2))
    have HGE := Hid.intro HO2.out.2.2
    clear d0 df0 d1 df1 d2 df2 d3 df3 d4 df4 d5 df5 dz
    refine hK.out _ _ ⟨HD.out.1.turnS (set6 _ b7 _ _ _ _ _ _) (by omega), HD.out.2.1.turnS (set6 _ b7 _ _ _ _ _ _) (by omega)⟩ (fun hHeld => ?_)
    clear hK KC
    refine take_v (v := ?_) 9 ⟨some 7, Op.assign (Operand.tmp 18), _, _, _, none⟩ rfl (fun _ _ _ h => h) ?_ hHeld ?_
    rotate_left
    · (intro W _; go_simp <;> (try with_reducible rfl))
    refine wpAnyH_done (by kernel_rfl) ?_ _
    refine NoPanic.normal ?_
    clear hHeld
    have r0 := HF.out.2.2.2.1.cell 0 rfl
    have r1 := HF.out.2.2.2.1.cell 1 rfl
    have r2 := HF.out.2.2.2.1.cell 2 rfl
    have r3 := HF.out.2.2.2.1.cell 3 rfl
    have r4 := HF.out.2.2.2.1.cell 4 rfl
    have r5 := HF.out.2.2.2.1.cell 5 rfl
    have rz := HF.out.2.2.2.1.2
    have rf0 := HF.out.2.2.2.1.frz 0 (by simp)
    have rf1 := HF.out.2.2.2.1.frz 1 (by simp)
    have rf2 := HF.out.2.2.2.1.frz 2 (by simp)
    have rf3 := HF.out.2.2.2.1.frz 3 (by simp)
    have rf4 := HF.out.2.2.2.1.frz 4 (by simp)
    have rf5 := HF.out.2.2.2.1.frz 5 (by simp)
    have b0 := HF.out.1.cell 0 rfl
    have b1 := HF.out.1.cell 1 rfl
    have b2 := HF.out.1.cell 2 rfl
    have b3 := HF.out.1.cell 3 rfl
    have b4 := HF.out.1.cell 4 rfl
    have b5 := HF.out.1.cell 5 rfl
    have bz := HF.out.1.2
    have hne : b7 ≠ w.heap.size + 1 + 1 := by omega
    (obtain ⟨E, hEE⟩ : ∃ E, E = leB sk nw cl ho un kn a b n := ⟨_, rfl⟩)
    rw [← hEE] at HS HY ⊢
    clear hEE HO1 HO2 H7 HD
    cases E with
    | none =>
      simp only [Option.isSome_none]
      go_wp2_with fail
      exact bodyPost_ret (v := .tuple #[.agg #[.int .i64 0, .int .i64 0, .slice none 0 0, .int .i64 0, .int .i64 0, .slice none 0 0], .bool false]) (by simp [results, Try.results17, go_sem, *]) rfl (LsP.zero HS.out (HF.out.2.2.2.2.trans ((set6 _ (w.heap.size + 1 + 1) _ _ _ _ _ _).below (fun k e => by have e : k = w.heap.size + 1 + 1 := e; omega) HF.out.2.2.2.2.size)))
    | some y =>
      have HN : Hid (leS sk nw cl ho un kn a b n = some (sk', nw', cl', ho', un', kn', ())) := Hid.intro (by rw [HS.out, HY.out y rfl]; rfl)
      simp only [Option.isSome_some]
      go_wp2_with fail
      exact bodyPost_ret (v := .tuple #[.agg #[.int .i64 sk', .int .i64 nw', .slice (some ⟨g1, 0, none⟩) m k1, .int .i64 ho', .int .i64 un', .slice (some ⟨g2, 0, none⟩) m k2], .bool true]) (by simp [results, Try.results17, go_sem, *]) rfl (LsP.done HN.out (HF.out.2.1.turn (set6 _ (w.heap.size + 1 + 1) _ _ _ _ _ _) (fun e => by have e : g1 = w.heap.size + 1 + 1 := e; have := HGE.out.2.1; omega)) (HF.out.2.2.1.turn (set6 _ (w.heap.size + 1 + 1) _ _ _ _ _ _) (fun e => by have e : g2 = w.heap.size + 1 + 1 := e; have := HGE.out.2.2.1; omega)) HGE.out.1 (by have := HGE.out.2.1; omega) (by have := HGE.out.2.2.1; omega) (HF.out.2.2.2.2.trans ((set6 _ (w.heap.size + 1 + 1) _ _ _ _ _ _).below (fun k e => by have e : k = w.heap.size + 1 + 1 := e; omega) HF.out.2.2.2.2.size)))


theorem flat_zeros : ∀ n : Nat, List.flatMap (valC .int) (List.replicate n (0 : Int)) = List.replicate n (Value.int .i64 0)
  | 0 => rfl
  | n + 1 => by rw [List.replicate_succ, List.replicate_succ, List.flatMap_cons, flat_zeros n]; rfl
/-- make([]int, n). -/
theorem wp_make_int {P : Program} {w : World} {o : Oper} {a : Act} {K : Act → World → Prop} {Q : Exit → Act → World → Prop} (l c : Operand) (t e : TypeId) (hop : o.op = Op.makeSlice t l c) (i : TypeInfo) (h1 : P.underlying t = some (.slice e)) (h2 : P.info? e = some i) (h3 : i.zero = some (.int .i64 0)) (h4 : i.size = 1)
    (n : Nat) (hl : a.eval l = .int .i64 (n : Int)) (hc : a.eval c = .int .i64 (n : Int)) (b2 : i.bytes * n ≤ 281474976710656) (b3 : n ≤ maxLen)
    (hK : ∀ w', ApS .int e w w' (.slice (some ⟨w.heap.size, 0, none⟩) n n) (List.replicate n (0 : Int)) → K (a.put o.dst (.slice (some ⟨w.heap.size, 0, none⟩) n n)) w') : o.wp P a w K Q := by
  obtain ⟨w', hrun, r1, r2⟩ := run_make_full (P := P) w w.heap.size t e i (.int .i64 0) 1 h1 h2 h3 h4 .i64 .i64 n b2 b3 (Nat.le_refl _)
  unfold Oper.wp
  simp [execOp, hop, hl, hc, hrun, Result.andThen]
  refine hK w' ⟨OwnX.of_flat (e := .int) rfl ?_ (fun k hk => r1.lt k hk), ⟨r2.os, r2.tape, r2.output, r2.size, fun k hk => r2.block k hk (fun q => by cases q)⟩⟩
  have e1 : (madeCells (Value.int .i64 0).cells (n * 1)).toList = List.flatMap (valC .int) (List.replicate n (0 : Int)) := by
    rw [flat_zeros, Nat.mul_one]; exact toList_madeCells_one _ _
  have r1' := r1
  rw [e1] at r1'
  rw [List.length_replicate]
  exact r1'
theorem ApS.named {t : TypeId} {w W : World} {n : Nat} {l : List (Sh.T .int)} (h : ApS .int t w W (.slice (some ⟨w.heap.size, 0, none⟩) n n) l) (hl : l.length = n) : ∃ g, g = w.heap.size ∧ Rw t W w.heap.size g n l n := by
  obtain ⟨row, _⟩ := OwnX.flat (e := .int) rfl h.1
  exact ⟨w.heap.size, rfl, OwnX.of_flat (e := .int) rfl row (fun k hk => by cases hk; rfl), hl⟩
noncomputable def nwL (m sk : Int) : Option (Sh.T shLeases) := if tf ((1 ≤ m ∧ m ≤ 12) ∧ (0 ≤ sk ∧ sk ≤ 1000)) then some (mkLe sk 0 (List.replicate m.toNat 0) (-1) 0 (List.replicate m.toNat 0)) else none
theorem nwL_no {m sk : Int} (h : ¬ ((1 ≤ m ∧ m ≤ 12) ∧ (0 ≤ sk ∧ sk ≤ 1000))) : nwL m sk = none := by unfold nwL; rw [tf_no h]; rfl
theorem nwL_yes {m sk : Int} (h : (1 ≤ m ∧ m ≤ 12) ∧ (0 ≤ sk ∧ sk ≤ 1000)) : nwL m sk = some (mkLe sk 0 (List.replicate m.toNat 0) (-1) 0 (List.replicate m.toNat 0)) := by unfold nwL; rw [tf_yes h]; rfl
theorem good_nw {m sk : Int} (h : (1 ≤ m ∧ m ≤ 12) ∧ (0 ≤ sk ∧ sk ≤ 1000)) : goodL sk 0 (List.replicate m.toNat 0) (-1) 0 (List.replicate m.toNat 0) := by
  refine ⟨h.2, by omega, by omega, by rw [List.length_replicate]; omega, by rw [List.length_replicate], by rw [List.length_replicate]; omega, fun i hi => ?_⟩
  have e : atI (List.replicate m.toNat (0 : Int)) i = 0 := by rw [atI_lt hi, List.getElem_replicate]
  rw [show atI (List.replicate m.toNat (0 : Sh.T .int)) i = 0 from e]
  exact ⟨nearB_iff.2 (by omega), by omega, by omega, fun _ => by omega⟩


set_option maxRecDepth 100000 in
set_option maxHeartbeats 4000000 in
theorem newLeases_n (m sk : Int) (w : World) : Calls Try.prog 22 #[.int .i64 m, .int .i64 sk] w (LsP (nwL m sk) w) := by
  obtain ⟨i0, hi0, hz0, hz1, hz2⟩ := info_parts inf_int
  obtain ⟨w0, hw0⟩ : ∃ x, x = w.alloc (.cells #[.int .i64 0, .int .i64 0, .slice none 0 0, .int .i64 0, .int .i64 0, .slice none 0 0] 28) := ⟨_, rfl⟩
  have HB0 : Hid (Bx w0 w.heap.size [.int .i64 0, .int .i64 0, .slice none 0 0, .int .i64 0, .int .i64 0, .slice none 0 0] ∧ Below w.heap.size w w0 ∧ w.heap.size < w0.heap.size) := ⟨hw0 ▸ Bx.new w [_, _, _, _, _, _] _, hw0 ▸ Go.Joins.below_alloc1 _ _, by rw [hw0]; simp⟩
  have u0 := HB0.out.1.cell 0 rfl
  have u1 := HB0.out.1.cell 1 rfl
  have u2 := HB0.out.1.cell 2 rfl
  have u3 := HB0.out.1.cell 3 rfl
  have u4 := HB0.out.1.cell 4 rfl
  have u5 := HB0.out.1.cell 5 rfl
  have uz := HB0.out.1.2
  have uf0 := HB0.out.1.frz 0 (by simp)
  have uf1 := HB0.out.1.frz 1 (by simp)
  have uf2 := HB0.out.1.frz 2 (by simp)
  have uf3 := HB0.out.1.frz 3 (by simp)
  have uf4 := HB0.out.1.frz 4 (by simp)
  have uf5 := HB0.out.1.frz 5 (by simp)
  go_enter Try.func22, Try.ntmps22
  go_upto_region 1 with fail
  rw [← hw0]
  clear hw0
  cases c1 : inR m 1 12
  · have HN : Hid (nwL m sk = none) := Hid.intro (nwL_no (fun q => by rw [inR_iff.2 q.1] at c1; cases c1))
    have HC : Hid (inR m 1 12 = false) := c1
    clear c1
    go_wp2_with (first | (go_at_call 45; refine (HC.out ▸ inRange_any m 1 12 _).mono ?_; rintro e w' ⟨rfl, hw'⟩; have hw' := hw'.symm; subst hw'; clear HC))
    exact bodyPost_ret (v := .tuple #[.agg #[.int .i64 0, .int .i64 0, .slice none 0 0, .int .i64 0, .int .i64 0, .slice none 0 0], .bool false]) (by simp [results, Try.results22, go_sem, *]) rfl (LsP.zero HN.out (HB0.out.2.1.trans ((set6 w0 w.heap.size _ _ _ _ _ _).below (fun k e => by have e : k = w.heap.size := e; omega) HB0.out.2.1.size)))
  cases c2 : inR sk 0 1000
  · have HN : Hid (nwL m sk = none) := Hid.intro (nwL_no (fun q => by rw [inR_iff.2 q.2] at c2; cases c2))
    have HC : Hid (inR m 1 12 = true) := c1
    have HC2 : Hid (inR sk 0 1000 = false) := c2
    clear c1 c2
    go_wp2_with (first | (go_at_call 45; refine (HC.out ▸ inRange_any m 1 12 _).mono ?_; rintro e w' ⟨rfl, hw'⟩; have hw' := hw'.symm; subst hw'; clear HC) | (go_at_call 45; refine (HC2.out ▸ inRange_any sk 0 1000 _).mono ?_; rintro e w' ⟨rfl, hw'⟩; have hw' := hw'.symm; subst hw'; clear HC2))
    exact bodyPost_ret (v := .tuple #[.agg #[.int .i64 0, .int .i64 0, .slice none 0 0, .int .i64 0, .int .i64 0, .slice none 0 0], .bool false]) (by simp [results, Try.results22, go_sem, *]) rfl (LsP.zero HN.out (HB0.out.2.1.trans ((set6 w0 w.heap.size _ _ _ _ _ _).below (fun k e => by have e : k = w.heap.size := e; omega) HB0.out.2.1.size)))
  have hm := inR_iff.1 c1
  have hs := inR_iff.1 c2
  obtain ⟨n, rfl⟩ : ∃ n : Nat, m = (n : Int) := ⟨m.toNat, by omega⟩
  have HN : Hid (nwL (n : Int) sk = some (sk, 0, List.replicate n 0, -1, 0, List.replicate n 0, ())) := Hid.intro (nwL_yes ⟨hm, hs⟩)
  have hn12 : n ≤ 12 := by omega
  have HC : Hid (inR (n : Int) 1 12 = true) := c1
  have HC2 : Hid (inR sk 0 1000 = true) := c2
  clear c1 c2 hm hs
  go_upto_region 3 with (first | (go_at_call 45; refine (HC.out ▸ inRange_any (n : Int) 1 12 _).mono ?_; rintro e w' ⟨rfl, hw'⟩; have hw' := hw'.symm; subst hw'; clear HC) | (go_at_call 45; refine (HC2.out ▸ inRange_any sk 0 1000 _).mono ?_; rintro e w' ⟨rfl, hw'⟩; have hw' := hw'.symm; subst hw'; clear HC2))
  have HW : Hid (Bx w0.drew w.heap.size [.int .i64 0, .int .i64 0, .slice none 0 0, .int .i64 0, .int .i64 0, .slice none 0 0] ∧ Below w.heap.size w w0.drew ∧ w.heap.size < w0.drew.heap.size) := ⟨HB0.out.1.next (below_drew _), below_next HB0.out.2.1 (below_drew _), HB0.out.2.2⟩
  clear u0 uf0 u1 uf1 u2 uf2 u3 uf3 u4 uf4 u5 uf5 uz
  refine wp_region_noPanic ?_
  refine wp_region_held_drew (S := fun _ => True) (by kernel_rfl) trivial (fun hHeld => ?_)
  obtain ⟨X0, hX0⟩ : ∃ x, x = w0.drew := ⟨_, rfl⟩
  rw [← hX0] at HW ⊢
  clear hX0
  refine take_v (v := ?_) 0 ⟨some 15, Op.move (Operand.tmp 1), _, _, _, none⟩ rfl (fun _ _ _ h => h) ?_ hHeld ?_
  rotate_left
  · (intro W _; go_simp <;> (try with_reducible rfl))
  refine take_v (v := ?_) 1 ⟨some 16, Op.move (Operand.tmp 0), _, _, _, none⟩ rfl (fun _ _ _ h => h) ?_ hHeld ?_
  rotate_left
  · (intro W _; go_simp <;> (try with_reducible rfl))
  refine take_v (v := ?_) 3 ⟨some 18, Op.move (Operand.tmp 0), _, _, _, none⟩ rfl (fun _ _ _ h => h) ?_ hHeld ?_
  rotate_left
  · (intro W _; go_simp <;> (try with_reducible rfl))
  refine ready_two 2 4 ⟨some 17, Op.makeSlice 26 (Operand.tmp 16) (Operand.tmp 16), _, _, _, none⟩ ⟨some 19, Op.makeSlice 26 (Operand.tmp 18) (Operand.tmp 18), _, _, _, none⟩ (by kernel_rfl) rfl rfl (by kernel_rfl) (by kernel_rfl) (fun KC hK => ?_) (fun KC hK => ?_)
  ·
    refine wp_make_int (.tmp 16) (.tmp 16) 26 3 (by rfl) i0 Try.underlying26 hi0 hz0 hz1 n (by rfl) (by rfl) (by rw [hz2]; omega) (by unfold maxLen; omega) ?_
    intro W2 hA
    obtain ⟨ga, hga, hr⟩ := hA.named (List.length_replicate ..)
    rw [← hga]
    have hz := HW.out.2.1.size
    have hy := HW.out.2.2
    have HMa : Hid (Rw 3 W2 w.heap.size ga n (List.replicate n (0 : Int)) n ∧ w.heap.size < ga) := ⟨hr.lower hz, by omega⟩
    (first | (have HNE : Hid (ga ≠ gb) := Hid.intro (by have := HMb.out.1.lt.1; omega)) | skip)
    (first | (have HMb := (show Hid (Rw 3 W2 w.heap.size gb n (List.replicate n (0 : Int)) n ∧ w.heap.size < gb) from ⟨HMb.out.1.next hA.2, HMb.out.2⟩)) | skip)
    have HW := (show Hid (Bx W2 w.heap.size [.int .i64 0, .int .i64 0, .slice none 0 0, .int .i64 0, .int .i64 0, .slice none 0 0] ∧ Below w.heap.size w W2 ∧ w.heap.size < W2.heap.size) from ⟨HW.out.1.next hA.2, below_next HW.out.2.1 hA.2, by have := hA.2.size; omega⟩)
    clear hA hr hz hy hga
    refine hK.out _ _ trivial (fun hHeld => ?_)
    clear hK KC
    refine ready_call 4 ⟨some 19, Op.makeSlice 26 (Operand.tmp 18) (Operand.tmp 18), _, _, _, none⟩ (by kernel_rfl) rfl (by kernel_rfl) (fun KC hK => ?_)
    refine wp_make_int (.tmp 18) (.tmp 18) 26 3 (by rfl) i0 Try.underlying26 hi0 hz0 hz1 n (by rfl) (by rfl) (by rw [hz2]; omega) (by unfold maxLen; omega) ?_
    intro W4 hA
    obtain ⟨gb, hgb, hr⟩ := hA.named (List.length_replicate ..)
    rw [← hgb]
    have hz := HW.out.2.1.size
    have hy := HW.out.2.2
    have HMb : Hid (Rw 3 W4 w.heap.size gb n (List.replicate n (0 : Int)) n ∧ w.heap.size < gb) := ⟨hr.lower hz, by omega⟩
    (first | (have HNE : Hid (ga ≠ gb) := Hid.intro (by have := HMa.out.1.lt.1; omega)) | skip)
    (first | (have HMa := (show Hid (Rw 3 W4 w.heap.size ga n (List.replicate n (0 : Int)) n ∧ w.heap.size < ga) from ⟨HMa.out.1.next hA.2, HMa.out.2⟩)) | skip)
    have HW := (show Hid (Bx W4 w.heap.size [.int .i64 0, .int .i64 0, .slice none 0 0, .int .i64 0, .int .i64 0, .slice none 0 0] ∧ Below w.heap.size w W4 ∧ w.heap.size < W4.heap.size) from ⟨HW.out.1.next hA.2, below_next HW.out.2.1 hA.2, by have := hA.2.size; omega⟩)
    clear hA hr hz hy hgb
    refine hK.out _ _ trivial (fun hHeld => ?_)
    clear hK KC
    refine take_v (v := ?_) 5 ⟨some 20, Op.build 28 #[(0, Operand.tmp 15), (2, Operand.tmp 17), (3, Operand.const (Value.int IntKind.i64 (-1))), (5, Operand.tmp 19)], _, _, _, none⟩ rfl (fun _ _ _ h => h) ?_ hHeld ?_
    rotate_left
    · (intro W _; go_simp <;> (try with_reducible rfl))
    refine ready_call 6 ⟨none, Op.store 28 (Operand.tmp 4) (Operand.tmp 20), _, _, _, none⟩ (by kernel_rfl) rfl (by kernel_rfl) (fun KC hK => ?_)
    have u0 := HW.out.1.cell 0 rfl
    have u1 := HW.out.1.cell 1 rfl
    have u2 := HW.out.1.cell 2 rfl
    have u3 := HW.out.1.cell 3 rfl
    have u4 := HW.out.1.cell 4 rfl
    have u5 := HW.out.1.cell 5 rfl
    have uz := HW.out.1.2
    have uf0 := HW.out.1.frz 0 (by simp)
    have uf1 := HW.out.1.frz 1 (by simp)
    have uf2 := HW.out.1.frz 2 (by simp)
    have uf3 := HW.out.1.frz 3 (by simp)
    have uf4 := HW.out.1.frz 4 (by simp)
    have uf5 := HW.out.1.frz 5 (by simp)
    go_wp2_with fail
    refine hK.out _ _ trivial (fun hHeld => ?_)
    clear hK KC
    refine take_v (v := ?_) 7 ⟨some 5, Op.assign (Operand.const (Value.bool true)), _, _, _, none⟩ rfl (fun _ _ _ h => h) ?_ hHeld ?_
    rotate_left
    · (intro W _; go_simp <;> (try with_reducible rfl))
    refine wpAnyH_done (by kernel_rfl) ?_ _
    refine NoPanic.normal ?_
    clear hHeld
    go_wp2_with fail
    exact bodyPost_ret (v := .tuple #[.agg #[.int .i64 sk, .int .i64 0, .slice (some ⟨ga, 0, none⟩) n n, .int .i64 (-1), .int .i64 0, .slice (some ⟨gb, 0, none⟩) n n], .bool true]) (by simp [results, Try.results22, go_sem, *]) rfl (LsP.done HN.out (HMa.out.1.turn (set6 _ w.heap.size _ _ _ _ _ _) (fun e => by have e : ga = w.heap.size := e; have := HMa.out.2; omega)) (HMb.out.1.turn (set6 _ w.heap.size _ _ _ _ _ _) (fun e => by have e : gb = w.heap.size := e; have := HMb.out.2; omega)) HNE.out (by have := HMa.out.2; omega) (by have := HMb.out.2; omega) (HW.out.2.1.trans ((set6 _ w.heap.size _ _ _ _ _ _).below (fun k e => by have e : k = w.heap.size := e; omega) HW.out.2.1.size)))
  ·
    refine wp_make_int (.tmp 18) (.tmp 18) 26 3 (by rfl) i0 Try.underlying26 hi0 hz0 hz1 n (by rfl) (by rfl) (by rw [hz2]; omega) (by unfold maxLen; omega) ?_
    intro W4 hA
    obtain ⟨gb, hgb, hr⟩ := hA.named (List.length_replicate ..)
    rw [← hgb]
    have hz := HW.out.2.1.size
    have hy := HW.out.2.2
    have HMb : Hid (Rw 3 W4 w.heap.size gb n (List.replicate n (0 : Int)) n ∧ w.heap.size < gb) := ⟨hr.lower hz, by omega⟩
    (first | (have HNE : Hid (ga ≠ gb) := Hid.intro (by have := HMa.out.1.lt.1; omega)) | skip)
    (first | (have HMa := (show Hid (Rw 3 W4 w.heap.size ga n (List.replicate n (0 : Int)) n ∧ w.heap.size < ga) from ⟨HMa.out.1.next hA.2, HMa.out.2⟩)) | skip)
    have HW := (show Hid (Bx W4 w.heap.size [.int .i64 0, .int .i64 0, .slice none 0 0, .int .i64 0, .int .i64 0, .slice none 0 0] ∧ Below w.heap.size w W4 ∧ w.heap.size < W4.heap.size) from ⟨HW.out.1.next hA.2, below_next HW.out.2.1 hA.2, by have := hA.2.size; omega⟩)
    clear hA hr hz hy hgb
    refine hK.out _ _ trivial (fun hHeld => ?_)
    clear hK KC
    refine ready_call 2 ⟨some 17, Op.makeSlice 26 (Operand.tmp 16) (Operand.tmp 16), _, _, _, none⟩ (by kernel_rfl) rfl (by kernel_rfl) (fun KC hK => ?_)
    refine wp_make_int (.tmp 16) (.tmp 16) 26 3 (by rfl) i0 Try.underlying26 hi0 hz0 hz1 n (by rfl) (by rfl) (by rw [hz2]; omega) (by unfold maxLen; omega) ?_
    intro W2 hA
    obtain ⟨ga, hga, hr⟩ := hA.named (List.length_replicate ..)
    rw [← hga]
    have hz := HW.out.2.1.size
    have hy := HW.out.2.2
    have HMa : Hid (Rw 3 W2 w.heap.size ga n (List.replicate n (0 : Int)) n ∧ w.heap.size < ga) := ⟨hr.lower hz, by omega⟩
    (first | (have HNE : Hid (ga ≠ gb) := Hid.intro (by have := HMb.out.1.lt.1; omega)) | skip)
    (first | (have HMb := (show Hid (Rw 3 W2 w.heap.size gb n (List.replicate n (0 : Int)) n ∧ w.heap.size < gb) from ⟨HMb.out.1.next hA.2, HMb.out.2⟩)) | skip)
    have HW := (show Hid (Bx W2 w.heap.size [.int .i64 0, .int .i64 0, .slice none 0 0, .int .i64 0, .int .i64 0, .slice none 0 0] ∧ Below w.heap.size w W2 ∧ w.heap.size < W2.heap.size) from ⟨HW.out.1.next hA.2, below_next HW.out.2.1 hA.2, by have := hA.2.size; omega⟩)
    clear hA hr hz hy hga
    refine hK.out _ _ trivial (fun hHeld => ?_)
    clear hK KC
    refine take_v (v := ?_) 5 ⟨some 20, Op.build 28 #[(0, Operand.tmp 15), (2, Operand.tmp 17), (3, Operand.const (Value.int IntKind.i64 (-1))), (5, Operand.tmp 19)], _, _, _, none⟩ rfl (fun _ _ _ h => h) ?_ hHeld ?_
    rotate_left
    · (intro W _; go_simp <;> (try with_reducible rfl))
    refine ready_call 6 ⟨none, Op.store 28 (Operand.tmp 4) (Operand.tmp 20), _, _, _, none⟩ (by kernel_rfl) rfl (by kernel_rfl) (fun KC hK => ?_)
    have u0 := HW.out.1.cell 0 rfl
    have u1 := HW.out.1.cell 1 rfl
    have u2 := HW.out.1.cell 2 rfl
    have u3 := HW.out.1.cell 3 rfl
    have u4 := HW.out.1.cell 4 rfl
    have u5 := HW.out.1.cell 5 rfl
    have uz := HW.out.1.2
    have uf0 := HW.out.1.frz 0 (by simp)
    have uf1 := HW.out.1.frz 1 (by simp)
    have uf2 := HW.out.1.frz 2 (by simp)
    have uf3 := HW.out.1.frz 3 (by simp)
    have uf4 := HW.out.1.frz 4 (by simp)
    have uf5 := HW.out.1.frz 5 (by simp)
    go_wp2_with fail
    refine hK.out _ _ trivial (fun hHeld => ?_)
    clear hK KC
    refine take_v (v := ?_) 7 ⟨some 5, Op.assign (Operand.const (Value.bool true)), _, _, _, none⟩ rfl (fun _ _ _ h => h) ?_ hHeld ?_
    rotate_left
    · (intro W _; go_simp <;> (try with_reducible rfl))
    refine wpAnyH_done (by kernel_rfl) ?_ _
    refine NoPanic.normal ?_
    clear hHeld
    go_wp2_with fail
    exact bodyPost_ret (v := .tuple #[.agg #[.int .i64 sk, .int .i64 0, .slice (some ⟨ga, 0, none⟩) n n, .int .i64 (-1), .int .i64 0, .slice (some ⟨gb, 0, none⟩) n n], .bool true]) (by simp [results, Try.results22, go_sem, *]) rfl (LsP.done HN.out (HMa.out.1.turn (set6 _ w.heap.size _ _ _ _ _ _) (fun e => by have e : ga = w.heap.size := e; have := HMa.out.2; omega)) (HMb.out.1.turn (set6 _ w.heap.size _ _ _ _ _ _) (fun e => by have e : gb = w.heap.size := e; have := HMb.out.2; omega)) HNE.out (by have := HMa.out.2; omega) (by have := HMb.out.2; omega) (HW.out.2.1.trans ((set6 _ w.heap.size _ _ _ _ _ _).below (fun k e => by have e : k = w.heap.size := e; omega) HW.out.2.1.size)))


set_option maxRecDepth 100000 in
set_option maxHeartbeats 4000000 in
theorem specNewLeases_n (m sk : Int) (w : World) : Calls Try.prog 21 #[.int .i64 m, .int .i64 sk] w (LsP (nwL m sk) w) := by
  obtain ⟨i0, hi0, hz0, hz1, hz2⟩ := info_parts inf_int
  obtain ⟨w0, hw0⟩ : ∃ x, x = w.alloc (.cells #[.int .i64 0, .int .i64 0, .slice none 0 0, .int .i64 0, .int .i64 0, .slice none 0 0] 28) := ⟨_, rfl⟩
  have HB0 : Hid (Bx w0 w.heap.size [.int .i64 0, .int .i64 0, .slice none 0 0, .int .i64 0, .int .i64 0, .slice none 0 0] ∧ Below w.heap.size w w0 ∧ w.heap.size < w0.heap.size) := ⟨hw0 ▸ Bx.new w [_, _, _, _, _, _] _, hw0 ▸ Go.Joins.below_alloc1 _ _, by rw [hw0]; simp⟩
  have u0 := HB0.out.1.cell 0 rfl
  have u1 := HB0.out.1.cell 1 rfl
  have u2 := HB0.out.1.cell 2 rfl
  have u3 := HB0.out.1.cell 3 rfl
  have u4 := HB0.out.1.cell 4 rfl
  have u5 := HB0.out.1.cell 5 rfl
  have uz := HB0.out.1.2
  have uf0 := HB0.out.1.frz 0 (by simp)
  have uf1 := HB0.out.1.frz 1 (by simp)
  have uf2 := HB0.out.1.frz 2 (by simp)
  have uf3 := HB0.out.1.frz 3 (by simp)
  have uf4 := HB0.out.1.frz 4 (by simp)
  have uf5 := HB0.out.1.frz 5 (by simp)
  go_enter Try.func21, Try.ntmps21
  go_upto_region 1 with fail
  rw [← hw0]
  clear hw0
  cases c1 : inR m 1 12
  · have HN : Hid (nwL m sk = none) := Hid.intro (nwL_no (fun q => by rw [inR_iff.2 q.1] at c1; cases c1))
    have HC : Hid (inR m 1 12 = false) := c1
    clear c1
    go_wp2_with (first | (go_at_call 54; refine (HC.out ▸ l8Nodes_n m _).mono ?_; rintro e w' ⟨rfl, hw'⟩; have hw' := hw'.symm; subst hw'; clear HC))
    exact bodyPost_ret (v := .tuple #[.agg #[.int .i64 0, .int .i64 0, .slice none 0 0, .int .i64 0, .int .i64 0, .slice none 0 0], .bool false]) (by simp [results, Try.results21, go_sem, *]) rfl (LsP.zero HN.out (HB0.out.2.1.trans ((set6 w0 w.heap.size _ _ _ _ _ _).below (fun k e => by have e : k = w.heap.size := e; omega) HB0.out.2.1.size)))
  cases c2 : inR sk 0 1000
  · have HN : Hid (nwL m sk = none) := Hid.intro (nwL_no (fun q => by rw [inR_iff.2 q.2] at c2; cases c2))
    have HC : Hid (inR m 1 12 = true) := c1
    have HC2 : Hid (inR sk 0 1000 = false) := c2
    clear c1 c2
    go_wp2_with (first | (go_at_call 54; refine (HC.out ▸ l8Nodes_n m _).mono ?_; rintro e w' ⟨rfl, hw'⟩; have hw' := hw'.symm; subst hw'; clear HC) | (go_at_call 55; refine (HC2.out ▸ l1In_any sk 0 1000 _).mono ?_; rintro e w' ⟨rfl, hw'⟩; have hw' := hw'.symm; subst hw'; clear HC2))
    exact bodyPost_ret (v := .tuple #[.agg #[.int .i64 0, .int .i64 0, .slice none 0 0, .int .i64 0, .int .i64 0, .slice none 0 0], .bool false]) (by simp [results, Try.results21, go_sem, *]) rfl (LsP.zero HN.out (HB0.out.2.1.trans ((set6 w0 w.heap.size _ _ _ _ _ _).below (fun k e => by have e : k = w.heap.size := e; omega) HB0.out.2.1.size)))
  have hm := inR_iff.1 c1
  have hs := inR_iff.1 c2
  obtain ⟨n, rfl⟩ : ∃ n : Nat, m = (n : Int) := ⟨m.toNat, by omega⟩
  have HN : Hid (nwL (n : Int) sk = some (sk, 0, List.replicate n 0, -1, 0, List.replicate n 0, ())) := Hid.intro (nwL_yes ⟨hm, hs⟩)
  have hn12 : n ≤ 12 := by omega
  have HC : Hid (inR (n : Int) 1 12 = true) := c1
  have HC2 : Hid (inR sk 0 1000 = true) := c2
  clear c1 c2 hm hs
  go_upto_region 3 with (first | (go_at_call 54; refine (HC.out ▸ l8Nodes_n (n : Int) _).mono ?_; rintro e w' ⟨rfl, hw'⟩; have hw' := hw'.symm; subst hw'; clear HC) | (go_at_call 55; refine (HC2.out ▸ l1In_any sk 0 1000 _).mono ?_; rintro e w' ⟨rfl, hw'⟩; have hw' := hw'.symm; subst hw'; clear HC2))
  have HW : Hid (Bx w0.drew w.heap.size [.int .i64 0, .int .i64 0, .slice none 0 0, .int .i64 0, .int .i64 0, .slice none 0 0] ∧ Below w.heap.size w w0.drew ∧ w.heap.size < w0.drew.heap.size) := ⟨HB0.out.1.next (below_drew _), below_next HB0.out.2.1 (below_drew _), HB0.out.2.2⟩
  clear u0 uf0 u1 uf1 u2 uf2 u3 uf3 u4 uf4 u5 uf5 uz
  refine wp_region_noPanic ?_
  refine wp_region_held_drew (S := fun _ => True) (by kernel_rfl) trivial (fun hHeld => ?_)
  obtain ⟨X0, hX0⟩ : ∃ x, x = w0.drew := ⟨_, rfl⟩
  rw [← hX0] at HW ⊢
  clear hX0
  refine take_v (v := ?_) 0 ⟨some 15, Op.move (Operand.tmp 1), _, _, _, none⟩ rfl (fun _ _ _ h => h) ?_ hHeld ?_
  rotate_left
  · (intro W _; go_simp <;> (try with_reducible rfl))
  refine take_v (v := ?_) 1 ⟨some 16, Op.move (Operand.tmp 0), _, _, _, none⟩ rfl (fun _ _ _ h => h) ?_ hHeld ?_
  rotate_left
  · (intro W _; go_simp <;> (try with_reducible rfl))
  refine take_v (v := ?_) 3 ⟨some 18, Op.move (Operand.tmp 0), _, _, _, none⟩ rfl (fun _ _ _ h => h) ?_ hHeld ?_
  rotate_left
  · (intro W _; go_simp <;> (try with_reducible rfl))
  refine ready_two 2 4 ⟨some 17, Op.makeSlice 26 (Operand.tmp 16) (Operand.tmp 16), _, _, _, none⟩ ⟨some 19, Op.makeSlice 26 (Operand.tmp 18) (Operand.tmp 18), _, _, _, none⟩ (by kernel_rfl) rfl rfl (by kernel_rfl) (by kernel_rfl) (fun KC hK => ?_) (fun KC hK => ?_)
  ·
    refine wp_make_int (.tmp 16) (.tmp 16) 26 3 (by rfl) i0 Try.underlying26 hi0 hz0 hz1 n (by rfl) (by rfl) (by rw [hz2]; omega) (by unfold maxLen; omega) ?_
    intro W2 hA
    obtain ⟨ga, hga, hr⟩ := hA.named (List.length_replicate ..)
    rw [← hga]
    have hz := HW.out.2.1.size
    have hy := HW.out.2.2
    have HMa : Hid (Rw 3 W2 w.heap.size ga n (List.replicate n (0 : Int)) n ∧ w.heap.size < ga) := ⟨hr.lower hz, by omega⟩
    (first | (have HNE : Hid (ga ≠ gb) := Hid.intro (by have := HMb.out.1.lt.1; omega)) | skip)
    (first | (have HMb := (show Hid (Rw 3 W2 w.heap.size gb n (List.replicate n (0 : Int)) n ∧ w.heap.size < gb) from ⟨HMb.out.1.next hA.2, HMb.out.2⟩)) | skip)
    have HW := (show Hid (Bx W2 w.heap.size [.int .i64 0, .int .i64 0, .slice none 0 0, .int .i64 0, .int .i64 0, .slice none 0 0] ∧ Below w.heap.size w W2 ∧ w.heap.size < W2.heap.size) from ⟨HW.out.1.next hA.2, below_next HW.out.2.1 hA.2, by have := hA.2.size; omega⟩)
    clear hA hr hz hy hga
    refine hK.out _ _ trivial (fun hHeld => ?_)
    clear hK KC
    refine ready_call 4 ⟨some 19, Op.makeSlice 26 (Operand.tmp 18) (Operand.tmp 18), _, _, _, none⟩ (by kernel_rfl) rfl (by kernel_rfl) (fun KC hK => ?_)
    refine wp_make_int (.tmp 18) (.tmp 18) 26 3 (by rfl) i0 Try.underlying26 hi0 hz0 hz1 n (by rfl) (by rfl) (by rw [hz2]; omega) (by unfold maxLen; omega) ?_
    intro W4 hA
    obtain ⟨gb, hgb, hr⟩ := hA.named (List.length_replicate ..)
    rw [← hgb]
    have hz := HW.out.2.1.size
    have hy := HW.out.2.2
    have HMb : Hid (Rw 3 W4 w.heap.size gb n (List.replicate n (0 : Int)) n ∧ w.heap.size < gb) := ⟨hr.lower hz, by omega⟩
    (first | (have HNE : Hid (ga ≠ gb) := Hid.intro (by have := HMa.out.1.lt.1; omega)) | skip)
    (first | (have HMa := (show Hid (Rw 3 W4 w.heap.size ga n (List.replicate n (0 : Int)) n ∧ w.heap.size < ga) from ⟨HMa.out.1.next hA.2, HMa.out.2⟩)) | skip)
    have HW := (show Hid (Bx W4 w.heap.size [.int .i64 0, .int .i64 0, .slice none 0 0, .int .i64 0, .int .i64 0, .slice none 0 0] ∧ Below w.heap.size w W4 ∧ w.heap.size < W4.heap.size) from ⟨HW.out.1.next hA.2, below_next HW.out.2.1 hA.2, by have := hA.2.size; omega⟩)
    clear hA hr hz hy hgb
    refine hK.out _ _ trivial (fun hHeld => ?_)
    clear hK KC
    refine take_v (v := ?_) 5 ⟨some 20, Op.build 28 #[(0, Operand.tmp 15), (2, Operand.tmp 17), (3, Operand.const (Value.int IntKind.i64 (-1))), (5, Operand.tmp 19)], _, _, _, none⟩ rfl (fun _ _ _ h => h) ?_ hHeld ?_
    rotate_left
    · (intro W _; go_simp <;> (try with_reducible rfl))
    refine ready_call 6 ⟨none, Op.store 28 (Operand.tmp 4) (Operand.tmp 20), _, _, _, none⟩ (by kernel_rfl) rfl (by kernel_rfl) (fun KC hK => ?_)
    have u0 := HW.out.1.cell 0 rfl
    have u1 := HW.out.1.cell 1 rfl
    have u2 := HW.out.1.cell 2 rfl
    have u3 := HW.out.1.cell 3 rfl
    have u4 := HW.out.1.cell 4 rfl
    have u5 := HW.out.1.cell 5 rfl
    have uz := HW.out.1.2
    have uf0 := HW.out.1.frz 0 (by simp)
    have uf1 := HW.out.1.frz 1 (by simp)
    have uf2 := HW.out.1.frz 2 (by simp)
    have uf3 := HW.out.1.frz 3 (by simp)
    have uf4 := HW.out.1.frz 4 (by simp)
    have uf5 := HW.out.1.frz 5 (by simp)
    go_wp2_with fail
    refine hK.out _ _ trivial (fun hHeld => ?_)
    clear hK KC
    refine take_v (v := ?_) 7 ⟨some 5, Op.assign (Operand.const (Value.bool true)), _, _, _, none⟩ rfl (fun _ _ _ h => h) ?_ hHeld ?_
    rotate_left
    · (intro W _; go_simp <;> (try with_reducible rfl))
    refine wpAnyH_done (by kernel_rfl) ?_ _
    refine NoPanic.normal ?_
    clear hHeld
    go_wp2_with fail
    exact bodyPost_ret (v := .tuple #[.agg #[.int .i64 sk, .int .i64 0, .slice (some ⟨ga, 0, none⟩) n n, .int .i64 (-1), .int .i64 0, .slice (some ⟨gb, 0, none⟩) n n], .bool true]) (by simp [results, Try.results21, go_sem, *]) rfl (LsP.done HN.out (HMa.out.1.turn (set6 _ w.heap.size _ _ _ _ _ _) (fun e => by have e : ga = w.heap.size := e; have := HMa.out.2; omega)) (HMb.out.1.turn (set6 _ w.heap.size _ _ _ _ _ _) (fun e => by have e : gb = w.heap.size := e; have := HMb.out.2; omega)) HNE.out (by have := HMa.out.2; omega) (by have := HMb.out.2; omega) (HW.out.2.1.trans ((set6 _ w.heap.size _ _ _ _ _ _).below (fun k e => by have e : k = w.heap.size := e; omega) HW.out.2.1.size)))
  ·
    refine wp_make_int (.tmp 18) (.tmp 18) 26 3 (by rfl) i0 Try.underlying26 hi0 hz0 hz1 n (by rfl) (by rfl) (by rw [hz2]; omega) (by unfold maxLen; omega) ?_
    intro W4 hA
    obtain ⟨gb, hgb, hr⟩ := hA.named (List.length_replicate ..)
    rw [← hgb]
    have hz := HW.out.2.1.size
    have hy := HW.out.2.2
    have HMb : Hid (Rw 3 W4 w.heap.size gb n (List.replicate n (0 : Int)) n ∧ w.heap.size < gb) := ⟨hr.lower hz, by omega⟩
    (first | (have HNE : Hid (ga ≠ gb) := Hid.intro (by have := HMa.out.1.lt.1; omega)) | skip)
    (first | (have HMa := (show Hid (Rw 3 W4 w.heap.size ga n (List.replicate n (0 : Int)) n ∧ w.heap.size < ga) from ⟨HMa.out.1.next hA.2, HMa.out.2⟩)) | skip)
    have HW := (show Hid (Bx W4 w.heap.size [.int .i64 0, .int .i64 0, .slice none 0 0, .int .i64 0, .int .i64 0, .slice none 0 0] ∧ Below w.heap.size w W4 ∧ w.heap.size < W4.heap.size) from ⟨HW.out.1.next hA.2, below_next HW.out.2.1 hA.2, by have := hA.2.size; omega⟩)
    clear hA hr hz hy hgb
    refine hK.out _ _ trivial (fun hHeld => ?_)
    clear hK KC
    refine ready_call 2 ⟨some 17, Op.makeSlice 26 (Operand.tmp 16) (Operand.tmp 16), _, _, _, none⟩ (by kernel_rfl) rfl (by kernel_rfl) (fun KC hK => ?_)
    refine wp_make_int (.tmp 16) (.tmp 16) 26 3 (by rfl) i0 Try.underlying26 hi0 hz0 hz1 n (by rfl) (by rfl) (by rw [hz2]; omega) (by unfold maxLen; omega) ?_
    intro W2 hA
    obtain ⟨ga, hga, hr⟩ := hA.named (List.length_replicate ..)
    rw [← hga]
    have hz := HW.out.2.1.size
    have hy := HW.out.2.2
    have HMa : Hid (Rw 3 W2 w.heap.size ga n (List.replicate n (0 : Int)) n ∧ w.heap.size < ga) := ⟨hr.lower hz, by omega⟩
    (first | (have HNE : Hid (ga ≠ gb) := Hid.intro (by have := HMb.out.1.lt.1; omega)) | skip)
    (first | (have HMb := (show Hid (Rw 3 W2 w.heap.size gb n (List.replicate n (0 : Int)) n ∧ w.heap.size < gb) from ⟨HMb.out.1.next hA.2, HMb.out.2⟩)) | skip)
    have HW := (show Hid (Bx W2 w.heap.size [.int .i64 0, .int .i64 0, .slice none 0 0, .int .i64 0, .int .i64 0, .slice none 0 0] ∧ Below w.heap.size w W2 ∧ w.heap.size < W2.heap.size) from ⟨HW.out.1.next hA.2, below_next HW.out.2.1 hA.2, by have := hA.2.size; omega⟩)
    clear hA hr hz hy hga
    refine hK.out _ _ trivial (fun hHeld => ?_)
    clear hK KC
    refine take_v (v := ?_) 5 ⟨some 20, Op.build 28 #[(0, Operand.tmp 15), (2, Operand.tmp 17), (3, Operand.const (Value.int IntKind.i64 (-1))), (5, Operand.tmp 19)], _, _, _, none⟩ rfl (fun _ _ _ h => h) ?_ hHeld ?_
    rotate_left
    · (intro W _; go_simp <;> (try with_reducible rfl))
    refine ready_call 6 ⟨none, Op.store 28 (Operand.tmp 4) (Operand.tmp 20), _, _, _, none⟩ (by kernel_rfl) rfl (by kernel_rfl) (fun KC hK => ?_)
    have u0 := HW.out.1.cell 0 rfl
    have u1 := HW.out.1.cell 1 rfl
    have u2 := HW.out.1.cell 2 rfl
    have u3 := HW.out.1.cell 3 rfl
    have u4 := HW.out.1.cell 4 rfl
    have u5 := HW.out.1.cell 5 rfl
    have uz := HW.out.1.2
    have uf0 := HW.out.1.frz 0 (by simp)
    have uf1 := HW.out.1.frz 1 (by simp)
    have uf2 := HW.out.1.frz 2 (by simp)
    have uf3 := HW.out.1.frz 3 (by simp)
    have uf4 := HW.out.1.frz 4 (by simp)
    have uf5 := HW.out.1.frz 5 (by simp)
    go_wp2_with fail
    refine hK.out _ _ trivial (fun hHeld => ?_)
    clear hK KC
    refine take_v (v := ?_) 7 ⟨some 5, Op.assign (Operand.const (Value.bool true)), _, _, _, none⟩ rfl (fun _ _ _ h => h) ?_ hHeld ?_
    rotate_left
    · (intro W _; go_simp <;> (try with_reducible rfl))
    refine wpAnyH_done (by kernel_rfl) ?_ _
    refine NoPanic.normal ?_
    clear hHeld
    go_wp2_with fail
    exact bodyPost_ret (v := .tuple #[.agg #[.int .i64 sk, .int .i64 0, .slice (some ⟨ga, 0, none⟩) n n, .int .i64 (-1), .int .i64 0, .slice (some ⟨gb, 0, none⟩) n n], .bool true]) (by simp [results, Try.results21, go_sem, *]) rfl (LsP.done HN.out (HMa.out.1.turn (set6 _ w.heap.size _ _ _ _ _ _) (fun e => by have e : ga = w.heap.size := e; have := HMa.out.2; omega)) (HMb.out.1.turn (set6 _ w.heap.size _ _ _ _ _ _) (fun e => by have e : gb = w.heap.size := e; have := HMb.out.2; omega)) HNE.out (by have := HMa.out.2; omega) (by have := HMb.out.2; omega) (HW.out.2.1.trans ((set6 _ w.heap.size _ _ _ _ _ _).below (fun k e => by have e : k = w.heap.size := e; omega) HW.out.2.1.size)))

end Go.Proofs.Ytidalpgkljafdaa
