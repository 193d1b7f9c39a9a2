/- The law FnExactGoodStore, of the two contracts that it wants: its walk. -/
import Derived.Test.YtenfaofhoheleaaOpenSt
import Derived.Test.YtenfaofhoheleaaRg
namespace Go.Proofs.Ytenfaofhoheleaa
open Go.RowKit
set_option linter.unusedVariables false

set_option maxRecDepth 100000 in
set_option maxHeartbeats 4000000 in
theorem goodStore_walk (g : StV → Bool)
    (hI : ∀ (A : StA) (V : StV) (w : World), StLen V → StOk V → StAt w A V → Calls Try.prog 8 #[.agg #[.int .i64 V.ep, .slice A.ra V.rn A.rc, .slice A.ta V.tn A.tc, .slice A.oa V.on A.oc]] w fun r w' => r = .returned (.bool (g V)) ∧ Below w.heap.size w w')
    (hP : ∀ (A : StA) (V : StV) (w : World), StLen V → StOk V → StAt w A V → Calls Try.prog 6 #[.agg #[.int .i64 V.ep, .slice A.ra V.rn A.rc, .slice A.ta V.tn A.tc, .slice A.oa V.on A.oc]] w fun r w' => r = .returned (.bool (g V)) ∧ Below w.heap.size w w')
    (A : StA) (V : StV) (w : World) (hz : StLen V) (hs : StAt w A V) :
    Calls Try.prog 3 #[.agg #[.int .i64 V.ep, .slice A.ra V.rn A.rc, .slice A.ta V.tn A.tc, .slice A.oa V.on A.oc]] w fun r w' => r = .returned (.bool true) ∧ Below w.heap.size w w' := by
  have HS : Hid (StAt w A V ∧ StLen V) := ⟨hs, hz⟩
  have HI : Hid (∀ (A : StA) (w : World), StLen V → StOk V → StAt w A V → Calls Try.prog 8 #[.agg #[.int .i64 V.ep, .slice A.ra V.rn A.rc, .slice A.ta V.tn A.tc, .slice A.oa V.on A.oc]] w fun r w' => r = .returned (.bool (g V)) ∧ Below w.heap.size w w') := fun A w => hI A V w
  have HP : Hid (∀ (A : StA) (w : World), StLen V → StOk V → StAt w A V → Calls Try.prog 6 #[.agg #[.int .i64 V.ep, .slice A.ra V.rn A.rc, .slice A.ta V.tn A.tc, .slice A.oa V.on A.oc]] w fun r w' => r = .returned (.bool (g V)) ∧ Below w.heap.size w w') := fun A w => hP A V w
  clear hs hz hI hP
  generalize g V = gv at *
  have H0 : Hid (Bx (w.alloc (.cells #[.int .i64 V.ep, .slice A.ra V.rn A.rc, .slice A.ta V.tn A.tc, .slice A.oa V.on A.oc] 26)) w.heap.size [.int .i64 V.ep, .slice A.ra V.rn A.rc, .slice A.ta V.tn A.tc, .slice A.oa V.on A.oc] ∧ Below w.heap.size w (w.alloc (.cells #[.int .i64 V.ep, .slice A.ra V.rn A.rc, .slice A.ta V.tn A.tc, .slice A.oa V.on A.oc] 26))) := ⟨Bx.new w [.int .i64 V.ep, .slice A.ra V.rn A.rc, .slice A.ta V.tn A.tc, .slice A.oa V.on A.oc] _, Go.Joins.below_alloc1 _ _⟩
  go_enter Try.func3, Try.ntmps3
  go_wp2_with fail
  refine (szStore_any A V _ _ HS.out.2 (HS.out.1.next H0.out.2) (by omega) (by omega)).mono ?_
  rintro r w1 ⟨l, rfl, hl1, hl2, hb⟩
  obtain ⟨t, ht⟩ : ∃ t, t = w.heap.size := ⟨_, rfl⟩
  have H1 : Hid (Bx w1 t [.int .i64 V.ep, .slice A.ra V.rn A.rc, .slice A.ta V.tn A.tc, .slice A.oa V.on A.oc] ∧ Below w.heap.size w w1) := ⟨by rw [ht]; exact H0.out.1.next hb, below_next' H0.out.2 hb⟩
  clear hb H0
  have htw : w.heap.size = t := ht.symm
  rw [← ht]
  clear ht
  by_cases hneg : l < 0
  · go_wp2
    go_ret
    exact ⟨rfl, H1.out.2⟩
  have HK : Hid (StOk V) := hl2 (by omega)
  clear hl2
  have c0 := H1.out.1.cell 0 rfl
  have c1 := H1.out.1.cell 1 rfl
  have c2 := H1.out.1.cell 2 rfl
  have c3 := H1.out.1.cell 3 rfl
  have z0 := H1.out.1.2
  go_wp2_with fail
  refine (toStore_any A V _ HK.out (HS.out.1.next H1.out.2)).mono ?_
  rintro r w2 ⟨A2, rfl, hi, hb⟩
  have H2 : Hid (Bx w2 t [.int .i64 V.ep, .slice A.ra V.rn A.rc, .slice A.ta V.tn A.tc, .slice A.oa V.on A.oc] ∧ StAt w2 A2 V ∧ Below w.heap.size w w2) := ⟨H1.out.1.next hb, hi.at, below_next' H1.out.2 hb⟩
  clear hb hi H1 c0 c1 c2 c3 z0
  go_wp2_with fail
  refine (HP.out A2 _ HS.out.2 HK.out H2.out.2.1).mono ?_
  rintro r w3 ⟨rfl, hb⟩
  have H3 : Hid (Bx w3 t [.int .i64 V.ep, .slice A.ra V.rn A.rc, .slice A.ta V.tn A.tc, .slice A.oa V.on A.oc] ∧ Below w.heap.size w w3) := ⟨H2.out.1.next hb, below_next' H2.out.2.2 hb⟩
  clear hb H2 HP
  have c0 := H3.out.1.cell 0 rfl
  have c1 := H3.out.1.cell 1 rfl
  have c2 := H3.out.1.cell 2 rfl
  have c3 := H3.out.1.cell 3 rfl
  have z0 := H3.out.1.2
  go_wp2_with fail
  refine (toStore_any A V _ HK.out (HS.out.1.next H3.out.2)).mono ?_
  rintro r w4 ⟨A4, rfl, hi, hb⟩
  obtain ⟨w5, hw5⟩ : ∃ w5, w5 = w4.alloc (.cells #[.int .i64 V.ep, .slice A4.ra V.rn A4.rc, .slice A4.ta V.tn A4.tc, .slice A4.oa V.on A4.oc] 32) := ⟨_, rfl⟩
  obtain ⟨u, hu⟩ : ∃ u, u = w4.heap.size := ⟨_, rfl⟩
  have H5 : Hid (Bx w5 t [.int .i64 V.ep, .slice A.ra V.rn A.rc, .slice A.ta V.tn A.tc, .slice A.oa V.on A.oc] ∧ Bx w5 u [.int .i64 V.ep, .slice A4.ra V.rn A4.rc, .slice A4.ta V.tn A4.tc, .slice A4.oa V.on A4.oc] ∧ StAt w5 A4 V ∧ Below w.heap.size w w5) := by
    rw [hw5, hu]
    exact ⟨(H3.out.1.next hb).alloc _, Bx.new w4 [.int .i64 V.ep, .slice A4.ra V.rn A4.rc, .slice A4.ta V.tn A4.tc, .slice A4.oa V.on A4.oc] _, hi.at.next (Go.Joins.below_alloc1 _ _), below_next' (below_next' H3.out.2 hb) (Go.Joins.below_alloc1 _ _)⟩
  clear hb hi H3 c0 c1 c2 c3 z0
  go_wp2_with fail
  rw [← hw5, ← hu]
  clear hw5 hu
  refine (HI.out A4 _ HS.out.2 HK.out H5.out.2.2.1).mono ?_
  rintro r w6 ⟨rfl, hb⟩
  have H6 : Hid (Bx w6 t [.int .i64 V.ep, .slice A.ra V.rn A.rc, .slice A.ta V.tn A.tc, .slice A.oa V.on A.oc] ∧ Bx w6 u [.int .i64 V.ep, .slice A4.ra V.rn A4.rc, .slice A4.ta V.tn A4.tc, .slice A4.oa V.on A4.oc] ∧ StAt w6 A4 V ∧ Below w.heap.size w w6) := ⟨H5.out.1.next hb, H5.out.2.1.next hb, H5.out.2.2.1.next hb, below_next' H5.out.2.2.2 hb⟩
  clear hb H5 HI
  have hd : Below w6.heap.size w6 w6.drew := (Below.refl _ _).drew
  have H6d : Hid (Bx w6.drew t [.int .i64 V.ep, .slice A.ra V.rn A.rc, .slice A.ta V.tn A.tc, .slice A.oa V.on A.oc] ∧ Bx w6.drew u [.int .i64 V.ep, .slice A4.ra V.rn A4.rc, .slice A4.ta V.tn A4.tc, .slice A4.oa V.on A4.oc] ∧ StAt w6.drew A4 V ∧ Below w.heap.size w w6.drew) := ⟨H6.out.1.next hd, H6.out.2.1.next hd, H6.out.2.2.1.next hd, below_next' H6.out.2.2.2 hd⟩
  clear hd H6
  cases gv
  all_goals
    go_upto_region 10 with fail
    refine wp_region_noPanic ?_
    refine wp_region_held_drew (S := fun W => Bx W t [.int .i64 V.ep, .slice A.ra V.rn A.rc, .slice A.ta V.tn A.tc, .slice A.oa V.on A.oc] ∧ Bx W u [.int .i64 V.ep, .slice A4.ra V.rn A4.rc, .slice A4.ta V.tn A4.tc, .slice A4.oa V.on A4.oc]) (by kernel_rfl) ⟨H6d.out.1, H6d.out.2.1⟩ (fun hHeld => ?_)
    refine take_v (v := ?_) 0 ⟨some 22, Op.load 32 (Operand.tmp 5), _, _, _, none⟩ rfl (fun _ _ _ h => h) ?_ hHeld ?_
    rotate_left
    · (intro W hSW; (have s0 := hSW.1.cell 0 rfl; have s1 := hSW.1.cell 1 rfl; have s2 := hSW.1.cell 2 rfl; have s3 := hSW.1.cell 3 rfl; have s4 := hSW.2.cell 0 rfl; have s5 := hSW.2.cell 1 rfl; have s6 := hSW.2.cell 2 rfl; have s7 := hSW.2.cell 3 rfl; have s8 := hSW.1.2; have s9 := hSW.2.2); go_simp <;> (try with_reducible rfl))
    refine take_v (v := ?_) 1 ⟨some 23, Op.load 26 (Operand.tmp 1), _, _, _, none⟩ rfl (fun _ _ _ h => h) ?_ hHeld ?_
    rotate_left
    · (intro W hSW; (have s0 := hSW.1.cell 0 rfl; have s1 := hSW.1.cell 1 rfl; have s2 := hSW.1.cell 2 rfl; have s3 := hSW.1.cell 3 rfl; have s4 := hSW.2.cell 0 rfl; have s5 := hSW.2.cell 1 rfl; have s6 := hSW.2.cell 2 rfl; have s7 := hSW.2.cell 3 rfl; have s8 := hSW.1.2; have s9 := hSW.2.2); go_simp <;> (try with_reducible rfl))
    refine ready_call 2 ⟨some 24, Op.call { callee := Callee.value (Operand.func 7), args := #[Operand.tmp 23], argTypes := #[26] }, _, _, _, none⟩ (by kernel_rfl) rfl (by kernel_rfl) (fun KC hK => ?_)
    go_wp2_with fail
    refine (toStore_any A V _ HK.out (HS.out.1.next H6d.out.2.2.2)).mono ?_
    rintro r w7 ⟨A7, rfl, hi, hb⟩
    have H7 : Hid (Bx w7 t [.int .i64 V.ep, .slice A.ra V.rn A.rc, .slice A.ta V.tn A.tc, .slice A.oa V.on A.oc] ∧ Bx w7 u [.int .i64 V.ep, .slice A4.ra V.rn A4.rc, .slice A4.ta V.tn A4.tc, .slice A4.oa V.on A4.oc] ∧ StAt w7 A4 V ∧ StAt w7 A7 V ∧ Below w.heap.size w w7) := ⟨H6d.out.1.next hb, H6d.out.2.1.next hb, H6d.out.2.2.1.next hb, hi.at, below_next' H6d.out.2.2.2 hb⟩
    clear hb hi
    refine hK.out _ _ ⟨H7.out.1, H7.out.2.1⟩ (fun hHeld => ?_)
    clear hK KC
    refine ready_call 3 ⟨some 25, Op.call { callee := Callee.value (Operand.func 9), args := #[Operand.tmp 22, Operand.tmp 24], argTypes := #[32, 32] }, _, _, _, none⟩ (by kernel_rfl) rfl (by kernel_rfl) (fun KC hK => ?_)
    go_wp2_with fail
    refine (eqStore_same A4 A7 V _ HK.out H7.out.2.2.1 H7.out.2.2.2.1).mono ?_
    rintro r w8 ⟨rfl, hb⟩
    have H8 : Hid (Bx w8 t [.int .i64 V.ep, .slice A.ra V.rn A.rc, .slice A.ta V.tn A.tc, .slice A.oa V.on A.oc] ∧ Bx w8 u [.int .i64 V.ep, .slice A4.ra V.rn A4.rc, .slice A4.ta V.tn A4.tc, .slice A4.oa V.on A4.oc] ∧ Below w.heap.size w w8) := ⟨H7.out.1.next hb, H7.out.2.1.next hb, below_next' H7.out.2.2.2.2 hb⟩
    clear hb
    refine hK.out _ _ ⟨H8.out.1, H8.out.2.1⟩ (fun hHeld => ?_)
    clear hK KC
    refine take_v (v := ?_) 4 ⟨some 26, Op.unOp UnOp.not 4 (Operand.tmp 25), _, _, _, none⟩ rfl (fun _ _ _ h => h) ?_ hHeld ?_
    rotate_left
    · (intro W _; go_simp <;> (try with_reducible rfl))
    refine wpAnyH_done (by kernel_rfl) ?_ _
    refine NoPanic.normal ?_
    go_wp2
    go_ret
    exact ⟨rfl, H8.out.2.2⟩
end Go.Proofs.Ytenfaofhoheleaa
