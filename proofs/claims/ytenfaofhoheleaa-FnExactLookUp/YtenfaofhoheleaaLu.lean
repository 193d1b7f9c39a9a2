/- The contracts of cloneRecord and of LookUp, on both sides. -/
import Derived.Test.YtenfaofhoheleaaGsI
import Derived.Test.YtenfaofhoheleaaGsP
import Derived.Test.YtenfaofhoheleaaCln
namespace Go.Proofs.Ytenfaofhoheleaa
open Go.RowKit
set_option linter.unusedVariables false

set_option maxRecDepth 100000 in
set_option maxHeartbeats 4000000 in
theorem cloneRecord_any (v : RecordV) (w : World) (h0 : v.f0.size ≤ 281474976710656) (h1 : v.f1.size ≤ 281474976710656) :
    Calls Try.prog 40 #[.agg #[.string v.f0, .string v.f1, .int .i64 v.f2, .int .i64 v.f3, .bool v.f4, .int .i64 v.f5]] w fun r w' => r = .returned (.agg #[.string v.f0, .string v.f1, .int .i64 v.f2, .int .i64 v.f3, .bool v.f4, .int .i64 v.f5]) ∧ Below w.heap.size w w' := by
  have H0 : Hid (Bx ((w.alloc (.cells #[.string v.f0, .string v.f1, .int .i64 v.f2, .int .i64 v.f3, .bool v.f4, .int .i64 v.f5] 39)).alloc (.cells #[.string ⟨#[]⟩, .string ⟨#[]⟩, .int .i64 0, .int .i64 0, .bool false, .int .i64 0] 39)).drew w.heap.size [.string v.f0, .string v.f1, .int .i64 v.f2, .int .i64 v.f3, .bool v.f4, .int .i64 v.f5] ∧ Bx ((w.alloc (.cells #[.string v.f0, .string v.f1, .int .i64 v.f2, .int .i64 v.f3, .bool v.f4, .int .i64 v.f5] 39)).alloc (.cells #[.string ⟨#[]⟩, .string ⟨#[]⟩, .int .i64 0, .int .i64 0, .bool false, .int .i64 0] 39)).drew (w.heap.size + 1) [.string ⟨#[]⟩, .string ⟨#[]⟩, .int .i64 0, .int .i64 0, .bool false, .int .i64 0] ∧ Below w.heap.size w ((w.alloc (.cells #[.string v.f0, .string v.f1, .int .i64 v.f2, .int .i64 v.f3, .bool v.f4, .int .i64 v.f5] 39)).alloc (.cells #[.string ⟨#[]⟩, .string ⟨#[]⟩, .int .i64 0, .int .i64 0, .bool false, .int .i64 0] 39)).drew) := by
    have h2 := Bx.new (w.alloc (.cells #[.string v.f0, .string v.f1, .int .i64 v.f2, .int .i64 v.f3, .bool v.f4, .int .i64 v.f5] 39)) [.string ⟨#[]⟩, .string ⟨#[]⟩, .int .i64 0, .int .i64 0, .bool false, .int .i64 0] 39
    rw [World.size_alloc] at h2
    exact ⟨((Bx.new w [.string v.f0, .string v.f1, .int .i64 v.f2, .int .i64 v.f3, .bool v.f4, .int .i64 v.f5] 39).alloc _).next (Below.refl _ _).drew, h2.next (Below.refl _ _).drew, (below_next' (Go.Joins.below_alloc1 _ _) (Go.Joins.below_alloc1 _ _)).drew⟩
  go_enter Try.func40, Try.ntmps40
  go_upto_region 1 with fail
  refine wp_region_noPanic ?_
  refine wp_region_held_drew (S := fun W => Bx W w.heap.size [.string v.f0, .string v.f1, .int .i64 v.f2, .int .i64 v.f3, .bool v.f4, .int .i64 v.f5] ∧ (Bx W (w.heap.size + 1) [.string ⟨#[]⟩, .string ⟨#[]⟩, .int .i64 0, .int .i64 0, .bool false, .int .i64 0] ∨ Bx W (w.heap.size + 1) [.string v.f0, .string v.f1, .int .i64 v.f2, .int .i64 v.f3, .bool v.f4, .int .i64 v.f5]) ∧ Below w.heap.size w W) (by kernel_rfl) ⟨H0.out.1, Or.inl H0.out.2.1, H0.out.2.2⟩ (fun hHeld => ?_)
  refine take_v (v := ?_) 0 ⟨some 3, Op.fieldAddr 39 (Operand.tmp 1) 0, _, _, _, none⟩ rfl (fun _ _ _ h => h) ?_ hHeld ?_
  rotate_left
  · (intro W _; go_simp <;> (try with_reducible rfl))
  refine take_v (v := ?_) 1 ⟨some 4, Op.load 9 (Operand.tmp 3), _, _, _, none⟩ rfl (fun _ _ _ h => h) ?_ hHeld ?_
  rotate_left
  · (intro W hSW; (have s0 := hSW.1.cell 0 rfl; have s1 := hSW.1.cell 1 rfl; have s2 := hSW.1.cell 2 rfl; have s3 := hSW.1.cell 3 rfl; have s4 := hSW.1.cell 4 rfl; have s5 := hSW.1.cell 5 rfl; have s6 := hSW.1.2); go_simp <;> (try with_reducible rfl))
  refine take_v (v := ?_) 3 ⟨some 6, Op.fieldAddr 39 (Operand.tmp 1) 1, _, _, _, none⟩ rfl (fun _ _ _ h => h) ?_ hHeld ?_
  rotate_left
  · (intro W _; go_simp <;> (try with_reducible rfl))
  refine take_v (v := ?_) 4 ⟨some 7, Op.load 9 (Operand.tmp 6), _, _, _, none⟩ rfl (fun _ _ _ h => h) ?_ hHeld ?_
  rotate_left
  · (intro W hSW; (have s0 := hSW.1.cell 0 rfl; have s1 := hSW.1.cell 1 rfl; have s2 := hSW.1.cell 2 rfl; have s3 := hSW.1.cell 3 rfl; have s4 := hSW.1.cell 4 rfl; have s5 := hSW.1.cell 5 rfl; have s6 := hSW.1.2); go_simp <;> (try with_reducible rfl))
  refine take_v (v := ?_) 6 ⟨some 9, Op.fieldAddr 39 (Operand.tmp 1) 2, _, _, _, none⟩ rfl (fun _ _ _ h => h) ?_ hHeld ?_
  rotate_left
  · (intro W _; go_simp <;> (try with_reducible rfl))
  refine take_v (v := ?_) 7 ⟨some 10, Op.load 37 (Operand.tmp 9), _, _, _, none⟩ rfl (fun _ _ _ h => h) ?_ hHeld ?_
  rotate_left
  · (intro W hSW; (have s0 := hSW.1.cell 0 rfl; have s1 := hSW.1.cell 1 rfl; have s2 := hSW.1.cell 2 rfl; have s3 := hSW.1.cell 3 rfl; have s4 := hSW.1.cell 4 rfl; have s5 := hSW.1.cell 5 rfl; have s6 := hSW.1.2); go_simp <;> (try with_reducible rfl))
  refine take_v (v := ?_) 8 ⟨some 11, Op.fieldAddr 39 (Operand.tmp 1) 3, _, _, _, none⟩ rfl (fun _ _ _ h => h) ?_ hHeld ?_
  rotate_left
  · (intro W _; go_simp <;> (try with_reducible rfl))
  refine take_v (v := ?_) 9 ⟨some 12, Op.load 3 (Operand.tmp 11), _, _, _, none⟩ rfl (fun _ _ _ h => h) ?_ hHeld ?_
  rotate_left
  · (intro W hSW; (have s0 := hSW.1.cell 0 rfl; have s1 := hSW.1.cell 1 rfl; have s2 := hSW.1.cell 2 rfl; have s3 := hSW.1.cell 3 rfl; have s4 := hSW.1.cell 4 rfl; have s5 := hSW.1.cell 5 rfl; have s6 := hSW.1.2); go_simp <;> (try with_reducible rfl))
  refine ready_call 2 ⟨some 5, Op.call { callee := Callee.value (Operand.func 61), args := #[Operand.tmp 4], argTypes := #[9] }, _, _, _, none⟩ (by kernel_rfl) rfl (by kernel_rfl) (fun KC hK => ?_)
  go_wp2_with fail
  refine (clone_any _ _ h0).mono ?_
  rintro r w1 ⟨rfl, hb⟩
  have H1 : Hid (Bx w1 w.heap.size [.string v.f0, .string v.f1, .int .i64 v.f2, .int .i64 v.f3, .bool v.f4, .int .i64 v.f5] ∧ Bx w1 (w.heap.size + 1) [.string ⟨#[]⟩, .string ⟨#[]⟩, .int .i64 0, .int .i64 0, .bool false, .int .i64 0] ∧ Below w.heap.size w w1) := ⟨H0.out.1.next hb, H0.out.2.1.next hb, below_next' H0.out.2.2 hb⟩
  clear hb
  refine hK.out _ _ ⟨H1.out.1, Or.inl H1.out.2.1, H1.out.2.2⟩ (fun hHeld => ?_)
  clear hK KC
  refine ready_call 5 ⟨some 8, Op.call { callee := Callee.value (Operand.func 61), args := #[Operand.tmp 7], argTypes := #[9] }, _, _, _, none⟩ (by kernel_rfl) rfl (by kernel_rfl) (fun KC hK => ?_)
  go_wp2_with fail
  refine (clone_any _ _ h1).mono ?_
  rintro r w2 ⟨rfl, hb⟩
  have H2 : Hid (Bx w2 w.heap.size [.string v.f0, .string v.f1, .int .i64 v.f2, .int .i64 v.f3, .bool v.f4, .int .i64 v.f5] ∧ Bx w2 (w.heap.size + 1) [.string ⟨#[]⟩, .string ⟨#[]⟩, .int .i64 0, .int .i64 0, .bool false, .int .i64 0] ∧ Below w.heap.size w w2) := ⟨H1.out.1.next hb, H1.out.2.1.next hb, below_next' H1.out.2.2 hb⟩
  clear hb
  refine hK.out _ _ ⟨H2.out.1, Or.inl H2.out.2.1, H2.out.2.2⟩ (fun hHeld => ?_)
  clear hK KC
  refine take_v (v := ?_) 10 ⟨some 13, Op.build 39 #[(0, Operand.tmp 5), (1, Operand.tmp 8), (2, Operand.tmp 10), (3, Operand.tmp 12)], _, _, _, none⟩ rfl (fun _ _ _ h => h) ?_ hHeld ?_
  rotate_left
  · (intro W _; go_simp <;> (try with_reducible rfl))
  refine ready_call 11 ⟨none, Op.store 39 (Operand.tmp 2) (Operand.tmp 13), _, _, _, none⟩ (by kernel_rfl) rfl (by kernel_rfl) (fun KC hK => ?_)
  have d0 := H2.out.2.1.cell 0 rfl
  have d1 := H2.out.2.1.cell 1 rfl
  have d2 := H2.out.2.1.cell 2 rfl
  have d3 := H2.out.2.1.cell 3 rfl
  have d4 := H2.out.2.1.cell 4 rfl
  have d5 := H2.out.2.1.cell 5 rfl
  have z0 := H2.out.2.1.frz 0 (by simp)
  have z1 := H2.out.2.1.frz 1 (by simp)
  have z2 := H2.out.2.1.frz 2 (by simp)
  have z3 := H2.out.2.1.frz 3 (by simp)
  have z4 := H2.out.2.1.frz 4 (by simp)
  have z5 := H2.out.2.1.frz 5 (by simp)
  have sz := H2.out.2.1.2
  go_wp2_with fail
  have HO := (show Hid (Bx _ _ [.string v.f0, .string v.f1, .int .i64 v.f2, .int .i64 v.f3, .bool v.f4, .int .i64 v.f5]) from ((((((H2.out.2.1.set (k := 0) (by simp) (.string v.f0)).set (k := 1) (by simp) (.string v.f1)).set (k := 2) (by simp) (.int .i64 v.f2)).set (k := 3) (by simp) (.int .i64 v.f3)).set (k := 4) (by simp) (.bool v.f4)).set (k := 5) (by simp) (.int .i64 v.f5)))
  have hne : w.heap.size ≠ w.heap.size + 1 := by omega
  have hle : w.heap.size ≤ w.heap.size + 1 := by omega
  clear d0 d1 d2 d3 d4 d5 z0 z1 z2 z3 z4 z5 sz
  refine hK.out _ _ ⟨((((((H2.out.1.other hne).other hne).other hne).other hne).other hne).other hne), Or.inr HO.out, ((((((H2.out.2.2.setCell (by exact hle) _).setCell (by exact hle) _).setCell (by exact hle) _).setCell (by exact hle) _).setCell (by exact hle) _).setCell (by exact hle) _)⟩ (fun hHeld => ?_)
  clear hK KC
  refine wpAnyH_done (by kernel_rfl) ?_ _
  refine NoPanic.normal ?_
  have q0 := HO.out.cell 0 rfl
  have q1 := HO.out.cell 1 rfl
  have q2 := HO.out.cell 2 rfl
  have q3 := HO.out.cell 3 rfl
  have q4 := HO.out.cell 4 rfl
  have q5 := HO.out.cell 5 rfl
  have HE := (show Hid (_ ∧ _) from hHeld)
  clear hHeld HO H2 H1 H0
  go_wp2
  exact bodyPost_ret (v := .agg #[.string v.f0, .string v.f1, .int .i64 v.f2, .int .i64 v.f3, .bool v.f4, .int .i64 v.f5]) (by simp [results, Try.results40, go_sem, *]) rfl ⟨rfl, HE.out.2.2⟩

theorem recOk_size {ep : Int} {r : RecordV} (h : recOk ep r = true) : r.f0.size ≤ 8 ∧ r.f1.size ≤ 20 := by
  simp only [recOk, Bool.and_eq_true, keyOk, valOk, decide_eq_true_eq] at h
  have := inR_iff.1 h.1.1
  exact ⟨by omega, h.2.1.1⟩
/-- What LookUp answers: the record of the key of a good store, or none. -/
def LkP (S : StV) (t : ByteArray) (o : RecordV) (f : Bool) : Prop :=
  (f = true ∧ goodP S ∧ ∃ q, q < S.rn ∧ (S.R q).f0.toList = t.toList ∧ o = S.R q) ∨ (f = false ∧ o = ⟨⟨#[]⟩, ⟨#[]⟩, 0, 0, false, 0⟩ ∧ (goodP S → ∀ q, q < S.rn → (S.R q).f0.toList ≠ t.toList))
def LkPost (S : StV) (t : ByteArray) (w : World) (r : Ending) (w' : World) : Prop :=
  ∃ (o : RecordV) (f : Bool), r = .returned (.tuple #[.agg #[.string o.f0, .string o.f1, .int .i64 o.f2, .int .i64 o.f3, .bool o.f4, .int .i64 o.f5], .bool f]) ∧ LkP S t o f ∧ Below w.heap.size w w'
theorem LkP.same {S : StV} {t : ByteArray} {o o' : RecordV} {f f' : Bool} (h : LkP S t o f) (h' : LkP S t o' f') : o = o' ∧ f = f' := by
  rcases h with ⟨h1, h2, q, h3, h4, h5⟩ | ⟨h1, h2, h3⟩
  · rcases h' with ⟨g1, g2, q', g3, g4, g5⟩ | ⟨g1, g2, g3⟩
    · have : q = q' := riseK_ne (recs_rise h2.2.1) h3 g3 (h4.trans g4.symm)
      subst this
      exact ⟨h5.trans g5.symm, h1.trans g1.symm⟩
    · exact absurd h4 (g3 h2 q h3)
  · rcases h' with ⟨g1, g2, q', g3, g4, g5⟩ | ⟨g1, g2, g3⟩
    · exact absurd g4 (h3 g2 q' g3)
    · exact ⟨h2.trans g2.symm, h1.trans g1.symm⟩

set_option maxRecDepth 100000 in
set_option maxHeartbeats 4000000 in
theorem lookUp_any (A : StA) (S : StV) (t : ByteArray) (w : World) (hl : StLen S) (hok : StOk S) (hs : StAt w A S) :
    Calls Try.prog 11 #[.agg #[.int .i64 S.ep, .slice A.ra S.rn A.rc, .slice A.ta S.tn A.tc, .slice A.oa S.on A.oc], .string t] w fun r w' => LkPost S t w r w' := by
  have HS : Hid (StAt w A S ∧ StLen S ∧ StOk S) := ⟨hs, hl, hok⟩
  clear hs hl hok
  have HX : Hid (Bx ((w.alloc (.cells #[.int .i64 S.ep, .slice A.ra S.rn A.rc, .slice A.ta S.tn A.tc, .slice A.oa S.on A.oc] 32)).alloc (.cells #[.string ⟨#[]⟩, .string ⟨#[]⟩, .int .i64 0, .int .i64 0, .bool false, .int .i64 0] 39)) w.heap.size [.int .i64 S.ep, .slice A.ra S.rn A.rc, .slice A.ta S.tn A.tc, .slice A.oa S.on A.oc] ∧ Bx ((w.alloc (.cells #[.int .i64 S.ep, .slice A.ra S.rn A.rc, .slice A.ta S.tn A.tc, .slice A.oa S.on A.oc] 32)).alloc (.cells #[.string ⟨#[]⟩, .string ⟨#[]⟩, .int .i64 0, .int .i64 0, .bool false, .int .i64 0] 39)) (w.heap.size + 1) [.string ⟨#[]⟩, .string ⟨#[]⟩, .int .i64 0, .int .i64 0, .bool false, .int .i64 0] ∧ Below w.heap.size w ((w.alloc (.cells #[.int .i64 S.ep, .slice A.ra S.rn A.rc, .slice A.ta S.tn A.tc, .slice A.oa S.on A.oc] 32)).alloc (.cells #[.string ⟨#[]⟩, .string ⟨#[]⟩, .int .i64 0, .int .i64 0, .bool false, .int .i64 0] 39))) := by
    have h2 := Bx.new (w.alloc (.cells #[.int .i64 S.ep, .slice A.ra S.rn A.rc, .slice A.ta S.tn A.tc, .slice A.oa S.on A.oc] 32)) [.string ⟨#[]⟩, .string ⟨#[]⟩, .int .i64 0, .int .i64 0, .bool false, .int .i64 0] 39
    rw [World.size_alloc] at h2
    exact ⟨(Bx.new w [.int .i64 S.ep, .slice A.ra S.rn A.rc, .slice A.ta S.tn A.tc, .slice A.oa S.on A.oc] _).alloc _, h2, below_next' (Go.Joins.below_alloc1 _ _) (Go.Joins.below_alloc1 _ _)⟩
  go_enter Try.func11, Try.ntmps11
  go_wp2_with fail
  refine (goodStore_any A S _ HS.out.2.1 HS.out.2.2 (HS.out.1.next HX.out.2.2)).mono ?_
  rintro r w1 ⟨rfl, hb⟩
  have H1 : Hid (Bx w1 w.heap.size [.int .i64 S.ep, .slice A.ra S.rn A.rc, .slice A.ta S.tn A.tc, .slice A.oa S.on A.oc] ∧ Bx w1 (w.heap.size + 1) [.string ⟨#[]⟩, .string ⟨#[]⟩, .int .i64 0, .int .i64 0, .bool false, .int .i64 0] ∧ Below w.heap.size w w1) := ⟨HX.out.1.next hb, HX.out.2.1.next hb, below_next' HX.out.2.2 hb⟩
  clear hb HX
  cases eg : goodB S
  · have HP : Hid (LkP S t ⟨⟨#[]⟩, ⟨#[]⟩, 0, 0, false, 0⟩ false) := Or.inr ⟨rfl, rfl, fun g => by rw [goodB, clB_yes g] at eg; cases eg⟩
    have d0 := H1.out.2.1.cell 0 rfl
    have d1 := H1.out.2.1.cell 1 rfl
    have d2 := H1.out.2.1.cell 2 rfl
    have d3 := H1.out.2.1.cell 3 rfl
    have d4 := H1.out.2.1.cell 4 rfl
    have d5 := H1.out.2.1.cell 5 rfl
    have z0 := H1.out.2.1.frz 0 (by simp)
    have z1 := H1.out.2.1.frz 1 (by simp)
    have z2 := H1.out.2.1.frz 2 (by simp)
    have z3 := H1.out.2.1.frz 3 (by simp)
    have z4 := H1.out.2.1.frz 4 (by simp)
    have z5 := H1.out.2.1.frz 5 (by simp)
    have sz := H1.out.2.1.2
    go_wp2
    refine bodyPost_ret (v := .tuple #[.agg #[.string ⟨#[]⟩, .string ⟨#[]⟩, .int .i64 0, .int .i64 0, .bool false, .int .i64 0], .bool false]) (by simp [results, Try.results11, go_sem, *]) rfl ⟨_, _, rfl, HP.out, ?_⟩
    repeat (refine Below.setCell ?_ (by dsimp only; omega) _)
    exact H1.out.2.2
  have HG : Hid (goodP S) := clB_iff.1 eg
  have b0 := H1.out.1.cell 0 rfl
  have b1 := H1.out.1.cell 1 rfl
  have b2 := H1.out.1.cell 2 rfl
  have b3 := H1.out.1.cell 3 rfl
  have bz := H1.out.1.2
  go_wp2_with fail
  refine (recordPlace_any _ _ _ S.R t _ HS.out.2.2.1 (HS.out.1.next H1.out.2.2).1).mono ?_
  rintro r w2 ⟨p, f, rfl, hp, hb⟩
  have HP : Hid (Placed (fun q => (S.R q).f0) S.rn t p f) := hp
  have H2 : Hid (Bx w2 w.heap.size [.int .i64 S.ep, .slice A.ra S.rn A.rc, .slice A.ta S.tn A.tc, .slice A.oa S.on A.oc] ∧ Bx w2 (w.heap.size + 1) [.string ⟨#[]⟩, .string ⟨#[]⟩, .int .i64 0, .int .i64 0, .bool false, .int .i64 0] ∧ Below w.heap.size w w2) := ⟨H1.out.1.next hb, H1.out.2.1.next hb, below_next' H1.out.2.2 hb⟩
  clear hb hp H1 b0 b1 b2 b3 bz
  cases f
  · have HQ : Hid (LkP S t ⟨⟨#[]⟩, ⟨#[]⟩, 0, 0, false, 0⟩ false) := Or.inr ⟨rfl, rfl, fun g => (HP.out.2.2 (recs_rise g.2.1)).2.2 rfl⟩
    have d0 := H2.out.2.1.cell 0 rfl
    have d1 := H2.out.2.1.cell 1 rfl
    have d2 := H2.out.2.1.cell 2 rfl
    have d3 := H2.out.2.1.cell 3 rfl
    have d4 := H2.out.2.1.cell 4 rfl
    have d5 := H2.out.2.1.cell 5 rfl
    have z0 := H2.out.2.1.frz 0 (by simp)
    have z1 := H2.out.2.1.frz 1 (by simp)
    have z2 := H2.out.2.1.frz 2 (by simp)
    have z3 := H2.out.2.1.frz 3 (by simp)
    have z4 := H2.out.2.1.frz 4 (by simp)
    have z5 := H2.out.2.1.frz 5 (by simp)
    have sz := H2.out.2.1.2
    go_wp2
    refine bodyPost_ret (v := .tuple #[.agg #[.string ⟨#[]⟩, .string ⟨#[]⟩, .int .i64 0, .int .i64 0, .bool false, .int .i64 0], .bool false]) (by simp [results, Try.results11, go_sem, *]) rfl ⟨_, _, rfl, HQ.out, ?_⟩
    repeat (refine Below.setCell ?_ (by dsimp only; omega) _)
    exact H2.out.2.2
  have hpn : p < S.rn := (HP.out.2.1 rfl).1
  have hpn' : (p : Int) < (S.rn : Int) := by omega
  have HQ : Hid (LkP S t (S.R p) true) := Or.inl ⟨rfl, HG.out, p, hpn, (HP.out.2.1 rfl).2, rfl⟩
  have b1 := H2.out.1.cell 1 rfl
  have bz := H2.out.1.2
  have hsl := (HS.out.1.next H2.out.2.2).1
  rcases hsl with h | ⟨b, off, hra, hbs, hE⟩
  · omega
  obtain ⟨c0, c1, c2, c3, c4, c5⟩ := record_cells hE hpn
  clear hE HP
  have hz := recOk_size (HG.out.2.1 p hpn).1
  go_wp2_with fail
  refine (cloneRecord_any (S.R p) _ (by omega) (by omega)).mono ?_
  rintro r w3 ⟨rfl, hb⟩
  have H3 : Hid (Bx w3 (w.heap.size + 1) [.string ⟨#[]⟩, .string ⟨#[]⟩, .int .i64 0, .int .i64 0, .bool false, .int .i64 0] ∧ Below w.heap.size w w3) := ⟨H2.out.2.1.next hb, below_next' H2.out.2.2 hb⟩
  clear hb H2 b1 bz c0 c1 c2 c3 c4 c5 hz
  have d0 := H3.out.1.cell 0 rfl
  have d1 := H3.out.1.cell 1 rfl
  have d2 := H3.out.1.cell 2 rfl
  have d3 := H3.out.1.cell 3 rfl
  have d4 := H3.out.1.cell 4 rfl
  have d5 := H3.out.1.cell 5 rfl
  have z0 := H3.out.1.frz 0 (by simp)
  have z1 := H3.out.1.frz 1 (by simp)
  have z2 := H3.out.1.frz 2 (by simp)
  have z3 := H3.out.1.frz 3 (by simp)
  have z4 := H3.out.1.frz 4 (by simp)
  have z5 := H3.out.1.frz 5 (by simp)
  have sz := H3.out.1.2
  go_wp2
  refine bodyPost_ret (v := .tuple #[.agg #[.string (S.R p).f0, .string (S.R p).f1, .int .i64 (S.R p).f2, .int .i64 (S.R p).f3, .bool (S.R p).f4, .int .i64 (S.R p).f5], .bool true]) (by simp [results, Try.results11, go_sem, *]) rfl ⟨_, _, rfl, HQ.out, ?_⟩
  repeat (refine Below.setCell ?_ (by dsimp only; omega) _)
  exact H3.out.2

set_option maxRecDepth 100000 in
set_option maxHeartbeats 4000000 in
theorem specLookUp_any (A : StA) (S : StV) (t : ByteArray) (w : World) (hl : StLen S) (hok : StOk S) (hs : StAt w A S) :
    Calls Try.prog 10 #[.agg #[.int .i64 S.ep, .slice A.ra S.rn A.rc, .slice A.ta S.tn A.tc, .slice A.oa S.on A.oc], .string t] w fun r w' => LkPost S t w r w' := by
  have HS : Hid (StAt w A S ∧ StLen S ∧ StOk S) := ⟨hs, hl, hok⟩
  clear hs hl hok
  have HX : Hid (Bx ((w.alloc (.cells #[.int .i64 S.ep, .slice A.ra S.rn A.rc, .slice A.ta S.tn A.tc, .slice A.oa S.on A.oc] 32)).alloc (.cells #[.string ⟨#[]⟩, .string ⟨#[]⟩, .int .i64 0, .int .i64 0, .bool false, .int .i64 0] 39)) w.heap.size [.int .i64 S.ep, .slice A.ra S.rn A.rc, .slice A.ta S.tn A.tc, .slice A.oa S.on A.oc] ∧ Bx ((w.alloc (.cells #[.int .i64 S.ep, .slice A.ra S.rn A.rc, .slice A.ta S.tn A.tc, .slice A.oa S.on A.oc] 32)).alloc (.cells #[.string ⟨#[]⟩, .string ⟨#[]⟩, .int .i64 0, .int .i64 0, .bool false, .int .i64 0] 39)) (w.heap.size + 1) [.string ⟨#[]⟩, .string ⟨#[]⟩, .int .i64 0, .int .i64 0, .bool false, .int .i64 0] ∧ Below w.heap.size w ((w.alloc (.cells #[.int .i64 S.ep, .slice A.ra S.rn A.rc, .slice A.ta S.tn A.tc, .slice A.oa S.on A.oc] 32)).alloc (.cells #[.string ⟨#[]⟩, .string ⟨#[]⟩, .int .i64 0, .int .i64 0, .bool false, .int .i64 0] 39))) := by
    have h2 := Bx.new (w.alloc (.cells #[.int .i64 S.ep, .slice A.ra S.rn A.rc, .slice A.ta S.tn A.tc, .slice A.oa S.on A.oc] 32)) [.string ⟨#[]⟩, .string ⟨#[]⟩, .int .i64 0, .int .i64 0, .bool false, .int .i64 0] 39
    rw [World.size_alloc] at h2
    exact ⟨(Bx.new w [.int .i64 S.ep, .slice A.ra S.rn A.rc, .slice A.ta S.tn A.tc, .slice A.oa S.on A.oc] _).alloc _, h2, below_next' (Go.Joins.below_alloc1 _ _) (Go.Joins.below_alloc1 _ _)⟩
  go_enter Try.func10, Try.ntmps10
  go_wp2_with fail
  refine (specGoodStore_any A S _ HS.out.2.1 HS.out.2.2 (HS.out.1.next HX.out.2.2)).mono ?_
  rintro r w1 ⟨rfl, hb⟩
  have H1 : Hid (Bx w1 w.heap.size [.int .i64 S.ep, .slice A.ra S.rn A.rc, .slice A.ta S.tn A.tc, .slice A.oa S.on A.oc] ∧ Bx w1 (w.heap.size + 1) [.string ⟨#[]⟩, .string ⟨#[]⟩, .int .i64 0, .int .i64 0, .bool false, .int .i64 0] ∧ Below w.heap.size w w1) := ⟨HX.out.1.next hb, HX.out.2.1.next hb, below_next' HX.out.2.2 hb⟩
  clear hb HX
  cases eg : goodB S
  · have HP : Hid (LkP S t ⟨⟨#[]⟩, ⟨#[]⟩, 0, 0, false, 0⟩ false) := Or.inr ⟨rfl, rfl, fun g => by rw [goodB, clB_yes g] at eg; cases eg⟩
    have d0 := H1.out.2.1.cell 0 rfl
    have d1 := H1.out.2.1.cell 1 rfl
    have d2 := H1.out.2.1.cell 2 rfl
    have d3 := H1.out.2.1.cell 3 rfl
    have d4 := H1.out.2.1.cell 4 rfl
    have d5 := H1.out.2.1.cell 5 rfl
    have z0 := H1.out.2.1.frz 0 (by simp)
    have z1 := H1.out.2.1.frz 1 (by simp)
    have z2 := H1.out.2.1.frz 2 (by simp)
    have z3 := H1.out.2.1.frz 3 (by simp)
    have z4 := H1.out.2.1.frz 4 (by simp)
    have z5 := H1.out.2.1.frz 5 (by simp)
    have sz := H1.out.2.1.2
    go_wp2
    refine bodyPost_ret (v := .tuple #[.agg #[.string ⟨#[]⟩, .string ⟨#[]⟩, .int .i64 0, .int .i64 0, .bool false, .int .i64 0], .bool false]) (by simp [results, Try.results10, go_sem, *]) rfl ⟨_, _, rfl, HP.out, ?_⟩
    repeat (refine Below.setCell ?_ (by dsimp only; omega) _)
    exact H1.out.2.2
  have HG : Hid (goodP S) := clB_iff.1 eg
  have b0 := H1.out.1.cell 0 rfl
  have b1 := H1.out.1.cell 1 rfl
  have b2 := H1.out.1.cell 2 rfl
  have b3 := H1.out.1.cell 3 rfl
  have bz := H1.out.1.2
  go_wp2_with fail
  refine (l5Find_at _ _ _ _ _ _ S t _ HS.out.2.2.1 (HS.out.1.next H1.out.2.2).1).mono ?_
  rintro r w2 ⟨o, f, rfl, hp, hb⟩
  have HP := (show Hid (_ ∨ _) from hp)
  have H2 : Hid (Bx (w2.alloc (.cells #[.string o.f0, .string o.f1, .int .i64 o.f2, .int .i64 o.f3, .bool o.f4, .int .i64 o.f5] 39)) (w.heap.size + 1) [.string ⟨#[]⟩, .string ⟨#[]⟩, .int .i64 0, .int .i64 0, .bool false, .int .i64 0] ∧ Below w.heap.size w (w2.alloc (.cells #[.string o.f0, .string o.f1, .int .i64 o.f2, .int .i64 o.f3, .bool o.f4, .int .i64 o.f5] 39)) ∧ Bx w2 (w.heap.size + 1) [.string ⟨#[]⟩, .string ⟨#[]⟩, .int .i64 0, .int .i64 0, .bool false, .int .i64 0] ∧ Below w.heap.size w w2) := ⟨(H1.out.2.1.next hb).alloc _, below_next' (below_next' H1.out.2.2 hb) (Go.Joins.below_alloc1 _ _), H1.out.2.1.next hb, below_next' H1.out.2.2 hb⟩
  clear hb hp H1 b0 b1 b2 b3 bz
  cases f
  · have HQ : Hid (LkP S t ⟨⟨#[]⟩, ⟨#[]⟩, 0, 0, false, 0⟩ false) := by
      rcases HP.out with ⟨h, _⟩ | ⟨_, h⟩
      · cases h
      · exact Or.inr ⟨rfl, rfl, fun _ => h⟩
    have d0 := H2.out.2.2.1.cell 0 rfl
    have d1 := H2.out.2.2.1.cell 1 rfl
    have d2 := H2.out.2.2.1.cell 2 rfl
    have d3 := H2.out.2.2.1.cell 3 rfl
    have d4 := H2.out.2.2.1.cell 4 rfl
    have d5 := H2.out.2.2.1.cell 5 rfl
    have z0 := H2.out.2.2.1.frz 0 (by simp)
    have z1 := H2.out.2.2.1.frz 1 (by simp)
    have z2 := H2.out.2.2.1.frz 2 (by simp)
    have z3 := H2.out.2.2.1.frz 3 (by simp)
    have z4 := H2.out.2.2.1.frz 4 (by simp)
    have z5 := H2.out.2.2.1.frz 5 (by simp)
    have sz := H2.out.2.2.1.2
    have hwz : w.heap.size ≤ w2.heap.size := H2.out.2.2.2.size
    go_wp2
    refine bodyPost_ret (v := .tuple #[.agg #[.string ⟨#[]⟩, .string ⟨#[]⟩, .int .i64 0, .int .i64 0, .bool false, .int .i64 0], .bool false]) (by simp [results, Try.results10, go_sem, *]) rfl ⟨_, _, rfl, HQ.out, ?_⟩
    first | (refine Below.alloc ?_ (by simpa using H2.out.2.2.2.size) _; (repeat (refine Below.setCell ?_ (by dsimp only; omega) _)); exact H2.out.2.2.2) | ((repeat (refine Below.setCell ?_ (by dsimp only; omega) _)); exact H2.out.2.1)
  have HQ : Hid (LkP S t o true) := by
    rcases HP.out with ⟨_, h⟩ | ⟨h, _⟩
    · exact Or.inl ⟨rfl, HG.out, h⟩
    · cases h
  have d0 := H2.out.2.2.1.cell 0 rfl
  have d1 := H2.out.2.2.1.cell 1 rfl
  have d2 := H2.out.2.2.1.cell 2 rfl
  have d3 := H2.out.2.2.1.cell 3 rfl
  have d4 := H2.out.2.2.1.cell 4 rfl
  have d5 := H2.out.2.2.1.cell 5 rfl
  have z0 := H2.out.2.2.1.frz 0 (by simp)
  have z1 := H2.out.2.2.1.frz 1 (by simp)
  have z2 := H2.out.2.2.1.frz 2 (by simp)
  have z3 := H2.out.2.2.1.frz 3 (by simp)
  have z4 := H2.out.2.2.1.frz 4 (by simp)
  have z5 := H2.out.2.2.1.frz 5 (by simp)
  have sz := H2.out.2.2.1.2
  have hwz : w.heap.size ≤ w2.heap.size := H2.out.2.2.2.size
  go_wp2
  refine bodyPost_ret (v := .tuple #[.agg #[.string o.f0, .string o.f1, .int .i64 o.f2, .int .i64 o.f3, .bool o.f4, .int .i64 o.f5], .bool true]) (by simp [results, Try.results10, go_sem, *]) rfl ⟨_, _, rfl, HQ.out, ?_⟩
  first | (refine Below.alloc ?_ (by simpa using H2.out.2.2.2.size) _; (repeat (refine Below.setCell ?_ (by dsimp only; omega) _)); exact H2.out.2.2.2) | ((repeat (refine Below.setCell ?_ (by dsimp only; omega) _)); exact H2.out.2.1)

end Go.Proofs.Ytenfaofhoheleaa
