/- Bags: what is heard in them, GoodBag on both sides. Written by tools/mkBgD.py. -/
import Derived.Test.YtnglgndocmkbfaaJnH
import Derived.Test.YtnglgndocmkbfaaBgB
import Derived.Test.YtnglgndocmkbfaaBgC
namespace Go.Proofs.Ytnglgndocmkbfaa
open Go.RowKit
set_option linter.unusedVariables false
set_option linter.unusedSimpArgs false

theorem hoF_step (l : List AdV) (g : Bool) {k : Nat} (h : k < l.length) : hoF (l.take (k + 1)) g = updF (hoF (l.take k) g) (plc l[k]) (hrd g l[k]) := by
  rw [List.take_succ_eq_append_getElem h, hoF_snoc]
set_option maxRecDepth 100000 in
set_option maxHeartbeats 2000000 in
theorem heardOf_n (s : Option Addr) (cap : Nat) (l : List AdV) (g : Bool) (w : World) (hn : smlA l) (h : Lies w (.list shAdd) [.slice s l.length cap] l) :
    Calls Try.prog 89 #[.slice s l.length cap, .bool g] w fun r w' => ∃ m, r = .returned (.map (some m)) ∧ w.heap.size ≤ m ∧ MpT kvP evH w' m (hoF l g) ∧ Below w.heap.size w w' := by
  have HL := Hid.intro h
  have hnl := hn.1
  clear h hn
  obtain ⟨m, hm⟩ : ∃ m, m = w.heap.size := ⟨_, rfl⟩
  obtain ⟨w0, hw0⟩ : ∃ q, q = w.alloc (.map #[] 0) := ⟨_, rfl⟩
  have HI : Hid (MpT kvP evH w0 m (hoF (l.take 0) g) ∧ Below w.heap.size w w0) := ⟨by rw [hm, hw0]; exact MpT.made w, hw0 ▸ Go.Joins.below_alloc1 _ _⟩
  have HM : Hid (m = w.heap.size) := hm
  have hmm := @run_makeMap Try.prog
  go_enter Try.func89, Try.ntmps89
  go_wp2
  rw [← hw0, ← hm]
  clear hw0 hm hmm
  go_loopw [11] (fun i wr => ∃ k : Nat, k ≤ l.length ∧ i = .int .i64 k ∧ MpT kvP evH wr m (hoF (l.take k) g) ∧ Below w.heap.size w wr) (fun i _ => l.length - (intOf i).toNat)
  case atStart => exact ⟨0, Nat.zero_le _, rfl, HI.out⟩
  case round =>
    obtain ⟨k, hk, rfl, hM, hBr⟩ := hrel
    have HA : Hid (MpT kvP evH wr m (hoF (l.take k) g) ∧ Below w.heap.size w wr) := ⟨hM, hBr⟩
    clear hM hBr HI
    by_cases hlt : k < l.length
    · have hlt' : (k : Int) < (l.length : Int) := by omega
      have HLE : Hid (Lies wr (.list shAdd) [.slice s l.length cap] l) := HL.out.next HA.out.2
      obtain ⟨xg, xoff, xgo, xgs, xec, xel, xhec, xle⟩ := Lies.elem (HLE.out) hlt
      subst xgo
      rcases xX : l[k] with ⟨x0, x1, x2, ⟨⟩⟩
      rw [xX] at xle
      have xH : Hid (l[k] = (x0, x1, x2, ())) := xX
      clear xX
      obtain xev := lies_Add xle
      subst xev
      have xc0 : wr.cell? ⟨xg, xoff + k * 3, none⟩ = some (.string x0) := xhec 0 (by simp)
      have xc1 : wr.cell? ⟨xg, xoff + k * 3 + 1, none⟩ = some (.int .i64 x1) := xhec 1 (by simp)
      have xc2 : wr.cell? ⟨xg, xoff + k * 3 + 2, none⟩ = some (.int .i64 x2) := xhec 2 (by simp)
      clear xhec xel xle
      have HS : Hid (updF (hoF (l.take k) g) (x1, x2) (x0, x1, x2, g) = hoF (l.take (k + 1)) g) := Hid.intro (by rw [hoF_step l g hlt, xH.out]; rfl)
      obtain ⟨w1, hw1⟩ : ∃ q, q = wr.alloc (.cells #[.string x0, .int .i64 x1, .int .i64 x2] 113) := ⟨_, rfl⟩
      have hb1 : Below wr.heap.size wr w1 := hw1 ▸ Go.Joins.below_alloc1 _ _
      have H1 : Hid (MpT kvP evH w1 m (hoF (l.take k) g) ∧ Below w.heap.size w w1) := ⟨HA.out.1.next hb1, below_next HA.out.2 hb1⟩
      have HB := Hid.intro (show Bx w1 wr.heap.size [.string x0, .int .i64 x1, .int .i64 x2] from hw1 ▸ Bx.new wr [_, _, _] _)
      have s0 := HB.out.cell 0 rfl
      have s1 := HB.out.cell 1 rfl
      have s2 := HB.out.cell 2 rfl
      have sz := HB.out.2
      clear hb1
      go_upto_region 5 with fail
      rw [← hw1]
      clear hw1 xc0 xc1 xc2
      go_wp2_with (at_mapUpdate; refine wpList_storeT rfl _ _ _ rfl Try.underlying108 keyL_place H1.out.1 rfl (k := (x1, x2)) rfl (val := (x0, x1, x2, g)) rfl ?_; intro w9 hm9 hg9 hz9)
      have HF : Hid (MpT kvP evH w9 m (hoF (l.take (k + 1)) g) ∧ Below w.heap.size w w9) := ⟨by rw [← HS.out]; exact hm9, H1.out.2.grown hg9 H1.out.2.size (fun k e => by cases e; exact Nat.le_of_eq HM.out.symm)⟩
      clear hm9 hg9 hz9 s0 s1 s2 sz
      go_roundw
      case rel => exact ⟨k + 1, by omega, by go_num, HF.out⟩
      case measure => simp [intOf]; omega
    · have HF : Hid (MpT kvP evH wr m (hoF l g) ∧ Below w.heap.size w wr) := Hid.intro (by
        have h1 := HA.out.1
        rw [List.take_of_length_le (by omega)] at h1
        exact ⟨h1, HA.out.2⟩)
      go_wp2
      go_ret
      exact ⟨m, rfl, Nat.le_of_eq HM.out.symm, HF.out⟩

set_option maxRecDepth 100000 in
set_option maxHeartbeats 2000000 in
theorem heardIn_n (cs : List Value) (A G : List AdV) (w : World) (hA : smlA A) (hG : smlA G) (h : Lies w shBag cs (A, G, ())) :
    Calls Try.prog 81 #[.agg cs.toArray] w fun r w' => ∃ m, r = .returned (.map (some m)) ∧ w.heap.size ≤ m ∧ MpT kvP evH w' m (bgF A G) ∧ Below w.heap.size w w' := by
  obtain ⟨s1, c1, s2, c2, rfl, h1, h2⟩ := lies_Bag h
  have HL : Hid (Lies w (.list shAdd) [.slice s1 A.length c1] A ∧ Lies w (.list shAdd) [.slice s2 G.length c2] G) := ⟨h1, h2⟩
  have HS : Hid (smlA A ∧ smlA G) := ⟨hA, hG⟩
  clear h h1 h2 hA hG
  obtain ⟨w0, hw0⟩ : ∃ x, x = w.alloc (.cells #[.slice s1 A.length c1, .slice s2 G.length c2] 46) := ⟨_, rfl⟩
  have HB0 : Hid (Bx w0 w.heap.size [.slice s1 A.length c1, .slice s2 G.length c2] ∧ Below w.heap.size w w0) := ⟨hw0 ▸ Bx.new w [_, _] _, hw0 ▸ Go.Joins.below_alloc1 _ _⟩
  have HD : Hid (Bx w0.drew w.heap.size [.slice s1 A.length c1, .slice s2 G.length c2] ∧ Below w.heap.size w w0.drew) := ⟨HB0.out.1.next (below_drew _), HB0.out.2.drew⟩
  go_enter Try.func81, Try.ntmps81
  go_upto_region 1 with fail
  rw [← hw0]
  clear hw0 HB0
  refine wp_region_noPanic ?_
  refine wp_region_held_drew (S := fun W => Bx W w.heap.size [.slice s1 A.length c1, .slice s2 G.length c2]) (by kernel_rfl) HD.out.1 (fun hHeld => ?_)
  refine take_v (v := ?_) 0 ⟨some 3, Op.fieldAddr 46 (Operand.tmp 1) 0, _, _, _, none⟩ rfl (fun _ _ _ h => h) ?_ hHeld ?_
  rotate_left
  · (intro W _; go_simp <;> (try with_reducible rfl))
  refine take_v (v := ?_) 1 ⟨some 4, Op.load 44 (Operand.tmp 3), _, _, _, none⟩ rfl (fun _ _ _ h => h) ?_ hHeld ?_
  rotate_left
  · (intro W hSW; (have s0 := hSW.cell 0 rfl; have s1 := hSW.cell 1 rfl; have sz := hSW.2); go_simp <;> (try with_reducible rfl))
  refine take_v (v := ?_) 3 ⟨some 6, Op.fieldAddr 46 (Operand.tmp 1) 1, _, _, _, none⟩ rfl (fun _ _ _ h => h) ?_ hHeld ?_
  rotate_left
  · (intro W _; go_simp <;> (try with_reducible rfl))
  refine take_v (v := ?_) 4 ⟨some 7, Op.load 44 (Operand.tmp 6), _, _, _, none⟩ rfl (fun _ _ _ h => h) ?_ hHeld ?_
  rotate_left
  · (intro W hSW; (have s0 := hSW.cell 0 rfl; have s1 := hSW.cell 1 rfl; have sz := hSW.2); go_simp <;> (try with_reducible rfl))
  refine ready_call 2 ⟨some 5, Op.call { callee := Callee.value (Operand.func 89), args := #[Operand.tmp 4, Operand.const (Value.bool false)], argTypes := #[44, 4] }, _, _, _, none⟩ (by kernel_rfl) rfl (by kernel_rfl) (fun KC hK => ?_)
  go_wp2_with fail
  refine (heardOf_n s1 c1 A false _ HS.out.1 (HL.out.1.next HD.out.2)).mono ?_
  rintro r w1 ⟨m1, rfl, hm, hM, hb⟩
  have H1 : Hid (Bx w1 w.heap.size [.slice s1 A.length c1, .slice s2 G.length c2] ∧ MpT kvP evH w1 m1 (hoF A false) ∧ Below w.heap.size w w1) := ⟨HD.out.1.next hb, hM, below_next HD.out.2 hb⟩
  clear hm hM hb
  refine hK.out _ _ H1.out.1 (fun hHeld => ?_)
  clear hK KC
  refine ready_call 5 ⟨some 8, Op.call { callee := Callee.value (Operand.func 89), args := #[Operand.tmp 7, Operand.const (Value.bool true)], argTypes := #[44, 4] }, _, _, _, none⟩ (by kernel_rfl) rfl (by kernel_rfl) (fun KC hK => ?_)
  go_wp2_with fail
  refine (heardOf_n s2 c2 G true _ HS.out.2 (HL.out.2.next H1.out.2.2)).mono ?_
  rintro r w2 ⟨m2, rfl, hm, hM, hb⟩
  have H2 : Hid (Bx w2 w.heap.size [.slice s1 A.length c1, .slice s2 G.length c2] ∧ MpT kvP evH w2 m1 (hoF A false) ∧ MpT kvP evH w2 m2 (hoF G true) ∧ Below w.heap.size w w2) := ⟨H1.out.1.next hb, H1.out.2.1.next hb, hM, below_next H1.out.2.2 hb⟩
  clear hm hM hb
  refine hK.out _ _ H2.out.1 (fun hHeld => ?_)
  clear hK KC
  refine ready_call 6 ⟨some 9, Op.call { callee := Callee.value (Operand.func 80), args := #[Operand.tmp 5, Operand.tmp 8, Operand.func 82], argTypes := #[108, 108, 117] }, _, _, _, none⟩ (by kernel_rfl) rfl (by kernel_rfl) (fun KC hK => ?_)
  go_wp2_with fail
  refine (joinH_n m1 m2 (hoF A false) (hoF G true) _ H2.out.2.1 H2.out.2.2.1).mono ?_
  rintro r w3 ⟨m, rfl, hm, hM, hb⟩
  have H3 : Hid (Bx w3 w.heap.size [.slice s1 A.length c1, .slice s2 G.length c2] ∧ w.heap.size ≤ m ∧ MpT kvP evH w3 m (bgF A G) ∧ Below w.heap.size w w3) := ⟨H2.out.1.next hb, Nat.le_trans H2.out.2.2.2.size hm, hM, below_next H2.out.2.2.2 hb⟩
  clear hm hM hb
  refine hK.out _ _ H3.out.1 (fun hHeld => ?_)
  clear hK KC
  refine take_v (v := ?_) 7 ⟨some 2, Op.assign (Operand.tmp 9), _, _, _, none⟩ rfl (fun _ _ _ h => h) ?_ hHeld ?_
  rotate_left
  · (intro W _; go_simp <;> (try with_reducible rfl))
  refine wpAnyH_done (by kernel_rfl) ?_ _
  refine NoPanic.normal ?_
  clear hHeld
  go_wp2
  go_ret
  exact ⟨m, rfl, H3.out.2⟩

set_option maxRecDepth 100000 in
set_option maxHeartbeats 4000000 in
theorem goodBag_n (cs : List Value) (A G : List AdV) (w : World) (hz : szD shBag (A, G, ()) ≤ 1073741824) (h : Lies w shBag cs (A, G, ())) :
    Calls Try.prog 53 #[.agg cs.toArray] w fun r w' => r = .returned (.bool (tf (goodB A G))) ∧ Below w.heap.size w w' := by
  have hh := h
  obtain ⟨s1, c1, s2, c2, rfl, h1, h2⟩ := lies_Bag h
  have HL : Hid (Lies w (.list shAdd) [.slice s1 A.length c1] A ∧ Lies w (.list shAdd) [.slice s2 G.length c2] G ∧ Lies w shBag [.slice s1 A.length c1, .slice s2 G.length c2] (A, G, ())) := ⟨h1, h2, hh⟩
  have HS := Hid.intro (bg_sizes hz)
  clear h h1 h2 hz hh
  obtain ⟨w0, hw0⟩ : ∃ x, x = w.alloc (.cells #[.slice s1 A.length c1, .slice s2 G.length c2] 46) := ⟨_, rfl⟩
  have HB0 : Hid (Bx w0 w.heap.size [.slice s1 A.length c1, .slice s2 G.length c2] ∧ Below w.heap.size w w0) := ⟨hw0 ▸ Bx.new w [_, _] _, hw0 ▸ Go.Joins.below_alloc1 _ _⟩
  have HD : Hid (Bx w0.drew w.heap.size [.slice s1 A.length c1, .slice s2 G.length c2] ∧ Below w.heap.size w w0.drew) := ⟨HB0.out.1.next (below_drew _), HB0.out.2.drew⟩
  have HC1 : Hid (∀ W, Below w.heap.size w W → Calls Try.prog 103 #[.slice s1 A.length c1] W fun r w' => r = .returned (.bool (tf (adsP A))) ∧ Below W.heap.size W w') := Hid.intro (fun W hb => areAdds_n s1 c1 A W HS.out.1 (HL.out.1.next hb))
  have HC2 : Hid (∀ W, Below w.heap.size w W → Calls Try.prog 103 #[.slice s2 G.length c2] W fun r w' => r = .returned (.bool (tf (adsP G))) ∧ Below W.heap.size W w') := Hid.intro (fun W hb => areAdds_n s2 c2 G W HS.out.2 (HL.out.2.1.next hb))

  cases e1 : tf (adsP A)
  · have HN : Hid (tf (goodB A G) = false) := tf_no (fun q => by rw [tf_yes q.1.1] at e1; cases e1)
    rw [e1] at HC1
    clear e1
    go_enter Try.func53, Try.ntmps53
    go_upto_region 1 with fail
    rw [← hw0]
    clear hw0 HB0
    refine wp_region_noPanic ?_
    refine wp_region_held_drew (S := fun W => Bx W w.heap.size [.slice s1 A.length c1, .slice s2 G.length c2]) (by kernel_rfl) HD.out.1 (fun hHeld => ?_)
    refine take_v (v := ?_) 0 ⟨some 3, Op.fieldAddr 46 (Operand.tmp 1) 0, _, _, _, none⟩ rfl (fun _ _ _ h => h) ?_ hHeld ?_
    rotate_left
    · (intro W _; go_simp <;> (try with_reducible rfl))
    refine take_v (v := ?_) 1 ⟨some 4, Op.load 44 (Operand.tmp 3), _, _, _, none⟩ rfl (fun _ _ _ h => h) ?_ hHeld ?_
    rotate_left
    · (intro W hSW; (have s0 := hSW.cell 0 rfl; have s1 := hSW.cell 1 rfl; have sz := hSW.2); go_simp <;> (try with_reducible rfl))
    refine ready_call 2 ⟨some 5, Op.call { callee := Callee.value (Operand.func 103), args := #[Operand.tmp 4], argTypes := #[44] }, _, _, _, none⟩ (by kernel_rfl) rfl (by kernel_rfl) (fun KC hK => ?_)
    go_wp2_with fail
    refine (HC1.out _ HD.out.2).mono ?_
    rintro r w4 ⟨rfl, hb⟩
    have HE : Hid (Bx w4 w.heap.size [.slice s1 A.length c1, .slice s2 G.length c2] ∧ Below w.heap.size w w4) := ⟨HD.out.1.next hb, below_next HD.out.2 hb⟩
    clear hb
    refine hK.out _ _ HE.out.1 (fun hHeld => ?_)
    clear hK KC
    refine take_v (v := ?_) 3 ⟨some 6, Op.move (Operand.tmp 5), _, _, _, none⟩ rfl (fun _ _ _ h => h) ?_ hHeld ?_
    rotate_left
    · (intro W _; go_simp <;> (try with_reducible rfl))
    refine take_n 4 ⟨some 7, Op.fieldAddr 46 (Operand.tmp 1) 1, _, _, _, some (3, true)⟩ rfl (fun _ _ _ h => h) hHeld ?_
    refine take_n 5 ⟨some 8, Op.load 44 (Operand.tmp 7), _, _, _, some (3, true)⟩ rfl (fun _ _ _ h => h) hHeld ?_
    refine take_n 6 ⟨some 9, Op.call { callee := Callee.value (Operand.func 103), args := #[Operand.tmp 8], argTypes := #[44] }, _, _, _, some (3, true)⟩ rfl (fun _ _ _ h => h) hHeld ?_
    refine take_v (v := ?_) 7 ⟨some 10, Op.pick (Operand.tmp 6) (Operand.tmp 9) (Operand.const (Value.bool false)), _, _, _, none⟩ rfl (fun _ _ _ h => h) ?_ hHeld ?_
    rotate_left
    · (intro W _; go_simp <;> (try with_reducible rfl))
    refine take_v (v := ?_) 8 ⟨some 11, Op.move (Operand.tmp 10), _, _, _, none⟩ rfl (fun _ _ _ h => h) ?_ hHeld ?_
    rotate_left
    · (intro W _; go_simp <;> (try with_reducible rfl))
    refine take_n 9 ⟨some 12, Op.load 46 (Operand.tmp 1), _, _, _, some (8, true)⟩ rfl (fun _ _ _ h => h) hHeld ?_
    refine take_n 10 ⟨some 13, Op.call { callee := Callee.value (Operand.func 81), args := #[Operand.tmp 12], argTypes := #[46] }, _, _, _, some (8, true)⟩ rfl (fun _ _ _ h => h) hHeld ?_
    refine take_n 11 ⟨some 14, Op.call { callee := Callee.builtin Builtin.len, args := #[Operand.tmp 13], argTypes := #[108] }, _, _, _, some (8, true)⟩ rfl (fun _ _ _ h => h) hHeld ?_
    refine take_n 12 ⟨some 15, Op.fieldAddr 46 (Operand.tmp 1) 0, _, _, _, some (8, true)⟩ rfl (fun _ _ _ h => h) hHeld ?_
    refine take_n 13 ⟨some 16, Op.load 44 (Operand.tmp 15), _, _, _, some (8, true)⟩ rfl (fun _ _ _ h => h) hHeld ?_
    refine take_n 14 ⟨some 17, Op.call { callee := Callee.builtin Builtin.len, args := #[Operand.tmp 16], argTypes := #[44] }, _, _, _, some (8, true)⟩ rfl (fun _ _ _ h => h) hHeld ?_
    refine take_n 15 ⟨some 18, Op.fieldAddr 46 (Operand.tmp 1) 1, _, _, _, some (8, true)⟩ rfl (fun _ _ _ h => h) hHeld ?_
    refine take_n 16 ⟨some 19, Op.load 44 (Operand.tmp 18), _, _, _, some (8, true)⟩ rfl (fun _ _ _ h => h) hHeld ?_
    refine take_n 17 ⟨some 20, Op.call { callee := Callee.builtin Builtin.len, args := #[Operand.tmp 19], argTypes := #[44] }, _, _, _, some (8, true)⟩ rfl (fun _ _ _ h => h) hHeld ?_
    refine take_n 18 ⟨some 21, Op.binOp BinOp.add 3 (Operand.tmp 17) (Operand.tmp 20) 3, _, _, _, some (8, true)⟩ rfl (fun _ _ _ h => h) hHeld ?_
    refine take_n 19 ⟨some 22, Op.binOp BinOp.eql 3 (Operand.tmp 14) (Operand.tmp 21) 3, _, _, _, some (8, true)⟩ rfl (fun _ _ _ h => h) hHeld ?_
    refine take_v (v := ?_) 20 ⟨some 23, Op.pick (Operand.tmp 11) (Operand.tmp 22) (Operand.const (Value.bool false)), _, _, _, none⟩ rfl (fun _ _ _ h => h) ?_ hHeld ?_
    rotate_left
    · (intro W _; go_simp <;> (try with_reducible rfl))
    refine take_v (v := ?_) 21 ⟨some 2, Op.assign (Operand.tmp 23), _, _, _, none⟩ rfl (fun _ _ _ h => h) ?_ hHeld ?_
    rotate_left
    · (intro W _; go_simp <;> (try with_reducible rfl))
    refine wpAnyH_done (by kernel_rfl) ?_ _
    refine NoPanic.normal ?_
    clear hHeld
    go_wp2
    go_ret
    exact ⟨ret_bool HN.out.symm, HE.out.2⟩
  have HG1 := Hid.intro (tf_iff.1 e1)
  rw [e1] at HC1
  clear e1
  cases e2 : tf (adsP G)
  · have HN : Hid (tf (goodB A G) = false) := tf_no (fun q => by rw [tf_yes q.1.2] at e2; cases e2)
    rw [e2] at HC2
    clear e2
    go_enter Try.func53, Try.ntmps53
    go_upto_region 1 with fail
    rw [← hw0]
    clear hw0 HB0
    refine wp_region_noPanic ?_
    refine wp_region_held_drew (S := fun W => Bx W w.heap.size [.slice s1 A.length c1, .slice s2 G.length c2]) (by kernel_rfl) HD.out.1 (fun hHeld => ?_)
    refine take_v (v := ?_) 0 ⟨some 3, Op.fieldAddr 46 (Operand.tmp 1) 0, _, _, _, none⟩ rfl (fun _ _ _ h => h) ?_ hHeld ?_
    rotate_left
    · (intro W _; go_simp <;> (try with_reducible rfl))
    refine take_v (v := ?_) 1 ⟨some 4, Op.load 44 (Operand.tmp 3), _, _, _, none⟩ rfl (fun _ _ _ h => h) ?_ hHeld ?_
    rotate_left
    · (intro W hSW; (have s0 := hSW.cell 0 rfl; have s1 := hSW.cell 1 rfl; have sz := hSW.2); go_simp <;> (try with_reducible rfl))
    refine ready_call 2 ⟨some 5, Op.call { callee := Callee.value (Operand.func 103), args := #[Operand.tmp 4], argTypes := #[44] }, _, _, _, none⟩ (by kernel_rfl) rfl (by kernel_rfl) (fun KC hK => ?_)
    go_wp2_with fail
    refine (HC1.out _ HD.out.2).mono ?_
    rintro r w4 ⟨rfl, hb⟩
    have HE : Hid (Bx w4 w.heap.size [.slice s1 A.length c1, .slice s2 G.length c2] ∧ Below w.heap.size w w4) := ⟨HD.out.1.next hb, below_next HD.out.2 hb⟩
    clear hb
    refine hK.out _ _ HE.out.1 (fun hHeld => ?_)
    clear hK KC
    refine take_v (v := ?_) 3 ⟨some 6, Op.move (Operand.tmp 5), _, _, _, none⟩ rfl (fun _ _ _ h => h) ?_ hHeld ?_
    rotate_left
    · (intro W _; go_simp <;> (try with_reducible rfl))
    refine take_v (v := ?_) 4 ⟨some 7, Op.fieldAddr 46 (Operand.tmp 1) 1, _, _, _, some (3, true)⟩ rfl (fun _ _ _ h => h) ?_ hHeld ?_
    rotate_left
    · (intro W _; go_simp <;> (try with_reducible rfl))
    refine take_v (v := ?_) 5 ⟨some 8, Op.load 44 (Operand.tmp 7), _, _, _, some (3, true)⟩ rfl (fun _ _ _ h => h) ?_ hHeld ?_
    rotate_left
    · (intro W hSW; (have s0 := hSW.cell 0 rfl; have s1 := hSW.cell 1 rfl; have sz := hSW.2); go_simp <;> (try with_reducible rfl))
    refine ready_call 6 ⟨some 9, Op.call { callee := Callee.value (Operand.func 103), args := #[Operand.tmp 8], argTypes := #[44] }, _, _, _, some (3, true)⟩ (by kernel_rfl) rfl (by kernel_rfl) (fun KC hK => ?_)
    go_wp2_with fail
    refine (HC2.out _ HE.out.2).mono ?_
    rintro r w4 ⟨rfl, hb⟩
    have HE2 : Hid (Bx w4 w.heap.size [.slice s1 A.length c1, .slice s2 G.length c2] ∧ Below w.heap.size w w4) := ⟨HE.out.1.next hb, below_next HE.out.2 hb⟩
    clear hb
    refine hK.out _ _ HE2.out.1 (fun hHeld => ?_)
    clear hK KC
    refine take_v (v := ?_) 7 ⟨some 10, Op.pick (Operand.tmp 6) (Operand.tmp 9) (Operand.const (Value.bool false)), _, _, _, none⟩ rfl (fun _ _ _ h => h) ?_ hHeld ?_
    rotate_left
    · (intro W _; go_simp <;> (try with_reducible rfl))
    refine take_v (v := ?_) 8 ⟨some 11, Op.move (Operand.tmp 10), _, _, _, none⟩ rfl (fun _ _ _ h => h) ?_ hHeld ?_
    rotate_left
    · (intro W _; go_simp <;> (try with_reducible rfl))
    refine take_n 9 ⟨some 12, Op.load 46 (Operand.tmp 1), _, _, _, some (8, true)⟩ rfl (fun _ _ _ h => h) hHeld ?_
    refine take_n 10 ⟨some 13, Op.call { callee := Callee.value (Operand.func 81), args := #[Operand.tmp 12], argTypes := #[46] }, _, _, _, some (8, true)⟩ rfl (fun _ _ _ h => h) hHeld ?_
    refine take_n 11 ⟨some 14, Op.call { callee := Callee.builtin Builtin.len, args := #[Operand.tmp 13], argTypes := #[108] }, _, _, _, some (8, true)⟩ rfl (fun _ _ _ h => h) hHeld ?_
    refine take_n 12 ⟨some 15, Op.fieldAddr 46 (Operand.tmp 1) 0, _, _, _, some (8, true)⟩ rfl (fun _ _ _ h => h) hHeld ?_
    refine take_n 13 ⟨some 16, Op.load 44 (Operand.tmp 15), _, _, _, some (8, true)⟩ rfl (fun _ _ _ h => h) hHeld ?_
    refine take_n 14 ⟨some 17, Op.call { callee := Callee.builtin Builtin.len, args := #[Operand.tmp 16], argTypes := #[44] }, _, _, _, some (8, true)⟩ rfl (fun _ _ _ h => h) hHeld ?_
    refine take_n 15 ⟨some 18, Op.fieldAddr 46 (Operand.tmp 1) 1, _, _, _, some (8, true)⟩ rfl (fun _ _ _ h => h) hHeld ?_
    refine take_n 16 ⟨some 19, Op.load 44 (Operand.tmp 18), _, _, _, some (8, true)⟩ rfl (fun _ _ _ h => h) hHeld ?_
    refine take_n 17 ⟨some 20, Op.call { callee := Callee.builtin Builtin.len, args := #[Operand.tmp 19], argTypes := #[44] }, _, _, _, some (8, true)⟩ rfl (fun _ _ _ h => h) hHeld ?_
    refine take_n 18 ⟨some 21, Op.binOp BinOp.add 3 (Operand.tmp 17) (Operand.tmp 20) 3, _, _, _, some (8, true)⟩ rfl (fun _ _ _ h => h) hHeld ?_
    refine take_n 19 ⟨some 22, Op.binOp BinOp.eql 3 (Operand.tmp 14) (Operand.tmp 21) 3, _, _, _, some (8, true)⟩ rfl (fun _ _ _ h => h) hHeld ?_
    refine take_v (v := ?_) 20 ⟨some 23, Op.pick (Operand.tmp 11) (Operand.tmp 22) (Operand.const (Value.bool false)), _, _, _, none⟩ rfl (fun _ _ _ h => h) ?_ hHeld ?_
    rotate_left
    · (intro W _; go_simp <;> (try with_reducible rfl))
    refine take_v (v := ?_) 21 ⟨some 2, Op.assign (Operand.tmp 23), _, _, _, none⟩ rfl (fun _ _ _ h => h) ?_ hHeld ?_
    rotate_left
    · (intro W _; go_simp <;> (try with_reducible rfl))
    refine wpAnyH_done (by kernel_rfl) ?_ _
    refine NoPanic.normal ?_
    clear hHeld
    go_wp2
    go_ret
    exact ⟨ret_bool HN.out.symm, HE2.out.2⟩
  have HG2 := Hid.intro (tf_iff.1 e2)
  have HCT : Hid (∀ l : List ((Int × Int) × HrV), KeysN l → (∀ k, getK k l = bgF A G k) → (l.length = A.length + G.length ↔ goodB A G)) := Hid.intro (fun l hn hl => by
    rw [bg_count (ads_pair HG1.out.2) (ads_pair HG2.out.2) hn hl]
    exact ⟨fun q => ⟨⟨HG1.out, HG2.out⟩, q⟩, fun q => q.2⟩)
  have hA40 := HG1.out.1
  have hG40 := HG2.out.1
  rw [e2] at HC2
  clear e2
  go_enter Try.func53, Try.ntmps53
  go_upto_region 1 with fail
  rw [← hw0]
  clear hw0 HB0
  refine wp_region_noPanic ?_
  refine wp_region_held_drew (S := fun W => Bx W w.heap.size [.slice s1 A.length c1, .slice s2 G.length c2]) (by kernel_rfl) HD.out.1 (fun hHeld => ?_)
  refine take_v (v := ?_) 0 ⟨some 3, Op.fieldAddr 46 (Operand.tmp 1) 0, _, _, _, none⟩ rfl (fun _ _ _ h => h) ?_ hHeld ?_
  rotate_left
  · (intro W _; go_simp <;> (try with_reducible rfl))
  refine take_v (v := ?_) 1 ⟨some 4, Op.load 44 (Operand.tmp 3), _, _, _, none⟩ rfl (fun _ _ _ h => h) ?_ hHeld ?_
  rotate_left
  · (intro W hSW; (have s0 := hSW.cell 0 rfl; have s1 := hSW.cell 1 rfl; have sz := hSW.2); go_simp <;> (try with_reducible rfl))
  refine ready_call 2 ⟨some 5, Op.call { callee := Callee.value (Operand.func 103), args := #[Operand.tmp 4], argTypes := #[44] }, _, _, _, none⟩ (by kernel_rfl) rfl (by kernel_rfl) (fun KC hK => ?_)
  go_wp2_with fail
  refine (HC1.out _ HD.out.2).mono ?_
  rintro r w4 ⟨rfl, hb⟩
  have HE : Hid (Bx w4 w.heap.size [.slice s1 A.length c1, .slice s2 G.length c2] ∧ Below w.heap.size w w4) := ⟨HD.out.1.next hb, below_next HD.out.2 hb⟩
  clear hb
  refine hK.out _ _ HE.out.1 (fun hHeld => ?_)
  clear hK KC
  refine take_v (v := ?_) 3 ⟨some 6, Op.move (Operand.tmp 5), _, _, _, none⟩ rfl (fun _ _ _ h => h) ?_ hHeld ?_
  rotate_left
  · (intro W _; go_simp <;> (try with_reducible rfl))
  refine take_v (v := ?_) 4 ⟨some 7, Op.fieldAddr 46 (Operand.tmp 1) 1, _, _, _, some (3, true)⟩ rfl (fun _ _ _ h => h) ?_ hHeld ?_
  rotate_left
  · (intro W _; go_simp <;> (try with_reducible rfl))
  refine take_v (v := ?_) 5 ⟨some 8, Op.load 44 (Operand.tmp 7), _, _, _, some (3, true)⟩ rfl (fun _ _ _ h => h) ?_ hHeld ?_
  rotate_left
  · (intro W hSW; (have s0 := hSW.cell 0 rfl; have s1 := hSW.cell 1 rfl; have sz := hSW.2); go_simp <;> (try with_reducible rfl))
  refine ready_call 6 ⟨some 9, Op.call { callee := Callee.value (Operand.func 103), args := #[Operand.tmp 8], argTypes := #[44] }, _, _, _, some (3, true)⟩ (by kernel_rfl) rfl (by kernel_rfl) (fun KC hK => ?_)
  go_wp2_with fail
  refine (HC2.out _ HE.out.2).mono ?_
  rintro r w4 ⟨rfl, hb⟩
  have HE2 : Hid (Bx w4 w.heap.size [.slice s1 A.length c1, .slice s2 G.length c2] ∧ Below w.heap.size w w4) := ⟨HE.out.1.next hb, below_next HE.out.2 hb⟩
  clear hb
  refine hK.out _ _ HE2.out.1 (fun hHeld => ?_)
  clear hK KC
  refine take_v (v := ?_) 7 ⟨some 10, Op.pick (Operand.tmp 6) (Operand.tmp 9) (Operand.const (Value.bool false)), _, _, _, none⟩ rfl (fun _ _ _ h => h) ?_ hHeld ?_
  rotate_left
  · (intro W _; go_simp <;> (try with_reducible rfl))
  refine take_v (v := ?_) 8 ⟨some 11, Op.move (Operand.tmp 10), _, _, _, none⟩ rfl (fun _ _ _ h => h) ?_ hHeld ?_
  rotate_left
  · (intro W _; go_simp <;> (try with_reducible rfl))
  refine take_v (v := ?_) 9 ⟨some 12, Op.load 46 (Operand.tmp 1), _, _, _, some (8, true)⟩ rfl (fun _ _ _ h => h) ?_ hHeld ?_
  rotate_left
  · (intro W hSW; (have s0 := hSW.cell 0 rfl; have s1 := hSW.cell 1 rfl; have sz := hSW.2); go_simp <;> (try with_reducible rfl))
  refine take_v (v := ?_) 12 ⟨some 15, Op.fieldAddr 46 (Operand.tmp 1) 0, _, _, _, some (8, true)⟩ rfl (fun _ _ _ h => h) ?_ hHeld ?_
  rotate_left
  · (intro W _; go_simp <;> (try with_reducible rfl))
  refine take_v (v := ?_) 13 ⟨some 16, Op.load 44 (Operand.tmp 15), _, _, _, some (8, true)⟩ rfl (fun _ _ _ h => h) ?_ hHeld ?_
  rotate_left
  · (intro W hSW; (have s0 := hSW.cell 0 rfl; have s1 := hSW.cell 1 rfl; have sz := hSW.2); go_simp <;> (try with_reducible rfl))
  refine take_v (v := ?_) 14 ⟨some 17, Op.call { callee := Callee.builtin Builtin.len, args := #[Operand.tmp 16], argTypes := #[44] }, _, _, _, some (8, true)⟩ rfl (fun _ _ _ h => h) ?_ hHeld ?_
  rotate_left
  · (intro W _; go_simp <;> (try with_reducible rfl))
  refine take_v (v := ?_) 15 ⟨some 18, Op.fieldAddr 46 (Operand.tmp 1) 1, _, _, _, some (8, true)⟩ rfl (fun _ _ _ h => h) ?_ hHeld ?_
  rotate_left
  · (intro W _; go_simp <;> (try with_reducible rfl))
  refine take_v (v := ?_) 16 ⟨some 19, Op.load 44 (Operand.tmp 18), _, _, _, some (8, true)⟩ rfl (fun _ _ _ h => h) ?_ hHeld ?_
  rotate_left
  · (intro W hSW; (have s0 := hSW.cell 0 rfl; have s1 := hSW.cell 1 rfl; have sz := hSW.2); go_simp <;> (try with_reducible rfl))
  refine take_v (v := ?_) 17 ⟨some 20, Op.call { callee := Callee.builtin Builtin.len, args := #[Operand.tmp 19], argTypes := #[44] }, _, _, _, some (8, true)⟩ rfl (fun _ _ _ h => h) ?_ hHeld ?_
  rotate_left
  · (intro W _; go_simp <;> (try with_reducible rfl))
  refine take_v (v := ?_) 18 ⟨some 21, Op.binOp BinOp.add 3 (Operand.tmp 17) (Operand.tmp 20) 3, _, _, _, some (8, true)⟩ rfl (fun _ _ _ h => h) ?_ hHeld ?_
  rotate_left
  · (intro W _; go_simp <;> (try with_reducible rfl))
  refine ready_call 10 ⟨some 13, Op.call { callee := Callee.value (Operand.func 81), args := #[Operand.tmp 12], argTypes := #[46] }, _, _, _, some (8, true)⟩ (by kernel_rfl) rfl (by kernel_rfl) (fun KC hK => ?_)
  go_wp2_with fail
  refine (heardIn_n [.slice s1 A.length c1, .slice s2 G.length c2] A G _ HS.out.1 HS.out.2 (HL.out.2.2.next HE2.out.2)).mono ?_
  rintro r w5 ⟨m, rfl, hm, ⟨lm, hM, hkn, hgt⟩, hb⟩
  have HE3 : Hid (Bx w5 w.heap.size [.slice s1 A.length c1, .slice s2 G.length c2] ∧ Below w.heap.size w w5) := ⟨HE2.out.1.next hb, below_next HE2.out.2 hb⟩
  have HM : Hid (MpX kvP w5 m (encL evH lm)) := hM
  have HLN : Hid (lm.length = A.length + G.length ↔ goodB A G) := Hid.intro (HCT.out lm hkn hgt)
  obtain ⟨N, hN⟩ : ∃ N, N = lm.length := ⟨_, rfl⟩
  have HNE : Hid (N = lm.length) := hN
  rw [← hN] at HLN
  clear hm hM hkn hgt hb hN
  refine hK.out _ _ HE3.out.1 (fun hHeld => ?_)
  clear hK KC
  refine ready_call 11 ⟨some 14, Op.call { callee := Callee.builtin Builtin.len, args := #[Operand.tmp 13], argTypes := #[108] }, _, _, _, some (8, true)⟩ (by kernel_rfl) rfl (by kernel_rfl) (fun KC hK => ?_)
  refine wp_lenT (.tmp 13) (by rfl) Try.underlying108 HM.out (by rfl) ?_
  rw [← HNE.out]
  refine hK.out _ _ HE3.out.1 (fun hHeld => ?_)
  clear hK KC
  refine take_v (v := ?_) 19 ⟨some 22, Op.binOp BinOp.eql 3 (Operand.tmp 14) (Operand.tmp 21) 3, _, _, _, some (8, true)⟩ rfl (fun _ _ _ h => h) ?_ hHeld ?_
  rotate_left
  · (intro W _; go_simp <;> (try with_reducible rfl))
  refine take_v (v := ?_) 20 ⟨some 23, Op.pick (Operand.tmp 11) (Operand.tmp 22) (Operand.const (Value.bool false)), _, _, _, none⟩ rfl (fun _ _ _ h => h) ?_ hHeld ?_
  rotate_left
  · (intro W _; go_simp <;> (try with_reducible rfl))
  refine take_v (v := ?_) 21 ⟨some 2, Op.assign (Operand.tmp 23), _, _, _, none⟩ rfl (fun _ _ _ h => h) ?_ hHeld ?_
  rotate_left
  · (intro W _; go_simp <;> (try with_reducible rfl))
  refine wpAnyH_done (by kernel_rfl) ?_ _
  refine NoPanic.normal ?_
  clear hHeld
  by_cases c : N = A.length + G.length
  · have HN : Hid (tf (goodB A G) = true) := tf_yes (HLN.out.1 c)
    go_wp2
    go_ret
    exact ⟨ret_bool (by rw [HN.out]; simp [w64s (n := (A.length : Int) + (G.length : Int)) (by omega) (by omega)] <;> omega), HE3.out.2⟩
  · have HN : Hid (tf (goodB A G) = false) := tf_no (fun q => c (HLN.out.2 q))
    go_wp2
    go_ret
    exact ⟨ret_bool (by rw [HN.out]; simp [w64s (n := (A.length : Int) + (G.length : Int)) (by omega) (by omega)] <;> omega), HE3.out.2⟩
end Go.Proofs.Ytnglgndocmkbfaa
