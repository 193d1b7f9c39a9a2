/- Fences: a step on an open fence, whole. Written by tools/mkFoT.py. -/
import Derived.Test.YtcbdlalpnlahcaaMgC
import Derived.Test.YtcbdlalpnlahcaaFpG
namespace Go.Proofs.Ytcbdlalpnlahcaa
open Go.RowKit
set_option linter.unusedVariables false
set_option linter.unusedSimpArgs false

theorem StO.back {lo p b : Nat} {A : Option (Sh.T shFence)} {W Z w' : World} {r : Ending} (hlo : lo ≤ W.heap.size) (hb : Below W.heap.size W Z) (h : StO lo p b A Z r w') : StO lo p b A W r w' := ⟨h.1, (hb.mono hlo).trans h.2.1, h.2.2⟩

set_option maxRecDepth 100000 in
set_option maxHeartbeats 8000000 in
theorem tkF_v (lo p b : Nat) (ep du : Int) (ms : List (Sh.T shMember)) (en : List (Sh.T .int)) (L : List MbV) (B : Nat → Nat → Prop) (ve : Value) (id n : Int) (W : World) (hX : OpX lo p b W ep du ms en L B ve) (hlo : lo ≤ W.heap.size) (hG : goodF ep du ms en) (hP : playP ep du) :
    Calls Try.prog 50 #[.pointer (some ⟨p, 0, none⟩), .agg #[.int .i64 4, .int .i64 id, .int .i64 n]] W (StO lo p b (advF ep du ms en) W) := by
  obtain ⟨W1, hW1⟩ : ∃ x, x = W.alloc (.cells #[.int .i64 4, .int .i64 id, .int .i64 n] 40) := ⟨_, rfl⟩
  have HM : Hid (OpX lo p b W1 ep du ms en L B ve ∧ Bx W1 W.heap.size [.int .i64 4, .int .i64 id, .int .i64 n] ∧ Below W.heap.size W W1 ∧ lo ≤ W1.heap.size) := Hid.intro (by
    have hb : Below W.heap.size W W1 := hW1 ▸ Go.Joins.below_alloc1 _ _
    exact ⟨hX.next hb, hW1 ▸ Bx.new W [_, _, _] _, hb, Nat.le_trans hlo hb.size⟩)
  have HG : Hid (goodF ep du ms en ∧ playP ep du) := ⟨hG, hP⟩
  clear hX hG hP
  have t0 := (HM.out.2.1).cell 0 rfl; have t1 := (HM.out.2.1).cell 1 rfl; have t2 := (HM.out.2.1).cell 2 rfl; have tz := (HM.out.2.1).2
  go_enter Try.func50, Try.ntmps50
  go_upto_region 1 with fail
  rw [← hW1]
  clear hW1
  go_wp2_with fail
  refine (advance_n lo p b ep du ms en L B ve _ HM.out.1 HM.out.2.2.2 HG.out.1 HG.out.2).mono ?_
  intro r w2 hr
  have HR := Hid.intro (hr.back hlo HM.out.2.2.1)
  obtain ⟨rfl, _, _⟩ := hr
  generalize (advF ep du ms en).isSome = z at *
  go_wp2_with fail
  go_ret
  exact HR.out

set_option maxRecDepth 100000 in
set_option maxHeartbeats 8000000 in
theorem tkF_o (lo p b : Nat) (ep du : Int) (ms : List (Sh.T shMember)) (en : List (Sh.T .int)) (L : List MbV) (B : Nat → Nat → Prop) (ve : Value) (a id n : Int) (W : World) (hX : OpX lo p b W ep du ms en L B ve) (hlo : lo ≤ W.heap.size) (ha : a ≠ 4) (hf : ms.findIdx? (fun m => decide (mid m = id)) = none) :
    Calls Try.prog 50 #[.pointer (some ⟨p, 0, none⟩), .agg #[.int .i64 a, .int .i64 id, .int .i64 n]] W (StO lo p b none W) := by
  obtain ⟨W1, hW1⟩ : ∃ x, x = W.alloc (.cells #[.int .i64 a, .int .i64 id, .int .i64 n] 40) := ⟨_, rfl⟩
  have HM : Hid (OpX lo p b W1 ep du ms en L B ve ∧ Bx W1 W.heap.size [.int .i64 a, .int .i64 id, .int .i64 n] ∧ Below W.heap.size W W1 ∧ lo ≤ W1.heap.size) := Hid.intro (by
    have hb : Below W.heap.size W W1 := hW1 ▸ Go.Joins.below_alloc1 _ _
    exact ⟨hX.next hb, hW1 ▸ Bx.new W [_, _, _] _, hb, Nat.le_trans hlo hb.size⟩)
  have HK : Hid (∀ q ∈ L.map mbV, q.1 ≠ id) := Hid.intro (hX.absent hf)
  have q4 : (a == 4) = false := beq_false_of_ne ha
  clear hX hf ha
  have t0 := (HM.out.2.1).cell 0 rfl; have t1 := (HM.out.2.1).cell 1 rfl; have t2 := (HM.out.2.1).cell 2 rfl; have tz := (HM.out.2.1).2
  go_enter Try.func50, Try.ntmps50
  go_upto_region 1 with fail
  rw [← hW1]
  clear hW1
  go_upto_region 3 with fail
  clear t0 t1 t2 tz
  have HD : Hid (OpX lo p b W1.drew ep du ms en L B ve ∧ Bx W1.drew W.heap.size [.int .i64 a, .int .i64 id, .int .i64 n] ∧ Below W.heap.size W W1.drew ∧ W.heap.size < W1.drew.heap.size) := ⟨HM.out.1.next (below_drew _), HM.out.2.1.next (below_drew _), below_next HM.out.2.2.1 (below_drew _), HM.out.2.1.2⟩
  refine wp_region_noPanic ?_
  refine wp_region_held_drew (S := fun W9 => Bx W9 p [.int .i64 ep, .int .i64 du, .map (some b), ve] ∧ Bx W9 W.heap.size [.int .i64 a, .int .i64 id, .int .i64 n]) (by kernel_rfl) ⟨HD.out.1.1, HD.out.2.1⟩ (fun hHeld => ?_)
  obtain ⟨Y0, hWE⟩ : ∃ x, x = W1.drew := ⟨_, rfl⟩
  rw [← hWE] at HD hHeld ⊢
  clear hWE HM
  refine take_v (v := ?_) 0 ⟨some 13, Op.move (Operand.tmp 0), _, _, _, none⟩ rfl (fun _ _ _ h => h) ?_ hHeld ?_
  rotate_left
  · (intro W _; go_simp <;> (try with_reducible rfl))
  refine take_v (v := ?_) 1 ⟨some 14, Op.nilCheck (Operand.tmp 13), _, _, _, none⟩ rfl (fun _ _ _ h => h) ?_ hHeld ?_
  rotate_left
  · (intro W _; go_simp <;> (try with_reducible rfl))
  refine take_v (v := ?_) 2 ⟨some 15, Op.fieldAddr 91 (Operand.tmp 14) 2, _, _, _, none⟩ rfl (fun _ _ _ h => h) ?_ hHeld ?_
  rotate_left
  · (intro W _; go_simp <;> (try with_reducible rfl))
  refine take_v (v := ?_) 3 ⟨some 16, Op.load 89 (Operand.tmp 15), _, _, _, none⟩ rfl (fun _ _ _ h => h) ?_ hHeld ?_
  rotate_left
  · (intro W hSW; (have s2 := hSW.1.cell 2 rfl; have sz := hSW.1.2; have t1 := hSW.2.cell 1 rfl; have tz := hSW.2.2); go_simp <;> (try with_reducible rfl))
  refine take_v (v := ?_) 4 ⟨some 17, Op.fieldAddr 40 (Operand.tmp 3) 1, _, _, _, none⟩ rfl (fun _ _ _ h => h) ?_ hHeld ?_
  rotate_left
  · (intro W _; go_simp <;> (try with_reducible rfl))
  refine take_v (v := ?_) 5 ⟨some 18, Op.load 3 (Operand.tmp 17), _, _, _, none⟩ rfl (fun _ _ _ h => h) ?_ hHeld ?_
  rotate_left
  · (intro W hSW; (have s2 := hSW.1.cell 2 rfl; have sz := hSW.1.2; have t1 := hSW.2.cell 1 rfl; have tz := hSW.2.2); go_simp <;> (try with_reducible rfl))
  refine ready_two 6 10 ⟨some 19, Op.lookup 89 (Operand.tmp 16) (Operand.tmp 18) true, _, _, _, none⟩ ⟨some 5, Op.alloc 37, _, _, _, none⟩ (by kernel_rfl) rfl rfl (by kernel_rfl) (by kernel_rfl) (fun KC hK => ?_) (fun KC hK => ?_)
  ·
    have hk := HK.out
    refine wp_lookup_no (z := .agg #[.int .i64 0, .int .i64 0, .slice none 0 0, .int .i64 0]) (.tmp 16) (.tmp 18) (by rfl) Try.underlying89 Try.underlying3 (by kernel_rfl) HD.out.1.2.1 (by rfl) (by rfl) hk ?_
    clear hk
    refine hK.out _ _ hHeld (fun hHeld => ?_)
    clear hK KC
    refine take_v (v := ?_) 7 ⟨some 12, Op.move (Operand.tmp 19), _, _, _, none⟩ rfl (fun _ _ _ h => h) ?_ hHeld ?_
    rotate_left
    · (intro W _; go_simp <;> (try with_reducible rfl))
    refine take_v (v := ?_) 8 ⟨some 20, Op.extract (Operand.tmp 12) 0, _, _, _, none⟩ rfl (fun _ _ _ h => h) ?_ hHeld ?_
    rotate_left
    · (intro W _; go_simp <;> (try with_reducible rfl))
    refine take_v (v := ?_) 9 ⟨some 21, Op.extract (Operand.tmp 12) 1, _, _, _, none⟩ rfl (fun _ _ _ h => h) ?_ hHeld ?_
    rotate_left
    · (intro W _; go_simp <;> (try with_reducible rfl))
    refine ready_call 10 ⟨some 5, Op.alloc 37, _, _, _, none⟩ (by kernel_rfl) rfl (by kernel_rfl) (fun KC hK => ?_)
    go_wp2_with fail
    obtain ⟨Y2, hY2⟩ : ∃ x, x = Y0.alloc (.cells #[.int .i64 0, .int .i64 0, .slice none 0 0, .int .i64 0] 37) := ⟨_, rfl⟩
    have H7 : Hid (Bx Y2 Y0.heap.size [.int .i64 0, .int .i64 0, .slice none 0 0, .int .i64 0]) := hY2 ▸ Bx.new Y0 [_, _, _, _] _
    have HD2 : Hid ((OpX lo p b Y2 ep du ms en L B ve ∧ Bx Y2 W.heap.size [.int .i64 a, .int .i64 id, .int .i64 n] ∧ Below W.heap.size W Y2 ∧ W.heap.size < Y2.heap.size) ∧ Y0.heap.size < Y2.heap.size) := Hid.intro (by
      have hb : Below Y0.heap.size Y0 Y2 := hY2 ▸ Go.Joins.below_alloc1 _ _
      have hz : Y2.heap.size = Y0.heap.size + 1 := by rw [hY2]; simp
      exact ⟨⟨HD.out.1.next hb, HD.out.2.1.next hb, below_next HD.out.2.2.1 hb, by have := HD.out.2.2.2; omega⟩, by omega⟩)
    obtain ⟨bm, hbm⟩ : ∃ q, q = Y0.heap.size := ⟨_, rfl⟩
    have H7 : Hid (Bx Y2 bm [.int .i64 0, .int .i64 0, .slice none 0 0, .int .i64 0]) := hbm ▸ H7
    have hbW : W.heap.size < bm := by rw [hbm]; exact HD.out.2.2.2
    have HOB : Hid (OpX lo p b Y0 ep du ms en L B ve ∧ Below Y0.heap.size Y0 Y2 ∧ Y0.heap.size = bm) := ⟨HD.out.1, hY2 ▸ Go.Joins.below_alloc1 _ _, hbm.symm⟩
    have HD := (show Hid (OpX lo p b Y2 ep du ms en L B ve ∧ Bx Y2 W.heap.size [.int .i64 a, .int .i64 id, .int .i64 n] ∧ Below W.heap.size W Y2 ∧ W.heap.size < Y2.heap.size) from HD2.out.1)
    rw [← hY2, ← hbm]
    clear hY2 hbm HD2
    refine hK.out _ _ ⟨HD.out.1.1, HD.out.2.1⟩ (fun hHeld => ?_)
    clear hK KC
    refine ready_call 11 ⟨none, Op.store 37 (Operand.tmp 5) (Operand.tmp 20), _, _, _, none⟩ (by kernel_rfl) rfl (by kernel_rfl) (fun KC hK => ?_)
    have d0 := H7.out.cell 0 rfl
    have d1 := H7.out.cell 1 rfl
    have d2 := H7.out.cell 2 rfl
    have d3 := H7.out.cell 3 rfl
    have dz := H7.out.2
    have df0 := H7.out.frz 0 (by simp)
    have df1 := H7.out.frz 1 (by simp)
    have df2 := H7.out.frz 2 (by simp)
    have df3 := H7.out.frz 3 (by simp)
    go_wp2_with fail
    clear d0 d1 d2 d3 dz df0 df1 df2 df3
    have HF : Hid (∃ Z, Z = ((((Y2.setCell ⟨bm, 0, none⟩ (.int .i64 0)).setCell ⟨bm, 1, none⟩ (.int .i64 0)).setCell ⟨bm, 2, none⟩ (.slice none 0 0)).setCell ⟨bm, 3, none⟩ (.int .i64 0)) ∧ OpX lo p b Z ep du ms en L B ve ∧ Bx Z W.heap.size [.int .i64 a, .int .i64 id, .int .i64 n] ∧ Bx Z bm [.int .i64 0, .int .i64 0, .slice none 0 0, .int .i64 0] ∧ Below W.heap.size W Z) := Hid.intro (by
      have hs := set4 Y2 bm (.int .i64 0) (.int .i64 0) (.slice none 0 0) (.int .i64 0)
      have hsz := HOB.out.1.sizes
      refine ⟨_, rfl, HOB.out.1.turn (T := fun k => k = bm) ((TurnS.of_below HOB.out.2.1).trans hs) (fun k q => Or.inl (by have q : k = bm := q; have := HOB.out.2.2; omega)), HD.out.2.1.turnS hs (fun q => by have q : W.heap.size = bm := q; omega), (((H7.out.set (k := 0) (by simp) _).set (k := 1) (by simp) _).set (k := 2) (by simp) _).set (k := 3) (by simp) _, HD.out.2.2.1.trans (hs.below (fun k q => by have q : k = bm := q; omega) HD.out.2.2.1.size)⟩)
    obtain ⟨Z, hZ, hF1, hF2, hF3, hF4⟩ := HF.out
    rw [← hZ]
    have HZ : Hid (OpX lo p b Z ep du ms en L B ve ∧ Bx Z W.heap.size [.int .i64 a, .int .i64 id, .int .i64 n] ∧ Bx Z bm [.int .i64 0, .int .i64 0, .slice none 0 0, .int .i64 0] ∧ Below W.heap.size W Z) := ⟨hF1, hF2, hF3, hF4⟩
    clear hZ hF1 hF2 hF3 hF4 HF
    refine hK.out _ _ ⟨HZ.out.1.1, HZ.out.2.1⟩ (fun hHeld => ?_)
    clear hK KC
    refine take_v (v := ?_) 12 ⟨some 6, Op.assign (Operand.tmp 21), _, _, _, none⟩ rfl (fun _ _ _ h => h) ?_ hHeld ?_
    rotate_left
    · (intro W _; go_simp <;> (try with_reducible rfl))
    refine wpAnyH_done (by kernel_rfl) ?_ _
    refine NoPanic.normal ?_
    clear hHeld
    go_wp2_with fail
    go_ret
    exact StO.no rfl (HZ.out.2.2.2.mono hlo)
  ·
    go_wp2_with fail
    obtain ⟨Y2, hY2⟩ : ∃ x, x = Y0.alloc (.cells #[.int .i64 0, .int .i64 0, .slice none 0 0, .int .i64 0] 37) := ⟨_, rfl⟩
    have H7 : Hid (Bx Y2 Y0.heap.size [.int .i64 0, .int .i64 0, .slice none 0 0, .int .i64 0]) := hY2 ▸ Bx.new Y0 [_, _, _, _] _
    have HD2 : Hid ((OpX lo p b Y2 ep du ms en L B ve ∧ Bx Y2 W.heap.size [.int .i64 a, .int .i64 id, .int .i64 n] ∧ Below W.heap.size W Y2 ∧ W.heap.size < Y2.heap.size) ∧ Y0.heap.size < Y2.heap.size) := Hid.intro (by
      have hb : Below Y0.heap.size Y0 Y2 := hY2 ▸ Go.Joins.below_alloc1 _ _
      have hz : Y2.heap.size = Y0.heap.size + 1 := by rw [hY2]; simp
      exact ⟨⟨HD.out.1.next hb, HD.out.2.1.next hb, below_next HD.out.2.2.1 hb, by have := HD.out.2.2.2; omega⟩, by omega⟩)
    obtain ⟨bm, hbm⟩ : ∃ q, q = Y0.heap.size := ⟨_, rfl⟩
    have H7 : Hid (Bx Y2 bm [.int .i64 0, .int .i64 0, .slice none 0 0, .int .i64 0]) := hbm ▸ H7
    have hbW : W.heap.size < bm := by rw [hbm]; exact HD.out.2.2.2
    have HOB : Hid (OpX lo p b Y0 ep du ms en L B ve ∧ Below Y0.heap.size Y0 Y2 ∧ Y0.heap.size = bm) := ⟨HD.out.1, hY2 ▸ Go.Joins.below_alloc1 _ _, hbm.symm⟩
    have HD := (show Hid (OpX lo p b Y2 ep du ms en L B ve ∧ Bx Y2 W.heap.size [.int .i64 a, .int .i64 id, .int .i64 n] ∧ Below W.heap.size W Y2 ∧ W.heap.size < Y2.heap.size) from HD2.out.1)
    rw [← hY2, ← hbm]
    clear hY2 hbm HD2
    refine hK.out _ _ ⟨HD.out.1.1, HD.out.2.1⟩ (fun hHeld => ?_)
    clear hK KC
    refine ready_call 6 ⟨some 19, Op.lookup 89 (Operand.tmp 16) (Operand.tmp 18) true, _, _, _, none⟩ (by kernel_rfl) rfl (by kernel_rfl) (fun KC hK => ?_)
    have hk := HK.out
    refine wp_lookup_no (z := .agg #[.int .i64 0, .int .i64 0, .slice none 0 0, .int .i64 0]) (.tmp 16) (.tmp 18) (by rfl) Try.underlying89 Try.underlying3 (by kernel_rfl) HD.out.1.2.1 (by rfl) (by rfl) hk ?_
    clear hk
    refine hK.out _ _ hHeld (fun hHeld => ?_)
    clear hK KC
    refine take_v (v := ?_) 7 ⟨some 12, Op.move (Operand.tmp 19), _, _, _, none⟩ rfl (fun _ _ _ h => h) ?_ hHeld ?_
    rotate_left
    · (intro W _; go_simp <;> (try with_reducible rfl))
    refine take_v (v := ?_) 8 ⟨some 20, Op.extract (Operand.tmp 12) 0, _, _, _, none⟩ rfl (fun _ _ _ h => h) ?_ hHeld ?_
    rotate_left
    · (intro W _; go_simp <;> (try with_reducible rfl))
    refine take_v (v := ?_) 9 ⟨some 21, Op.extract (Operand.tmp 12) 1, _, _, _, none⟩ rfl (fun _ _ _ h => h) ?_ hHeld ?_
    rotate_left
    · (intro W _; go_simp <;> (try with_reducible rfl))
    refine ready_call 11 ⟨none, Op.store 37 (Operand.tmp 5) (Operand.tmp 20), _, _, _, none⟩ (by kernel_rfl) rfl (by kernel_rfl) (fun KC hK => ?_)
    have d0 := H7.out.cell 0 rfl
    have d1 := H7.out.cell 1 rfl
    have d2 := H7.out.cell 2 rfl
    have d3 := H7.out.cell 3 rfl
    have dz := H7.out.2
    have df0 := H7.out.frz 0 (by simp)
    have df1 := H7.out.frz 1 (by simp)
    have df2 := H7.out.frz 2 (by simp)
    have df3 := H7.out.frz 3 (by simp)
    go_wp2_with fail
    clear d0 d1 d2 d3 dz df0 df1 df2 df3
    have HF : Hid (∃ Z, Z = ((((Y2.setCell ⟨bm, 0, none⟩ (.int .i64 0)).setCell ⟨bm, 1, none⟩ (.int .i64 0)).setCell ⟨bm, 2, none⟩ (.slice none 0 0)).setCell ⟨bm, 3, none⟩ (.int .i64 0)) ∧ OpX lo p b Z ep du ms en L B ve ∧ Bx Z W.heap.size [.int .i64 a, .int .i64 id, .int .i64 n] ∧ Bx Z bm [.int .i64 0, .int .i64 0, .slice none 0 0, .int .i64 0] ∧ Below W.heap.size W Z) := Hid.intro (by
      have hs := set4 Y2 bm (.int .i64 0) (.int .i64 0) (.slice none 0 0) (.int .i64 0)
      have hsz := HOB.out.1.sizes
      refine ⟨_, rfl, HOB.out.1.turn (T := fun k => k = bm) ((TurnS.of_below HOB.out.2.1).trans hs) (fun k q => Or.inl (by have q : k = bm := q; have := HOB.out.2.2; omega)), HD.out.2.1.turnS hs (fun q => by have q : W.heap.size = bm := q; omega), (((H7.out.set (k := 0) (by simp) _).set (k := 1) (by simp) _).set (k := 2) (by simp) _).set (k := 3) (by simp) _, HD.out.2.2.1.trans (hs.below (fun k q => by have q : k = bm := q; omega) HD.out.2.2.1.size)⟩)
    obtain ⟨Z, hZ, hF1, hF2, hF3, hF4⟩ := HF.out
    rw [← hZ]
    have HZ : Hid (OpX lo p b Z ep du ms en L B ve ∧ Bx Z W.heap.size [.int .i64 a, .int .i64 id, .int .i64 n] ∧ Bx Z bm [.int .i64 0, .int .i64 0, .slice none 0 0, .int .i64 0] ∧ Below W.heap.size W Z) := ⟨hF1, hF2, hF3, hF4⟩
    clear hZ hF1 hF2 hF3 hF4 HF
    refine hK.out _ _ ⟨HZ.out.1.1, HZ.out.2.1⟩ (fun hHeld => ?_)
    clear hK KC
    refine take_v (v := ?_) 12 ⟨some 6, Op.assign (Operand.tmp 21), _, _, _, none⟩ rfl (fun _ _ _ h => h) ?_ hHeld ?_
    rotate_left
    · (intro W _; go_simp <;> (try with_reducible rfl))
    refine wpAnyH_done (by kernel_rfl) ?_ _
    refine NoPanic.normal ?_
    clear hHeld
    go_wp2_with fail
    go_ret
    exact StO.no rfl (HZ.out.2.2.2.mono hlo)

set_option maxRecDepth 100000 in
set_option maxHeartbeats 8000000 in
theorem tkF_b (lo p b : Nat) (ep du : Int) (ms : List (Sh.T shMember)) (en : List (Sh.T .int)) (L : List MbV) (B : Nat → Nat → Prop) (ve : Value) (id n : Int) (i : Nat) (W : World) (hX : OpX lo p b W ep du ms en L B ve) (hi : i < ms.length) (hlo : lo ≤ W.heap.size) (hG : goodF ep du ms en) (htot : en.length + runT ms < 200) (hid : mid ms[i] = id) (x0 x1 : Int) (x2 : List (Sh.T .int)) (x3 : Int) (xa : Option Addr) (xc : Nat) (hL : i < L.length) (e1 : L[i] = (x0, x1, (xa, x2.length, xc), x3)) (e2 : ms[i] = mkMb x0 x1 x2 x3) :
    Calls Try.prog 50 #[.pointer (some ⟨p, 0, none⟩), .agg #[.int .i64 1, .int .i64 id, .int .i64 n]] W (StO lo p b (memF ep du ms en 1 n i (mkMb x0 x1 x2 x3)) W) := by
  obtain ⟨W1, hW1⟩ : ∃ x, x = W.alloc (.cells #[.int .i64 1, .int .i64 id, .int .i64 n] 40) := ⟨_, rfl⟩
  have HM : Hid (OpX lo p b W1 ep du ms en L B ve ∧ Bx W1 W.heap.size [.int .i64 1, .int .i64 id, .int .i64 n] ∧ Below W.heap.size W W1 ∧ lo ≤ W1.heap.size) := Hid.intro (by
    have hb : Below W.heap.size W W1 := hW1 ▸ Go.Joins.below_alloc1 _ _
    exact ⟨hX.next hb, hW1 ▸ Bx.new W [_, _, _] _, hb, Nat.le_trans hlo hb.size⟩)
  obtain ⟨hk1, hk2, hk3⟩ := hX.first hG.2.2.2.2.1 hi
  rw [hid] at hk2 hk3
  have HK : Hid (∃ hj : i < (L.map mbV).length, (L.map mbV)[i].1 = id ∧ (∀ z (hz : z < (L.map mbV).length), z < i → (L.map mbV)[z].1 ≠ id) ∧ (L.map mbV)[i].2 = .agg #[.int .i64 x0, .int .i64 x1, .slice xa x2.length xc, .int .i64 x3]) := ⟨hk1, hk2, hk3, by rw [List.getElem_map, e1]; rfl⟩
  have HG : Hid (goodF ep du ms en ∧ i < ms.length ∧ en.length + runT ms < 200 ∧ ∃ hL : i < L.length, L[i] = (x0, x1, (xa, x2.length, xc), x3) ∧ ms[i] = mkMb x0 x1 x2 x3) := ⟨hG, hi, htot, hL, e1, e2⟩
  clear hX hG e1 e2 hk2 hk3 hk1 hid htot
  have t0 := (HM.out.2.1).cell 0 rfl; have t1 := (HM.out.2.1).cell 1 rfl; have t2 := (HM.out.2.1).cell 2 rfl; have tz := (HM.out.2.1).2
  go_enter Try.func50, Try.ntmps50
  go_upto_region 1 with fail
  rw [← hW1]
  clear hW1
  go_upto_region 3 with fail
  clear t0 t1 t2 tz
  have HD : Hid (OpX lo p b W1.drew ep du ms en L B ve ∧ Bx W1.drew W.heap.size [.int .i64 1, .int .i64 id, .int .i64 n] ∧ Below W.heap.size W W1.drew ∧ W.heap.size < W1.drew.heap.size) := ⟨HM.out.1.next (below_drew _), HM.out.2.1.next (below_drew _), below_next HM.out.2.2.1 (below_drew _), HM.out.2.1.2⟩
  refine wp_region_noPanic ?_
  refine wp_region_held_drew (S := fun W9 => Bx W9 p [.int .i64 ep, .int .i64 du, .map (some b), ve] ∧ Bx W9 W.heap.size [.int .i64 1, .int .i64 id, .int .i64 n]) (by kernel_rfl) ⟨HD.out.1.1, HD.out.2.1⟩ (fun hHeld => ?_)
  obtain ⟨Y0, hWE⟩ : ∃ x, x = W1.drew := ⟨_, rfl⟩
  rw [← hWE] at HD hHeld ⊢
  clear hWE HM
  refine take_v (v := ?_) 0 ⟨some 13, Op.move (Operand.tmp 0), _, _, _, none⟩ rfl (fun _ _ _ h => h) ?_ hHeld ?_
  rotate_left
  · (intro W _; go_simp <;> (try with_reducible rfl))
  refine take_v (v := ?_) 1 ⟨some 14, Op.nilCheck (Operand.tmp 13), _, _, _, none⟩ rfl (fun _ _ _ h => h) ?_ hHeld ?_
  rotate_left
  · (intro W _; go_simp <;> (try with_reducible rfl))
  refine take_v (v := ?_) 2 ⟨some 15, Op.fieldAddr 91 (Operand.tmp 14) 2, _, _, _, none⟩ rfl (fun _ _ _ h => h) ?_ hHeld ?_
  rotate_left
  · (intro W _; go_simp <;> (try with_reducible rfl))
  refine take_v (v := ?_) 3 ⟨some 16, Op.load 89 (Operand.tmp 15), _, _, _, none⟩ rfl (fun _ _ _ h => h) ?_ hHeld ?_
  rotate_left
  · (intro W hSW; (have s2 := hSW.1.cell 2 rfl; have sz := hSW.1.2; have t1 := hSW.2.cell 1 rfl; have tz := hSW.2.2); go_simp <;> (try with_reducible rfl))
  refine take_v (v := ?_) 4 ⟨some 17, Op.fieldAddr 40 (Operand.tmp 3) 1, _, _, _, none⟩ rfl (fun _ _ _ h => h) ?_ hHeld ?_
  rotate_left
  · (intro W _; go_simp <;> (try with_reducible rfl))
  refine take_v (v := ?_) 5 ⟨some 18, Op.load 3 (Operand.tmp 17), _, _, _, none⟩ rfl (fun _ _ _ h => h) ?_ hHeld ?_
  rotate_left
  · (intro W hSW; (have s2 := hSW.1.cell 2 rfl; have sz := hSW.1.2; have t1 := hSW.2.cell 1 rfl; have tz := hSW.2.2); go_simp <;> (try with_reducible rfl))
  refine ready_two 6 10 ⟨some 19, Op.lookup 89 (Operand.tmp 16) (Operand.tmp 18) true, _, _, _, none⟩ ⟨some 5, Op.alloc 37, _, _, _, none⟩ (by kernel_rfl) rfl rfl (by kernel_rfl) (by kernel_rfl) (fun KC hK => ?_) (fun KC hK => ?_)
  ·
    obtain ⟨hk1, hk2, hk3, hk4⟩ := HK.out
    refine wp_lookup_yes (z := .agg #[.int .i64 0, .int .i64 0, .slice none 0 0, .int .i64 0]) (.tmp 16) (.tmp 18) (by rfl) Try.underlying89 Try.underlying3 (by kernel_rfl) HD.out.1.2.1 (by rfl) (by rfl) hk1 hk2 hk3 ?_
    rw [hk4]
    clear hk1 hk2 hk3 hk4
    refine hK.out _ _ hHeld (fun hHeld => ?_)
    clear hK KC
    refine take_v (v := ?_) 7 ⟨some 12, Op.move (Operand.tmp 19), _, _, _, none⟩ rfl (fun _ _ _ h => h) ?_ hHeld ?_
    rotate_left
    · (intro W _; go_simp <;> (try with_reducible rfl))
    refine take_v (v := ?_) 8 ⟨some 20, Op.extract (Operand.tmp 12) 0, _, _, _, none⟩ rfl (fun _ _ _ h => h) ?_ hHeld ?_
    rotate_left
    · (intro W _; go_simp <;> (try with_reducible rfl))
    refine take_v (v := ?_) 9 ⟨some 21, Op.extract (Operand.tmp 12) 1, _, _, _, none⟩ rfl (fun _ _ _ h => h) ?_ hHeld ?_
    rotate_left
    · (intro W _; go_simp <;> (try with_reducible rfl))
    refine ready_call 10 ⟨some 5, Op.alloc 37, _, _, _, none⟩ (by kernel_rfl) rfl (by kernel_rfl) (fun KC hK => ?_)
    go_wp2_with fail
    obtain ⟨Y2, hY2⟩ : ∃ x, x = Y0.alloc (.cells #[.int .i64 0, .int .i64 0, .slice none 0 0, .int .i64 0] 37) := ⟨_, rfl⟩
    have H7 : Hid (Bx Y2 Y0.heap.size [.int .i64 0, .int .i64 0, .slice none 0 0, .int .i64 0]) := hY2 ▸ Bx.new Y0 [_, _, _, _] _
    have HD2 : Hid ((OpX lo p b Y2 ep du ms en L B ve ∧ Bx Y2 W.heap.size [.int .i64 1, .int .i64 id, .int .i64 n] ∧ Below W.heap.size W Y2 ∧ W.heap.size < Y2.heap.size) ∧ Y0.heap.size < Y2.heap.size) := Hid.intro (by
      have hb : Below Y0.heap.size Y0 Y2 := hY2 ▸ Go.Joins.below_alloc1 _ _
      have hz : Y2.heap.size = Y0.heap.size + 1 := by rw [hY2]; simp
      exact ⟨⟨HD.out.1.next hb, HD.out.2.1.next hb, below_next HD.out.2.2.1 hb, by have := HD.out.2.2.2; omega⟩, by omega⟩)
    obtain ⟨bm, hbm⟩ : ∃ q, q = Y0.heap.size := ⟨_, rfl⟩
    have H7 : Hid (Bx Y2 bm [.int .i64 0, .int .i64 0, .slice none 0 0, .int .i64 0]) := hbm ▸ H7
    have hbW : W.heap.size < bm := by rw [hbm]; exact HD.out.2.2.2
    have HOB : Hid (OpX lo p b Y0 ep du ms en L B ve ∧ Below Y0.heap.size Y0 Y2 ∧ Y0.heap.size = bm) := ⟨HD.out.1, hY2 ▸ Go.Joins.below_alloc1 _ _, hbm.symm⟩
    have HD := (show Hid (OpX lo p b Y2 ep du ms en L B ve ∧ Bx Y2 W.heap.size [.int .i64 1, .int .i64 id, .int .i64 n] ∧ Below W.heap.size W Y2 ∧ W.heap.size < Y2.heap.size) from HD2.out.1)
    rw [← hY2, ← hbm]
    clear hY2 hbm HD2
    refine hK.out _ _ ⟨HD.out.1.1, HD.out.2.1⟩ (fun hHeld => ?_)
    clear hK KC
    refine ready_call 11 ⟨none, Op.store 37 (Operand.tmp 5) (Operand.tmp 20), _, _, _, none⟩ (by kernel_rfl) rfl (by kernel_rfl) (fun KC hK => ?_)
    have d0 := H7.out.cell 0 rfl
    have d1 := H7.out.cell 1 rfl
    have d2 := H7.out.cell 2 rfl
    have d3 := H7.out.cell 3 rfl
    have dz := H7.out.2
    have df0 := H7.out.frz 0 (by simp)
    have df1 := H7.out.frz 1 (by simp)
    have df2 := H7.out.frz 2 (by simp)
    have df3 := H7.out.frz 3 (by simp)
    go_wp2_with fail
    clear d0 d1 d2 d3 dz df0 df1 df2 df3
    have HF : Hid (∃ Z, Z = ((((Y2.setCell ⟨bm, 0, none⟩ (.int .i64 x0)).setCell ⟨bm, 1, none⟩ (.int .i64 x1)).setCell ⟨bm, 2, none⟩ (.slice xa x2.length xc)).setCell ⟨bm, 3, none⟩ (.int .i64 x3)) ∧ OpX lo p b Z ep du ms en L B ve ∧ Bx Z W.heap.size [.int .i64 1, .int .i64 id, .int .i64 n] ∧ Bx Z bm [.int .i64 x0, .int .i64 x1, .slice xa x2.length xc, .int .i64 x3] ∧ Below W.heap.size W Z) := Hid.intro (by
      have hs := set4 Y2 bm (.int .i64 x0) (.int .i64 x1) (.slice xa x2.length xc) (.int .i64 x3)
      have hsz := HOB.out.1.sizes
      refine ⟨_, rfl, HOB.out.1.turn (T := fun k => k = bm) ((TurnS.of_below HOB.out.2.1).trans hs) (fun k q => Or.inl (by have q : k = bm := q; have := HOB.out.2.2; omega)), HD.out.2.1.turnS hs (fun q => by have q : W.heap.size = bm := q; omega), (((H7.out.set (k := 0) (by simp) _).set (k := 1) (by simp) _).set (k := 2) (by simp) _).set (k := 3) (by simp) _, HD.out.2.2.1.trans (hs.below (fun k q => by have q : k = bm := q; omega) HD.out.2.2.1.size)⟩)
    obtain ⟨Z, hZ, hF1, hF2, hF3, hF4⟩ := HF.out
    rw [← hZ]
    have HZ : Hid (OpX lo p b Z ep du ms en L B ve ∧ Bx Z W.heap.size [.int .i64 1, .int .i64 id, .int .i64 n] ∧ Bx Z bm [.int .i64 x0, .int .i64 x1, .slice xa x2.length xc, .int .i64 x3] ∧ Below W.heap.size W Z) := ⟨hF1, hF2, hF3, hF4⟩
    clear hZ hF1 hF2 hF3 hF4 HF
    refine hK.out _ _ ⟨HZ.out.1.1, HZ.out.2.1⟩ (fun hHeld => ?_)
    clear hK KC
    refine take_v (v := ?_) 12 ⟨some 6, Op.assign (Operand.tmp 21), _, _, _, none⟩ rfl (fun _ _ _ h => h) ?_ hHeld ?_
    rotate_left
    · (intro W _; go_simp <;> (try with_reducible rfl))
    refine wpAnyH_done (by kernel_rfl) ?_ _
    refine NoPanic.normal ?_
    clear hHeld
    have m0 := HZ.out.2.2.1.cell 0 rfl
    have m1 := HZ.out.2.2.1.cell 1 rfl
    have m2 := HZ.out.2.2.1.cell 2 rfl
    have m3 := HZ.out.2.2.1.cell 3 rfl
    have mz := HZ.out.2.2.1.2
    have t0 := HZ.out.2.1.cell 0 rfl
    have t1 := HZ.out.2.1.cell 1 rfl
    have t2 := HZ.out.2.1.cell 2 rfl
    have tz := HZ.out.2.1.2
    go_wp2_with fail
    refine (begin_n lo p b ep du ms en L B ve i n _ HZ.out.1 HG.out.2.1 (Nat.le_trans hlo HZ.out.2.2.2.size) HG.out.1 HG.out.2.2.1 x0 x1 x2 x3 xa xc HG.out.2.2.2.choose HG.out.2.2.2.choose_spec.1 HG.out.2.2.2.choose_spec.2).mono ?_
    intro r w2 hr
    have HR := Hid.intro (hr.back hlo HZ.out.2.2.2)
    (obtain ⟨rfl, _, _⟩ := hr)
    (generalize (memF ep du ms en 1 n i (mkMb x0 x1 x2 x3)).isSome = z at *)
    go_wp2_with fail
    go_ret
    exact HR.out
  ·
    go_wp2_with fail
    obtain ⟨Y2, hY2⟩ : ∃ x, x = Y0.alloc (.cells #[.int .i64 0, .int .i64 0, .slice none 0 0, .int .i64 0] 37) := ⟨_, rfl⟩
    have H7 : Hid (Bx Y2 Y0.heap.size [.int .i64 0, .int .i64 0, .slice none 0 0, .int .i64 0]) := hY2 ▸ Bx.new Y0 [_, _, _, _] _
    have HD2 : Hid ((OpX lo p b Y2 ep du ms en L B ve ∧ Bx Y2 W.heap.size [.int .i64 1, .int .i64 id, .int .i64 n] ∧ Below W.heap.size W Y2 ∧ W.heap.size < Y2.heap.size) ∧ Y0.heap.size < Y2.heap.size) := Hid.intro (by
      have hb : Below Y0.heap.size Y0 Y2 := hY2 ▸ Go.Joins.below_alloc1 _ _
      have hz : Y2.heap.size = Y0.heap.size + 1 := by rw [hY2]; simp
      exact ⟨⟨HD.out.1.next hb, HD.out.2.1.next hb, below_next HD.out.2.2.1 hb, by have := HD.out.2.2.2; omega⟩, by omega⟩)
    obtain ⟨bm, hbm⟩ : ∃ q, q = Y0.heap.size := ⟨_, rfl⟩
    have H7 : Hid (Bx Y2 bm [.int .i64 0, .int .i64 0, .slice none 0 0, .int .i64 0]) := hbm ▸ H7
    have hbW : W.heap.size < bm := by rw [hbm]; exact HD.out.2.2.2
    have HOB : Hid (OpX lo p b Y0 ep du ms en L B ve ∧ Below Y0.heap.size Y0 Y2 ∧ Y0.heap.size = bm) := ⟨HD.out.1, hY2 ▸ Go.Joins.below_alloc1 _ _, hbm.symm⟩
    have HD := (show Hid (OpX lo p b Y2 ep du ms en L B ve ∧ Bx Y2 W.heap.size [.int .i64 1, .int .i64 id, .int .i64 n] ∧ Below W.heap.size W Y2 ∧ W.heap.size < Y2.heap.size) from HD2.out.1)
    rw [← hY2, ← hbm]
    clear hY2 hbm HD2
    refine hK.out _ _ ⟨HD.out.1.1, HD.out.2.1⟩ (fun hHeld => ?_)
    clear hK KC
    refine ready_call 6 ⟨some 19, Op.lookup 89 (Operand.tmp 16) (Operand.tmp 18) true, _, _, _, none⟩ (by kernel_rfl) rfl (by kernel_rfl) (fun KC hK => ?_)
    obtain ⟨hk1, hk2, hk3, hk4⟩ := HK.out
    refine wp_lookup_yes (z := .agg #[.int .i64 0, .int .i64 0, .slice none 0 0, .int .i64 0]) (.tmp 16) (.tmp 18) (by rfl) Try.underlying89 Try.underlying3 (by kernel_rfl) HD.out.1.2.1 (by rfl) (by rfl) hk1 hk2 hk3 ?_
    rw [hk4]
    clear hk1 hk2 hk3 hk4
    refine hK.out _ _ hHeld (fun hHeld => ?_)
    clear hK KC
    refine take_v (v := ?_) 7 ⟨some 12, Op.move (Operand.tmp 19), _, _, _, none⟩ rfl (fun _ _ _ h => h) ?_ hHeld ?_
    rotate_left
    · (intro W _; go_simp <;> (try with_reducible rfl))
    refine take_v (v := ?_) 8 ⟨some 20, Op.extract (Operand.tmp 12) 0, _, _, _, none⟩ rfl (fun _ _ _ h => h) ?_ hHeld ?_
    rotate_left
    · (intro W _; go_simp <;> (try with_reducible rfl))
    refine take_v (v := ?_) 9 ⟨some 21, Op.extract (Operand.tmp 12) 1, _, _, _, none⟩ rfl (fun _ _ _ h => h) ?_ hHeld ?_
    rotate_left
    · (intro W _; go_simp <;> (try with_reducible rfl))
    refine ready_call 11 ⟨none, Op.store 37 (Operand.tmp 5) (Operand.tmp 20), _, _, _, none⟩ (by kernel_rfl) rfl (by kernel_rfl) (fun KC hK => ?_)
    have d0 := H7.out.cell 0 rfl
    have d1 := H7.out.cell 1 rfl
    have d2 := H7.out.cell 2 rfl
    have d3 := H7.out.cell 3 rfl
    have dz := H7.out.2
    have df0 := H7.out.frz 0 (by simp)
    have df1 := H7.out.frz 1 (by simp)
    have df2 := H7.out.frz 2 (by simp)
    have df3 := H7.out.frz 3 (by simp)
    go_wp2_with fail
    clear d0 d1 d2 d3 dz df0 df1 df2 df3
    have HF : Hid (∃ Z, Z = ((((Y2.setCell ⟨bm, 0, none⟩ (.int .i64 x0)).setCell ⟨bm, 1, none⟩ (.int .i64 x1)).setCell ⟨bm, 2, none⟩ (.slice xa x2.length xc)).setCell ⟨bm, 3, none⟩ (.int .i64 x3)) ∧ OpX lo p b Z ep du ms en L B ve ∧ Bx Z W.heap.size [.int .i64 1, .int .i64 id, .int .i64 n] ∧ Bx Z bm [.int .i64 x0, .int .i64 x1, .slice xa x2.length xc, .int .i64 x3] ∧ Below W.heap.size W Z) := Hid.intro (by
      have hs := set4 Y2 bm (.int .i64 x0) (.int .i64 x1) (.slice xa x2.length xc) (.int .i64 x3)
      have hsz := HOB.out.1.sizes
      refine ⟨_, rfl, HOB.out.1.turn (T := fun k => k = bm) ((TurnS.of_below HOB.out.2.1).trans hs) (fun k q => Or.inl (by have q : k = bm := q; have := HOB.out.2.2; omega)), HD.out.2.1.turnS hs (fun q => by have q : W.heap.size = bm := q; omega), (((H7.out.set (k := 0) (by simp) _).set (k := 1) (by simp) _).set (k := 2) (by simp) _).set (k := 3) (by simp) _, HD.out.2.2.1.trans (hs.below (fun k q => by have q : k = bm := q; omega) HD.out.2.2.1.size)⟩)
    obtain ⟨Z, hZ, hF1, hF2, hF3, hF4⟩ := HF.out
    rw [← hZ]
    have HZ : Hid (OpX lo p b Z ep du ms en L B ve ∧ Bx Z W.heap.size [.int .i64 1, .int .i64 id, .int .i64 n] ∧ Bx Z bm [.int .i64 x0, .int .i64 x1, .slice xa x2.length xc, .int .i64 x3] ∧ Below W.heap.size W Z) := ⟨hF1, hF2, hF3, hF4⟩
    clear hZ hF1 hF2 hF3 hF4 HF
    refine hK.out _ _ ⟨HZ.out.1.1, HZ.out.2.1⟩ (fun hHeld => ?_)
    clear hK KC
    refine take_v (v := ?_) 12 ⟨some 6, Op.assign (Operand.tmp 21), _, _, _, none⟩ rfl (fun _ _ _ h => h) ?_ hHeld ?_
    rotate_left
    · (intro W _; go_simp <;> (try with_reducible rfl))
    refine wpAnyH_done (by kernel_rfl) ?_ _
    refine NoPanic.normal ?_
    clear hHeld
    have m0 := HZ.out.2.2.1.cell 0 rfl
    have m1 := HZ.out.2.2.1.cell 1 rfl
    have m2 := HZ.out.2.2.1.cell 2 rfl
    have m3 := HZ.out.2.2.1.cell 3 rfl
    have mz := HZ.out.2.2.1.2
    have t0 := HZ.out.2.1.cell 0 rfl
    have t1 := HZ.out.2.1.cell 1 rfl
    have t2 := HZ.out.2.1.cell 2 rfl
    have tz := HZ.out.2.1.2
    go_wp2_with fail
    refine (begin_n lo p b ep du ms en L B ve i n _ HZ.out.1 HG.out.2.1 (Nat.le_trans hlo HZ.out.2.2.2.size) HG.out.1 HG.out.2.2.1 x0 x1 x2 x3 xa xc HG.out.2.2.2.choose HG.out.2.2.2.choose_spec.1 HG.out.2.2.2.choose_spec.2).mono ?_
    intro r w2 hr
    have HR := Hid.intro (hr.back hlo HZ.out.2.2.2)
    (obtain ⟨rfl, _, _⟩ := hr)
    (generalize (memF ep du ms en 1 n i (mkMb x0 x1 x2 x3)).isSome = z at *)
    go_wp2_with fail
    go_ret
    exact HR.out

set_option maxRecDepth 100000 in
set_option maxHeartbeats 8000000 in
theorem tkF_e (lo p b : Nat) (ep du : Int) (ms : List (Sh.T shMember)) (en : List (Sh.T .int)) (L : List MbV) (B : Nat → Nat → Prop) (ve : Value) (id n : Int) (i : Nat) (W : World) (hX : OpX lo p b W ep du ms en L B ve) (hi : i < ms.length) (hlo : lo ≤ W.heap.size) (hG : goodF ep du ms en) (htot : en.length + runT ms < 200) (hid : mid ms[i] = id) (x0 x1 : Int) (x2 : List (Sh.T .int)) (x3 : Int) (xa : Option Addr) (xc : Nat) (hL : i < L.length) (e1 : L[i] = (x0, x1, (xa, x2.length, xc), x3)) (e2 : ms[i] = mkMb x0 x1 x2 x3) :
    Calls Try.prog 50 #[.pointer (some ⟨p, 0, none⟩), .agg #[.int .i64 2, .int .i64 id, .int .i64 n]] W (StO lo p b (memF ep du ms en 2 n i (mkMb x0 x1 x2 x3)) W) := by
  obtain ⟨W1, hW1⟩ : ∃ x, x = W.alloc (.cells #[.int .i64 2, .int .i64 id, .int .i64 n] 40) := ⟨_, rfl⟩
  have HM : Hid (OpX lo p b W1 ep du ms en L B ve ∧ Bx W1 W.heap.size [.int .i64 2, .int .i64 id, .int .i64 n] ∧ Below W.heap.size W W1 ∧ lo ≤ W1.heap.size) := Hid.intro (by
    have hb : Below W.heap.size W W1 := hW1 ▸ Go.Joins.below_alloc1 _ _
    exact ⟨hX.next hb, hW1 ▸ Bx.new W [_, _, _] _, hb, Nat.le_trans hlo hb.size⟩)
  obtain ⟨hk1, hk2, hk3⟩ := hX.first hG.2.2.2.2.1 hi
  rw [hid] at hk2 hk3
  have HK : Hid (∃ hj : i < (L.map mbV).length, (L.map mbV)[i].1 = id ∧ (∀ z (hz : z < (L.map mbV).length), z < i → (L.map mbV)[z].1 ≠ id) ∧ (L.map mbV)[i].2 = .agg #[.int .i64 x0, .int .i64 x1, .slice xa x2.length xc, .int .i64 x3]) := ⟨hk1, hk2, hk3, by rw [List.getElem_map, e1]; rfl⟩
  have HG : Hid (goodF ep du ms en ∧ i < ms.length ∧ en.length + runT ms < 200 ∧ ∃ hL : i < L.length, L[i] = (x0, x1, (xa, x2.length, xc), x3) ∧ ms[i] = mkMb x0 x1 x2 x3) := ⟨hG, hi, htot, hL, e1, e2⟩
  clear hX hG e1 e2 hk2 hk3 hk1 hid htot
  have t0 := (HM.out.2.1).cell 0 rfl; have t1 := (HM.out.2.1).cell 1 rfl; have t2 := (HM.out.2.1).cell 2 rfl; have tz := (HM.out.2.1).2
  go_enter Try.func50, Try.ntmps50
  go_upto_region 1 with fail
  rw [← hW1]
  clear hW1
  go_upto_region 3 with fail
  clear t0 t1 t2 tz
  have HD : Hid (OpX lo p b W1.drew ep du ms en L B ve ∧ Bx W1.drew W.heap.size [.int .i64 2, .int .i64 id, .int .i64 n] ∧ Below W.heap.size W W1.drew ∧ W.heap.size < W1.drew.heap.size) := ⟨HM.out.1.next (below_drew _), HM.out.2.1.next (below_drew _), below_next HM.out.2.2.1 (below_drew _), HM.out.2.1.2⟩
  refine wp_region_noPanic ?_
  refine wp_region_held_drew (S := fun W9 => Bx W9 p [.int .i64 ep, .int .i64 du, .map (some b), ve] ∧ Bx W9 W.heap.size [.int .i64 2, .int .i64 id, .int .i64 n]) (by kernel_rfl) ⟨HD.out.1.1, HD.out.2.1⟩ (fun hHeld => ?_)
  obtain ⟨Y0, hWE⟩ : ∃ x, x = W1.drew := ⟨_, rfl⟩
  rw [← hWE] at HD hHeld ⊢
  clear hWE HM
  refine take_v (v := ?_) 0 ⟨some 13, Op.move (Operand.tmp 0), _, _, _, none⟩ rfl (fun _ _ _ h => h) ?_ hHeld ?_
  rotate_left
  · (intro W _; go_simp <;> (try with_reducible rfl))
  refine take_v (v := ?_) 1 ⟨some 14, Op.nilCheck (Operand.tmp 13), _, _, _, none⟩ rfl (fun _ _ _ h => h) ?_ hHeld ?_
  rotate_left
  · (intro W _; go_simp <;> (try with_reducible rfl))
  refine take_v (v := ?_) 2 ⟨some 15, Op.fieldAddr 91 (Operand.tmp 14) 2, _, _, _, none⟩ rfl (fun _ _ _ h => h) ?_ hHeld ?_
  rotate_left
  · (intro W _; go_simp <;> (try with_reducible rfl))
  refine take_v (v := ?_) 3 ⟨some 16, Op.load 89 (Operand.tmp 15), _, _, _, none⟩ rfl (fun _ _ _ h => h) ?_ hHeld ?_
  rotate_left
  · (intro W hSW; (have s2 := hSW.1.cell 2 rfl; have sz := hSW.1.2; have t1 := hSW.2.cell 1 rfl; have tz := hSW.2.2); go_simp <;> (try with_reducible rfl))
  refine take_v (v := ?_) 4 ⟨some 17, Op.fieldAddr 40 (Operand.tmp 3) 1, _, _, _, none⟩ rfl (fun _ _ _ h => h) ?_ hHeld ?_
  rotate_left
  · (intro W _; go_simp <;> (try with_reducible rfl))
  refine take_v (v := ?_) 5 ⟨some 18, Op.load 3 (Operand.tmp 17), _, _, _, none⟩ rfl (fun _ _ _ h => h) ?_ hHeld ?_
  rotate_left
  · (intro W hSW; (have s2 := hSW.1.cell 2 rfl; have sz := hSW.1.2; have t1 := hSW.2.cell 1 rfl; have tz := hSW.2.2); go_simp <;> (try with_reducible rfl))
  refine ready_two 6 10 ⟨some 19, Op.lookup 89 (Operand.tmp 16) (Operand.tmp 18) true, _, _, _, none⟩ ⟨some 5, Op.alloc 37, _, _, _, none⟩ (by kernel_rfl) rfl rfl (by kernel_rfl) (by kernel_rfl) (fun KC hK => ?_) (fun KC hK => ?_)
  ·
    obtain ⟨hk1, hk2, hk3, hk4⟩ := HK.out
    refine wp_lookup_yes (z := .agg #[.int .i64 0, .int .i64 0, .slice none 0 0, .int .i64 0]) (.tmp 16) (.tmp 18) (by rfl) Try.underlying89 Try.underlying3 (by kernel_rfl) HD.out.1.2.1 (by rfl) (by rfl) hk1 hk2 hk3 ?_
    rw [hk4]
    clear hk1 hk2 hk3 hk4
    refine hK.out _ _ hHeld (fun hHeld => ?_)
    clear hK KC
    refine take_v (v := ?_) 7 ⟨some 12, Op.move (Operand.tmp 19), _, _, _, none⟩ rfl (fun _ _ _ h => h) ?_ hHeld ?_
    rotate_left
    · (intro W _; go_simp <;> (try with_reducible rfl))
    refine take_v (v := ?_) 8 ⟨some 20, Op.extract (Operand.tmp 12) 0, _, _, _, none⟩ rfl (fun _ _ _ h => h) ?_ hHeld ?_
    rotate_left
    · (intro W _; go_simp <;> (try with_reducible rfl))
    refine take_v (v := ?_) 9 ⟨some 21, Op.extract (Operand.tmp 12) 1, _, _, _, none⟩ rfl (fun _ _ _ h => h) ?_ hHeld ?_
    rotate_left
    · (intro W _; go_simp <;> (try with_reducible rfl))
    refine ready_call 10 ⟨some 5, Op.alloc 37, _, _, _, none⟩ (by kernel_rfl) rfl (by kernel_rfl) (fun KC hK => ?_)
    go_wp2_with fail
    obtain ⟨Y2, hY2⟩ : ∃ x, x = Y0.alloc (.cells #[.int .i64 0, .int .i64 0, .slice none 0 0, .int .i64 0] 37) := ⟨_, rfl⟩
    have H7 : Hid (Bx Y2 Y0.heap.size [.int .i64 0, .int .i64 0, .slice none 0 0, .int .i64 0]) := hY2 ▸ Bx.new Y0 [_, _, _, _] _
    have HD2 : Hid ((OpX lo p b Y2 ep du ms en L B ve ∧ Bx Y2 W.heap.size [.int .i64 2, .int .i64 id, .int .i64 n] ∧ Below W.heap.size W Y2 ∧ W.heap.size < Y2.heap.size) ∧ Y0.heap.size < Y2.heap.size) := Hid.intro (by
      have hb : Below Y0.heap.size Y0 Y2 := hY2 ▸ Go.Joins.below_alloc1 _ _
      have hz : Y2.heap.size = Y0.heap.size + 1 := by rw [hY2]; simp
      exact ⟨⟨HD.out.1.next hb, HD.out.2.1.next hb, below_next HD.out.2.2.1 hb, by have := HD.out.2.2.2; omega⟩, by omega⟩)
    obtain ⟨bm, hbm⟩ : ∃ q, q = Y0.heap.size := ⟨_, rfl⟩
    have H7 : Hid (Bx Y2 bm [.int .i64 0, .int .i64 0, .slice none 0 0, .int .i64 0]) := hbm ▸ H7
    have hbW : W.heap.size < bm := by rw [hbm]; exact HD.out.2.2.2
    have HOB : Hid (OpX lo p b Y0 ep du ms en L B ve ∧ Below Y0.heap.size Y0 Y2 ∧ Y0.heap.size = bm) := ⟨HD.out.1, hY2 ▸ Go.Joins.below_alloc1 _ _, hbm.symm⟩
    have HD := (show Hid (OpX lo p b Y2 ep du ms en L B ve ∧ Bx Y2 W.heap.size [.int .i64 2, .int .i64 id, .int .i64 n] ∧ Below W.heap.size W Y2 ∧ W.heap.size < Y2.heap.size) from HD2.out.1)
    rw [← hY2, ← hbm]
    clear hY2 hbm HD2
    refine hK.out _ _ ⟨HD.out.1.1, HD.out.2.1⟩ (fun hHeld => ?_)
    clear hK KC
    refine ready_call 11 ⟨none, Op.store 37 (Operand.tmp 5) (Operand.tmp 20), _, _, _, none⟩ (by kernel_rfl) rfl (by kernel_rfl) (fun KC hK => ?_)
    have d0 := H7.out.cell 0 rfl
    have d1 := H7.out.cell 1 rfl
    have d2 := H7.out.cell 2 rfl
    have d3 := H7.out.cell 3 rfl
    have dz := H7.out.2
    have df0 := H7.out.frz 0 (by simp)
    have df1 := H7.out.frz 1 (by simp)
    have df2 := H7.out.frz 2 (by simp)
    have df3 := H7.out.frz 3 (by simp)
    go_wp2_with fail
    clear d0 d1 d2 d3 dz df0 df1 df2 df3
    have HF : Hid (∃ Z, Z = ((((Y2.setCell ⟨bm, 0, none⟩ (.int .i64 x0)).setCell ⟨bm, 1, none⟩ (.int .i64 x1)).setCell ⟨bm, 2, none⟩ (.slice xa x2.length xc)).setCell ⟨bm, 3, none⟩ (.int .i64 x3)) ∧ OpX lo p b Z ep du ms en L B ve ∧ Bx Z W.heap.size [.int .i64 2, .int .i64 id, .int .i64 n] ∧ Bx Z bm [.int .i64 x0, .int .i64 x1, .slice xa x2.length xc, .int .i64 x3] ∧ Below W.heap.size W Z) := Hid.intro (by
      have hs := set4 Y2 bm (.int .i64 x0) (.int .i64 x1) (.slice xa x2.length xc) (.int .i64 x3)
      have hsz := HOB.out.1.sizes
      refine ⟨_, rfl, HOB.out.1.turn (T := fun k => k = bm) ((TurnS.of_below HOB.out.2.1).trans hs) (fun k q => Or.inl (by have q : k = bm := q; have := HOB.out.2.2; omega)), HD.out.2.1.turnS hs (fun q => by have q : W.heap.size = bm := q; omega), (((H7.out.set (k := 0) (by simp) _).set (k := 1) (by simp) _).set (k := 2) (by simp) _).set (k := 3) (by simp) _, HD.out.2.2.1.trans (hs.below (fun k q => by have q : k = bm := q; omega) HD.out.2.2.1.size)⟩)
    obtain ⟨Z, hZ, hF1, hF2, hF3, hF4⟩ := HF.out
    rw [← hZ]
    have HZ : Hid (OpX lo p b Z ep du ms en L B ve ∧ Bx Z W.heap.size [.int .i64 2, .int .i64 id, .int .i64 n] ∧ Bx Z bm [.int .i64 x0, .int .i64 x1, .slice xa x2.length xc, .int .i64 x3] ∧ Below W.heap.size W Z) := ⟨hF1, hF2, hF3, hF4⟩
    clear hZ hF1 hF2 hF3 hF4 HF
    refine hK.out _ _ ⟨HZ.out.1.1, HZ.out.2.1⟩ (fun hHeld => ?_)
    clear hK KC
    refine take_v (v := ?_) 12 ⟨some 6, Op.assign (Operand.tmp 21), _, _, _, none⟩ rfl (fun _ _ _ h => h) ?_ hHeld ?_
    rotate_left
    · (intro W _; go_simp <;> (try with_reducible rfl))
    refine wpAnyH_done (by kernel_rfl) ?_ _
    refine NoPanic.normal ?_
    clear hHeld
    have m0 := HZ.out.2.2.1.cell 0 rfl
    have m1 := HZ.out.2.2.1.cell 1 rfl
    have m2 := HZ.out.2.2.1.cell 2 rfl
    have m3 := HZ.out.2.2.1.cell 3 rfl
    have mz := HZ.out.2.2.1.2
    have t0 := HZ.out.2.1.cell 0 rfl
    have t1 := HZ.out.2.1.cell 1 rfl
    have t2 := HZ.out.2.1.cell 2 rfl
    have tz := HZ.out.2.1.2
    go_wp2_with fail
    refine (end_n lo p b ep du ms en L B ve i n _ HZ.out.1 HG.out.2.1 (Nat.le_trans hlo HZ.out.2.2.2.size) HG.out.1 HG.out.2.2.1 x0 x1 x2 x3 xa xc HG.out.2.2.2.choose HG.out.2.2.2.choose_spec.1 HG.out.2.2.2.choose_spec.2).mono ?_
    intro r w2 hr
    have HR := Hid.intro (hr.back hlo HZ.out.2.2.2)
    (obtain ⟨rfl, _, _⟩ := hr)
    (generalize (memF ep du ms en 2 n i (mkMb x0 x1 x2 x3)).isSome = z at *)
    go_wp2_with fail
    go_ret
    exact HR.out
  ·
    go_wp2_with fail
    obtain ⟨Y2, hY2⟩ : ∃ x, x = Y0.alloc (.cells #[.int .i64 0, .int .i64 0, .slice none 0 0, .int .i64 0] 37) := ⟨_, rfl⟩
    have H7 : Hid (Bx Y2 Y0.heap.size [.int .i64 0, .int .i64 0, .slice none 0 0, .int .i64 0]) := hY2 ▸ Bx.new Y0 [_, _, _, _] _
    have HD2 : Hid ((OpX lo p b Y2 ep du ms en L B ve ∧ Bx Y2 W.heap.size [.int .i64 2, .int .i64 id, .int .i64 n] ∧ Below W.heap.size W Y2 ∧ W.heap.size < Y2.heap.size) ∧ Y0.heap.size < Y2.heap.size) := Hid.intro (by
      have hb : Below Y0.heap.size Y0 Y2 := hY2 ▸ Go.Joins.below_alloc1 _ _
      have hz : Y2.heap.size = Y0.heap.size + 1 := by rw [hY2]; simp
      exact ⟨⟨HD.out.1.next hb, HD.out.2.1.next hb, below_next HD.out.2.2.1 hb, by have := HD.out.2.2.2; omega⟩, by omega⟩)
    obtain ⟨bm, hbm⟩ : ∃ q, q = Y0.heap.size := ⟨_, rfl⟩
    have H7 : Hid (Bx Y2 bm [.int .i64 0, .int .i64 0, .slice none 0 0, .int .i64 0]) := hbm ▸ H7
    have hbW : W.heap.size < bm := by rw [hbm]; exact HD.out.2.2.2
    have HOB : Hid (OpX lo p b Y0 ep du ms en L B ve ∧ Below Y0.heap.size Y0 Y2 ∧ Y0.heap.size = bm) := ⟨HD.out.1, hY2 ▸ Go.Joins.below_alloc1 _ _, hbm.symm⟩
    have HD := (show Hid (OpX lo p b Y2 ep du ms en L B ve ∧ Bx Y2 W.heap.size [.int .i64 2, .int .i64 id, .int .i64 n] ∧ Below W.heap.size W Y2 ∧ W.heap.size < Y2.heap.size) from HD2.out.1)
    rw [← hY2, ← hbm]
    clear hY2 hbm HD2
    refine hK.out _ _ ⟨HD.out.1.1, HD.out.2.1⟩ (fun hHeld => ?_)
    clear hK KC
    refine ready_call 6 ⟨some 19, Op.lookup 89 (Operand.tmp 16) (Operand.tmp 18) true, _, _, _, none⟩ (by kernel_rfl) rfl (by kernel_rfl) (fun KC hK => ?_)
    obtain ⟨hk1, hk2, hk3, hk4⟩ := HK.out
    refine wp_lookup_yes (z := .agg #[.int .i64 0, .int .i64 0, .slice none 0 0, .int .i64 0]) (.tmp 16) (.tmp 18) (by rfl) Try.underlying89 Try.underlying3 (by kernel_rfl) HD.out.1.2.1 (by rfl) (by rfl) hk1 hk2 hk3 ?_
    rw [hk4]
    clear hk1 hk2 hk3 hk4
    refine hK.out _ _ hHeld (fun hHeld => ?_)
    clear hK KC
    refine take_v (v := ?_) 7 ⟨some 12, Op.move (Operand.tmp 19), _, _, _, none⟩ rfl (fun _ _ _ h => h) ?_ hHeld ?_
    rotate_left
    · (intro W _; go_simp <;> (try with_reducible rfl))
    refine take_v (v := ?_) 8 ⟨some 20, Op.extract (Operand.tmp 12) 0, _, _, _, none⟩ rfl (fun _ _ _ h => h) ?_ hHeld ?_
    rotate_left
    · (intro W _; go_simp <;> (try with_reducible rfl))
    refine take_v (v := ?_) 9 ⟨some 21, Op.extract (Operand.tmp 12) 1, _, _, _, none⟩ rfl (fun _ _ _ h => h) ?_ hHeld ?_
    rotate_left
    · (intro W _; go_simp <;> (try with_reducible rfl))
    refine ready_call 11 ⟨none, Op.store 37 (Operand.tmp 5) (Operand.tmp 20), _, _, _, none⟩ (by kernel_rfl) rfl (by kernel_rfl) (fun KC hK => ?_)
    have d0 := H7.out.cell 0 rfl
    have d1 := H7.out.cell 1 rfl
    have d2 := H7.out.cell 2 rfl
    have d3 := H7.out.cell 3 rfl
    have dz := H7.out.2
    have df0 := H7.out.frz 0 (by simp)
    have df1 := H7.out.frz 1 (by simp)
    have df2 := H7.out.frz 2 (by simp)
    have df3 := H7.out.frz 3 (by simp)
    go_wp2_with fail
    clear d0 d1 d2 d3 dz df0 df1 df2 df3
    have HF : Hid (∃ Z, Z = ((((Y2.setCell ⟨bm, 0, none⟩ (.int .i64 x0)).setCell ⟨bm, 1, none⟩ (.int .i64 x1)).setCell ⟨bm, 2, none⟩ (.slice xa x2.length xc)).setCell ⟨bm, 3, none⟩ (.int .i64 x3)) ∧ OpX lo p b Z ep du ms en L B ve ∧ Bx Z W.heap.size [.int .i64 2, .int .i64 id, .int .i64 n] ∧ Bx Z bm [.int .i64 x0, .int .i64 x1, .slice xa x2.length xc, .int .i64 x3] ∧ Below W.heap.size W Z) := Hid.intro (by
      have hs := set4 Y2 bm (.int .i64 x0) (.int .i64 x1) (.slice xa x2.length xc) (.int .i64 x3)
      have hsz := HOB.out.1.sizes
      refine ⟨_, rfl, HOB.out.1.turn (T := fun k => k = bm) ((TurnS.of_below HOB.out.2.1).trans hs) (fun k q => Or.inl (by have q : k = bm := q; have := HOB.out.2.2; omega)), HD.out.2.1.turnS hs (fun q => by have q : W.heap.size = bm := q; omega), (((H7.out.set (k := 0) (by simp) _).set (k := 1) (by simp) _).set (k := 2) (by simp) _).set (k := 3) (by simp) _, HD.out.2.2.1.trans (hs.below (fun k q => by have q : k = bm := q; omega) HD.out.2.2.1.size)⟩)
    obtain ⟨Z, hZ, hF1, hF2, hF3, hF4⟩ := HF.out
    rw [← hZ]
    have HZ : Hid (OpX lo p b Z ep du ms en L B ve ∧ Bx Z W.heap.size [.int .i64 2, .int .i64 id, .int .i64 n] ∧ Bx Z bm [.int .i64 x0, .int .i64 x1, .slice xa x2.length xc, .int .i64 x3] ∧ Below W.heap.size W Z) := ⟨hF1, hF2, hF3, hF4⟩
    clear hZ hF1 hF2 hF3 hF4 HF
    refine hK.out _ _ ⟨HZ.out.1.1, HZ.out.2.1⟩ (fun hHeld => ?_)
    clear hK KC
    refine take_v (v := ?_) 12 ⟨some 6, Op.assign (Operand.tmp 21), _, _, _, none⟩ rfl (fun _ _ _ h => h) ?_ hHeld ?_
    rotate_left
    · (intro W _; go_simp <;> (try with_reducible rfl))
    refine wpAnyH_done (by kernel_rfl) ?_ _
    refine NoPanic.normal ?_
    clear hHeld
    have m0 := HZ.out.2.2.1.cell 0 rfl
    have m1 := HZ.out.2.2.1.cell 1 rfl
    have m2 := HZ.out.2.2.1.cell 2 rfl
    have m3 := HZ.out.2.2.1.cell 3 rfl
    have mz := HZ.out.2.2.1.2
    have t0 := HZ.out.2.1.cell 0 rfl
    have t1 := HZ.out.2.1.cell 1 rfl
    have t2 := HZ.out.2.1.cell 2 rfl
    have tz := HZ.out.2.1.2
    go_wp2_with fail
    refine (end_n lo p b ep du ms en L B ve i n _ HZ.out.1 HG.out.2.1 (Nat.le_trans hlo HZ.out.2.2.2.size) HG.out.1 HG.out.2.2.1 x0 x1 x2 x3 xa xc HG.out.2.2.2.choose HG.out.2.2.2.choose_spec.1 HG.out.2.2.2.choose_spec.2).mono ?_
    intro r w2 hr
    have HR := Hid.intro (hr.back hlo HZ.out.2.2.2)
    (obtain ⟨rfl, _, _⟩ := hr)
    (generalize (memF ep du ms en 2 n i (mkMb x0 x1 x2 x3)).isSome = z at *)
    go_wp2_with fail
    go_ret
    exact HR.out

set_option maxRecDepth 100000 in
set_option maxHeartbeats 8000000 in
theorem tkF_a (lo p b : Nat) (ep du : Int) (ms : List (Sh.T shMember)) (en : List (Sh.T .int)) (L : List MbV) (B : Nat → Nat → Prop) (ve : Value) (id n : Int) (i : Nat) (W : World) (hX : OpX lo p b W ep du ms en L B ve) (hi : i < ms.length) (hlo : lo ≤ W.heap.size) (hG : goodF ep du ms en) (htot : en.length + runT ms < 200) (hid : mid ms[i] = id) (x0 x1 : Int) (x2 : List (Sh.T .int)) (x3 : Int) (xa : Option Addr) (xc : Nat) (hL : i < L.length) (e1 : L[i] = (x0, x1, (xa, x2.length, xc), x3)) (e2 : ms[i] = mkMb x0 x1 x2 x3) :
    Calls Try.prog 50 #[.pointer (some ⟨p, 0, none⟩), .agg #[.int .i64 3, .int .i64 id, .int .i64 n]] W (StO lo p b (memF ep du ms en 3 n i (mkMb x0 x1 x2 x3)) W) := by
  obtain ⟨W1, hW1⟩ : ∃ x, x = W.alloc (.cells #[.int .i64 3, .int .i64 id, .int .i64 n] 40) := ⟨_, rfl⟩
  have HM : Hid (OpX lo p b W1 ep du ms en L B ve ∧ Bx W1 W.heap.size [.int .i64 3, .int .i64 id, .int .i64 n] ∧ Below W.heap.size W W1 ∧ lo ≤ W1.heap.size) := Hid.intro (by
    have hb : Below W.heap.size W W1 := hW1 ▸ Go.Joins.below_alloc1 _ _
    exact ⟨hX.next hb, hW1 ▸ Bx.new W [_, _, _] _, hb, Nat.le_trans hlo hb.size⟩)
  obtain ⟨hk1, hk2, hk3⟩ := hX.first hG.2.2.2.2.1 hi
  rw [hid] at hk2 hk3
  have HK : Hid (∃ hj : i < (L.map mbV).length, (L.map mbV)[i].1 = id ∧ (∀ z (hz : z < (L.map mbV).length), z < i → (L.map mbV)[z].1 ≠ id) ∧ (L.map mbV)[i].2 = .agg #[.int .i64 x0, .int .i64 x1, .slice xa x2.length xc, .int .i64 x3]) := ⟨hk1, hk2, hk3, by rw [List.getElem_map, e1]; rfl⟩
  have HG : Hid (goodF ep du ms en ∧ i < ms.length ∧ en.length + runT ms < 200 ∧ ∃ hL : i < L.length, L[i] = (x0, x1, (xa, x2.length, xc), x3) ∧ ms[i] = mkMb x0 x1 x2 x3) := ⟨hG, hi, htot, hL, e1, e2⟩
  clear hX hG e1 e2 hk2 hk3 hk1 hid htot
  have t0 := (HM.out.2.1).cell 0 rfl; have t1 := (HM.out.2.1).cell 1 rfl; have t2 := (HM.out.2.1).cell 2 rfl; have tz := (HM.out.2.1).2
  go_enter Try.func50, Try.ntmps50
  go_upto_region 1 with fail
  rw [← hW1]
  clear hW1
  go_upto_region 3 with fail
  clear t0 t1 t2 tz
  have HD : Hid (OpX lo p b W1.drew ep du ms en L B ve ∧ Bx W1.drew W.heap.size [.int .i64 3, .int .i64 id, .int .i64 n] ∧ Below W.heap.size W W1.drew ∧ W.heap.size < W1.drew.heap.size) := ⟨HM.out.1.next (below_drew _), HM.out.2.1.next (below_drew _), below_next HM.out.2.2.1 (below_drew _), HM.out.2.1.2⟩
  refine wp_region_noPanic ?_
  refine wp_region_held_drew (S := fun W9 => Bx W9 p [.int .i64 ep, .int .i64 du, .map (some b), ve] ∧ Bx W9 W.heap.size [.int .i64 3, .int .i64 id, .int .i64 n]) (by kernel_rfl) ⟨HD.out.1.1, HD.out.2.1⟩ (fun hHeld => ?_)
  obtain ⟨Y0, hWE⟩ : ∃ x, x = W1.drew := ⟨_, rfl⟩
  rw [← hWE] at HD hHeld ⊢
  clear hWE HM
  refine take_v (v := ?_) 0 ⟨some 13, Op.move (Operand.tmp 0), _, _, _, none⟩ rfl (fun _ _ _ h => h) ?_ hHeld ?_
  rotate_left
  · (intro W _; go_simp <;> (try with_reducible rfl))
  refine take_v (v := ?_) 1 ⟨some 14, Op.nilCheck (Operand.tmp 13), _, _, _, none⟩ rfl (fun _ _ _ h => h) ?_ hHeld ?_
  rotate_left
  · (intro W _; go_simp <;> (try with_reducible rfl))
  refine take_v (v := ?_) 2 ⟨some 15, Op.fieldAddr 91 (Operand.tmp 14) 2, _, _, _, none⟩ rfl (fun _ _ _ h => h) ?_ hHeld ?_
  rotate_left
  · (intro W _; go_simp <;> (try with_reducible rfl))
  refine take_v (v := ?_) 3 ⟨some 16, Op.load 89 (Operand.tmp 15), _, _, _, none⟩ rfl (fun _ _ _ h => h) ?_ hHeld ?_
  rotate_left
  · (intro W hSW; (have s2 := hSW.1.cell 2 rfl; have sz := hSW.1.2; have t1 := hSW.2.cell 1 rfl; have tz := hSW.2.2); go_simp <;> (try with_reducible rfl))
  refine take_v (v := ?_) 4 ⟨some 17, Op.fieldAddr 40 (Operand.tmp 3) 1, _, _, _, none⟩ rfl (fun _ _ _ h => h) ?_ hHeld ?_
  rotate_left
  · (intro W _; go_simp <;> (try with_reducible rfl))
  refine take_v (v := ?_) 5 ⟨some 18, Op.load 3 (Operand.tmp 17), _, _, _, none⟩ rfl (fun _ _ _ h => h) ?_ hHeld ?_
  rotate_left
  · (intro W hSW; (have s2 := hSW.1.cell 2 rfl; have sz := hSW.1.2; have t1 := hSW.2.cell 1 rfl; have tz := hSW.2.2); go_simp <;> (try with_reducible rfl))
  refine ready_two 6 10 ⟨some 19, Op.lookup 89 (Operand.tmp 16) (Operand.tmp 18) true, _, _, _, none⟩ ⟨some 5, Op.alloc 37, _, _, _, none⟩ (by kernel_rfl) rfl rfl (by kernel_rfl) (by kernel_rfl) (fun KC hK => ?_) (fun KC hK => ?_)
  ·
    obtain ⟨hk1, hk2, hk3, hk4⟩ := HK.out
    refine wp_lookup_yes (z := .agg #[.int .i64 0, .int .i64 0, .slice none 0 0, .int .i64 0]) (.tmp 16) (.tmp 18) (by rfl) Try.underlying89 Try.underlying3 (by kernel_rfl) HD.out.1.2.1 (by rfl) (by rfl) hk1 hk2 hk3 ?_
    rw [hk4]
    clear hk1 hk2 hk3 hk4
    refine hK.out _ _ hHeld (fun hHeld => ?_)
    clear hK KC
    refine take_v (v := ?_) 7 ⟨some 12, Op.move (Operand.tmp 19), _, _, _, none⟩ rfl (fun _ _ _ h => h) ?_ hHeld ?_
    rotate_left
    · (intro W _; go_simp <;> (try with_reducible rfl))
    refine take_v (v := ?_) 8 ⟨some 20, Op.extract (Operand.tmp 12) 0, _, _, _, none⟩ rfl (fun _ _ _ h => h) ?_ hHeld ?_
    rotate_left
    · (intro W _; go_simp <;> (try with_reducible rfl))
    refine take_v (v := ?_) 9 ⟨some 21, Op.extract (Operand.tmp 12) 1, _, _, _, none⟩ rfl (fun _ _ _ h => h) ?_ hHeld ?_
    rotate_left
    · (intro W _; go_simp <;> (try with_reducible rfl))
    refine ready_call 10 ⟨some 5, Op.alloc 37, _, _, _, none⟩ (by kernel_rfl) rfl (by kernel_rfl) (fun KC hK => ?_)
    go_wp2_with fail
    obtain ⟨Y2, hY2⟩ : ∃ x, x = Y0.alloc (.cells #[.int .i64 0, .int .i64 0, .slice none 0 0, .int .i64 0] 37) := ⟨_, rfl⟩
    have H7 : Hid (Bx Y2 Y0.heap.size [.int .i64 0, .int .i64 0, .slice none 0 0, .int .i64 0]) := hY2 ▸ Bx.new Y0 [_, _, _, _] _
    have HD2 : Hid ((OpX lo p b Y2 ep du ms en L B ve ∧ Bx Y2 W.heap.size [.int .i64 3, .int .i64 id, .int .i64 n] ∧ Below W.heap.size W Y2 ∧ W.heap.size < Y2.heap.size) ∧ Y0.heap.size < Y2.heap.size) := Hid.intro (by
      have hb : Below Y0.heap.size Y0 Y2 := hY2 ▸ Go.Joins.below_alloc1 _ _
      have hz : Y2.heap.size = Y0.heap.size + 1 := by rw [hY2]; simp
      exact ⟨⟨HD.out.1.next hb, HD.out.2.1.next hb, below_next HD.out.2.2.1 hb, by have := HD.out.2.2.2; omega⟩, by omega⟩)
    obtain ⟨bm, hbm⟩ : ∃ q, q = Y0.heap.size := ⟨_, rfl⟩
    have H7 : Hid (Bx Y2 bm [.int .i64 0, .int .i64 0, .slice none 0 0, .int .i64 0]) := hbm ▸ H7
    have hbW : W.heap.size < bm := by rw [hbm]; exact HD.out.2.2.2
    have HOB : Hid (OpX lo p b Y0 ep du ms en L B ve ∧ Below Y0.heap.size Y0 Y2 ∧ Y0.heap.size = bm) := ⟨HD.out.1, hY2 ▸ Go.Joins.below_alloc1 _ _, hbm.symm⟩
    have HD := (show Hid (OpX lo p b Y2 ep du ms en L B ve ∧ Bx Y2 W.heap.size [.int .i64 3, .int .i64 id, .int .i64 n] ∧ Below W.heap.size W Y2 ∧ W.heap.size < Y2.heap.size) from HD2.out.1)
    rw [← hY2, ← hbm]
    clear hY2 hbm HD2
    refine hK.out _ _ ⟨HD.out.1.1, HD.out.2.1⟩ (fun hHeld => ?_)
    clear hK KC
    refine ready_call 11 ⟨none, Op.store 37 (Operand.tmp 5) (Operand.tmp 20), _, _, _, none⟩ (by kernel_rfl) rfl (by kernel_rfl) (fun KC hK => ?_)
    have d0 := H7.out.cell 0 rfl
    have d1 := H7.out.cell 1 rfl
    have d2 := H7.out.cell 2 rfl
    have d3 := H7.out.cell 3 rfl
    have dz := H7.out.2
    have df0 := H7.out.frz 0 (by simp)
    have df1 := H7.out.frz 1 (by simp)
    have df2 := H7.out.frz 2 (by simp)
    have df3 := H7.out.frz 3 (by simp)
    go_wp2_with fail
    clear d0 d1 d2 d3 dz df0 df1 df2 df3
    have HF : Hid (∃ Z, Z = ((((Y2.setCell ⟨bm, 0, none⟩ (.int .i64 x0)).setCell ⟨bm, 1, none⟩ (.int .i64 x1)).setCell ⟨bm, 2, none⟩ (.slice xa x2.length xc)).setCell ⟨bm, 3, none⟩ (.int .i64 x3)) ∧ OpX lo p b Z ep du ms en L B ve ∧ Bx Z W.heap.size [.int .i64 3, .int .i64 id, .int .i64 n] ∧ Bx Z bm [.int .i64 x0, .int .i64 x1, .slice xa x2.length xc, .int .i64 x3] ∧ Below W.heap.size W Z) := Hid.intro (by
      have hs := set4 Y2 bm (.int .i64 x0) (.int .i64 x1) (.slice xa x2.length xc) (.int .i64 x3)
      have hsz := HOB.out.1.sizes
      refine ⟨_, rfl, HOB.out.1.turn (T := fun k => k = bm) ((TurnS.of_below HOB.out.2.1).trans hs) (fun k q => Or.inl (by have q : k = bm := q; have := HOB.out.2.2; omega)), HD.out.2.1.turnS hs (fun q => by have q : W.heap.size = bm := q; omega), (((H7.out.set (k := 0) (by simp) _).set (k := 1) (by simp) _).set (k := 2) (by simp) _).set (k := 3) (by simp) _, HD.out.2.2.1.trans (hs.below (fun k q => by have q : k = bm := q; omega) HD.out.2.2.1.size)⟩)
    obtain ⟨Z, hZ, hF1, hF2, hF3, hF4⟩ := HF.out
    rw [← hZ]
    have HZ : Hid (OpX lo p b Z ep du ms en L B ve ∧ Bx Z W.heap.size [.int .i64 3, .int .i64 id, .int .i64 n] ∧ Bx Z bm [.int .i64 x0, .int .i64 x1, .slice xa x2.length xc, .int .i64 x3] ∧ Below W.heap.size W Z) := ⟨hF1, hF2, hF3, hF4⟩
    clear hZ hF1 hF2 hF3 hF4 HF
    refine hK.out _ _ ⟨HZ.out.1.1, HZ.out.2.1⟩ (fun hHeld => ?_)
    clear hK KC
    refine take_v (v := ?_) 12 ⟨some 6, Op.assign (Operand.tmp 21), _, _, _, none⟩ rfl (fun _ _ _ h => h) ?_ hHeld ?_
    rotate_left
    · (intro W _; go_simp <;> (try with_reducible rfl))
    refine wpAnyH_done (by kernel_rfl) ?_ _
    refine NoPanic.normal ?_
    clear hHeld
    have m0 := HZ.out.2.2.1.cell 0 rfl
    have m1 := HZ.out.2.2.1.cell 1 rfl
    have m2 := HZ.out.2.2.1.cell 2 rfl
    have m3 := HZ.out.2.2.1.cell 3 rfl
    have mz := HZ.out.2.2.1.2
    have t0 := HZ.out.2.1.cell 0 rfl
    have t1 := HZ.out.2.1.cell 1 rfl
    have t2 := HZ.out.2.1.cell 2 rfl
    have tz := HZ.out.2.1.2
    go_wp2_with fail
    refine (ack_n lo p b ep du ms en L B ve i n _ HZ.out.1 HG.out.2.1 (Nat.le_trans hlo HZ.out.2.2.2.size) HG.out.1 x0 x1 x2 x3 xa xc HG.out.2.2.2.choose HG.out.2.2.2.choose_spec.1 HG.out.2.2.2.choose_spec.2).mono ?_
    intro r w2 hr
    have HR := Hid.intro (hr.back hlo HZ.out.2.2.2)
    (obtain ⟨rfl, _, _⟩ := hr)
    (generalize (memF ep du ms en 3 n i (mkMb x0 x1 x2 x3)).isSome = z at *)
    go_wp2_with fail
    go_ret
    exact HR.out
  ·
    go_wp2_with fail
    obtain ⟨Y2, hY2⟩ : ∃ x, x = Y0.alloc (.cells #[.int .i64 0, .int .i64 0, .slice none 0 0, .int .i64 0] 37) := ⟨_, rfl⟩
    have H7 : Hid (Bx Y2 Y0.heap.size [.int .i64 0, .int .i64 0, .slice none 0 0, .int .i64 0]) := hY2 ▸ Bx.new Y0 [_, _, _, _] _
    have HD2 : Hid ((OpX lo p b Y2 ep du ms en L B ve ∧ Bx Y2 W.heap.size [.int .i64 3, .int .i64 id, .int .i64 n] ∧ Below W.heap.size W Y2 ∧ W.heap.size < Y2.heap.size) ∧ Y0.heap.size < Y2.heap.size) := Hid.intro (by
      have hb : Below Y0.heap.size Y0 Y2 := hY2 ▸ Go.Joins.below_alloc1 _ _
      have hz : Y2.heap.size = Y0.heap.size + 1 := by rw [hY2]; simp
      exact ⟨⟨HD.out.1.next hb, HD.out.2.1.next hb, below_next HD.out.2.2.1 hb, by have := HD.out.2.2.2; omega⟩, by omega⟩)
    obtain ⟨bm, hbm⟩ : ∃ q, q = Y0.heap.size := ⟨_, rfl⟩
    have H7 : Hid (Bx Y2 bm [.int .i64 0, .int .i64 0, .slice none 0 0, .int .i64 0]) := hbm ▸ H7
    have hbW : W.heap.size < bm := by rw [hbm]; exact HD.out.2.2.2
    have HOB : Hid (OpX lo p b Y0 ep du ms en L B ve ∧ Below Y0.heap.size Y0 Y2 ∧ Y0.heap.size = bm) := ⟨HD.out.1, hY2 ▸ Go.Joins.below_alloc1 _ _, hbm.symm⟩
    have HD := (show Hid (OpX lo p b Y2 ep du ms en L B ve ∧ Bx Y2 W.heap.size [.int .i64 3, .int .i64 id, .int .i64 n] ∧ Below W.heap.size W Y2 ∧ W.heap.size < Y2.heap.size) from HD2.out.1)
    rw [← hY2, ← hbm]
    clear hY2 hbm HD2
    refine hK.out _ _ ⟨HD.out.1.1, HD.out.2.1⟩ (fun hHeld => ?_)
    clear hK KC
    refine ready_call 6 ⟨some 19, Op.lookup 89 (Operand.tmp 16) (Operand.tmp 18) true, _, _, _, none⟩ (by kernel_rfl) rfl (by kernel_rfl) (fun KC hK => ?_)
    obtain ⟨hk1, hk2, hk3, hk4⟩ := HK.out
    refine wp_lookup_yes (z := .agg #[.int .i64 0, .int .i64 0, .slice none 0 0, .int .i64 0]) (.tmp 16) (.tmp 18) (by rfl) Try.underlying89 Try.underlying3 (by kernel_rfl) HD.out.1.2.1 (by rfl) (by rfl) hk1 hk2 hk3 ?_
    rw [hk4]
    clear hk1 hk2 hk3 hk4
    refine hK.out _ _ hHeld (fun hHeld => ?_)
    clear hK KC
    refine take_v (v := ?_) 7 ⟨some 12, Op.move (Operand.tmp 19), _, _, _, none⟩ rfl (fun _ _ _ h => h) ?_ hHeld ?_
    rotate_left
    · (intro W _; go_simp <;> (try with_reducible rfl))
    refine take_v (v := ?_) 8 ⟨some 20, Op.extract (Operand.tmp 12) 0, _, _, _, none⟩ rfl (fun _ _ _ h => h) ?_ hHeld ?_
    rotate_left
    · (intro W _; go_simp <;> (try with_reducible rfl))
    refine take_v (v := ?_) 9 ⟨some 21, Op.extract (Operand.tmp 12) 1, _, _, _, none⟩ rfl (fun _ _ _ h => h) ?_ hHeld ?_
    rotate_left
    · (intro W _; go_simp <;> (try with_reducible rfl))
    refine ready_call 11 ⟨none, Op.store 37 (Operand.tmp 5) (Operand.tmp 20), _, _, _, none⟩ (by kernel_rfl) rfl (by kernel_rfl) (fun KC hK => ?_)
    have d0 := H7.out.cell 0 rfl
    have d1 := H7.out.cell 1 rfl
    have d2 := H7.out.cell 2 rfl
    have d3 := H7.out.cell 3 rfl
    have dz := H7.out.2
    have df0 := H7.out.frz 0 (by simp)
    have df1 := H7.out.frz 1 (by simp)
    have df2 := H7.out.frz 2 (by simp)
    have df3 := H7.out.frz 3 (by simp)
    go_wp2_with fail
    clear d0 d1 d2 d3 dz df0 df1 df2 df3
    have HF : Hid (∃ Z, Z = ((((Y2.setCell ⟨bm, 0, none⟩ (.int .i64 x0)).setCell ⟨bm, 1, none⟩ (.int .i64 x1)).setCell ⟨bm, 2, none⟩ (.slice xa x2.length xc)).setCell ⟨bm, 3, none⟩ (.int .i64 x3)) ∧ OpX lo p b Z ep du ms en L B ve ∧ Bx Z W.heap.size [.int .i64 3, .int .i64 id, .int .i64 n] ∧ Bx Z bm [.int .i64 x0, .int .i64 x1, .slice xa x2.length xc, .int .i64 x3] ∧ Below W.heap.size W Z) := Hid.intro (by
      have hs := set4 Y2 bm (.int .i64 x0) (.int .i64 x1) (.slice xa x2.length xc) (.int .i64 x3)
      have hsz := HOB.out.1.sizes
      refine ⟨_, rfl, HOB.out.1.turn (T := fun k => k = bm) ((TurnS.of_below HOB.out.2.1).trans hs) (fun k q => Or.inl (by have q : k = bm := q; have := HOB.out.2.2; omega)), HD.out.2.1.turnS hs (fun q => by have q : W.heap.size = bm := q; omega), (((H7.out.set (k := 0) (by simp) _).set (k := 1) (by simp) _).set (k := 2) (by simp) _).set (k := 3) (by simp) _, HD.out.2.2.1.trans (hs.below (fun k q => by have q : k = bm := q; omega) HD.out.2.2.1.size)⟩)
    obtain ⟨Z, hZ, hF1, hF2, hF3, hF4⟩ := HF.out
    rw [← hZ]
    have HZ : Hid (OpX lo p b Z ep du ms en L B ve ∧ Bx Z W.heap.size [.int .i64 3, .int .i64 id, .int .i64 n] ∧ Bx Z bm [.int .i64 x0, .int .i64 x1, .slice xa x2.length xc, .int .i64 x3] ∧ Below W.heap.size W Z) := ⟨hF1, hF2, hF3, hF4⟩
    clear hZ hF1 hF2 hF3 hF4 HF
    refine hK.out _ _ ⟨HZ.out.1.1, HZ.out.2.1⟩ (fun hHeld => ?_)
    clear hK KC
    refine take_v (v := ?_) 12 ⟨some 6, Op.assign (Operand.tmp 21), _, _, _, none⟩ rfl (fun _ _ _ h => h) ?_ hHeld ?_
    rotate_left
    · (intro W _; go_simp <;> (try with_reducible rfl))
    refine wpAnyH_done (by kernel_rfl) ?_ _
    refine NoPanic.normal ?_
    clear hHeld
    have m0 := HZ.out.2.2.1.cell 0 rfl
    have m1 := HZ.out.2.2.1.cell 1 rfl
    have m2 := HZ.out.2.2.1.cell 2 rfl
    have m3 := HZ.out.2.2.1.cell 3 rfl
    have mz := HZ.out.2.2.1.2
    have t0 := HZ.out.2.1.cell 0 rfl
    have t1 := HZ.out.2.1.cell 1 rfl
    have t2 := HZ.out.2.1.cell 2 rfl
    have tz := HZ.out.2.1.2
    go_wp2_with fail
    refine (ack_n lo p b ep du ms en L B ve i n _ HZ.out.1 HG.out.2.1 (Nat.le_trans hlo HZ.out.2.2.2.size) HG.out.1 x0 x1 x2 x3 xa xc HG.out.2.2.2.choose HG.out.2.2.2.choose_spec.1 HG.out.2.2.2.choose_spec.2).mono ?_
    intro r w2 hr
    have HR := Hid.intro (hr.back hlo HZ.out.2.2.2)
    (obtain ⟨rfl, _, _⟩ := hr)
    (generalize (memF ep du ms en 3 n i (mkMb x0 x1 x2 x3)).isSome = z at *)
    go_wp2_with fail
    go_ret
    exact HR.out

set_option maxRecDepth 100000 in
set_option maxHeartbeats 8000000 in
theorem tkF_l (lo p b : Nat) (ep du : Int) (ms : List (Sh.T shMember)) (en : List (Sh.T .int)) (L : List MbV) (B : Nat → Nat → Prop) (ve : Value) (id n : Int) (i : Nat) (W : World) (hX : OpX lo p b W ep du ms en L B ve) (hi : i < ms.length) (hlo : lo ≤ W.heap.size) (hG : goodF ep du ms en) (htot : en.length + runT ms < 200) (hid : mid ms[i] = id) (x0 x1 : Int) (x2 : List (Sh.T .int)) (x3 : Int) (xa : Option Addr) (xc : Nat) (hL : i < L.length) (e1 : L[i] = (x0, x1, (xa, x2.length, xc), x3)) (e2 : ms[i] = mkMb x0 x1 x2 x3) :
    Calls Try.prog 50 #[.pointer (some ⟨p, 0, none⟩), .agg #[.int .i64 5, .int .i64 id, .int .i64 n]] W (StO lo p b (memF ep du ms en 5 n i (mkMb x0 x1 x2 x3)) W) := by
  obtain ⟨W1, hW1⟩ : ∃ x, x = W.alloc (.cells #[.int .i64 5, .int .i64 id, .int .i64 n] 40) := ⟨_, rfl⟩
  have HM : Hid (OpX lo p b W1 ep du ms en L B ve ∧ Bx W1 W.heap.size [.int .i64 5, .int .i64 id, .int .i64 n] ∧ Below W.heap.size W W1 ∧ lo ≤ W1.heap.size) := Hid.intro (by
    have hb : Below W.heap.size W W1 := hW1 ▸ Go.Joins.below_alloc1 _ _
    exact ⟨hX.next hb, hW1 ▸ Bx.new W [_, _, _] _, hb, Nat.le_trans hlo hb.size⟩)
  obtain ⟨hk1, hk2, hk3⟩ := hX.first hG.2.2.2.2.1 hi
  rw [hid] at hk2 hk3
  have HK : Hid (∃ hj : i < (L.map mbV).length, (L.map mbV)[i].1 = id ∧ (∀ z (hz : z < (L.map mbV).length), z < i → (L.map mbV)[z].1 ≠ id) ∧ (L.map mbV)[i].2 = .agg #[.int .i64 x0, .int .i64 x1, .slice xa x2.length xc, .int .i64 x3]) := ⟨hk1, hk2, hk3, by rw [List.getElem_map, e1]; rfl⟩
  have HG : Hid (goodF ep du ms en ∧ i < ms.length ∧ en.length + runT ms < 200 ∧ ∃ hL : i < L.length, L[i] = (x0, x1, (xa, x2.length, xc), x3) ∧ ms[i] = mkMb x0 x1 x2 x3) := ⟨hG, hi, htot, hL, e1, e2⟩
  clear hX hG e1 e2 hk2 hk3 hk1 hid htot
  have t0 := (HM.out.2.1).cell 0 rfl; have t1 := (HM.out.2.1).cell 1 rfl; have t2 := (HM.out.2.1).cell 2 rfl; have tz := (HM.out.2.1).2
  go_enter Try.func50, Try.ntmps50
  go_upto_region 1 with fail
  rw [← hW1]
  clear hW1
  go_upto_region 3 with fail
  clear t0 t1 t2 tz
  have HD : Hid (OpX lo p b W1.drew ep du ms en L B ve ∧ Bx W1.drew W.heap.size [.int .i64 5, .int .i64 id, .int .i64 n] ∧ Below W.heap.size W W1.drew ∧ W.heap.size < W1.drew.heap.size) := ⟨HM.out.1.next (below_drew _), HM.out.2.1.next (below_drew _), below_next HM.out.2.2.1 (below_drew _), HM.out.2.1.2⟩
  refine wp_region_noPanic ?_
  refine wp_region_held_drew (S := fun W9 => Bx W9 p [.int .i64 ep, .int .i64 du, .map (some b), ve] ∧ Bx W9 W.heap.size [.int .i64 5, .int .i64 id, .int .i64 n]) (by kernel_rfl) ⟨HD.out.1.1, HD.out.2.1⟩ (fun hHeld => ?_)
  obtain ⟨Y0, hWE⟩ : ∃ x, x = W1.drew := ⟨_, rfl⟩
  rw [← hWE] at HD hHeld ⊢
  clear hWE HM
  refine take_v (v := ?_) 0 ⟨some 13, Op.move (Operand.tmp 0), _, _, _, none⟩ rfl (fun _ _ _ h => h) ?_ hHeld ?_
  rotate_left
  · (intro W _; go_simp <;> (try with_reducible rfl))
  refine take_v (v := ?_) 1 ⟨some 14, Op.nilCheck (Operand.tmp 13), _, _, _, none⟩ rfl (fun _ _ _ h => h) ?_ hHeld ?_
  rotate_left
  · (intro W _; go_simp <;> (try with_reducible rfl))
  refine take_v (v := ?_) 2 ⟨some 15, Op.fieldAddr 91 (Operand.tmp 14) 2, _, _, _, none⟩ rfl (fun _ _ _ h => h) ?_ hHeld ?_
  rotate_left
  · (intro W _; go_simp <;> (try with_reducible rfl))
  refine take_v (v := ?_) 3 ⟨some 16, Op.load 89 (Operand.tmp 15), _, _, _, none⟩ rfl (fun _ _ _ h => h) ?_ hHeld ?_
  rotate_left
  · (intro W hSW; (have s2 := hSW.1.cell 2 rfl; have sz := hSW.1.2; have t1 := hSW.2.cell 1 rfl; have tz := hSW.2.2); go_simp <;> (try with_reducible rfl))
  refine take_v (v := ?_) 4 ⟨some 17, Op.fieldAddr 40 (Operand.tmp 3) 1, _, _, _, none⟩ rfl (fun _ _ _ h => h) ?_ hHeld ?_
  rotate_left
  · (intro W _; go_simp <;> (try with_reducible rfl))
  refine take_v (v := ?_) 5 ⟨some 18, Op.load 3 (Operand.tmp 17), _, _, _, none⟩ rfl (fun _ _ _ h => h) ?_ hHeld ?_
  rotate_left
  · (intro W hSW; (have s2 := hSW.1.cell 2 rfl; have sz := hSW.1.2; have t1 := hSW.2.cell 1 rfl; have tz := hSW.2.2); go_simp <;> (try with_reducible rfl))
  refine ready_two 6 10 ⟨some 19, Op.lookup 89 (Operand.tmp 16) (Operand.tmp 18) true, _, _, _, none⟩ ⟨some 5, Op.alloc 37, _, _, _, none⟩ (by kernel_rfl) rfl rfl (by kernel_rfl) (by kernel_rfl) (fun KC hK => ?_) (fun KC hK => ?_)
  ·
    obtain ⟨hk1, hk2, hk3, hk4⟩ := HK.out
    refine wp_lookup_yes (z := .agg #[.int .i64 0, .int .i64 0, .slice none 0 0, .int .i64 0]) (.tmp 16) (.tmp 18) (by rfl) Try.underlying89 Try.underlying3 (by kernel_rfl) HD.out.1.2.1 (by rfl) (by rfl) hk1 hk2 hk3 ?_
    rw [hk4]
    clear hk1 hk2 hk3 hk4
    refine hK.out _ _ hHeld (fun hHeld => ?_)
    clear hK KC
    refine take_v (v := ?_) 7 ⟨some 12, Op.move (Operand.tmp 19), _, _, _, none⟩ rfl (fun _ _ _ h => h) ?_ hHeld ?_
    rotate_left
    · (intro W _; go_simp <;> (try with_reducible rfl))
    refine take_v (v := ?_) 8 ⟨some 20, Op.extract (Operand.tmp 12) 0, _, _, _, none⟩ rfl (fun _ _ _ h => h) ?_ hHeld ?_
    rotate_left
    · (intro W _; go_simp <;> (try with_reducible rfl))
    refine take_v (v := ?_) 9 ⟨some 21, Op.extract (Operand.tmp 12) 1, _, _, _, none⟩ rfl (fun _ _ _ h => h) ?_ hHeld ?_
    rotate_left
    · (intro W _; go_simp <;> (try with_reducible rfl))
    refine ready_call 10 ⟨some 5, Op.alloc 37, _, _, _, none⟩ (by kernel_rfl) rfl (by kernel_rfl) (fun KC hK => ?_)
    go_wp2_with fail
    obtain ⟨Y2, hY2⟩ : ∃ x, x = Y0.alloc (.cells #[.int .i64 0, .int .i64 0, .slice none 0 0, .int .i64 0] 37) := ⟨_, rfl⟩
    have H7 : Hid (Bx Y2 Y0.heap.size [.int .i64 0, .int .i64 0, .slice none 0 0, .int .i64 0]) := hY2 ▸ Bx.new Y0 [_, _, _, _] _
    have HD2 : Hid ((OpX lo p b Y2 ep du ms en L B ve ∧ Bx Y2 W.heap.size [.int .i64 5, .int .i64 id, .int .i64 n] ∧ Below W.heap.size W Y2 ∧ W.heap.size < Y2.heap.size) ∧ Y0.heap.size < Y2.heap.size) := Hid.intro (by
      have hb : Below Y0.heap.size Y0 Y2 := hY2 ▸ Go.Joins.below_alloc1 _ _
      have hz : Y2.heap.size = Y0.heap.size + 1 := by rw [hY2]; simp
      exact ⟨⟨HD.out.1.next hb, HD.out.2.1.next hb, below_next HD.out.2.2.1 hb, by have := HD.out.2.2.2; omega⟩, by omega⟩)
    obtain ⟨bm, hbm⟩ : ∃ q, q = Y0.heap.size := ⟨_, rfl⟩
    have H7 : Hid (Bx Y2 bm [.int .i64 0, .int .i64 0, .slice none 0 0, .int .i64 0]) := hbm ▸ H7
    have hbW : W.heap.size < bm := by rw [hbm]; exact HD.out.2.2.2
    have HOB : Hid (OpX lo p b Y0 ep du ms en L B ve ∧ Below Y0.heap.size Y0 Y2 ∧ Y0.heap.size = bm) := ⟨HD.out.1, hY2 ▸ Go.Joins.below_alloc1 _ _, hbm.symm⟩
    have HD := (show Hid (OpX lo p b Y2 ep du ms en L B ve ∧ Bx Y2 W.heap.size [.int .i64 5, .int .i64 id, .int .i64 n] ∧ Below W.heap.size W Y2 ∧ W.heap.size < Y2.heap.size) from HD2.out.1)
    rw [← hY2, ← hbm]
    clear hY2 hbm HD2
    refine hK.out _ _ ⟨HD.out.1.1, HD.out.2.1⟩ (fun hHeld => ?_)
    clear hK KC
    refine ready_call 11 ⟨none, Op.store 37 (Operand.tmp 5) (Operand.tmp 20), _, _, _, none⟩ (by kernel_rfl) rfl (by kernel_rfl) (fun KC hK => ?_)
    have d0 := H7.out.cell 0 rfl
    have d1 := H7.out.cell 1 rfl
    have d2 := H7.out.cell 2 rfl
    have d3 := H7.out.cell 3 rfl
    have dz := H7.out.2
    have df0 := H7.out.frz 0 (by simp)
    have df1 := H7.out.frz 1 (by simp)
    have df2 := H7.out.frz 2 (by simp)
    have df3 := H7.out.frz 3 (by simp)
    go_wp2_with fail
    clear d0 d1 d2 d3 dz df0 df1 df2 df3
    have HF : Hid (∃ Z, Z = ((((Y2.setCell ⟨bm, 0, none⟩ (.int .i64 x0)).setCell ⟨bm, 1, none⟩ (.int .i64 x1)).setCell ⟨bm, 2, none⟩ (.slice xa x2.length xc)).setCell ⟨bm, 3, none⟩ (.int .i64 x3)) ∧ OpX lo p b Z ep du ms en L B ve ∧ Bx Z W.heap.size [.int .i64 5, .int .i64 id, .int .i64 n] ∧ Bx Z bm [.int .i64 x0, .int .i64 x1, .slice xa x2.length xc, .int .i64 x3] ∧ Below W.heap.size W Z) := Hid.intro (by
      have hs := set4 Y2 bm (.int .i64 x0) (.int .i64 x1) (.slice xa x2.length xc) (.int .i64 x3)
      have hsz := HOB.out.1.sizes
      refine ⟨_, rfl, HOB.out.1.turn (T := fun k => k = bm) ((TurnS.of_below HOB.out.2.1).trans hs) (fun k q => Or.inl (by have q : k = bm := q; have := HOB.out.2.2; omega)), HD.out.2.1.turnS hs (fun q => by have q : W.heap.size = bm := q; omega), (((H7.out.set (k := 0) (by simp) _).set (k := 1) (by simp) _).set (k := 2) (by simp) _).set (k := 3) (by simp) _, HD.out.2.2.1.trans (hs.below (fun k q => by have q : k = bm := q; omega) HD.out.2.2.1.size)⟩)
    obtain ⟨Z, hZ, hF1, hF2, hF3, hF4⟩ := HF.out
    rw [← hZ]
    have HZ : Hid (OpX lo p b Z ep du ms en L B ve ∧ Bx Z W.heap.size [.int .i64 5, .int .i64 id, .int .i64 n] ∧ Bx Z bm [.int .i64 x0, .int .i64 x1, .slice xa x2.length xc, .int .i64 x3] ∧ Below W.heap.size W Z) := ⟨hF1, hF2, hF3, hF4⟩
    clear hZ hF1 hF2 hF3 hF4 HF
    refine hK.out _ _ ⟨HZ.out.1.1, HZ.out.2.1⟩ (fun hHeld => ?_)
    clear hK KC
    refine take_v (v := ?_) 12 ⟨some 6, Op.assign (Operand.tmp 21), _, _, _, none⟩ rfl (fun _ _ _ h => h) ?_ hHeld ?_
    rotate_left
    · (intro W _; go_simp <;> (try with_reducible rfl))
    refine wpAnyH_done (by kernel_rfl) ?_ _
    refine NoPanic.normal ?_
    clear hHeld
    have m0 := HZ.out.2.2.1.cell 0 rfl
    have m1 := HZ.out.2.2.1.cell 1 rfl
    have m2 := HZ.out.2.2.1.cell 2 rfl
    have m3 := HZ.out.2.2.1.cell 3 rfl
    have mz := HZ.out.2.2.1.2
    have t0 := HZ.out.2.1.cell 0 rfl
    have t1 := HZ.out.2.1.cell 1 rfl
    have t2 := HZ.out.2.1.cell 2 rfl
    have tz := HZ.out.2.1.2
    go_wp2_with fail
    refine (leave_n lo p b ep du ms en L B ve i n _ HZ.out.1 HG.out.2.1 (Nat.le_trans hlo HZ.out.2.2.2.size) HG.out.1 x0 x1 x2 x3 xa xc HG.out.2.2.2.choose HG.out.2.2.2.choose_spec.1 HG.out.2.2.2.choose_spec.2).mono ?_
    intro r w2 hr
    have HR := Hid.intro (hr.back hlo HZ.out.2.2.2)
    (obtain ⟨rfl, _, _⟩ := hr)
    (generalize (memF ep du ms en 5 n i (mkMb x0 x1 x2 x3)).isSome = z at *)
    go_wp2_with fail
    go_ret
    exact HR.out
  ·
    go_wp2_with fail
    obtain ⟨Y2, hY2⟩ : ∃ x, x = Y0.alloc (.cells #[.int .i64 0, .int .i64 0, .slice none 0 0, .int .i64 0] 37) := ⟨_, rfl⟩
    have H7 : Hid (Bx Y2 Y0.heap.size [.int .i64 0, .int .i64 0, .slice none 0 0, .int .i64 0]) := hY2 ▸ Bx.new Y0 [_, _, _, _] _
    have HD2 : Hid ((OpX lo p b Y2 ep du ms en L B ve ∧ Bx Y2 W.heap.size [.int .i64 5, .int .i64 id, .int .i64 n] ∧ Below W.heap.size W Y2 ∧ W.heap.size < Y2.heap.size) ∧ Y0.heap.size < Y2.heap.size) := Hid.intro (by
      have hb : Below Y0.heap.size Y0 Y2 := hY2 ▸ Go.Joins.below_alloc1 _ _
      have hz : Y2.heap.size = Y0.heap.size + 1 := by rw [hY2]; simp
      exact ⟨⟨HD.out.1.next hb, HD.out.2.1.next hb, below_next HD.out.2.2.1 hb, by have := HD.out.2.2.2; omega⟩, by omega⟩)
    obtain ⟨bm, hbm⟩ : ∃ q, q = Y0.heap.size := ⟨_, rfl⟩
    have H7 : Hid (Bx Y2 bm [.int .i64 0, .int .i64 0, .slice none 0 0, .int .i64 0]) := hbm ▸ H7
    have hbW : W.heap.size < bm := by rw [hbm]; exact HD.out.2.2.2
    have HOB : Hid (OpX lo p b Y0 ep du ms en L B ve ∧ Below Y0.heap.size Y0 Y2 ∧ Y0.heap.size = bm) := ⟨HD.out.1, hY2 ▸ Go.Joins.below_alloc1 _ _, hbm.symm⟩
    have HD := (show Hid (OpX lo p b Y2 ep du ms en L B ve ∧ Bx Y2 W.heap.size [.int .i64 5, .int .i64 id, .int .i64 n] ∧ Below W.heap.size W Y2 ∧ W.heap.size < Y2.heap.size) from HD2.out.1)
    rw [← hY2, ← hbm]
    clear hY2 hbm HD2
    refine hK.out _ _ ⟨HD.out.1.1, HD.out.2.1⟩ (fun hHeld => ?_)
    clear hK KC
    refine ready_call 6 ⟨some 19, Op.lookup 89 (Operand.tmp 16) (Operand.tmp 18) true, _, _, _, none⟩ (by kernel_rfl) rfl (by kernel_rfl) (fun KC hK => ?_)
    obtain ⟨hk1, hk2, hk3, hk4⟩ := HK.out
    refine wp_lookup_yes (z := .agg #[.int .i64 0, .int .i64 0, .slice none 0 0, .int .i64 0]) (.tmp 16) (.tmp 18) (by rfl) Try.underlying89 Try.underlying3 (by kernel_rfl) HD.out.1.2.1 (by rfl) (by rfl) hk1 hk2 hk3 ?_
    rw [hk4]
    clear hk1 hk2 hk3 hk4
    refine hK.out _ _ hHeld (fun hHeld => ?_)
    clear hK KC
    refine take_v (v := ?_) 7 ⟨some 12, Op.move (Operand.tmp 19), _, _, _, none⟩ rfl (fun _ _ _ h => h) ?_ hHeld ?_
    rotate_left
    · (intro W _; go_simp <;> (try with_reducible rfl))
    refine take_v (v := ?_) 8 ⟨some 20, Op.extract (Operand.tmp 12) 0, _, _, _, none⟩ rfl (fun _ _ _ h => h) ?_ hHeld ?_
    rotate_left
    · (intro W _; go_simp <;> (try with_reducible rfl))
    refine take_v (v := ?_) 9 ⟨some 21, Op.extract (Operand.tmp 12) 1, _, _, _, none⟩ rfl (fun _ _ _ h => h) ?_ hHeld ?_
    rotate_left
    · (intro W _; go_simp <;> (try with_reducible rfl))
    refine ready_call 11 ⟨none, Op.store 37 (Operand.tmp 5) (Operand.tmp 20), _, _, _, none⟩ (by kernel_rfl) rfl (by kernel_rfl) (fun KC hK => ?_)
    have d0 := H7.out.cell 0 rfl
    have d1 := H7.out.cell 1 rfl
    have d2 := H7.out.cell 2 rfl
    have d3 := H7.out.cell 3 rfl
    have dz := H7.out.2
    have df0 := H7.out.frz 0 (by simp)
    have df1 := H7.out.frz 1 (by simp)
    have df2 := H7.out.frz 2 (by simp)
    have df3 := H7.out.frz 3 (by simp)
    go_wp2_with fail
    clear d0 d1 d2 d3 dz df0 df1 df2 df3
    have HF : Hid (∃ Z, Z = ((((Y2.setCell ⟨bm, 0, none⟩ (.int .i64 x0)).setCell ⟨bm, 1, none⟩ (.int .i64 x1)).setCell ⟨bm, 2, none⟩ (.slice xa x2.length xc)).setCell ⟨bm, 3, none⟩ (.int .i64 x3)) ∧ OpX lo p b Z ep du ms en L B ve ∧ Bx Z W.heap.size [.int .i64 5, .int .i64 id, .int .i64 n] ∧ Bx Z bm [.int .i64 x0, .int .i64 x1, .slice xa x2.length xc, .int .i64 x3] ∧ Below W.heap.size W Z) := Hid.intro (by
      have hs := set4 Y2 bm (.int .i64 x0) (.int .i64 x1) (.slice xa x2.length xc) (.int .i64 x3)
      have hsz := HOB.out.1.sizes
      refine ⟨_, rfl, HOB.out.1.turn (T := fun k => k = bm) ((TurnS.of_below HOB.out.2.1).trans hs) (fun k q => Or.inl (by have q : k = bm := q; have := HOB.out.2.2; omega)), HD.out.2.1.turnS hs (fun q => by have q : W.heap.size = bm := q; omega), (((H7.out.set (k := 0) (by simp) _).set (k := 1) (by simp) _).set (k := 2) (by simp) _).set (k := 3) (by simp) _, HD.out.2.2.1.trans (hs.below (fun k q => by have q : k = bm := q; omega) HD.out.2.2.1.size)⟩)
    obtain ⟨Z, hZ, hF1, hF2, hF3, hF4⟩ := HF.out
    rw [← hZ]
    have HZ : Hid (OpX lo p b Z ep du ms en L B ve ∧ Bx Z W.heap.size [.int .i64 5, .int .i64 id, .int .i64 n] ∧ Bx Z bm [.int .i64 x0, .int .i64 x1, .slice xa x2.length xc, .int .i64 x3] ∧ Below W.heap.size W Z) := ⟨hF1, hF2, hF3, hF4⟩
    clear hZ hF1 hF2 hF3 hF4 HF
    refine hK.out _ _ ⟨HZ.out.1.1, HZ.out.2.1⟩ (fun hHeld => ?_)
    clear hK KC
    refine take_v (v := ?_) 12 ⟨some 6, Op.assign (Operand.tmp 21), _, _, _, none⟩ rfl (fun _ _ _ h => h) ?_ hHeld ?_
    rotate_left
    · (intro W _; go_simp <;> (try with_reducible rfl))
    refine wpAnyH_done (by kernel_rfl) ?_ _
    refine NoPanic.normal ?_
    clear hHeld
    have m0 := HZ.out.2.2.1.cell 0 rfl
    have m1 := HZ.out.2.2.1.cell 1 rfl
    have m2 := HZ.out.2.2.1.cell 2 rfl
    have m3 := HZ.out.2.2.1.cell 3 rfl
    have mz := HZ.out.2.2.1.2
    have t0 := HZ.out.2.1.cell 0 rfl
    have t1 := HZ.out.2.1.cell 1 rfl
    have t2 := HZ.out.2.1.cell 2 rfl
    have tz := HZ.out.2.1.2
    go_wp2_with fail
    refine (leave_n lo p b ep du ms en L B ve i n _ HZ.out.1 HG.out.2.1 (Nat.le_trans hlo HZ.out.2.2.2.size) HG.out.1 x0 x1 x2 x3 xa xc HG.out.2.2.2.choose HG.out.2.2.2.choose_spec.1 HG.out.2.2.2.choose_spec.2).mono ?_
    intro r w2 hr
    have HR := Hid.intro (hr.back hlo HZ.out.2.2.2)
    (obtain ⟨rfl, _, _⟩ := hr)
    (generalize (memF ep du ms en 5 n i (mkMb x0 x1 x2 x3)).isSome = z at *)
    go_wp2_with fail
    go_ret
    exact HR.out

set_option maxRecDepth 100000 in
set_option maxHeartbeats 8000000 in
theorem tkF_j (lo p b : Nat) (ep du : Int) (ms : List (Sh.T shMember)) (en : List (Sh.T .int)) (L : List MbV) (B : Nat → Nat → Prop) (ve : Value) (id n : Int) (i : Nat) (W : World) (hX : OpX lo p b W ep du ms en L B ve) (hi : i < ms.length) (hlo : lo ≤ W.heap.size) (hG : goodF ep du ms en) (htot : en.length + runT ms < 200) (hid : mid ms[i] = id) (x0 x1 : Int) (x2 : List (Sh.T .int)) (x3 : Int) (xa : Option Addr) (xc : Nat) (hL : i < L.length) (e1 : L[i] = (x0, x1, (xa, x2.length, xc), x3)) (e2 : ms[i] = mkMb x0 x1 x2 x3) :
    Calls Try.prog 50 #[.pointer (some ⟨p, 0, none⟩), .agg #[.int .i64 6, .int .i64 id, .int .i64 n]] W (StO lo p b (memF ep du ms en 6 n i (mkMb x0 x1 x2 x3)) W) := by
  obtain ⟨W1, hW1⟩ : ∃ x, x = W.alloc (.cells #[.int .i64 6, .int .i64 id, .int .i64 n] 40) := ⟨_, rfl⟩
  have HM : Hid (OpX lo p b W1 ep du ms en L B ve ∧ Bx W1 W.heap.size [.int .i64 6, .int .i64 id, .int .i64 n] ∧ Below W.heap.size W W1 ∧ lo ≤ W1.heap.size) := Hid.intro (by
    have hb : Below W.heap.size W W1 := hW1 ▸ Go.Joins.below_alloc1 _ _
    exact ⟨hX.next hb, hW1 ▸ Bx.new W [_, _, _] _, hb, Nat.le_trans hlo hb.size⟩)
  obtain ⟨hk1, hk2, hk3⟩ := hX.first hG.2.2.2.2.1 hi
  rw [hid] at hk2 hk3
  have HK : Hid (∃ hj : i < (L.map mbV).length, (L.map mbV)[i].1 = id ∧ (∀ z (hz : z < (L.map mbV).length), z < i → (L.map mbV)[z].1 ≠ id) ∧ (L.map mbV)[i].2 = .agg #[.int .i64 x0, .int .i64 x1, .slice xa x2.length xc, .int .i64 x3]) := ⟨hk1, hk2, hk3, by rw [List.getElem_map, e1]; rfl⟩
  have HG : Hid (goodF ep du ms en ∧ i < ms.length ∧ en.length + runT ms < 200 ∧ ∃ hL : i < L.length, L[i] = (x0, x1, (xa, x2.length, xc), x3) ∧ ms[i] = mkMb x0 x1 x2 x3) := ⟨hG, hi, htot, hL, e1, e2⟩
  clear hX hG e1 e2 hk2 hk3 hk1 hid htot
  have t0 := (HM.out.2.1).cell 0 rfl; have t1 := (HM.out.2.1).cell 1 rfl; have t2 := (HM.out.2.1).cell 2 rfl; have tz := (HM.out.2.1).2
  go_enter Try.func50, Try.ntmps50
  go_upto_region 1 with fail
  rw [← hW1]
  clear hW1
  go_upto_region 3 with fail
  clear t0 t1 t2 tz
  have HD : Hid (OpX lo p b W1.drew ep du ms en L B ve ∧ Bx W1.drew W.heap.size [.int .i64 6, .int .i64 id, .int .i64 n] ∧ Below W.heap.size W W1.drew ∧ W.heap.size < W1.drew.heap.size) := ⟨HM.out.1.next (below_drew _), HM.out.2.1.next (below_drew _), below_next HM.out.2.2.1 (below_drew _), HM.out.2.1.2⟩
  refine wp_region_noPanic ?_
  refine wp_region_held_drew (S := fun W9 => Bx W9 p [.int .i64 ep, .int .i64 du, .map (some b), ve] ∧ Bx W9 W.heap.size [.int .i64 6, .int .i64 id, .int .i64 n]) (by kernel_rfl) ⟨HD.out.1.1, HD.out.2.1⟩ (fun hHeld => ?_)
  obtain ⟨Y0, hWE⟩ : ∃ x, x = W1.drew := ⟨_, rfl⟩
  rw [← hWE] at HD hHeld ⊢
  clear hWE HM
  refine take_v (v := ?_) 0 ⟨some 13, Op.move (Operand.tmp 0), _, _, _, none⟩ rfl (fun _ _ _ h => h) ?_ hHeld ?_
  rotate_left
  · (intro W _; go_simp <;> (try with_reducible rfl))
  refine take_v (v := ?_) 1 ⟨some 14, Op.nilCheck (Operand.tmp 13), _, _, _, none⟩ rfl (fun _ _ _ h => h) ?_ hHeld ?_
  rotate_left
  · (intro W _; go_simp <;> (try with_reducible rfl))
  refine take_v (v := ?_) 2 ⟨some 15, Op.fieldAddr 91 (Operand.tmp 14) 2, _, _, _, none⟩ rfl (fun _ _ _ h => h) ?_ hHeld ?_
  rotate_left
  · (intro W _; go_simp <;> (try with_reducible rfl))
  refine take_v (v := ?_) 3 ⟨some 16, Op.load 89 (Operand.tmp 15), _, _, _, none⟩ rfl (fun _ _ _ h => h) ?_ hHeld ?_
  rotate_left
  · (intro W hSW; (have s2 := hSW.1.cell 2 rfl; have sz := hSW.1.2; have t1 := hSW.2.cell 1 rfl; have tz := hSW.2.2); go_simp <;> (try with_reducible rfl))
  refine take_v (v := ?_) 4 ⟨some 17, Op.fieldAddr 40 (Operand.tmp 3) 1, _, _, _, none⟩ rfl (fun _ _ _ h => h) ?_ hHeld ?_
  rotate_left
  · (intro W _; go_simp <;> (try with_reducible rfl))
  refine take_v (v := ?_) 5 ⟨some 18, Op.load 3 (Operand.tmp 17), _, _, _, none⟩ rfl (fun _ _ _ h => h) ?_ hHeld ?_
  rotate_left
  · (intro W hSW; (have s2 := hSW.1.cell 2 rfl; have sz := hSW.1.2; have t1 := hSW.2.cell 1 rfl; have tz := hSW.2.2); go_simp <;> (try with_reducible rfl))
  refine ready_two 6 10 ⟨some 19, Op.lookup 89 (Operand.tmp 16) (Operand.tmp 18) true, _, _, _, none⟩ ⟨some 5, Op.alloc 37, _, _, _, none⟩ (by kernel_rfl) rfl rfl (by kernel_rfl) (by kernel_rfl) (fun KC hK => ?_) (fun KC hK => ?_)
  ·
    obtain ⟨hk1, hk2, hk3, hk4⟩ := HK.out
    refine wp_lookup_yes (z := .agg #[.int .i64 0, .int .i64 0, .slice none 0 0, .int .i64 0]) (.tmp 16) (.tmp 18) (by rfl) Try.underlying89 Try.underlying3 (by kernel_rfl) HD.out.1.2.1 (by rfl) (by rfl) hk1 hk2 hk3 ?_
    rw [hk4]
    clear hk1 hk2 hk3 hk4
    refine hK.out _ _ hHeld (fun hHeld => ?_)
    clear hK KC
    refine take_v (v := ?_) 7 ⟨some 12, Op.move (Operand.tmp 19), _, _, _, none⟩ rfl (fun _ _ _ h => h) ?_ hHeld ?_
    rotate_left
    · (intro W _; go_simp <;> (try with_reducible rfl))
    refine take_v (v := ?_) 8 ⟨some 20, Op.extract (Operand.tmp 12) 0, _, _, _, none⟩ rfl (fun _ _ _ h => h) ?_ hHeld ?_
    rotate_left
    · (intro W _; go_simp <;> (try with_reducible rfl))
    refine take_v (v := ?_) 9 ⟨some 21, Op.extract (Operand.tmp 12) 1, _, _, _, none⟩ rfl (fun _ _ _ h => h) ?_ hHeld ?_
    rotate_left
    · (intro W _; go_simp <;> (try with_reducible rfl))
    refine ready_call 10 ⟨some 5, Op.alloc 37, _, _, _, none⟩ (by kernel_rfl) rfl (by kernel_rfl) (fun KC hK => ?_)
    go_wp2_with fail
    obtain ⟨Y2, hY2⟩ : ∃ x, x = Y0.alloc (.cells #[.int .i64 0, .int .i64 0, .slice none 0 0, .int .i64 0] 37) := ⟨_, rfl⟩
    have H7 : Hid (Bx Y2 Y0.heap.size [.int .i64 0, .int .i64 0, .slice none 0 0, .int .i64 0]) := hY2 ▸ Bx.new Y0 [_, _, _, _] _
    have HD2 : Hid ((OpX lo p b Y2 ep du ms en L B ve ∧ Bx Y2 W.heap.size [.int .i64 6, .int .i64 id, .int .i64 n] ∧ Below W.heap.size W Y2 ∧ W.heap.size < Y2.heap.size) ∧ Y0.heap.size < Y2.heap.size) := Hid.intro (by
      have hb : Below Y0.heap.size Y0 Y2 := hY2 ▸ Go.Joins.below_alloc1 _ _
      have hz : Y2.heap.size = Y0.heap.size + 1 := by rw [hY2]; simp
      exact ⟨⟨HD.out.1.next hb, HD.out.2.1.next hb, below_next HD.out.2.2.1 hb, by have := HD.out.2.2.2; omega⟩, by omega⟩)
    obtain ⟨bm, hbm⟩ : ∃ q, q = Y0.heap.size := ⟨_, rfl⟩
    have H7 : Hid (Bx Y2 bm [.int .i64 0, .int .i64 0, .slice none 0 0, .int .i64 0]) := hbm ▸ H7
    have hbW : W.heap.size < bm := by rw [hbm]; exact HD.out.2.2.2
    have HOB : Hid (OpX lo p b Y0 ep du ms en L B ve ∧ Below Y0.heap.size Y0 Y2 ∧ Y0.heap.size = bm) := ⟨HD.out.1, hY2 ▸ Go.Joins.below_alloc1 _ _, hbm.symm⟩
    have HD := (show Hid (OpX lo p b Y2 ep du ms en L B ve ∧ Bx Y2 W.heap.size [.int .i64 6, .int .i64 id, .int .i64 n] ∧ Below W.heap.size W Y2 ∧ W.heap.size < Y2.heap.size) from HD2.out.1)
    rw [← hY2, ← hbm]
    clear hY2 hbm HD2
    refine hK.out _ _ ⟨HD.out.1.1, HD.out.2.1⟩ (fun hHeld => ?_)
    clear hK KC
    refine ready_call 11 ⟨none, Op.store 37 (Operand.tmp 5) (Operand.tmp 20), _, _, _, none⟩ (by kernel_rfl) rfl (by kernel_rfl) (fun KC hK => ?_)
    have d0 := H7.out.cell 0 rfl
    have d1 := H7.out.cell 1 rfl
    have d2 := H7.out.cell 2 rfl
    have d3 := H7.out.cell 3 rfl
    have dz := H7.out.2
    have df0 := H7.out.frz 0 (by simp)
    have df1 := H7.out.frz 1 (by simp)
    have df2 := H7.out.frz 2 (by simp)
    have df3 := H7.out.frz 3 (by simp)
    go_wp2_with fail
    clear d0 d1 d2 d3 dz df0 df1 df2 df3
    have HF : Hid (∃ Z, Z = ((((Y2.setCell ⟨bm, 0, none⟩ (.int .i64 x0)).setCell ⟨bm, 1, none⟩ (.int .i64 x1)).setCell ⟨bm, 2, none⟩ (.slice xa x2.length xc)).setCell ⟨bm, 3, none⟩ (.int .i64 x3)) ∧ OpX lo p b Z ep du ms en L B ve ∧ Bx Z W.heap.size [.int .i64 6, .int .i64 id, .int .i64 n] ∧ Bx Z bm [.int .i64 x0, .int .i64 x1, .slice xa x2.length xc, .int .i64 x3] ∧ Below W.heap.size W Z) := Hid.intro (by
      have hs := set4 Y2 bm (.int .i64 x0) (.int .i64 x1) (.slice xa x2.length xc) (.int .i64 x3)
      have hsz := HOB.out.1.sizes
      refine ⟨_, rfl, HOB.out.1.turn (T := fun k => k = bm) ((TurnS.of_below HOB.out.2.1).trans hs) (fun k q => Or.inl (by have q : k = bm := q; have := HOB.out.2.2; omega)), HD.out.2.1.turnS hs (fun q => by have q : W.heap.size = bm := q; omega), (((H7.out.set (k := 0) (by simp) _).set (k := 1) (by simp) _).set (k := 2) (by simp) _).set (k := 3) (by simp) _, HD.out.2.2.1.trans (hs.below (fun k q => by have q : k = bm := q; omega) HD.out.2.2.1.size)⟩)
    obtain ⟨Z, hZ, hF1, hF2, hF3, hF4⟩ := HF.out
    rw [← hZ]
    have HZ : Hid (OpX lo p b Z ep du ms en L B ve ∧ Bx Z W.heap.size [.int .i64 6, .int .i64 id, .int .i64 n] ∧ Bx Z bm [.int .i64 x0, .int .i64 x1, .slice xa x2.length xc, .int .i64 x3] ∧ Below W.heap.size W Z) := ⟨hF1, hF2, hF3, hF4⟩
    clear hZ hF1 hF2 hF3 hF4 HF
    refine hK.out _ _ ⟨HZ.out.1.1, HZ.out.2.1⟩ (fun hHeld => ?_)
    clear hK KC
    refine take_v (v := ?_) 12 ⟨some 6, Op.assign (Operand.tmp 21), _, _, _, none⟩ rfl (fun _ _ _ h => h) ?_ hHeld ?_
    rotate_left
    · (intro W _; go_simp <;> (try with_reducible rfl))
    refine wpAnyH_done (by kernel_rfl) ?_ _
    refine NoPanic.normal ?_
    clear hHeld
    have m0 := HZ.out.2.2.1.cell 0 rfl
    have m1 := HZ.out.2.2.1.cell 1 rfl
    have m2 := HZ.out.2.2.1.cell 2 rfl
    have m3 := HZ.out.2.2.1.cell 3 rfl
    have mz := HZ.out.2.2.1.2
    have t0 := HZ.out.2.1.cell 0 rfl
    have t1 := HZ.out.2.1.cell 1 rfl
    have t2 := HZ.out.2.1.cell 2 rfl
    have tz := HZ.out.2.1.2
    go_wp2_with fail
    refine (join_n lo p b ep du ms en L B ve i n _ HZ.out.1 HG.out.2.1 (Nat.le_trans hlo HZ.out.2.2.2.size) HG.out.1 x0 x1 x2 x3 xa xc HG.out.2.2.2.choose HG.out.2.2.2.choose_spec.1 HG.out.2.2.2.choose_spec.2).mono ?_
    intro r w2 hr
    have HR := Hid.intro (hr.back hlo HZ.out.2.2.2)
    (obtain ⟨rfl, _, _⟩ := hr)
    (generalize (memF ep du ms en 6 n i (mkMb x0 x1 x2 x3)).isSome = z at *)
    go_wp2_with fail
    go_ret
    exact HR.out
  ·
    go_wp2_with fail
    obtain ⟨Y2, hY2⟩ : ∃ x, x = Y0.alloc (.cells #[.int .i64 0, .int .i64 0, .slice none 0 0, .int .i64 0] 37) := ⟨_, rfl⟩
    have H7 : Hid (Bx Y2 Y0.heap.size [.int .i64 0, .int .i64 0, .slice none 0 0, .int .i64 0]) := hY2 ▸ Bx.new Y0 [_, _, _, _] _
    have HD2 : Hid ((OpX lo p b Y2 ep du ms en L B ve ∧ Bx Y2 W.heap.size [.int .i64 6, .int .i64 id, .int .i64 n] ∧ Below W.heap.size W Y2 ∧ W.heap.size < Y2.heap.size) ∧ Y0.heap.size < Y2.heap.size) := Hid.intro (by
      have hb : Below Y0.heap.size Y0 Y2 := hY2 ▸ Go.Joins.below_alloc1 _ _
      have hz : Y2.heap.size = Y0.heap.size + 1 := by rw [hY2]; simp
      exact ⟨⟨HD.out.1.next hb, HD.out.2.1.next hb, below_next HD.out.2.2.1 hb, by have := HD.out.2.2.2; omega⟩, by omega⟩)
    obtain ⟨bm, hbm⟩ : ∃ q, q = Y0.heap.size := ⟨_, rfl⟩
    have H7 : Hid (Bx Y2 bm [.int .i64 0, .int .i64 0, .slice none 0 0, .int .i64 0]) := hbm ▸ H7
    have hbW : W.heap.size < bm := by rw [hbm]; exact HD.out.2.2.2
    have HOB : Hid (OpX lo p b Y0 ep du ms en L B ve ∧ Below Y0.heap.size Y0 Y2 ∧ Y0.heap.size = bm) := ⟨HD.out.1, hY2 ▸ Go.Joins.below_alloc1 _ _, hbm.symm⟩
    have HD := (show Hid (OpX lo p b Y2 ep du ms en L B ve ∧ Bx Y2 W.heap.size [.int .i64 6, .int .i64 id, .int .i64 n] ∧ Below W.heap.size W Y2 ∧ W.heap.size < Y2.heap.size) from HD2.out.1)
    rw [← hY2, ← hbm]
    clear hY2 hbm HD2
    refine hK.out _ _ ⟨HD.out.1.1, HD.out.2.1⟩ (fun hHeld => ?_)
    clear hK KC
    refine ready_call 6 ⟨some 19, Op.lookup 89 (Operand.tmp 16) (Operand.tmp 18) true, _, _, _, none⟩ (by kernel_rfl) rfl (by kernel_rfl) (fun KC hK => ?_)
    obtain ⟨hk1, hk2, hk3, hk4⟩ := HK.out
    refine wp_lookup_yes (z := .agg #[.int .i64 0, .int .i64 0, .slice none 0 0, .int .i64 0]) (.tmp 16) (.tmp 18) (by rfl) Try.underlying89 Try.underlying3 (by kernel_rfl) HD.out.1.2.1 (by rfl) (by rfl) hk1 hk2 hk3 ?_
    rw [hk4]
    clear hk1 hk2 hk3 hk4
    refine hK.out _ _ hHeld (fun hHeld => ?_)
    clear hK KC
    refine take_v (v := ?_) 7 ⟨some 12, Op.move (Operand.tmp 19), _, _, _, none⟩ rfl (fun _ _ _ h => h) ?_ hHeld ?_
    rotate_left
    · (intro W _; go_simp <;> (try with_reducible rfl))
    refine take_v (v := ?_) 8 ⟨some 20, Op.extract (Operand.tmp 12) 0, _, _, _, none⟩ rfl (fun _ _ _ h => h) ?_ hHeld ?_
    rotate_left
    · (intro W _; go_simp <;> (try with_reducible rfl))
    refine take_v (v := ?_) 9 ⟨some 21, Op.extract (Operand.tmp 12) 1, _, _, _, none⟩ rfl (fun _ _ _ h => h) ?_ hHeld ?_
    rotate_left
    · (intro W _; go_simp <;> (try with_reducible rfl))
    refine ready_call 11 ⟨none, Op.store 37 (Operand.tmp 5) (Operand.tmp 20), _, _, _, none⟩ (by kernel_rfl) rfl (by kernel_rfl) (fun KC hK => ?_)
    have d0 := H7.out.cell 0 rfl
    have d1 := H7.out.cell 1 rfl
    have d2 := H7.out.cell 2 rfl
    have d3 := H7.out.cell 3 rfl
    have dz := H7.out.2
    have df0 := H7.out.frz 0 (by simp)
    have df1 := H7.out.frz 1 (by simp)
    have df2 := H7.out.frz 2 (by simp)
    have df3 := H7.out.frz 3 (by simp)
    go_wp2_with fail
    clear d0 d1 d2 d3 dz df0 df1 df2 df3
    have HF : Hid (∃ Z, Z = ((((Y2.setCell ⟨bm, 0, none⟩ (.int .i64 x0)).setCell ⟨bm, 1, none⟩ (.int .i64 x1)).setCell ⟨bm, 2, none⟩ (.slice xa x2.length xc)).setCell ⟨bm, 3, none⟩ (.int .i64 x3)) ∧ OpX lo p b Z ep du ms en L B ve ∧ Bx Z W.heap.size [.int .i64 6, .int .i64 id, .int .i64 n] ∧ Bx Z bm [.int .i64 x0, .int .i64 x1, .slice xa x2.length xc, .int .i64 x3] ∧ Below W.heap.size W Z) := Hid.intro (by
      have hs := set4 Y2 bm (.int .i64 x0) (.int .i64 x1) (.slice xa x2.length xc) (.int .i64 x3)
      have hsz := HOB.out.1.sizes
      refine ⟨_, rfl, HOB.out.1.turn (T := fun k => k = bm) ((TurnS.of_below HOB.out.2.1).trans hs) (fun k q => Or.inl (by have q : k = bm := q; have := HOB.out.2.2; omega)), HD.out.2.1.turnS hs (fun q => by have q : W.heap.size = bm := q; omega), (((H7.out.set (k := 0) (by simp) _).set (k := 1) (by simp) _).set (k := 2) (by simp) _).set (k := 3) (by simp) _, HD.out.2.2.1.trans (hs.below (fun k q => by have q : k = bm := q; omega) HD.out.2.2.1.size)⟩)
    obtain ⟨Z, hZ, hF1, hF2, hF3, hF4⟩ := HF.out
    rw [← hZ]
    have HZ : Hid (OpX lo p b Z ep du ms en L B ve ∧ Bx Z W.heap.size [.int .i64 6, .int .i64 id, .int .i64 n] ∧ Bx Z bm [.int .i64 x0, .int .i64 x1, .slice xa x2.length xc, .int .i64 x3] ∧ Below W.heap.size W Z) := ⟨hF1, hF2, hF3, hF4⟩
    clear hZ hF1 hF2 hF3 hF4 HF
    refine hK.out _ _ ⟨HZ.out.1.1, HZ.out.2.1⟩ (fun hHeld => ?_)
    clear hK KC
    refine take_v (v := ?_) 12 ⟨some 6, Op.assign (Operand.tmp 21), _, _, _, none⟩ rfl (fun _ _ _ h => h) ?_ hHeld ?_
    rotate_left
    · (intro W _; go_simp <;> (try with_reducible rfl))
    refine wpAnyH_done (by kernel_rfl) ?_ _
    refine NoPanic.normal ?_
    clear hHeld
    have m0 := HZ.out.2.2.1.cell 0 rfl
    have m1 := HZ.out.2.2.1.cell 1 rfl
    have m2 := HZ.out.2.2.1.cell 2 rfl
    have m3 := HZ.out.2.2.1.cell 3 rfl
    have mz := HZ.out.2.2.1.2
    have t0 := HZ.out.2.1.cell 0 rfl
    have t1 := HZ.out.2.1.cell 1 rfl
    have t2 := HZ.out.2.1.cell 2 rfl
    have tz := HZ.out.2.1.2
    go_wp2_with fail
    refine (join_n lo p b ep du ms en L B ve i n _ HZ.out.1 HG.out.2.1 (Nat.le_trans hlo HZ.out.2.2.2.size) HG.out.1 x0 x1 x2 x3 xa xc HG.out.2.2.2.choose HG.out.2.2.2.choose_spec.1 HG.out.2.2.2.choose_spec.2).mono ?_
    intro r w2 hr
    have HR := Hid.intro (hr.back hlo HZ.out.2.2.2)
    (obtain ⟨rfl, _, _⟩ := hr)
    (generalize (memF ep du ms en 6 n i (mkMb x0 x1 x2 x3)).isSome = z at *)
    go_wp2_with fail
    go_ret
    exact HR.out

set_option maxRecDepth 100000 in
set_option maxHeartbeats 8000000 in
theorem tkF_x (lo p b : Nat) (ep du : Int) (ms : List (Sh.T shMember)) (en : List (Sh.T .int)) (L : List MbV) (B : Nat → Nat → Prop) (ve : Value) (a : Int) (id n : Int) (i : Nat) (W : World) (hX : OpX lo p b W ep du ms en L B ve) (hi : i < ms.length) (hlo : lo ≤ W.heap.size) (hG : goodF ep du ms en) (htot : en.length + runT ms < 200) (hid : mid ms[i] = id) (x0 x1 : Int) (x2 : List (Sh.T .int)) (x3 : Int) (xa : Option Addr) (xc : Nat) (hL : i < L.length) (e1 : L[i] = (x0, x1, (xa, x2.length, xc), x3)) (e2 : ms[i] = mkMb x0 x1 x2 x3) (h1 : a ≠ 1) (h2 : a ≠ 2) (h3 : a ≠ 3) (h4 : a ≠ 4) (h5 : a ≠ 5) (h6 : a ≠ 6) :
    Calls Try.prog 50 #[.pointer (some ⟨p, 0, none⟩), .agg #[.int .i64 a, .int .i64 id, .int .i64 n]] W (StO lo p b (memF ep du ms en a n i (mkMb x0 x1 x2 x3)) W) := by
  obtain ⟨W1, hW1⟩ : ∃ x, x = W.alloc (.cells #[.int .i64 a, .int .i64 id, .int .i64 n] 40) := ⟨_, rfl⟩
  have HM : Hid (OpX lo p b W1 ep du ms en L B ve ∧ Bx W1 W.heap.size [.int .i64 a, .int .i64 id, .int .i64 n] ∧ Below W.heap.size W W1 ∧ lo ≤ W1.heap.size) := Hid.intro (by
    have hb : Below W.heap.size W W1 := hW1 ▸ Go.Joins.below_alloc1 _ _
    exact ⟨hX.next hb, hW1 ▸ Bx.new W [_, _, _] _, hb, Nat.le_trans hlo hb.size⟩)
  obtain ⟨hk1, hk2, hk3⟩ := hX.first hG.2.2.2.2.1 hi
  rw [hid] at hk2 hk3
  have HK : Hid (∃ hj : i < (L.map mbV).length, (L.map mbV)[i].1 = id ∧ (∀ z (hz : z < (L.map mbV).length), z < i → (L.map mbV)[z].1 ≠ id) ∧ (L.map mbV)[i].2 = .agg #[.int .i64 x0, .int .i64 x1, .slice xa x2.length xc, .int .i64 x3]) := ⟨hk1, hk2, hk3, by rw [List.getElem_map, e1]; rfl⟩
  have HG : Hid (goodF ep du ms en ∧ i < ms.length ∧ en.length + runT ms < 200 ∧ ∃ hL : i < L.length, L[i] = (x0, x1, (xa, x2.length, xc), x3) ∧ ms[i] = mkMb x0 x1 x2 x3) := ⟨hG, hi, htot, hL, e1, e2⟩
  have q1 : (a == 1) = false := beq_false_of_ne h1
  have q2 : (a == 2) = false := beq_false_of_ne h2
  have q3 : (a == 3) = false := beq_false_of_ne h3
  have q4 : (a == 4) = false := beq_false_of_ne h4
  have q5 : (a == 5) = false := beq_false_of_ne h5
  have q6 : (a == 6) = false := beq_false_of_ne h6
  have HN : Hid (memF ep du ms en a n i (mkMb x0 x1 x2 x3) = none) := Hid.intro (by unfold memF; rw [if_neg h1, if_neg h2, if_neg h3, if_neg h6, if_neg h5])
  clear h1 h2 h3 h4 h5 h6
  clear hX hG e1 e2 hk2 hk3 hk1 hid htot
  have t0 := (HM.out.2.1).cell 0 rfl; have t1 := (HM.out.2.1).cell 1 rfl; have t2 := (HM.out.2.1).cell 2 rfl; have tz := (HM.out.2.1).2
  go_enter Try.func50, Try.ntmps50
  go_upto_region 1 with fail
  rw [← hW1]
  clear hW1
  go_upto_region 3 with fail
  clear t0 t1 t2 tz
  have HD : Hid (OpX lo p b W1.drew ep du ms en L B ve ∧ Bx W1.drew W.heap.size [.int .i64 a, .int .i64 id, .int .i64 n] ∧ Below W.heap.size W W1.drew ∧ W.heap.size < W1.drew.heap.size) := ⟨HM.out.1.next (below_drew _), HM.out.2.1.next (below_drew _), below_next HM.out.2.2.1 (below_drew _), HM.out.2.1.2⟩
  refine wp_region_noPanic ?_
  refine wp_region_held_drew (S := fun W9 => Bx W9 p [.int .i64 ep, .int .i64 du, .map (some b), ve] ∧ Bx W9 W.heap.size [.int .i64 a, .int .i64 id, .int .i64 n]) (by kernel_rfl) ⟨HD.out.1.1, HD.out.2.1⟩ (fun hHeld => ?_)
  obtain ⟨Y0, hWE⟩ : ∃ x, x = W1.drew := ⟨_, rfl⟩
  rw [← hWE] at HD hHeld ⊢
  clear hWE HM
  refine take_v (v := ?_) 0 ⟨some 13, Op.move (Operand.tmp 0), _, _, _, none⟩ rfl (fun _ _ _ h => h) ?_ hHeld ?_
  rotate_left
  · (intro W _; go_simp <;> (try with_reducible rfl))
  refine take_v (v := ?_) 1 ⟨some 14, Op.nilCheck (Operand.tmp 13), _, _, _, none⟩ rfl (fun _ _ _ h => h) ?_ hHeld ?_
  rotate_left
  · (intro W _; go_simp <;> (try with_reducible rfl))
  refine take_v (v := ?_) 2 ⟨some 15, Op.fieldAddr 91 (Operand.tmp 14) 2, _, _, _, none⟩ rfl (fun _ _ _ h => h) ?_ hHeld ?_
  rotate_left
  · (intro W _; go_simp <;> (try with_reducible rfl))
  refine take_v (v := ?_) 3 ⟨some 16, Op.load 89 (Operand.tmp 15), _, _, _, none⟩ rfl (fun _ _ _ h => h) ?_ hHeld ?_
  rotate_left
  · (intro W hSW; (have s2 := hSW.1.cell 2 rfl; have sz := hSW.1.2; have t1 := hSW.2.cell 1 rfl; have tz := hSW.2.2); go_simp <;> (try with_reducible rfl))
  refine take_v (v := ?_) 4 ⟨some 17, Op.fieldAddr 40 (Operand.tmp 3) 1, _, _, _, none⟩ rfl (fun _ _ _ h => h) ?_ hHeld ?_
  rotate_left
  · (intro W _; go_simp <;> (try with_reducible rfl))
  refine take_v (v := ?_) 5 ⟨some 18, Op.load 3 (Operand.tmp 17), _, _, _, none⟩ rfl (fun _ _ _ h => h) ?_ hHeld ?_
  rotate_left
  · (intro W hSW; (have s2 := hSW.1.cell 2 rfl; have sz := hSW.1.2; have t1 := hSW.2.cell 1 rfl; have tz := hSW.2.2); go_simp <;> (try with_reducible rfl))
  refine ready_two 6 10 ⟨some 19, Op.lookup 89 (Operand.tmp 16) (Operand.tmp 18) true, _, _, _, none⟩ ⟨some 5, Op.alloc 37, _, _, _, none⟩ (by kernel_rfl) rfl rfl (by kernel_rfl) (by kernel_rfl) (fun KC hK => ?_) (fun KC hK => ?_)
  ·
    obtain ⟨hk1, hk2, hk3, hk4⟩ := HK.out
    refine wp_lookup_yes (z := .agg #[.int .i64 0, .int .i64 0, .slice none 0 0, .int .i64 0]) (.tmp 16) (.tmp 18) (by rfl) Try.underlying89 Try.underlying3 (by kernel_rfl) HD.out.1.2.1 (by rfl) (by rfl) hk1 hk2 hk3 ?_
    rw [hk4]
    clear hk1 hk2 hk3 hk4
    refine hK.out _ _ hHeld (fun hHeld => ?_)
    clear hK KC
    refine take_v (v := ?_) 7 ⟨some 12, Op.move (Operand.tmp 19), _, _, _, none⟩ rfl (fun _ _ _ h => h) ?_ hHeld ?_
    rotate_left
    · (intro W _; go_simp <;> (try with_reducible rfl))
    refine take_v (v := ?_) 8 ⟨some 20, Op.extract (Operand.tmp 12) 0, _, _, _, none⟩ rfl (fun _ _ _ h => h) ?_ hHeld ?_
    rotate_left
    · (intro W _; go_simp <;> (try with_reducible rfl))
    refine take_v (v := ?_) 9 ⟨some 21, Op.extract (Operand.tmp 12) 1, _, _, _, none⟩ rfl (fun _ _ _ h => h) ?_ hHeld ?_
    rotate_left
    · (intro W _; go_simp <;> (try with_reducible rfl))
    refine ready_call 10 ⟨some 5, Op.alloc 37, _, _, _, none⟩ (by kernel_rfl) rfl (by kernel_rfl) (fun KC hK => ?_)
    go_wp2_with fail
    obtain ⟨Y2, hY2⟩ : ∃ x, x = Y0.alloc (.cells #[.int .i64 0, .int .i64 0, .slice none 0 0, .int .i64 0] 37) := ⟨_, rfl⟩
    have H7 : Hid (Bx Y2 Y0.heap.size [.int .i64 0, .int .i64 0, .slice none 0 0, .int .i64 0]) := hY2 ▸ Bx.new Y0 [_, _, _, _] _
    have HD2 : Hid ((OpX lo p b Y2 ep du ms en L B ve ∧ Bx Y2 W.heap.size [.int .i64 a, .int .i64 id, .int .i64 n] ∧ Below W.heap.size W Y2 ∧ W.heap.size < Y2.heap.size) ∧ Y0.heap.size < Y2.heap.size) := Hid.intro (by
      have hb : Below Y0.heap.size Y0 Y2 := hY2 ▸ Go.Joins.below_alloc1 _ _
      have hz : Y2.heap.size = Y0.heap.size + 1 := by rw [hY2]; simp
      exact ⟨⟨HD.out.1.next hb, HD.out.2.1.next hb, below_next HD.out.2.2.1 hb, by have := HD.out.2.2.2; omega⟩, by omega⟩)
    obtain ⟨bm, hbm⟩ : ∃ q, q = Y0.heap.size := ⟨_, rfl⟩
    have H7 : Hid (Bx Y2 bm [.int .i64 0, .int .i64 0, .slice none 0 0, .int .i64 0]) := hbm ▸ H7
    have hbW : W.heap.size < bm := by rw [hbm]; exact HD.out.2.2.2
    have HOB : Hid (OpX lo p b Y0 ep du ms en L B ve ∧ Below Y0.heap.size Y0 Y2 ∧ Y0.heap.size = bm) := ⟨HD.out.1, hY2 ▸ Go.Joins.below_alloc1 _ _, hbm.symm⟩
    have HD := (show Hid (OpX lo p b Y2 ep du ms en L B ve ∧ Bx Y2 W.heap.size [.int .i64 a, .int .i64 id, .int .i64 n] ∧ Below W.heap.size W Y2 ∧ W.heap.size < Y2.heap.size) from HD2.out.1)
    rw [← hY2, ← hbm]
    clear hY2 hbm HD2
    refine hK.out _ _ ⟨HD.out.1.1, HD.out.2.1⟩ (fun hHeld => ?_)
    clear hK KC
    refine ready_call 11 ⟨none, Op.store 37 (Operand.tmp 5) (Operand.tmp 20), _, _, _, none⟩ (by kernel_rfl) rfl (by kernel_rfl) (fun KC hK => ?_)
    have d0 := H7.out.cell 0 rfl
    have d1 := H7.out.cell 1 rfl
    have d2 := H7.out.cell 2 rfl
    have d3 := H7.out.cell 3 rfl
    have dz := H7.out.2
    have df0 := H7.out.frz 0 (by simp)
    have df1 := H7.out.frz 1 (by simp)
    have df2 := H7.out.frz 2 (by simp)
    have df3 := H7.out.frz 3 (by simp)
    go_wp2_with fail
    clear d0 d1 d2 d3 dz df0 df1 df2 df3
    have HF : Hid (∃ Z, Z = ((((Y2.setCell ⟨bm, 0, none⟩ (.int .i64 x0)).setCell ⟨bm, 1, none⟩ (.int .i64 x1)).setCell ⟨bm, 2, none⟩ (.slice xa x2.length xc)).setCell ⟨bm, 3, none⟩ (.int .i64 x3)) ∧ OpX lo p b Z ep du ms en L B ve ∧ Bx Z W.heap.size [.int .i64 a, .int .i64 id, .int .i64 n] ∧ Bx Z bm [.int .i64 x0, .int .i64 x1, .slice xa x2.length xc, .int .i64 x3] ∧ Below W.heap.size W Z) := Hid.intro (by
      have hs := set4 Y2 bm (.int .i64 x0) (.int .i64 x1) (.slice xa x2.length xc) (.int .i64 x3)
      have hsz := HOB.out.1.sizes
      refine ⟨_, rfl, HOB.out.1.turn (T := fun k => k = bm) ((TurnS.of_below HOB.out.2.1).trans hs) (fun k q => Or.inl (by have q : k = bm := q; have := HOB.out.2.2; omega)), HD.out.2.1.turnS hs (fun q => by have q : W.heap.size = bm := q; omega), (((H7.out.set (k := 0) (by simp) _).set (k := 1) (by simp) _).set (k := 2) (by simp) _).set (k := 3) (by simp) _, HD.out.2.2.1.trans (hs.below (fun k q => by have q : k = bm := q; omega) HD.out.2.2.1.size)⟩)
    obtain ⟨Z, hZ, hF1, hF2, hF3, hF4⟩ := HF.out
    rw [← hZ]
    have HZ : Hid (OpX lo p b Z ep du ms en L B ve ∧ Bx Z W.heap.size [.int .i64 a, .int .i64 id, .int .i64 n] ∧ Bx Z bm [.int .i64 x0, .int .i64 x1, .slice xa x2.length xc, .int .i64 x3] ∧ Below W.heap.size W Z) := ⟨hF1, hF2, hF3, hF4⟩
    clear hZ hF1 hF2 hF3 hF4 HF
    refine hK.out _ _ ⟨HZ.out.1.1, HZ.out.2.1⟩ (fun hHeld => ?_)
    clear hK KC
    refine take_v (v := ?_) 12 ⟨some 6, Op.assign (Operand.tmp 21), _, _, _, none⟩ rfl (fun _ _ _ h => h) ?_ hHeld ?_
    rotate_left
    · (intro W _; go_simp <;> (try with_reducible rfl))
    refine wpAnyH_done (by kernel_rfl) ?_ _
    refine NoPanic.normal ?_
    clear hHeld
    have m0 := HZ.out.2.2.1.cell 0 rfl
    have m1 := HZ.out.2.2.1.cell 1 rfl
    have m2 := HZ.out.2.2.1.cell 2 rfl
    have m3 := HZ.out.2.2.1.cell 3 rfl
    have mz := HZ.out.2.2.1.2
    have t0 := HZ.out.2.1.cell 0 rfl
    have t1 := HZ.out.2.1.cell 1 rfl
    have t2 := HZ.out.2.1.cell 2 rfl
    have tz := HZ.out.2.1.2
    go_wp2_with fail
    go_ret
    exact StO.no HN.out (HZ.out.2.2.2.mono hlo)
  ·
    go_wp2_with fail
    obtain ⟨Y2, hY2⟩ : ∃ x, x = Y0.alloc (.cells #[.int .i64 0, .int .i64 0, .slice none 0 0, .int .i64 0] 37) := ⟨_, rfl⟩
    have H7 : Hid (Bx Y2 Y0.heap.size [.int .i64 0, .int .i64 0, .slice none 0 0, .int .i64 0]) := hY2 ▸ Bx.new Y0 [_, _, _, _] _
    have HD2 : Hid ((OpX lo p b Y2 ep du ms en L B ve ∧ Bx Y2 W.heap.size [.int .i64 a, .int .i64 id, .int .i64 n] ∧ Below W.heap.size W Y2 ∧ W.heap.size < Y2.heap.size) ∧ Y0.heap.size < Y2.heap.size) := Hid.intro (by
      have hb : Below Y0.heap.size Y0 Y2 := hY2 ▸ Go.Joins.below_alloc1 _ _
      have hz : Y2.heap.size = Y0.heap.size + 1 := by rw [hY2]; simp
      exact ⟨⟨HD.out.1.next hb, HD.out.2.1.next hb, below_next HD.out.2.2.1 hb, by have := HD.out.2.2.2; omega⟩, by omega⟩)
    obtain ⟨bm, hbm⟩ : ∃ q, q = Y0.heap.size := ⟨_, rfl⟩
    have H7 : Hid (Bx Y2 bm [.int .i64 0, .int .i64 0, .slice none 0 0, .int .i64 0]) := hbm ▸ H7
    have hbW : W.heap.size < bm := by rw [hbm]; exact HD.out.2.2.2
    have HOB : Hid (OpX lo p b Y0 ep du ms en L B ve ∧ Below Y0.heap.size Y0 Y2 ∧ Y0.heap.size = bm) := ⟨HD.out.1, hY2 ▸ Go.Joins.below_alloc1 _ _, hbm.symm⟩
    have HD := (show Hid (OpX lo p b Y2 ep du ms en L B ve ∧ Bx Y2 W.heap.size [.int .i64 a, .int .i64 id, .int .i64 n] ∧ Below W.heap.size W Y2 ∧ W.heap.size < Y2.heap.size) from HD2.out.1)
    rw [← hY2, ← hbm]
    clear hY2 hbm HD2
    refine hK.out _ _ ⟨HD.out.1.1, HD.out.2.1⟩ (fun hHeld => ?_)
    clear hK KC
    refine ready_call 6 ⟨some 19, Op.lookup 89 (Operand.tmp 16) (Operand.tmp 18) true, _, _, _, none⟩ (by kernel_rfl) rfl (by kernel_rfl) (fun KC hK => ?_)
    obtain ⟨hk1, hk2, hk3, hk4⟩ := HK.out
    refine wp_lookup_yes (z := .agg #[.int .i64 0, .int .i64 0, .slice none 0 0, .int .i64 0]) (.tmp 16) (.tmp 18) (by rfl) Try.underlying89 Try.underlying3 (by kernel_rfl) HD.out.1.2.1 (by rfl) (by rfl) hk1 hk2 hk3 ?_
    rw [hk4]
    clear hk1 hk2 hk3 hk4
    refine hK.out _ _ hHeld (fun hHeld => ?_)
    clear hK KC
    refine take_v (v := ?_) 7 ⟨some 12, Op.move (Operand.tmp 19), _, _, _, none⟩ rfl (fun _ _ _ h => h) ?_ hHeld ?_
    rotate_left
    · (intro W _; go_simp <;> (try with_reducible rfl))
    refine take_v (v := ?_) 8 ⟨some 20, Op.extract (Operand.tmp 12) 0, _, _, _, none⟩ rfl (fun _ _ _ h => h) ?_ hHeld ?_
    rotate_left
    · (intro W _; go_simp <;> (try with_reducible rfl))
    refine take_v (v := ?_) 9 ⟨some 21, Op.extract (Operand.tmp 12) 1, _, _, _, none⟩ rfl (fun _ _ _ h => h) ?_ hHeld ?_
    rotate_left
    · (intro W _; go_simp <;> (try with_reducible rfl))
    refine ready_call 11 ⟨none, Op.store 37 (Operand.tmp 5) (Operand.tmp 20), _, _, _, none⟩ (by kernel_rfl) rfl (by kernel_rfl) (fun KC hK => ?_)
    have d0 := H7.out.cell 0 rfl
    have d1 := H7.out.cell 1 rfl
    have d2 := H7.out.cell 2 rfl
    have d3 := H7.out.cell 3 rfl
    have dz := H7.out.2
    have df0 := H7.out.frz 0 (by simp)
    have df1 := H7.out.frz 1 (by simp)
    have df2 := H7.out.frz 2 (by simp)
    have df3 := H7.out.frz 3 (by simp)
    go_wp2_with fail
    clear d0 d1 d2 d3 dz df0 df1 df2 df3
    have HF : Hid (∃ Z, Z = ((((Y2.setCell ⟨bm, 0, none⟩ (.int .i64 x0)).setCell ⟨bm, 1, none⟩ (.int .i64 x1)).setCell ⟨bm, 2, none⟩ (.slice xa x2.length xc)).setCell ⟨bm, 3, none⟩ (.int .i64 x3)) ∧ OpX lo p b Z ep du ms en L B ve ∧ Bx Z W.heap.size [.int .i64 a, .int .i64 id, .int .i64 n] ∧ Bx Z bm [.int .i64 x0, .int .i64 x1, .slice xa x2.length xc, .int .i64 x3] ∧ Below W.heap.size W Z) := Hid.intro (by
      have hs := set4 Y2 bm (.int .i64 x0) (.int .i64 x1) (.slice xa x2.length xc) (.int .i64 x3)
      have hsz := HOB.out.1.sizes
      refine ⟨_, rfl, HOB.out.1.turn (T := fun k => k = bm) ((TurnS.of_below HOB.out.2.1).trans hs) (fun k q => Or.inl (by have q : k = bm := q; have := HOB.out.2.2; omega)), HD.out.2.1.turnS hs (fun q => by have q : W.heap.size = bm := q; omega), (((H7.out.set (k := 0) (by simp) _).set (k := 1) (by simp) _).set (k := 2) (by simp) _).set (k := 3) (by simp) _, HD.out.2.2.1.trans (hs.below (fun k q => by have q : k = bm := q; omega) HD.out.2.2.1.size)⟩)
    obtain ⟨Z, hZ, hF1, hF2, hF3, hF4⟩ := HF.out
    rw [← hZ]
    have HZ : Hid (OpX lo p b Z ep du ms en L B ve ∧ Bx Z W.heap.size [.int .i64 a, .int .i64 id, .int .i64 n] ∧ Bx Z bm [.int .i64 x0, .int .i64 x1, .slice xa x2.length xc, .int .i64 x3] ∧ Below W.heap.size W Z) := ⟨hF1, hF2, hF3, hF4⟩
    clear hZ hF1 hF2 hF3 hF4 HF
    refine hK.out _ _ ⟨HZ.out.1.1, HZ.out.2.1⟩ (fun hHeld => ?_)
    clear hK KC
    refine take_v (v := ?_) 12 ⟨some 6, Op.assign (Operand.tmp 21), _, _, _, none⟩ rfl (fun _ _ _ h => h) ?_ hHeld ?_
    rotate_left
    · (intro W _; go_simp <;> (try with_reducible rfl))
    refine wpAnyH_done (by kernel_rfl) ?_ _
    refine NoPanic.normal ?_
    clear hHeld
    have m0 := HZ.out.2.2.1.cell 0 rfl
    have m1 := HZ.out.2.2.1.cell 1 rfl
    have m2 := HZ.out.2.2.1.cell 2 rfl
    have m3 := HZ.out.2.2.1.cell 3 rfl
    have mz := HZ.out.2.2.1.2
    have t0 := HZ.out.2.1.cell 0 rfl
    have t1 := HZ.out.2.1.cell 1 rfl
    have t2 := HZ.out.2.1.cell 2 rfl
    have tz := HZ.out.2.1.2
    go_wp2_with fail
    go_ret
    exact StO.no HN.out (HZ.out.2.2.2.mono hlo)

theorem tkF_n (lo p b : Nat) (y : Sh.T shFence) (a id n : Int) (W : World) (hX : OpS lo p b W y) (hlo : lo ≤ W.heap.size) (hG : goodT y) (hP : playP y.1 y.2.1) (htot : totF y < 200) :
    Calls Try.prog 50 #[.pointer (some ⟨p, 0, none⟩), .agg #[.int .i64 a, .int .i64 id, .int .i64 n]] W (StO lo p b (stF y.1 y.2.1 y.2.2.1 y.2.2.2.1 a id n) W) := by
  obtain ⟨ep, du, ms, en, ⟨⟩⟩ := y
  obtain ⟨L, B, ve, hX⟩ := hX
  have hX : OpX lo p b W ep du ms en L B ve := hX
  have hG : goodF ep du ms en := hG
  have hP : playP ep du := hP
  have htot : en.length + runT ms < 200 := htot
  show Calls _ _ _ _ (StO lo p b (stF ep du ms en a id n) W)
  by_cases h4 : a = 4
  · subst h4
    have e : stF ep du ms en 4 id n = advF ep du ms en := by unfold stF; rw [if_pos rfl]
    rw [e]; exact tkF_v lo p b ep du ms en L B ve id n W hX hlo hG hP
  cases hf : ms.findIdx? (fun m => decide (mid m = id)) with
  | none =>
    have e : stF ep du ms en a id n = none := by unfold stF; rw [if_neg h4, hf]
    rw [e]; exact tkF_o lo p b ep du ms en L B ve a id n W hX hlo h4 hf
  | some i =>
    obtain ⟨hi, hid, _⟩ := List.findIdx?_eq_some_iff_getElem.1 hf
    have hid : mid ms[i] = id := by simpa using hid
    rw [stF_mem h4 hf hi]
    obtain ⟨hL, x0, x1, x2, x3, xa, xc, e1, e2, _⟩ := hX.at hi
    rw [e2]
    by_cases h1 : a = 1
    · subst h1; exact tkF_b lo p b ep du ms en L B ve id n i W hX hi hlo hG htot hid x0 x1 x2 x3 xa xc hL e1 e2
    by_cases h2 : a = 2
    · subst h2; exact tkF_e lo p b ep du ms en L B ve id n i W hX hi hlo hG htot hid x0 x1 x2 x3 xa xc hL e1 e2
    by_cases h3 : a = 3
    · subst h3; exact tkF_a lo p b ep du ms en L B ve id n i W hX hi hlo hG htot hid x0 x1 x2 x3 xa xc hL e1 e2
    by_cases h5 : a = 5
    · subst h5; exact tkF_l lo p b ep du ms en L B ve id n i W hX hi hlo hG htot hid x0 x1 x2 x3 xa xc hL e1 e2
    by_cases h6 : a = 6
    · subst h6; exact tkF_j lo p b ep du ms en L B ve id n i W hX hi hlo hG htot hid x0 x1 x2 x3 xa xc hL e1 e2
    exact tkF_x lo p b ep du ms en L B ve a id n i W hX hi hlo hG htot hid x0 x1 x2 x3 xa xc hL e1 e2 h1 h2 h3 h4 h5 h6
end Go.Proofs.Ytcbdlalpnlahcaa
