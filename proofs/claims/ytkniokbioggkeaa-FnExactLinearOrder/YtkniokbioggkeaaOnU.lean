/- The contract of the closure that undoes what (*oneCopy).do did. Written by tools/mkOnD.py. -/
import Derived.Test.YtkniokbioggkeaaOnD
namespace Go.Proofs.Ytkniokbioggkeaa
open Go.RowKit
set_option linter.unusedVariables false

theorem own_cut {w : World} {base : Nat} {e : TypeId} {ob m c : Nat} {xs : List Value} {x : Value} (h : w.ownsRow base e 1 (.slice (some ⟨ob, 0, none⟩) (m + 1) c) (m + 1) (xs ++ [x])) : w.ownsRow base e 1 (.slice (some ⟨ob, 0, none⟩) m c) m xs := by
  have hl : xs.length = m := by have := h.1; simp at this; omega
  rcases h.2 with ⟨hv, _⟩ | ⟨g, cap, cur, hv, hb, hh, hn, hm, hs, ht⟩
  · cases hv
  · simp only [Value.slice.injEq, Option.some.injEq, Addr.mk.injEq, and_true, true_and] at hv
    obtain ⟨rfl, rfl⟩ := hv
    refine ⟨by omega, Or.inr ⟨ob, c, cur, rfl, hb, hh, by omega, hm, hs, ?_⟩⟩
    have h1 : cur.toList.take (m * 1) = (cur.toList.take ((m + 1) * 1)).take m := by rw [List.take_take]; congr 1; omega
    rw [h1, ht, List.take_left' hl]

set_option maxRecDepth 100000 in
set_option maxHeartbeats 8000000 in
theorem undo_any (w0 w : World) (g : Nat) (a : Option Addr) (n cap : Nat) (V : Nat → CallV) (ord : List Nat) (KB : List (Nat × List Value)) (i b2 b5 b6 : Nat) (hC : OneC w0 g a n cap V) (hi : i < n) (hol : ord.length < 7) (h : OneS w0 w g a n cap V (ord ++ [i]) KB)
    (m2 : (b2, [.pointer (some ⟨g, 0, none⟩)]) ∈ KB) (m5 : (b5, [.int .i64 (V i).f0, .bool (V i).f1, .string (V i).f2, .string (V i).f3, .int .i64 (V i).f4, .int .i64 (V i).f5]) ∈ KB) (m6 : (b6, [.string (valO V ord (V i).f2.toList)]) ∈ KB) :
    Calls Try.prog 69 #[.pointer (some ⟨b2, 0, none⟩), .pointer (some ⟨b5, 0, none⟩), .pointer (some ⟨b6, 0, none⟩)] w fun r w' => r = .returned (.tuple #[]) ∧ OneS w0 w' g a n cap V ord KB := by
  obtain ⟨L, ov, lv, h1, h2, h3⟩ := h
  have h7 := hC.n7
  have hLl := h2.len
  have hky := hC.key i hi
  obtain ⟨ob, oc, rfl⟩ := Go.Joins.ownsRow_form h1.2.1 (by simp)
  obtain ⟨la, lc, rfl, hlc, hrow⟩ := SRow.of (F := cellF (cV L)) (c := 2) h1.2.2.1
  have hown := h1.2.1
  have hocap : ord.length + 1 ≤ oc := by
    rcases hown.2 with ⟨hv, _⟩ | ⟨_, cap', cur, hv, hb, hh, hn, hm, hs, ht⟩
    · cases hv
    · simp only [Value.slice.injEq, Option.some.injEq, Addr.mk.injEq, and_true, true_and] at hv
      obtain ⟨_, rfl⟩ := hv
      simpa using hn
  have hlen : (ord ++ [i]).length = ord.length + 1 := by simp
  rw [hlen] at h1 hown
  rw [ordC_snoc] at hown
  have HT : Hid (w.drew.ownsRow (g + 1) 3 1 (.slice (some ⟨ob, 0, none⟩) ord.length oc) ord.length (ordC ord)) := (own_cut hown).drew
  have HQ : Hid (One w.drew g a n cap (ord ++ [i]) L (.slice (some ⟨ob, 0, none⟩) (ord.length + 1) oc) (.slice la L.length lc) KB ∧ Below g w0 w.drew ∧ Sees V n (ord ++ [i]) L) := ⟨h1.next (Below.refl _ _).drew, h3.drew, h2⟩
  have HM : Hid ((b2, [.pointer (some ⟨g, 0, none⟩)]) ∈ KB ∧ (b5, [.int .i64 (V i).f0, .bool (V i).f1, .string (V i).f2, .string (V i).f3, .int .i64 (V i).f4, .int .i64 (V i).f5]) ∈ KB ∧ (b6, [.string (valO V ord (V i).f2.toList)]) ∈ KB) := ⟨m2, m5, m6⟩
  have hsub : IntKind.i64.wrap (((ord.length + 1 : Nat) : Int) - 1) = (ord.length : Int) := by rw [IntKind.wrap_i64]; omega
  have hsub' : IntKind.i64.wrap ((ord.length : Int) + 1 - 1) = (ord.length : Int) := by rw [IntKind.wrap_i64]; omega
  have hsub2 : IntKind.i64.wrap (ord.length : Int) = (ord.length : Int) := by rw [IntKind.wrap_i64]; omega
  have hoc' : (ord.length : Int) ≤ (oc : Int) := by omega
  clear h1 h2 h3 hown hrow hC m2 m5 m6 hlen
  go_enter Try.func69, Try.ntmps69
  go_upto_region 0 with fail
  go_cut [14] (fun _ wy => One wy g a n cap ord L (.slice (some ⟨ob, 0, none⟩) ord.length oc) (.slice la L.length lc) KB ∧ Below g w0 wy)
  case first =>
    refine wp_region_noPanic ?_
    refine wp_region_held_drew (S := fun W => Bx W b2 [.pointer (some ⟨g, 0, none⟩)]) (by kernel_rfl) (HQ.out.1.boxAt HM.out.1) (fun hHeld => ?_)
    refine take_v (v := ?_) 0 ⟨some 3, Op.load 86 (Operand.tmp 0), _, _, _, none⟩ rfl (fun _ _ _ h => h) ?_ hHeld ?_
    rotate_left
    · (intro W hSW; (have s0 := hSW.cell 0 rfl; have sz := hSW.2); go_simp <;> (try with_reducible rfl))
    refine take_v (v := ?_) 1 ⟨some 4, Op.load 86 (Operand.tmp 0), _, _, _, none⟩ rfl (fun _ _ _ h => h) ?_ hHeld ?_
    rotate_left
    · (intro W hSW; (have s0 := hSW.cell 0 rfl; have sz := hSW.2); go_simp <;> (try with_reducible rfl))
    refine take_v (v := ?_) 2 ⟨some 5, Op.nilCheck (Operand.tmp 4), _, _, _, none⟩ rfl (fun _ _ _ h => h) ?_ hHeld ?_
    rotate_left
    · (intro W _; go_simp <;> (try with_reducible rfl))
    refine take_v (v := ?_) 3 ⟨some 6, Op.fieldAddr 58 (Operand.tmp 5) 1, _, _, _, none⟩ rfl (fun _ _ _ h => h) ?_ hHeld ?_
    rotate_left
    · (intro W _; go_simp <;> (try with_reducible rfl))
    refine take_v (v := ?_) 5 ⟨some 8, Op.load 86 (Operand.tmp 0), _, _, _, none⟩ rfl (fun _ _ _ h => h) ?_ hHeld ?_
    rotate_left
    · (intro W hSW; (have s0 := hSW.cell 0 rfl; have sz := hSW.2); go_simp <;> (try with_reducible rfl))
    refine take_v (v := ?_) 6 ⟨some 9, Op.nilCheck (Operand.tmp 8), _, _, _, none⟩ rfl (fun _ _ _ h => h) ?_ hHeld ?_
    rotate_left
    · (intro W _; go_simp <;> (try with_reducible rfl))
    refine take_v (v := ?_) 7 ⟨some 10, Op.fieldAddr 58 (Operand.tmp 9) 1, _, _, _, none⟩ rfl (fun _ _ _ h => h) ?_ hHeld ?_
    rotate_left
    · (intro W _; go_simp <;> (try with_reducible rfl))
    refine ready_two 4 8 ⟨some 7, Op.load 32 (Operand.tmp 6), _, _, _, none⟩ ⟨some 11, Op.load 32 (Operand.tmp 10), _, _, _, none⟩ (by kernel_rfl) rfl rfl (by kernel_rfl) (by kernel_rfl) (fun KC hK => ?_) (fun KC hK => ?_)
    ·
      have k1 := HQ.out.1.1.cell 1 rfl
      have kz := HQ.out.1.1.2
      go_wp2_with fail
      clear k1 kz
      refine hK.out _ _ hHeld (fun hHeld => ?_)
      clear hK KC
      refine ready_call 8 ⟨some 11, Op.load 32 (Operand.tmp 10), _, _, _, none⟩ (by kernel_rfl) rfl (by kernel_rfl) (fun KC hK => ?_)
      have k1 := HQ.out.1.1.cell 1 rfl
      have kz := HQ.out.1.1.2
      go_wp2_with fail
      clear k1 kz
      refine hK.out _ _ hHeld (fun hHeld => ?_)
      clear hK KC
      refine take_v (v := ?_) 9 ⟨some 12, Op.call { callee := Callee.builtin Builtin.len, args := #[Operand.tmp 11], argTypes := #[32] }, _, _, _, none⟩ rfl (fun _ _ _ h => h) ?_ hHeld ?_
      rotate_left
      · (intro W _; go_simp <;> (try with_reducible rfl))
      refine take_v (v := ?_) 10 ⟨some 13, Op.binOp BinOp.sub 3 (Operand.tmp 12) (Operand.const (Value.int IntKind.i64 1)) 3, _, _, _, none⟩ rfl (fun _ _ _ h => h) ?_ hHeld ?_
      rotate_left
      · (intro W _; go_simp <;> (try with_reducible rfl))
      refine take_v (v := ?_) 11 ⟨some 14, Op.slice 32 (Operand.tmp 7) none (some (Operand.tmp 13)) none, _, _, _, none⟩ rfl (fun _ _ _ h => h) ?_ hHeld ?_
      rotate_left
      · (intro W _; go_simp <;> (try with_reducible rfl))
      refine take_v (v := ?_) 12 ⟨some 15, Op.nilCheck (Operand.tmp 3), _, _, _, none⟩ rfl (fun _ _ _ h => h) ?_ hHeld ?_
      rotate_left
      · (intro W _; go_simp <;> (try with_reducible rfl))
      refine take_v (v := ?_) 13 ⟨some 16, Op.fieldAddr 58 (Operand.tmp 15) 1, _, _, _, none⟩ rfl (fun _ _ _ h => h) ?_ hHeld ?_
      rotate_left
      · (intro W _; go_simp <;> (try with_reducible rfl))
      refine ready_call 14 ⟨none, Op.store 32 (Operand.tmp 16) (Operand.tmp 14), _, _, _, none⟩ (by kernel_rfl) rfl (by kernel_rfl) (fun KC hK => ?_)
      have k1 := HQ.out.1.1.cell 1 rfl
      have k2 := HQ.out.1.1.frz 1 (by simp)
      have kz := HQ.out.1.1.2
      go_wp2_with fail
      have HZ := (show Hid (One (w.drew.setCell ⟨g, 1, none⟩ (.slice (some ⟨ob, 0, none⟩) ord.length oc)) g a n cap ord L (.slice (some ⟨ob, 0, none⟩) ord.length oc) (.slice la L.length lc) KB ∧ Below g w0 (w.drew.setCell ⟨g, 1, none⟩ (.slice (some ⟨ob, 0, none⟩) ord.length oc))) from ⟨HQ.out.1.putO (grw_below (Below.refl _ _) _) HT.out (Or.inl rfl), HQ.out.1.belowO HQ.out.2.1 (grw_below (Below.refl _ _) _) _ _⟩)
      clear k1 k2 kz
      refine hK.out _ _ (HZ.out.1.boxAt HM.out.1) (fun hHeld => ?_)
      clear hK KC
      refine wpAnyH_done (by kernel_rfl) ?_ _
      refine NoPanic.normal ?_
      go_wp2_with fail
      go_meet
      exact HZ.out
    ·
      have k1 := HQ.out.1.1.cell 1 rfl
      have kz := HQ.out.1.1.2
      go_wp2_with fail
      clear k1 kz
      refine hK.out _ _ hHeld (fun hHeld => ?_)
      clear hK KC
      refine take_v (v := ?_) 9 ⟨some 12, Op.call { callee := Callee.builtin Builtin.len, args := #[Operand.tmp 11], argTypes := #[32] }, _, _, _, none⟩ rfl (fun _ _ _ h => h) ?_ hHeld ?_
      rotate_left
      · (intro W _; go_simp <;> (try with_reducible rfl))
      refine take_v (v := ?_) 10 ⟨some 13, Op.binOp BinOp.sub 3 (Operand.tmp 12) (Operand.const (Value.int IntKind.i64 1)) 3, _, _, _, none⟩ rfl (fun _ _ _ h => h) ?_ hHeld ?_
      rotate_left
      · (intro W _; go_simp <;> (try with_reducible rfl))
      refine ready_call 4 ⟨some 7, Op.load 32 (Operand.tmp 6), _, _, _, none⟩ (by kernel_rfl) rfl (by kernel_rfl) (fun KC hK => ?_)
      have k1 := HQ.out.1.1.cell 1 rfl
      have kz := HQ.out.1.1.2
      go_wp2_with fail
      clear k1 kz
      refine hK.out _ _ hHeld (fun hHeld => ?_)
      clear hK KC
      refine take_v (v := ?_) 11 ⟨some 14, Op.slice 32 (Operand.tmp 7) none (some (Operand.tmp 13)) none, _, _, _, none⟩ rfl (fun _ _ _ h => h) ?_ hHeld ?_
      rotate_left
      · (intro W _; go_simp <;> (try with_reducible rfl))
      refine take_v (v := ?_) 12 ⟨some 15, Op.nilCheck (Operand.tmp 3), _, _, _, none⟩ rfl (fun _ _ _ h => h) ?_ hHeld ?_
      rotate_left
      · (intro W _; go_simp <;> (try with_reducible rfl))
      refine take_v (v := ?_) 13 ⟨some 16, Op.fieldAddr 58 (Operand.tmp 15) 1, _, _, _, none⟩ rfl (fun _ _ _ h => h) ?_ hHeld ?_
      rotate_left
      · (intro W _; go_simp <;> (try with_reducible rfl))
      refine ready_call 14 ⟨none, Op.store 32 (Operand.tmp 16) (Operand.tmp 14), _, _, _, none⟩ (by kernel_rfl) rfl (by kernel_rfl) (fun KC hK => ?_)
      have k1 := HQ.out.1.1.cell 1 rfl
      have k2 := HQ.out.1.1.frz 1 (by simp)
      have kz := HQ.out.1.1.2
      go_wp2_with fail
      have HZ := (show Hid (One (w.drew.setCell ⟨g, 1, none⟩ (.slice (some ⟨ob, 0, none⟩) ord.length oc)) g a n cap ord L (.slice (some ⟨ob, 0, none⟩) ord.length oc) (.slice la L.length lc) KB ∧ Below g w0 (w.drew.setCell ⟨g, 1, none⟩ (.slice (some ⟨ob, 0, none⟩) ord.length oc))) from ⟨HQ.out.1.putO (grw_below (Below.refl _ _) _) HT.out (Or.inl rfl), HQ.out.1.belowO HQ.out.2.1 (grw_below (Below.refl _ _) _) _ _⟩)
      clear k1 k2 kz
      refine hK.out _ _ (HZ.out.1.boxAt HM.out.1) (fun hHeld => ?_)
      clear hK KC
      refine wpAnyH_done (by kernel_rfl) ?_ _
      refine NoPanic.normal ?_
      go_wp2_with fail
      go_meet
      exact HZ.out
  case rest =>
    obtain ⟨hO, hB⟩ := hcut
    have HV : Hid (Sees V n (ord ++ [i]) L) := HQ.out.2.2
    have HQ := (show Hid (_ ∧ _) from ⟨hO, hB⟩)
    clear hO hB HT
    go_upto_region 1 with fail
    have HQ := (show Hid (_ ∧ _) from ⟨HQ.out.1.next (Below.refl _ _).drew, HQ.out.2.drew⟩)
    refine wp_region_noPanic ?_
    refine wp_region_held_drew (S := fun W => Bx W b2 [.pointer (some ⟨g, 0, none⟩)] ∧ Bx W b5 [.int .i64 (V i).f0, .bool (V i).f1, .string (V i).f2, .string (V i).f3, .int .i64 (V i).f4, .int .i64 (V i).f5] ∧ Bx W b6 [.string (valO V ord (V i).f2.toList)]) (by kernel_rfl) ⟨HQ.out.1.boxAt HM.out.1, HQ.out.1.boxAt HM.out.2.1, HQ.out.1.boxAt HM.out.2.2⟩ (fun hHeld => ?_)
    refine take_v (v := ?_) 0 ⟨some 17, Op.load 86 (Operand.tmp 0), _, _, _, none⟩ rfl (fun _ _ _ h => h) ?_ hHeld ?_
    rotate_left
    · (intro W hSW; (have s0 := hSW.1.cell 0 rfl; have sz0 := hSW.1.2; have s1 := hSW.2.1.cell 2 rfl; have sz1 := hSW.2.1.2; have s2 := hSW.2.2.cell 0 rfl; have sz2 := hSW.2.2.2); go_simp <;> (try with_reducible rfl))
    refine take_v (v := ?_) 1 ⟨some 18, Op.load 86 (Operand.tmp 0), _, _, _, none⟩ rfl (fun _ _ _ h => h) ?_ hHeld ?_
    rotate_left
    · (intro W hSW; (have s0 := hSW.1.cell 0 rfl; have sz0 := hSW.1.2; have s1 := hSW.2.1.cell 2 rfl; have sz1 := hSW.2.1.2; have s2 := hSW.2.2.cell 0 rfl; have sz2 := hSW.2.2.2); go_simp <;> (try with_reducible rfl))
    refine take_v (v := ?_) 2 ⟨some 19, Op.nilCheck (Operand.tmp 18), _, _, _, none⟩ rfl (fun _ _ _ h => h) ?_ hHeld ?_
    rotate_left
    · (intro W _; go_simp <;> (try with_reducible rfl))
    refine take_v (v := ?_) 3 ⟨some 20, Op.fieldAddr 58 (Operand.tmp 19) 2, _, _, _, none⟩ rfl (fun _ _ _ h => h) ?_ hHeld ?_
    rotate_left
    · (intro W _; go_simp <;> (try with_reducible rfl))
    refine take_v (v := ?_) 5 ⟨some 22, Op.fieldAddr 28 (Operand.tmp 1) 2, _, _, _, none⟩ rfl (fun _ _ _ h => h) ?_ hHeld ?_
    rotate_left
    · (intro W _; go_simp <;> (try with_reducible rfl))
    refine take_v (v := ?_) 6 ⟨some 23, Op.load 9 (Operand.tmp 22), _, _, _, none⟩ rfl (fun _ _ _ h => h) ?_ hHeld ?_
    rotate_left
    · (intro W hSW; (have s0 := hSW.1.cell 0 rfl; have sz0 := hSW.1.2; have s1 := hSW.2.1.cell 2 rfl; have sz1 := hSW.2.1.2; have s2 := hSW.2.2.cell 0 rfl; have sz2 := hSW.2.2.2); go_simp <;> (try with_reducible rfl))
    refine take_v (v := ?_) 7 ⟨some 24, Op.load 9 (Operand.tmp 2), _, _, _, none⟩ rfl (fun _ _ _ h => h) ?_ hHeld ?_
    rotate_left
    · (intro W hSW; (have s0 := hSW.1.cell 0 rfl; have sz0 := hSW.1.2; have s1 := hSW.2.1.cell 2 rfl; have sz1 := hSW.2.1.2; have s2 := hSW.2.2.cell 0 rfl; have sz2 := hSW.2.2.2); go_simp <;> (try with_reducible rfl))
    refine ready_call 4 ⟨some 21, Op.load 56 (Operand.tmp 20), _, _, _, none⟩ (by kernel_rfl) rfl (by kernel_rfl) (fun KC hK => ?_)
    have k1 := HQ.out.1.1.cell 2 rfl
    have kz := HQ.out.1.1.2
    go_wp2_with fail
    clear k1 kz
    refine hK.out _ _ hHeld (fun hHeld => ?_)
    clear hK KC
    refine ready_call 8 ⟨some 25, Op.call { callee := Callee.value (Operand.func 68), args := #[Operand.tmp 21, Operand.tmp 23, Operand.tmp 24], argTypes := #[56, 9, 9] }, _, _, _, none⟩ (by kernel_rfl) rfl (by kernel_rfl) (fun KC hK => ?_)
    go_wp2_with fail
    refine (putValue_grw (g + 1) _ L ⟨(V i).f2, valO V ord (V i).f2.toList⟩ _ (by omega) hky HV.out.1 (Nat.succ_le_of_lt HQ.out.1.1.2) HQ.out.1.2.2.1).mono ?_
    rintro r w5 ⟨v5, rfl, ho5, hgr5, hwh5⟩
    obtain ⟨a5, c5, rfl, _, _⟩ := SRow.of (F := cellF (cV (putL L ⟨(V i).f2, valO V ord (V i).f2.toList⟩))) (c := 2) ho5
    have hg5 := HQ.out.1.1.blk (hgr5.block g HQ.out.1.1.2 (HQ.out.1.gC)) hgr5.size
    have h9 := (⟨HQ.out.1.boxC hgr5 HM.out.1, HQ.out.1.boxC hgr5 HM.out.2.1, HQ.out.1.boxC hgr5 HM.out.2.2⟩ : _ ∧ _ ∧ _)
    refine hK.out _ _ h9 (fun hHeld => ?_)
    clear hK KC
    refine take_v (v := ?_) 9 ⟨some 26, Op.nilCheck (Operand.tmp 17), _, _, _, none⟩ rfl (fun _ _ _ h => h) ?_ hHeld ?_
    rotate_left
    · (intro W _; go_simp <;> (try with_reducible rfl))
    refine take_v (v := ?_) 10 ⟨some 27, Op.fieldAddr 58 (Operand.tmp 26) 2, _, _, _, none⟩ rfl (fun _ _ _ h => h) ?_ hHeld ?_
    rotate_left
    · (intro W _; go_simp <;> (try with_reducible rfl))
    refine ready_call 11 ⟨none, Op.store 56 (Operand.tmp 27) (Operand.tmp 25), _, _, _, none⟩ (by kernel_rfl) rfl (by kernel_rfl) (fun KC hK => ?_)
    have k1 := hg5.cell 2 rfl
    have k2 := hg5.frz 2 (by simp)
    have kz := hg5.2
    go_wp2_with fail
    have HZ := (show Hid (One (w5.setCell ⟨g, 2, none⟩ (.slice a5 (putL L ⟨(V i).f2, valO V ord (V i).f2.toList⟩).length c5)) g a n cap ord (putL L ⟨(V i).f2, valO V ord (V i).f2.toList⟩) (.slice (some ⟨ob, 0, none⟩) ord.length oc) (.slice a5 (putL L ⟨(V i).f2, valO V ord (V i).f2.toList⟩).length c5) KB ∧ Sees V n ord (putL L ⟨(V i).f2, valO V ord (V i).f2.toList⟩) ∧ Below g w0 (w5.setCell ⟨g, 2, none⟩ (.slice a5 (putL L ⟨(V i).f2, valO V ord (V i).f2.toList⟩).length c5))) from ⟨HQ.out.1.putC hgr5 ho5 hwh5, HV.out.undo hi, HQ.out.1.belowC HQ.out.2 hgr5 _ _⟩)
    clear k1 k2 kz hg5 ho5 hgr5 hwh5
    refine hK.out _ _ ⟨HZ.out.1.boxAt HM.out.1, HZ.out.1.boxAt HM.out.2.1, HZ.out.1.boxAt HM.out.2.2⟩ (fun hHeld => ?_)
    clear hK KC
    refine wpAnyH_done (by kernel_rfl) ?_ _
    refine NoPanic.normal ?_
    go_wp2
    go_end0
    exact ⟨rfl, _, _, _, HZ.out⟩
end Go.Proofs.Ytkniokbioggkeaa
