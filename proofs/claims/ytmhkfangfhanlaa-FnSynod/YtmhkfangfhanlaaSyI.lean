/- Synods: the program's isProposer and GoodSynod. -/
import Derived.Test.YtmhkfangfhanlaaMgD
namespace Go.Proofs.Ytmhkfangfhanlaa
open Go.RowKit
set_option linter.unusedVariables false
set_option linter.unusedSimpArgs false

theorem txt_eq {a b : ByteArray} : (a.toList == b.toList) = true ↔ a = b := by
  rw [beq_iff_eq, ByteArray.toList_eq, ByteArray.toList_eq]
  constructor
  · intro h
    cases a; cases b
    simp only [ByteArray.mk.injEq]
    exact Array.toList_inj.1 h
  · intro h; rw [h]
theorem ris_nil {l : List Int} {m : Int} (h : l.length = 0) : risP l m := by
  unfold risP grP; intro i hi; omega

set_option maxRecDepth 100000 in
set_option maxHeartbeats 4000000 in
theorem isProposer_n (own : ByteArray) (a1 : Option Addr) (k1 : Nat) (ps : List (Sh.T shPromise)) (fx : Bool) (v : ByteArray) (a2 : Option Addr) (k2 : Nat) (vt : List (Sh.T .int)) (bal nc : Int) (w : World)
    (hs1 : own.size ≤ maxLen) (hz : szD (.list shPromise) ps ≤ 1073741824) (hs2 : v.size ≤ maxLen) (hvt : vt.length ≤ 1073741824) (hnc : 1 ≤ nc ∧ nc ≤ 12) (hbal : 1 ≤ bal ∧ bal ≤ 8)
    (h1 : Lies w (.list shPromise) [.slice a1 ps.length k1] ps) (h2 : Lies w (.list .int) [.slice a2 vt.length k2] vt) :
    Calls Try.prog 56 #[.agg #[.string own, .slice a1 ps.length k1, .bool fx, .string v, .slice a2 vt.length k2], .int .i64 bal, .int .i64 nc] w fun r w' => r = .returned (.bool (tf (proQ bal nc own ps fx v vt))) ∧ Below w.heap.size w w' := by
  have HL : Hid (Lies w (.list shPromise) [.slice a1 ps.length k1] ps ∧ Lies w (.list .int) [.slice a2 vt.length k2] vt ∧ own.size ≤ maxLen ∧ v.size ≤ maxLen ∧ szD (.list shPromise) ps ≤ 1073741824) := ⟨h1, h2, hs1, hs2, hz⟩
  have hpl := (pms_sizes hz).2
  clear h1 h2 hs1 hs2 hz
  obtain ⟨b0, hb0⟩ : ∃ x, x = w.heap.size := ⟨_, rfl⟩
  have HB0 : Hid (Bx (w.alloc (.cells #[.string own, .slice a1 ps.length k1, .bool fx, .string v, .slice a2 vt.length k2] 43)) w.heap.size [.string own, .slice a1 ps.length k1, .bool fx, .string v, .slice a2 vt.length k2] ∧ Below w.heap.size w (w.alloc (.cells #[.string own, .slice a1 ps.length k1, .bool fx, .string v, .slice a2 vt.length k2] 43))) := ⟨Bx.new w [_, _, _, _, _] _, Go.Joins.below_alloc1 _ _⟩
  clear hb0
  cases c0 : valOk own
  · have HN : Hid (¬ proQ bal nc own ps fx v vt) := Hid.intro (fun q => by rw [q.1] at c0; cases c0)
    go_enter Try.func56, Try.ntmps56
    go_wp2_with (first | (go_at_call 62; refine (isValue_any _ _ HL.out.2.2.1).mono ?_; rintro e w' ⟨rfl, rfl⟩))
    go_ret
    exact ⟨ret_bool (tf_no HN.out).symm, HB0.out.2⟩
  go_enter Try.func56, Try.ntmps56
  go_wp2_with (first | (go_at_call 62; refine (isValue_any _ _ HL.out.2.2.1).mono ?_; rintro e w' ⟨rfl, rfl⟩))
  refine (arePromises_n _ _ ps bal nc _ HL.out.2.2.2.2 ⟨by omega, hnc.2⟩ hbal (HL.out.1.next HB0.out.2)).mono ?_
  rintro r w1 ⟨rfl, hb⟩
  have HB1 : Hid (Bx w1 w.heap.size [.string own, .slice a1 ps.length k1, .bool fx, .string v, .slice a2 vt.length k2] ∧ Below w.heap.size w w1) := ⟨HB0.out.1.next hb, below_next HB0.out.2 hb⟩
  have HV0 : Hid (valOk own = true) := c0
  clear hb HB0 c0
  by_cases c1 : prsP bal nc ps
  case neg =>
    rw [tf_no c1]
    have HN : Hid (¬ proQ bal nc own ps fx v vt) := Hid.intro (fun q => c1 q.2.1)
    clear c1
    go_wp2
    go_ret
    exact ⟨ret_bool (tf_no HN.out).symm, HB1.out.2⟩
  rw [tf_yes c1]
  have HP : Hid (prsP bal nc ps) := c1
  clear c1
  obtain ⟨b, hb⟩ : ∃ b, b = decide (nc < 2 * (ps.length : Int)) := ⟨_, rfl⟩
  have HBE : Hid (b = decide (nc < 2 * (ps.length : Int))) := hb
  have HM : Hid (∀ W, Calls Try.prog 50 #[.int .i64 (ps.length : Nat), .int .i64 nc] W fun r w' => r = .returned (.bool b) ∧ w' = W) := Hid.intro (fun W => by rw [hb]; exact isMost_n ps.length nc W hpl)
  clear hb
  have HD : Hid (Bx w1.drew w.heap.size [.string own, .slice a1 ps.length k1, .bool fx, .string v, .slice a2 vt.length k2] ∧ Below w.heap.size w w1.drew) := ⟨HB1.out.1.next (below_drew _), below_next HB1.out.2 (below_drew _)⟩
  clear HB1
  by_cases ce : fx = b
  case neg =>
    have hne : (fx == b) = false := by simpa using ce
    have HN : Hid (¬ proQ bal nc own ps fx v vt) := Hid.intro (fun q => ce (by rw [q.2.2.1, HBE.out]))
    clear ce
    go_upto_region 3 with fail
    refine wp_region_noPanic ?_
    refine wp_region_held_drew (S := fun W => Bx W w.heap.size [.string own, .slice a1 ps.length k1, .bool fx, .string v, .slice a2 vt.length k2]) (by kernel_rfl) HD.out.1 (fun hHeld => ?_)
    refine take_v (v := ?_) 0 ⟨some 19, Op.fieldAddr 43 (Operand.tmp 3) 2, _, _, _, none⟩ rfl (fun _ _ _ h => h) ?_ hHeld ?_
    rotate_left
    · (intro W _; go_simp <;> (try with_reducible rfl))
    refine take_v (v := ?_) 1 ⟨some 20, Op.load 4 (Operand.tmp 19), _, _, _, none⟩ rfl (fun _ _ _ h => h) ?_ hHeld ?_
    rotate_left
    · (intro W hSW; (have s0 := hSW.cell 0 rfl; have s1 := hSW.cell 1 rfl; have s2 := hSW.cell 2 rfl; have s3 := hSW.cell 3 rfl; have s4 := hSW.cell 4 rfl; have sz := hSW.2); go_simp <;> (try with_reducible rfl))
    refine take_v (v := ?_) 2 ⟨some 21, Op.fieldAddr 43 (Operand.tmp 3) 1, _, _, _, none⟩ rfl (fun _ _ _ h => h) ?_ hHeld ?_
    rotate_left
    · (intro W _; go_simp <;> (try with_reducible rfl))
    refine take_v (v := ?_) 3 ⟨some 22, Op.load 40 (Operand.tmp 21), _, _, _, none⟩ rfl (fun _ _ _ h => h) ?_ hHeld ?_
    rotate_left
    · (intro W hSW; (have s0 := hSW.cell 0 rfl; have s1 := hSW.cell 1 rfl; have s2 := hSW.cell 2 rfl; have s3 := hSW.cell 3 rfl; have s4 := hSW.cell 4 rfl; have sz := hSW.2); go_simp <;> (try with_reducible rfl))
    refine take_v (v := ?_) 4 ⟨some 23, Op.call { callee := Callee.builtin Builtin.len, args := #[Operand.tmp 22], argTypes := #[40] }, _, _, _, none⟩ rfl (fun _ _ _ h => h) ?_ hHeld ?_
    rotate_left
    · (intro W _; go_simp <;> (try with_reducible rfl))
    refine take_v (v := ?_) 5 ⟨some 24, Op.move (Operand.tmp 2), _, _, _, none⟩ rfl (fun _ _ _ h => h) ?_ hHeld ?_
    rotate_left
    · (intro W _; go_simp <;> (try with_reducible rfl))
    refine ready_call 6 ⟨some 25, Op.call { callee := Callee.value (Operand.func 50), args := #[Operand.tmp 23, Operand.tmp 24], argTypes := #[3, 3] }, _, _, _, none⟩ (by kernel_rfl) rfl (by kernel_rfl) (fun KC hK => ?_)
    go_wp2_with fail
    refine (HM.out _).mono ?_
    rintro r w2 ⟨rfl, hw⟩
    have hw := hw.symm
    subst hw
    refine hK.out _ _ HD.out.1 (fun hHeld => ?_)
    clear hK KC
    refine take_v (v := ?_) 7 ⟨some 26, Op.binOp BinOp.neq 4 (Operand.tmp 20) (Operand.tmp 25) 4, _, _, _, none⟩ rfl (fun _ _ _ h => h) ?_ hHeld ?_
    rotate_left
    · (intro W _; go_simp <;> (try with_reducible rfl))
    refine wpAnyH_done (by kernel_rfl) ?_ _
    refine NoPanic.normal ?_
    clear hHeld
    go_wp2
    go_ret
    exact ⟨ret_bool (tf_no HN.out).symm, HD.out.2⟩
  subst ce
  have hne : (fx == fx) = true := by simp
  go_upto_region 3 with fail
  refine wp_region_noPanic ?_
  refine wp_region_held_drew (S := fun W => Bx W w.heap.size [.string own, .slice a1 ps.length k1, .bool fx, .string v, .slice a2 vt.length k2]) (by kernel_rfl) HD.out.1 (fun hHeld => ?_)
  refine take_v (v := ?_) 0 ⟨some 19, Op.fieldAddr 43 (Operand.tmp 3) 2, _, _, _, none⟩ rfl (fun _ _ _ h => h) ?_ hHeld ?_
  rotate_left
  · (intro W _; go_simp <;> (try with_reducible rfl))
  refine take_v (v := ?_) 1 ⟨some 20, Op.load 4 (Operand.tmp 19), _, _, _, none⟩ rfl (fun _ _ _ h => h) ?_ hHeld ?_
  rotate_left
  · (intro W hSW; (have s0 := hSW.cell 0 rfl; have s1 := hSW.cell 1 rfl; have s2 := hSW.cell 2 rfl; have s3 := hSW.cell 3 rfl; have s4 := hSW.cell 4 rfl; have sz := hSW.2); go_simp <;> (try with_reducible rfl))
  refine take_v (v := ?_) 2 ⟨some 21, Op.fieldAddr 43 (Operand.tmp 3) 1, _, _, _, none⟩ rfl (fun _ _ _ h => h) ?_ hHeld ?_
  rotate_left
  · (intro W _; go_simp <;> (try with_reducible rfl))
  refine take_v (v := ?_) 3 ⟨some 22, Op.load 40 (Operand.tmp 21), _, _, _, none⟩ rfl (fun _ _ _ h => h) ?_ hHeld ?_
  rotate_left
  · (intro W hSW; (have s0 := hSW.cell 0 rfl; have s1 := hSW.cell 1 rfl; have s2 := hSW.cell 2 rfl; have s3 := hSW.cell 3 rfl; have s4 := hSW.cell 4 rfl; have sz := hSW.2); go_simp <;> (try with_reducible rfl))
  refine take_v (v := ?_) 4 ⟨some 23, Op.call { callee := Callee.builtin Builtin.len, args := #[Operand.tmp 22], argTypes := #[40] }, _, _, _, none⟩ rfl (fun _ _ _ h => h) ?_ hHeld ?_
  rotate_left
  · (intro W _; go_simp <;> (try with_reducible rfl))
  refine take_v (v := ?_) 5 ⟨some 24, Op.move (Operand.tmp 2), _, _, _, none⟩ rfl (fun _ _ _ h => h) ?_ hHeld ?_
  rotate_left
  · (intro W _; go_simp <;> (try with_reducible rfl))
  refine ready_call 6 ⟨some 25, Op.call { callee := Callee.value (Operand.func 50), args := #[Operand.tmp 23, Operand.tmp 24], argTypes := #[3, 3] }, _, _, _, none⟩ (by kernel_rfl) rfl (by kernel_rfl) (fun KC hK => ?_)
  go_wp2_with fail
  refine (HM.out _).mono ?_
  rintro r w2 ⟨rfl, hw⟩
  have hw := hw.symm
  subst hw
  refine hK.out _ _ HD.out.1 (fun hHeld => ?_)
  clear hK KC
  refine take_v (v := ?_) 7 ⟨some 26, Op.binOp BinOp.neq 4 (Operand.tmp 20) (Operand.tmp 25) 4, _, _, _, none⟩ rfl (fun _ _ _ h => h) ?_ hHeld ?_
  rotate_left
  · (intro W _; go_simp <;> (try with_reducible rfl))
  refine wpAnyH_done (by kernel_rfl) ?_ _
  refine NoPanic.normal ?_
  clear hHeld HM
  have s0 := (HD.out.1).cell 0 rfl; have s1 := (HD.out.1).cell 1 rfl; have s2 := (HD.out.1).cell 2 rfl; have s3 := (HD.out.1).cell 3 rfl; have s4 := (HD.out.1).cell 4 rfl; have sz := (HD.out.1).2
  cases fx
  · cases c3 : v.toList.isEmpty
    · have HN : Hid (¬ proQ bal nc own ps false v vt) := Hid.intro (fun q => by have := (q.2.2.2.2.1 rfl).1; rw [empty_iff.2 this] at c3; cases c3)
      go_wp2
      go_ret
      exact ⟨ret_bool (tf_no HN.out).symm, HD.out.2⟩
    by_cases c4 : vt.length = 0
    · have HF : Hid (proQ bal nc own ps false v vt) := Hid.intro ⟨HV0.out, HP.out, HBE.out, (fun q => by cases q), fun _ => ⟨empty_iff.1 c3, c4⟩, ris_nil c4⟩
      have c5 : ((vt.length : Int) == 0) = true := by simp [c4]
      clear c4
      generalize vt.length = nv at *
      go_wp2
      go_ret
      exact ⟨ret_bool (tf_yes HF.out).symm, HD.out.2⟩
    · have HN : Hid (¬ proQ bal nc own ps false v vt) := Hid.intro (fun q => c4 (q.2.2.2.2.1 rfl).2)
      have c5 : ((vt.length : Int) == 0) = false := by simp; intro e; exact c4 (by rw [e]; rfl)
      clear c4
      go_wp2
      go_ret
      exact ⟨ret_bool (tf_no HN.out).symm, HD.out.2⟩
  · have HD2 : Hid (Bx w1.drew.drew w.heap.size [.string own, .slice a1 ps.length k1, .bool true, .string v, .slice a2 vt.length k2] ∧ Below w.heap.size w w1.drew.drew) := ⟨HD.out.1.next (below_drew _), below_next HD.out.2 (below_drew _)⟩
    have HC1 : Hid (∀ W, Below w.heap.size w W → Calls Try.prog 92 #[.agg #[.string own, .slice a1 ps.length k1, .bool true, .string v, .slice a2 vt.length k2]] W fun r w' => r = .returned (.string (fixV own ps)) ∧ Below W.heap.size W w') := Hid.intro (fun W hW => fixedValue_n own a1 k1 ps true v a2 vt.length k2 W HL.out.2.2.2.2 (HL.out.1.next hW))
    have HC2 : Hid (∀ W, Below w.heap.size w W → Calls Try.prog 93 #[.agg #[.slice a2 vt.length k2], .int .i64 nc] W fun r w' => r = .returned (.bool (grB (atI vt) vt.length nc)) ∧ Below W.heap.size W w') := Hid.intro (fun W hW => goodGroup_any a2 vt.length k2 (atI vt) nc W hvt (lies_sl (HL.out.2.1.next hW)))
    have HFV : Hid (∀ t, t = fixV own ps → ((v.toList == t.toList) = true ↔ v = fixV own ps)) := Hid.intro (fun t h => by rw [h]; exact txt_eq)
    obtain ⟨fv, hfv⟩ : ∃ t, t = fixV own ps := ⟨_, rfl⟩
    rw [← hfv] at HC1
    have HFV := (show Hid ((v.toList == fv.toList) = true ↔ v = fixV own ps) from HFV.out fv hfv)
    clear hfv s0 s1 s2 s3 s4 sz
    cases c6 : (v.toList == fv.toList)
    · have HN : Hid (¬ proQ bal nc own ps true v vt) := Hid.intro (fun q => by rw [HFV.out.2 (q.2.2.2.1 rfl)] at c6; cases c6)
      clear HFV
      have s0 := (HD.out.1).cell 0 rfl; have s1 := (HD.out.1).cell 1 rfl; have s2 := (HD.out.1).cell 2 rfl; have s3 := (HD.out.1).cell 3 rfl; have s4 := (HD.out.1).cell 4 rfl; have sz := (HD.out.1).2
      go_upto_region 7 with fail
      clear s0 s1 s2 s3 s4 sz
      refine wp_region_noPanic ?_
      refine wp_region_held_drew (S := fun W => Bx W w.heap.size [.string own, .slice a1 ps.length k1, .bool true, .string v, .slice a2 vt.length k2]) (by kernel_rfl) HD2.out.1 (fun hHeld => ?_)
      refine take_v (v := ?_) 0 ⟨some 39, Op.fieldAddr 43 (Operand.tmp 3) 3, _, _, _, none⟩ rfl (fun _ _ _ h => h) ?_ hHeld ?_
      rotate_left
      · (intro W _; go_simp <;> (try with_reducible rfl))
      refine take_v (v := ?_) 1 ⟨some 40, Op.load 9 (Operand.tmp 39), _, _, _, none⟩ rfl (fun _ _ _ h => h) ?_ hHeld ?_
      rotate_left
      · (intro W hSW; (have s0 := hSW.cell 0 rfl; have s1 := hSW.cell 1 rfl; have s2 := hSW.cell 2 rfl; have s3 := hSW.cell 3 rfl; have s4 := hSW.cell 4 rfl; have sz := hSW.2); go_simp <;> (try with_reducible rfl))
      refine take_v (v := ?_) 2 ⟨some 41, Op.load 43 (Operand.tmp 3), _, _, _, none⟩ rfl (fun _ _ _ h => h) ?_ hHeld ?_
      rotate_left
      · (intro W hSW; (have s0 := hSW.cell 0 rfl; have s1 := hSW.cell 1 rfl; have s2 := hSW.cell 2 rfl; have s3 := hSW.cell 3 rfl; have s4 := hSW.cell 4 rfl; have sz := hSW.2); go_simp <;> (try with_reducible rfl))
      refine ready_call 3 ⟨some 42, Op.call { callee := Callee.value (Operand.func 92), args := #[Operand.tmp 41], argTypes := #[43] }, _, _, _, none⟩ (by kernel_rfl) rfl (by kernel_rfl) (fun KC hK => ?_)
      go_wp2_with fail
      refine (HC1.out _ HD2.out.2).mono ?_
      rintro r w2 ⟨rfl, hb⟩
      have HB2 : Hid (Bx w2 w.heap.size [.string own, .slice a1 ps.length k1, .bool true, .string v, .slice a2 vt.length k2] ∧ Below w.heap.size w w2) := ⟨HD2.out.1.next hb, below_next HD2.out.2 hb⟩
      clear hb
      refine hK.out _ _ HB2.out.1 (fun hHeld => ?_)
      clear hK KC
      refine take_v (v := ?_) 4 ⟨some 43, Op.binOp BinOp.eql 9 (Operand.tmp 40) (Operand.tmp 42) 9, _, _, _, none⟩ rfl (fun _ _ _ h => h) ?_ hHeld ?_
      rotate_left
      · (intro W _; go_simp <;> (try with_reducible rfl))
      refine take_v (v := ?_) 5 ⟨some 44, Op.move (Operand.tmp 43), _, _, _, none⟩ rfl (fun _ _ _ h => h) ?_ hHeld ?_
      rotate_left
      · (intro W _; go_simp <;> (try with_reducible rfl))
      refine take_n 6 ⟨some 45, Op.fieldAddr 43 (Operand.tmp 3) 4, _, _, _, some (5, true)⟩ rfl (fun _ _ _ h => h) hHeld ?_
      refine take_n 7 ⟨some 46, Op.load 41 (Operand.tmp 45), _, _, _, some (5, true)⟩ rfl (fun _ _ _ h => h) hHeld ?_
      refine take_n 8 ⟨some 47, Op.build 132 #[(0, Operand.tmp 46)], _, _, _, some (5, true)⟩ rfl (fun _ _ _ h => h) hHeld ?_
      refine take_n 9 ⟨some 48, Op.move (Operand.tmp 2), _, _, _, some (5, true)⟩ rfl (fun _ _ _ h => h) hHeld ?_
      refine take_n 10 ⟨some 49, Op.call { callee := Callee.value (Operand.func 93), args := #[Operand.tmp 47, Operand.tmp 48], argTypes := #[132, 3] }, _, _, _, some (5, true)⟩ rfl (fun _ _ _ h => h) hHeld ?_
      refine take_v (v := ?_) 11 ⟨some 50, Op.pick (Operand.tmp 44) (Operand.tmp 49) (Operand.const (Value.bool false)), _, _, _, none⟩ rfl (fun _ _ _ h => h) ?_ hHeld ?_
      rotate_left
      · (intro W _; go_simp <;> (try with_reducible rfl))
      refine take_v (v := ?_) 12 ⟨some 6, Op.assign (Operand.tmp 50), _, _, _, none⟩ rfl (fun _ _ _ h => h) ?_ hHeld ?_
      rotate_left
      · (intro W _; go_simp <;> (try with_reducible rfl))
      refine wpAnyH_done (by kernel_rfl) ?_ _
      refine NoPanic.normal ?_
      clear hHeld
      go_wp2
      go_ret
      exact ⟨ret_bool (tf_no HN.out).symm, HB2.out.2⟩
    · obtain ⟨gb, hgb⟩ : ∃ t, t = grB (atI vt) vt.length nc := ⟨_, rfl⟩
      have HF : Hid (gb = tf (proQ bal nc own ps true v vt)) := Hid.intro (by
        rw [hgb, Bool.eq_iff_iff, tf_iff, grB_iff]
        constructor
        · intro q; exact ⟨HV0.out, HP.out, HBE.out, fun _ => HFV.out.1 c6, (fun q2 => by cases q2), q.2⟩
        · intro q; exact ⟨hnc, q.2.2.2.2.2⟩)
      rw [← hgb] at HC2
      clear hgb HFV
      have s0 := (HD.out.1).cell 0 rfl; have s1 := (HD.out.1).cell 1 rfl; have s2 := (HD.out.1).cell 2 rfl; have s3 := (HD.out.1).cell 3 rfl; have s4 := (HD.out.1).cell 4 rfl; have sz := (HD.out.1).2
      go_upto_region 7 with fail
      clear s0 s1 s2 s3 s4 sz
      refine wp_region_noPanic ?_
      refine wp_region_held_drew (S := fun W => Bx W w.heap.size [.string own, .slice a1 ps.length k1, .bool true, .string v, .slice a2 vt.length k2]) (by kernel_rfl) HD2.out.1 (fun hHeld => ?_)
      refine take_v (v := ?_) 0 ⟨some 39, Op.fieldAddr 43 (Operand.tmp 3) 3, _, _, _, none⟩ rfl (fun _ _ _ h => h) ?_ hHeld ?_
      rotate_left
      · (intro W _; go_simp <;> (try with_reducible rfl))
      refine take_v (v := ?_) 1 ⟨some 40, Op.load 9 (Operand.tmp 39), _, _, _, none⟩ rfl (fun _ _ _ h => h) ?_ hHeld ?_
      rotate_left
      · (intro W hSW; (have s0 := hSW.cell 0 rfl; have s1 := hSW.cell 1 rfl; have s2 := hSW.cell 2 rfl; have s3 := hSW.cell 3 rfl; have s4 := hSW.cell 4 rfl; have sz := hSW.2); go_simp <;> (try with_reducible rfl))
      refine take_v (v := ?_) 2 ⟨some 41, Op.load 43 (Operand.tmp 3), _, _, _, none⟩ rfl (fun _ _ _ h => h) ?_ hHeld ?_
      rotate_left
      · (intro W hSW; (have s0 := hSW.cell 0 rfl; have s1 := hSW.cell 1 rfl; have s2 := hSW.cell 2 rfl; have s3 := hSW.cell 3 rfl; have s4 := hSW.cell 4 rfl; have sz := hSW.2); go_simp <;> (try with_reducible rfl))
      refine ready_call 3 ⟨some 42, Op.call { callee := Callee.value (Operand.func 92), args := #[Operand.tmp 41], argTypes := #[43] }, _, _, _, none⟩ (by kernel_rfl) rfl (by kernel_rfl) (fun KC hK => ?_)
      go_wp2_with fail
      refine (HC1.out _ HD2.out.2).mono ?_
      rintro r w2 ⟨rfl, hb⟩
      have HB2 : Hid (Bx w2 w.heap.size [.string own, .slice a1 ps.length k1, .bool true, .string v, .slice a2 vt.length k2] ∧ Below w.heap.size w w2) := ⟨HD2.out.1.next hb, below_next HD2.out.2 hb⟩
      clear hb
      refine hK.out _ _ HB2.out.1 (fun hHeld => ?_)
      clear hK KC
      refine take_v (v := ?_) 4 ⟨some 43, Op.binOp BinOp.eql 9 (Operand.tmp 40) (Operand.tmp 42) 9, _, _, _, none⟩ rfl (fun _ _ _ h => h) ?_ hHeld ?_
      rotate_left
      · (intro W _; go_simp <;> (try with_reducible rfl))
      refine take_v (v := ?_) 5 ⟨some 44, Op.move (Operand.tmp 43), _, _, _, none⟩ rfl (fun _ _ _ h => h) ?_ hHeld ?_
      rotate_left
      · (intro W _; go_simp <;> (try with_reducible rfl))
      refine take_v (v := ?_) 6 ⟨some 45, Op.fieldAddr 43 (Operand.tmp 3) 4, _, _, _, some (5, true)⟩ rfl (fun _ _ _ h => h) ?_ hHeld ?_
      rotate_left
      · (intro W _; go_simp <;> (try with_reducible rfl))
      refine take_v (v := ?_) 7 ⟨some 46, Op.load 41 (Operand.tmp 45), _, _, _, some (5, true)⟩ rfl (fun _ _ _ h => h) ?_ hHeld ?_
      rotate_left
      · (intro W hSW; (have s0 := hSW.cell 0 rfl; have s1 := hSW.cell 1 rfl; have s2 := hSW.cell 2 rfl; have s3 := hSW.cell 3 rfl; have s4 := hSW.cell 4 rfl; have sz := hSW.2); go_simp <;> (try with_reducible rfl))
      refine take_v (v := ?_) 8 ⟨some 47, Op.build 132 #[(0, Operand.tmp 46)], _, _, _, some (5, true)⟩ rfl (fun _ _ _ h => h) ?_ hHeld ?_
      rotate_left
      · (intro W _; go_simp <;> (try with_reducible rfl))
      refine take_v (v := ?_) 9 ⟨some 48, Op.move (Operand.tmp 2), _, _, _, some (5, true)⟩ rfl (fun _ _ _ h => h) ?_ hHeld ?_
      rotate_left
      · (intro W _; go_simp <;> (try with_reducible rfl))
      refine ready_call 10 ⟨some 49, Op.call { callee := Callee.value (Operand.func 93), args := #[Operand.tmp 47, Operand.tmp 48], argTypes := #[132, 3] }, _, _, _, some (5, true)⟩ (by kernel_rfl) rfl (by kernel_rfl) (fun KC hK => ?_)
      go_wp2_with fail
      refine (HC2.out _ HB2.out.2).mono ?_
      rintro r w3 ⟨rfl, hb⟩
      have HB3 : Hid (Bx w3 w.heap.size [.string own, .slice a1 ps.length k1, .bool true, .string v, .slice a2 vt.length k2] ∧ Below w.heap.size w w3) := ⟨HB2.out.1.next hb, below_next HB2.out.2 hb⟩
      clear hb
      refine hK.out _ _ HB3.out.1 (fun hHeld => ?_)
      clear hK KC
      refine take_v (v := ?_) 11 ⟨some 50, Op.pick (Operand.tmp 44) (Operand.tmp 49) (Operand.const (Value.bool false)), _, _, _, none⟩ rfl (fun _ _ _ h => h) ?_ hHeld ?_
      rotate_left
      · (intro W _; go_simp <;> (try with_reducible rfl))
      refine take_v (v := ?_) 12 ⟨some 6, Op.assign (Operand.tmp 50), _, _, _, none⟩ rfl (fun _ _ _ h => h) ?_ hHeld ?_
      rotate_left
      · (intro W _; go_simp <;> (try with_reducible rfl))
      refine wpAnyH_done (by kernel_rfl) ?_ _
      refine NoPanic.normal ?_
      clear hHeld
      go_wp2
      go_ret
      exact ⟨ret_bool HF.out, HB3.out.2⟩
end Go.Proofs.Ytmhkfangfhanlaa
