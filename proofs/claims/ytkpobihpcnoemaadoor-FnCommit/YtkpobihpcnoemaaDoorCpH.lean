/- Commits: crashReplica, applyDecision. Written by tools/mkCpD.py. -/
import Derived.Test.YtkpobihpcnoemaaDoorCpD
namespace Go.Proofs.YtkpobihpcnoemaaDoor
open Go.RowKit
set_option linter.unusedVariables false
set_option linter.unusedSimpArgs false


set_option maxRecDepth 100000 in
set_option maxHeartbeats 4000000 in
theorem crashReplica_n (b lo up : Nat) (v : Value) (ss : List Shd) (dr rc k i j : Int) (w : World) (hn : ss.length ≤ 1000) (hr : ∀ s ∈ ss, (srs s).length ≤ 1000) (hlo : 0 < lo ∧ lo ≤ b ∧ b < up) (hf : Flt w) (hx : CmX w b lo up v ss dr rc) :
    Calls Tryd.prog 82 #[.pointer (some ⟨b, 0, none⟩), .agg #[.int .i64 k, .int .i64 i, .int .i64 j]] w (StP lo up b v (stR ss dr rc 5 i j) w) := by
  obtain ⟨va, vc, hv⟩ := hx.form
  subst hv
  obtain ⟨w0, hw0⟩ : ∃ x, x = w.alloc (.cells #[.int .i64 k, .int .i64 i, .int .i64 j] 48) := ⟨_, rfl⟩
  have hb0 : Below w.heap.size w w0 := hw0 ▸ Go.Joins.below_alloc1 _ _
  have hlw : lo ≤ w.heap.size := Nat.le_of_lt (Nat.lt_of_le_of_lt hlo.2.1 hx.1.1.2)
  have HC : Hid (CmX w0 b lo up (.slice va ss.length vc) ss dr rc ∧ Bx w0 w.heap.size [.int .i64 k, .int .i64 i, .int .i64 j] ∧ TurnS (Btw lo up) w w0 ∧ Flt w0 ∧ lo ≤ w.heap.size ∧ lo ≤ w0.heap.size) := ⟨hx.next hb0, hw0 ▸ Bx.new w [_, _, _] _, TurnS.of_below hb0, hf.next hb0 hf.lt, hlw, Nat.le_trans hlw hb0.size⟩
  have HR := Hid.intro hr
  have HLO := Hid.intro hlo
  have HF0 : Hid (Flt w) := hf
  have HOLD := Hid.intro hx
  have HB00 : Hid (Below w.heap.size w w0) := hb0
  have HV : Hid (∃ p : Value, p = .slice va ss.length vc) := ⟨_, rfl⟩
  clear hb0 hx hf hr hlo hlw HV
  go_enter Tryd.func82, Tryd.ntmps82
  go_upto_region 1 with fail
  rw [← hw0]
  clear hw0
  have s0 := (HC.out.2.1).cell 0 rfl; have s1 := (HC.out.2.1).cell 1 rfl; have s2 := (HC.out.2.1).cell 2 rfl; have sz := (HC.out.2.1).2
  go_wp2_with fail
  clear s0 s1 s2 sz
  refine (mustBeUp_x b lo up _ ss dr rc k i j _ hn HR.out HC.out.2.2.2.1 HC.out.1).mono ?_
  rintro r w1 ⟨hb, ⟨i', j', q, c, g, c2, l, y, hi, hj, rfl, rfl, hl, hy, hyd, hP, rfl⟩ | ⟨hno, p, rfl⟩⟩
  case inr =>
    have HC := (show Hid (CmX w1 b lo up (.slice va ss.length vc) ss dr rc ∧ Bx w1 w.heap.size [.int .i64 k, .int .i64 i, .int .i64 j] ∧ TurnS (Btw lo up) w w1 ∧ Flt w1 ∧ lo ≤ w.heap.size ∧ lo ≤ w1.heap.size) from ⟨HC.out.1.next hb, HC.out.2.1.next hb, HC.out.2.2.1.next hb, HC.out.2.2.2.1.next hb HC.out.2.2.2.1.lt, HC.out.2.2.2.2.1, Nat.le_trans HC.out.2.2.2.2.2 hb.size⟩)
    exact ⟨rfl, StP.no (hno 5) ⟨p, rfl⟩ HC.out.2.2.1⟩
  have hPn := hP.next HC.out.1 hi hl hj hy hb
  have HBW : Hid (Below w.heap.size w w1) := Hid.intro (below_next HB00.out hb)
  have HC := (show Hid (CmX w1 b lo up (.slice va ss.length vc) ss dr rc ∧ Bx w1 w.heap.size [.int .i64 k, .int .i64 (i' : Int), .int .i64 (j' : Int)] ∧ TurnS (Btw lo up) w w1 ∧ Flt w1 ∧ lo ≤ w.heap.size ∧ lo ≤ w1.heap.size) from ⟨HC.out.1.next hb, HC.out.2.1.next hb, HC.out.2.2.1.next hb, HC.out.2.2.2.1.next hb HC.out.2.2.2.1.lt, HC.out.2.2.2.2.1, Nat.le_trans HC.out.2.2.2.2.2 hb.size⟩)
  have HP := Hid.intro hPn
  have HU : Hid (stR ss dr rc 5 (i' : Int) (j' : Int) = (nxR ss dr rc (mkS l) j' y 5).map fun r' => (ss.set i' (mkS (l.set j' r')), dr, rc)) := Hid.intro (stR_up hi hl hj hy hyd)
  have HL : Hid (l.length ≤ 1000 ∧ rdn y = false ∧ i' < ss.length ∧ j' < l.length) := ⟨by have := HR.out _ (List.getElem_mem hi); rwa [hl] at this, hyd, hi, hj⟩
  obtain ⟨h, hh⟩ : ∃ h, rhs y = h := ⟨_, rfl⟩
  have HH : Hid (rhs y = h) := hh
  clear hb hP hPn hl hy hyd hi hj hh
  have hvq := HP.out.hv
  simp only [Value.slice.injEq, and_true, true_and] at hvq
  obtain ⟨rfl, hvc⟩ := hvq
  clear hvc
  have i0 : (0 : Int) ≤ (i' : Int) ∧ (i' : Int) < (ss.length : Int) := by have := HL.out.2.2.1; omega
  have g0 := HP.out.hd
  have g1 := HP.out.hh
  have gd := HP.out.fd
  have gf := HP.out.fh
  have gz := HP.out.hg
  obtain ⟨W3, hW3⟩ : ∃ x, x = (w1.setCell ⟨g, j' * 2, none⟩ (.bool true)).setCell ⟨g, j' * 2 + 1, none⟩ (.int .i64 0) := ⟨_, rfl⟩
  have hgq : q ≠ g := Ne.symm HP.out.hnq
  have HD3 : Hid (CmX W3 b lo up (.slice (some ⟨q, 0, none⟩) ss.length vc) (ss.set i' (mkS (l.set j' (mkR true 0)))) dr rc ∧ Bx W3 w.heap.size [.int .i64 k, .int .i64 (i' : Int), .int .i64 (j' : Int)] ∧ TurnS (Btw lo up) w W3 ∧ Flt W3 ∧ lo ≤ W3.heap.size ∧ W3.cell? ⟨q, i', none⟩ = some (.slice (some ⟨g, 0, none⟩) l.length c2) ∧ q < W3.heap.size ∧ Lies W3 (.list shReplica) [.slice (some ⟨g, 0, none⟩) l.length c2] (l.set j' (mkR true 0))) := Hid.intro (by
    have e1 : CmX W3 b lo up (.slice (some ⟨q, 0, none⟩) ss.length vc) (ss.set i' (mkS (l.set j' (mkR true 0)))) dr rc := hW3 ▸ HP.out.set true 0
    have e2 : W3.cell? ⟨q, i', none⟩ = w1.cell? ⟨q, i', none⟩ := World.cell?_of_block (a := ⟨q, i', none⟩) (by rw [hW3]; rw [Below.heap_setCell _ _ _ _ hgq, Below.heap_setCell _ _ _ _ hgq])
    have e3 : g ≠ w.heap.size := by
      have q1 := HP.out.hs
      obtain ⟨q0, c0, g', c3, hR⟩ := HOLD.out.rep HP.out.di HP.out.dl HP.out.dj HP.out.dr'
      have q2 := hR.hv
      simp only [Value.slice.injEq, Option.some.injEq, Addr.mk.injEq, and_true, true_and] at q2
      obtain ⟨rfl, rfl⟩ := q2
      have q3 := HBW.out.cell (p := ⟨q, i', none⟩) hR.hq
      rw [q3, hR.hs] at q1
      simp only [Option.some.injEq, Value.slice.injEq, Addr.mk.injEq, and_true, true_and] at q1
      have := hR.hg
      rw [← q1.1]; omega
    have e4 : TurnS (Btw lo up) w W3 := hW3 ▸ (HC.out.2.2.1.set (p := ⟨g, j' * 2, none⟩) ⟨HP.out.hlo, HP.out.hhi⟩ _).set (p := ⟨g, j' * 2 + 1, none⟩) ⟨HP.out.hlo, HP.out.hhi⟩ _
    have e5 : 0 < lo := HLO.out.1
    exact ⟨e1, hW3 ▸ (HC.out.2.1.other (Ne.symm e3)).other (Ne.symm e3), e4, HF0.out.turn e4 (fun q => by have := q.1; omega), by rw [hW3]; simp; exact HC.out.2.2.2.2.2, e2.trans HP.out.hs, by rw [hW3]; simp; exact HP.out.hq, HP.out.turned HP.out.di e1 e2⟩)
  have HLN : Hid ((l.set j' (mkR true 0)).length ≤ 1073741824) := Hid.intro (by rw [List.length_set]; exact Nat.le_trans HL.out.1 (by decide))
  have HLE : Hid ((l.set j' (mkR true 0)).length = l.length) := Hid.intro (by rw [List.length_set])
  go_upto_region 3 with fail
  rw [← hW3]
  clear hW3 g0 g1 gd gf gz
  cases hlv : livB (mkS (l.set j' (mkR true 0)))
  case false =>
    have HLV := Hid.intro hlv
    have HN : Hid (nxR ss dr rc (mkS l) j' y 5 = none) := Hid.intro (by unfold nxR; rw [if_neg (by decide), if_neg (by decide), if_pos rfl, if_neg (fun q => by have q2 : livB (mkS (l.set j' (mkR true 0))) = true := q; rw [HLV.out] at q2; cases q2)])
    have HE : Hid (stR ss dr rc 5 (i' : Int) (j' : Int) = none) := Hid.intro (by rw [HU.out, HN.out]; rfl)
    clear hlv
    refine wp_region_held_drew (S := fun W => Below W3.heap.size W3 W) (by kernel_rfl) (below_drew _) (fun hHeld => ?_)
    refine take_vp (v := ?_) 0 ⟨some 11, Op.move (Operand.tmp 0), _, _, _, none⟩ rfl (fun _ _ _ h => h) ?_ hHeld ?_
    rotate_left
    · (intro W _; go_simp <;> (try with_reducible rfl))
    refine take_vp (v := ?_) 1 ⟨some 12, Op.nilCheck (Operand.tmp 11), _, _, _, none⟩ rfl (fun _ _ _ h => h) ?_ hHeld ?_
    rotate_left
    · (intro W _; go_simp <;> (try with_reducible rfl))
    refine take_vp (v := ?_) 2 ⟨some 13, Op.fieldAddr 29 (Operand.tmp 12) 0, _, _, _, none⟩ rfl (fun _ _ _ h => h) ?_ hHeld ?_
    rotate_left
    · (intro W _; go_simp <;> (try with_reducible rfl))
    refine take_vp (v := ?_) 3 ⟨some 14, Op.load 27 (Operand.tmp 13), _, _, _, none⟩ rfl (fun _ _ _ h => h) ?_ hHeld ?_
    rotate_left
    · (intro W hSW; (have s0 := (HD3.out.2.1.next hSW).cell 0 rfl; have s1 := (HD3.out.2.1.next hSW).cell 1 rfl; have s2 := (HD3.out.2.1.next hSW).cell 2 rfl; have sz := (HD3.out.2.1.next hSW).2; have u0 := (HD3.out.1.1.1.next hSW).cell 0 rfl; have u1 := (HD3.out.1.1.1.next hSW).cell 1 rfl; have u2 := (HD3.out.1.1.1.next hSW).cell 2 rfl; have uz := (HD3.out.1.1.1.next hSW).2; have qs := (hSW.cell (p := ⟨q, i', none⟩) HD3.out.2.2.2.2.2.2.1).trans HD3.out.2.2.2.2.2.1); go_simp <;> (try with_reducible rfl))
    refine take_vp (v := ?_) 4 ⟨some 15, Op.fieldAddr 48 (Operand.tmp 3) 1, _, _, _, none⟩ rfl (fun _ _ _ h => h) ?_ hHeld ?_
    rotate_left
    · (intro W _; go_simp <;> (try with_reducible rfl))
    refine take_vp (v := ?_) 5 ⟨some 16, Op.load 3 (Operand.tmp 15), _, _, _, none⟩ rfl (fun _ _ _ h => h) ?_ hHeld ?_
    rotate_left
    · (intro W hSW; (have s0 := (HD3.out.2.1.next hSW).cell 0 rfl; have s1 := (HD3.out.2.1.next hSW).cell 1 rfl; have s2 := (HD3.out.2.1.next hSW).cell 2 rfl; have sz := (HD3.out.2.1.next hSW).2; have u0 := (HD3.out.1.1.1.next hSW).cell 0 rfl; have u1 := (HD3.out.1.1.1.next hSW).cell 1 rfl; have u2 := (HD3.out.1.1.1.next hSW).cell 2 rfl; have uz := (HD3.out.1.1.1.next hSW).2; have qs := (hSW.cell (p := ⟨q, i', none⟩) HD3.out.2.2.2.2.2.2.1).trans HD3.out.2.2.2.2.2.1); go_simp <;> (try with_reducible rfl))
    refine take_vp (v := ?_) 6 ⟨some 17, Op.indexAddr 27 (Operand.tmp 14) (Operand.tmp 16), _, _, _, none⟩ rfl (fun _ _ _ h => h) ?_ hHeld ?_
    rotate_left
    · (intro W _; go_simp <;> (try with_reducible rfl))
    refine take_vp (v := ?_) 7 ⟨some 18, Op.load 42 (Operand.tmp 17), _, _, _, none⟩ rfl (fun _ _ _ h => h) ?_ hHeld ?_
    rotate_left
    · (intro W hSW; (have s0 := (HD3.out.2.1.next hSW).cell 0 rfl; have s1 := (HD3.out.2.1.next hSW).cell 1 rfl; have s2 := (HD3.out.2.1.next hSW).cell 2 rfl; have sz := (HD3.out.2.1.next hSW).2; have u0 := (HD3.out.1.1.1.next hSW).cell 0 rfl; have u1 := (HD3.out.1.1.1.next hSW).cell 1 rfl; have u2 := (HD3.out.1.1.1.next hSW).cell 2 rfl; have uz := (HD3.out.1.1.1.next hSW).2; have qs := (hSW.cell (p := ⟨q, i', none⟩) HD3.out.2.2.2.2.2.2.1).trans HD3.out.2.2.2.2.2.1); go_simp <;> (try with_reducible rfl))
    refine ready_call 8 ⟨some 19, Op.call { callee := Callee.value (Operand.func 43), args := #[Operand.tmp 18], argTypes := #[42] }, _, _, _, none⟩ (by kernel_rfl) rfl (by kernel_rfl) (fun KC hK => ?_)
    go_wp2_with fail
    refine (isLiving_len (some ⟨g, 0, none⟩) c2 l.length (l.set j' (mkR true 0)) _ _ HLE.out HLN.out HLV.out (HD3.out.2.2.2.2.2.2.2.next (below_drew _))).mono ?_
    rintro r w4 ⟨rfl, hb⟩
    have hbw := below_next (below_drew W3) hb
    refine hK.out _ _ hbw (fun hHeld => ?_)
    clear hK KC
    refine ready_call 9 ⟨some 20, Op.call { callee := Callee.value (Operand.func 85), args := #[Operand.tmp 19], argTypes := #[4] }, _, _, _, none⟩ (by kernel_rfl) rfl (by kernel_rfl) (fun KC hK => ?_)
    go_wp2_with fail
    refine (must_no _ (HD3.out.2.2.2.1.next hbw HD3.out.2.2.2.1.lt)).mono ?_
    rintro r w5 ⟨⟨p, rfl⟩, hw⟩
    have hw := hw.symm
    subst hw
    exact ⟨rfl, StP.no HE.out ⟨p, rfl⟩ (HD3.out.2.2.1.next hbw)⟩
  case true =>
    have HLV := Hid.intro hlv
    have HN : Hid (nxR ss dr rc (mkS l) j' y 5 = some (mkR true 0)) := Hid.intro (by unfold nxR; rw [if_neg (by decide), if_neg (by decide), if_pos rfl, if_pos (show ((srs (mkS l)).set j' (mkR true 0)).any upB = true from HLV.out)])
    have HE : Hid (stR ss dr rc 5 (i' : Int) (j' : Int) = some (ss.set i' (mkS (l.set j' (mkR true 0))), dr, rc)) := Hid.intro (by rw [HU.out, HN.out]; rfl)
    clear hlv
    refine wp_region_noPanic ?_
    refine wp_region_held_drew (S := fun W => Below W3.heap.size W3 W) (by kernel_rfl) (below_drew _) (fun hHeld => ?_)
    refine take_v (v := ?_) 0 ⟨some 11, Op.move (Operand.tmp 0), _, _, _, none⟩ rfl (fun _ _ _ h => h) ?_ hHeld ?_
    rotate_left
    · (intro W _; go_simp <;> (try with_reducible rfl))
    refine take_v (v := ?_) 1 ⟨some 12, Op.nilCheck (Operand.tmp 11), _, _, _, none⟩ rfl (fun _ _ _ h => h) ?_ hHeld ?_
    rotate_left
    · (intro W _; go_simp <;> (try with_reducible rfl))
    refine take_v (v := ?_) 2 ⟨some 13, Op.fieldAddr 29 (Operand.tmp 12) 0, _, _, _, none⟩ rfl (fun _ _ _ h => h) ?_ hHeld ?_
    rotate_left
    · (intro W _; go_simp <;> (try with_reducible rfl))
    refine take_v (v := ?_) 3 ⟨some 14, Op.load 27 (Operand.tmp 13), _, _, _, none⟩ rfl (fun _ _ _ h => h) ?_ hHeld ?_
    rotate_left
    · (intro W hSW; (have s0 := (HD3.out.2.1.next hSW).cell 0 rfl; have s1 := (HD3.out.2.1.next hSW).cell 1 rfl; have s2 := (HD3.out.2.1.next hSW).cell 2 rfl; have sz := (HD3.out.2.1.next hSW).2; have u0 := (HD3.out.1.1.1.next hSW).cell 0 rfl; have u1 := (HD3.out.1.1.1.next hSW).cell 1 rfl; have u2 := (HD3.out.1.1.1.next hSW).cell 2 rfl; have uz := (HD3.out.1.1.1.next hSW).2; have qs := (hSW.cell (p := ⟨q, i', none⟩) HD3.out.2.2.2.2.2.2.1).trans HD3.out.2.2.2.2.2.1); go_simp <;> (try with_reducible rfl))
    refine take_v (v := ?_) 4 ⟨some 15, Op.fieldAddr 48 (Operand.tmp 3) 1, _, _, _, none⟩ rfl (fun _ _ _ h => h) ?_ hHeld ?_
    rotate_left
    · (intro W _; go_simp <;> (try with_reducible rfl))
    refine take_v (v := ?_) 5 ⟨some 16, Op.load 3 (Operand.tmp 15), _, _, _, none⟩ rfl (fun _ _ _ h => h) ?_ hHeld ?_
    rotate_left
    · (intro W hSW; (have s0 := (HD3.out.2.1.next hSW).cell 0 rfl; have s1 := (HD3.out.2.1.next hSW).cell 1 rfl; have s2 := (HD3.out.2.1.next hSW).cell 2 rfl; have sz := (HD3.out.2.1.next hSW).2; have u0 := (HD3.out.1.1.1.next hSW).cell 0 rfl; have u1 := (HD3.out.1.1.1.next hSW).cell 1 rfl; have u2 := (HD3.out.1.1.1.next hSW).cell 2 rfl; have uz := (HD3.out.1.1.1.next hSW).2; have qs := (hSW.cell (p := ⟨q, i', none⟩) HD3.out.2.2.2.2.2.2.1).trans HD3.out.2.2.2.2.2.1); go_simp <;> (try with_reducible rfl))
    refine take_v (v := ?_) 6 ⟨some 17, Op.indexAddr 27 (Operand.tmp 14) (Operand.tmp 16), _, _, _, none⟩ rfl (fun _ _ _ h => h) ?_ hHeld ?_
    rotate_left
    · (intro W _; go_simp <;> (try with_reducible rfl))
    refine take_v (v := ?_) 7 ⟨some 18, Op.load 42 (Operand.tmp 17), _, _, _, none⟩ rfl (fun _ _ _ h => h) ?_ hHeld ?_
    rotate_left
    · (intro W hSW; (have s0 := (HD3.out.2.1.next hSW).cell 0 rfl; have s1 := (HD3.out.2.1.next hSW).cell 1 rfl; have s2 := (HD3.out.2.1.next hSW).cell 2 rfl; have sz := (HD3.out.2.1.next hSW).2; have u0 := (HD3.out.1.1.1.next hSW).cell 0 rfl; have u1 := (HD3.out.1.1.1.next hSW).cell 1 rfl; have u2 := (HD3.out.1.1.1.next hSW).cell 2 rfl; have uz := (HD3.out.1.1.1.next hSW).2; have qs := (hSW.cell (p := ⟨q, i', none⟩) HD3.out.2.2.2.2.2.2.1).trans HD3.out.2.2.2.2.2.1); go_simp <;> (try with_reducible rfl))
    refine ready_call 8 ⟨some 19, Op.call { callee := Callee.value (Operand.func 43), args := #[Operand.tmp 18], argTypes := #[42] }, _, _, _, none⟩ (by kernel_rfl) rfl (by kernel_rfl) (fun KC hK => ?_)
    go_wp2_with fail
    refine (isLiving_len (some ⟨g, 0, none⟩) c2 l.length (l.set j' (mkR true 0)) _ _ HLE.out HLN.out HLV.out (HD3.out.2.2.2.2.2.2.2.next (below_drew _))).mono ?_
    rintro r w4 ⟨rfl, hb⟩
    have hbw := below_next (below_drew W3) hb
    refine hK.out _ _ hbw (fun hHeld => ?_)
    clear hK KC
    refine ready_call 9 ⟨some 20, Op.call { callee := Callee.value (Operand.func 85), args := #[Operand.tmp 19], argTypes := #[4] }, _, _, _, none⟩ (by kernel_rfl) rfl (by kernel_rfl) (fun KC hK => ?_)
    go_wp2_with fail
    refine (must_yes _).mono ?_
    rintro r w5 ⟨rfl, hw⟩
    have hw := hw.symm
    subst hw
    refine hK.out _ _ hbw (fun hHeld => ?_)
    clear hK KC
    refine wpAnyH_done (by kernel_rfl) ?_ _
    refine NoPanic.normal ?_
    clear hHeld
    go_wp2
    first | (go_end0; exact StP.yes HE.out (HD3.out.1.next hbw) (HD3.out.2.2.1.next hbw)) | exact bodyPost_ret (v := .tuple #[]) (by simp [results, Tryd.results82]) rfl (StP.yes HE.out (HD3.out.1.next hbw) (HD3.out.2.2.1.next hbw))

set_option maxRecDepth 100000 in
set_option maxHeartbeats 4000000 in
theorem applyDecision_n (b lo up : Nat) (v : Value) (ss : List Shd) (dr rc k i j : Int) (w : World) (hn : ss.length ≤ 1000) (hr : ∀ s ∈ ss, (srs s).length ≤ 1000) (hlo : 0 < lo ∧ lo ≤ b ∧ b < up) (hf : Flt w) (hgd : inR dr 0 2 = true ∧ inR rc 0 2 = true) (hx : CmX w b lo up v ss dr rc) :
    Calls Tryd.prog 84 #[.pointer (some ⟨b, 0, none⟩), .agg #[.int .i64 k, .int .i64 i, .int .i64 j]] w (StP lo up b v (stR ss dr rc 7 i j) w) := by
  obtain ⟨va, vc, hv⟩ := hx.form
  subst hv
  obtain ⟨w0, hw0⟩ : ∃ x, x = w.alloc (.cells #[.int .i64 k, .int .i64 i, .int .i64 j] 48) := ⟨_, rfl⟩
  have hb0 : Below w.heap.size w w0 := hw0 ▸ Go.Joins.below_alloc1 _ _
  have hlw : lo ≤ w.heap.size := Nat.le_of_lt (Nat.lt_of_le_of_lt hlo.2.1 hx.1.1.2)
  have HC : Hid (CmX w0 b lo up (.slice va ss.length vc) ss dr rc ∧ Bx w0 w.heap.size [.int .i64 k, .int .i64 i, .int .i64 j] ∧ TurnS (Btw lo up) w w0 ∧ Flt w0 ∧ lo ≤ w.heap.size ∧ lo ≤ w0.heap.size) := ⟨hx.next hb0, hw0 ▸ Bx.new w [_, _, _] _, TurnS.of_below hb0, hf.next hb0 hf.lt, hlw, Nat.le_trans hlw hb0.size⟩
  have HR := Hid.intro hr
  have HLO := Hid.intro hlo
  have HV : Hid (∃ p : Value, p = .slice va ss.length vc) := ⟨_, rfl⟩
  clear hb0 hx hf hr hlo hlw HV
  go_enter Tryd.func84, Tryd.ntmps84
  go_upto_region 1 with fail
  rw [← hw0]
  clear hw0
  have s0 := (HC.out.2.1).cell 0 rfl; have s1 := (HC.out.2.1).cell 1 rfl; have s2 := (HC.out.2.1).cell 2 rfl; have sz := (HC.out.2.1).2
  go_wp2_with fail
  clear s0 s1 s2 sz
  refine (mustBeUp_x b lo up _ ss dr rc k i j _ hn HR.out HC.out.2.2.2.1 HC.out.1).mono ?_
  rintro r w1 ⟨hb, ⟨i', j', q, c, g, c2, l, y, hi, hj, rfl, rfl, hl, hy, hyd, hP, rfl⟩ | ⟨hno, p, rfl⟩⟩
  case inr =>
    have HC := (show Hid (CmX w1 b lo up (.slice va ss.length vc) ss dr rc ∧ Bx w1 w.heap.size [.int .i64 k, .int .i64 i, .int .i64 j] ∧ TurnS (Btw lo up) w w1 ∧ Flt w1 ∧ lo ≤ w.heap.size ∧ lo ≤ w1.heap.size) from ⟨HC.out.1.next hb, HC.out.2.1.next hb, HC.out.2.2.1.next hb, HC.out.2.2.2.1.next hb HC.out.2.2.2.1.lt, HC.out.2.2.2.2.1, Nat.le_trans HC.out.2.2.2.2.2 hb.size⟩)
    exact ⟨rfl, StP.no (hno 7) ⟨p, rfl⟩ HC.out.2.2.1⟩
  have hPn := hP.next HC.out.1 hi hl hj hy hb
  have HC := (show Hid (CmX w1 b lo up (.slice va ss.length vc) ss dr rc ∧ Bx w1 w.heap.size [.int .i64 k, .int .i64 (i' : Int), .int .i64 (j' : Int)] ∧ TurnS (Btw lo up) w w1 ∧ Flt w1 ∧ lo ≤ w.heap.size ∧ lo ≤ w1.heap.size) from ⟨HC.out.1.next hb, HC.out.2.1.next hb, HC.out.2.2.1.next hb, HC.out.2.2.2.1.next hb HC.out.2.2.2.1.lt, HC.out.2.2.2.2.1, Nat.le_trans HC.out.2.2.2.2.2 hb.size⟩)
  have HP := Hid.intro hPn
  have HU : Hid (stR ss dr rc 7 (i' : Int) (j' : Int) = (nxR ss dr rc (mkS l) j' y 7).map fun r' => (ss.set i' (mkS (l.set j' r')), dr, rc)) := Hid.intro (stR_up hi hl hj hy hyd)
  have HL : Hid (l.length ≤ 1000 ∧ rdn y = false ∧ i' < ss.length ∧ j' < l.length) := ⟨by have := HR.out _ (List.getElem_mem hi); rwa [hl] at this, hyd, hi, hj⟩
  obtain ⟨h, hh⟩ : ∃ h, rhs y = h := ⟨_, rfl⟩
  have HH : Hid (rhs y = h) := hh
  clear hb hP hPn hl hy hyd hi hj hh
  have g1 := HP.out.hh
  have gf := HP.out.fh
  have gz := HP.out.hg
  rw [HH.out] at g1
  by_cases h3 : h = 3
  · have hq : (h != 3) = false := by simpa using h3
    have H3 := Hid.intro h3
    have HN : Hid (nxR ss dr rc (mkS l) j' y 7 = none) := Hid.intro (by unfold nxR; rw [if_neg (by decide), if_neg (by decide), if_neg (by decide), if_pos rfl, if_neg (fun q => q.2.1 (by rw [HH.out]; exact H3.out))])
    have HE : Hid (stR ss dr rc 7 (i' : Int) (j' : Int) = none) := Hid.intro (by rw [HU.out, HN.out]; rfl)
    (try clear h3)
    (try clear h4)
    go_wp2_with (go_at_call 85; first | (refine (must_yes _).mono ?_; rintro r w9 ⟨rfl, hw⟩; have hw := hw.symm; subst hw) | (refine (must_no _ HC.out.2.2.2.1).mono ?_; rintro r w9 ⟨⟨p, rfl⟩, hw⟩; have hw := hw.symm; subst hw))
    exact ⟨rfl, StP.no HE.out ⟨p, rfl⟩ HC.out.2.2.1⟩
  have hq : (h != 3) = true := by simpa using h3
  by_cases h4 : h = 4
  · have hq4 : (h != 4) = false := by simpa using h4
    have H4 := Hid.intro h4
    have HN : Hid (nxR ss dr rc (mkS l) j' y 7 = none) := Hid.intro (by unfold nxR; rw [if_neg (by decide), if_neg (by decide), if_neg (by decide), if_pos rfl, if_neg (fun q => q.2.2 (by rw [HH.out]; exact H4.out))])
    have HE : Hid (stR ss dr rc 7 (i' : Int) (j' : Int) = none) := Hid.intro (by rw [HU.out, HN.out]; rfl)
    (try clear h3)
    (try clear h4)
    go_wp2_with (go_at_call 85; first | (refine (must_yes _).mono ?_; rintro r w9 ⟨rfl, hw⟩; have hw := hw.symm; subst hw) | (refine (must_no _ HC.out.2.2.2.1).mono ?_; rintro r w9 ⟨⟨p, rfl⟩, hw⟩; have hw := hw.symm; subst hw))
    exact ⟨rfl, StP.no HE.out ⟨p, rfl⟩ HC.out.2.2.1⟩
  have hq4 : (h != 4) = true := by simpa using h4
  have H34 : Hid (¬ h = 3 ∧ ¬ h = 4) := ⟨h3, h4⟩
  clear h3 h4
  have u0 := (HC.out.1.1.1).cell 0 rfl; have u1 := (HC.out.1.1.1).cell 1 rfl; have u2 := (HC.out.1.1.1).cell 2 rfl; have uz := (HC.out.1.1.1).2
  obtain ⟨d, hd⟩ : ∃ d, decN dr rc = d := ⟨_, rfl⟩
  have HDD := Hid.intro hd
  have hd3 : d = 0 ∨ d = 1 ∨ d = 2 := by
    have q1 := inR_iff.1 hgd.1
    have q2 := inR_iff.1 hgd.2
    rw [← hd]
    by_cases q : dr = 0
    · rw [decN_0 q]; omega
    · rw [decN_n q]; omega
  clear hd hgd
  rcases hd3 with rfl | rfl | rfl
  · have HZ := Hid.intro HDD.out
    have HN : Hid (nxR ss dr rc (mkS l) j' y 7 = none) := Hid.intro (by unfold nxR; rw [if_neg (by decide), if_neg (by decide), if_neg (by decide), if_pos rfl, if_neg (fun q => q.1 HZ.out)])
    have HE : Hid (stR ss dr rc 7 (i' : Int) (j' : Int) = none) := Hid.intro (by rw [HU.out, HN.out]; rfl)
    go_wp2_with (first | (go_at_call 40; refine (decisionIn_n _ ⟨_, _, _, rfl⟩ dr rc _ _ HDD.out).mono ?_; rintro r w3 ⟨rfl, hb⟩; have HP := Hid.intro (RpX.carry HP.out HC.out.1 hb); have HC := (show Hid (CmX w3 b lo up (.slice va ss.length vc) ss dr rc ∧ Bx w3 w.heap.size [.int .i64 k, .int .i64 (i' : Int), .int .i64 (j' : Int)] ∧ TurnS (Btw lo up) w w3 ∧ Flt w3 ∧ lo ≤ w.heap.size ∧ lo ≤ w3.heap.size) from ⟨HC.out.1.next hb, HC.out.2.1.next hb, HC.out.2.2.1.next hb, HC.out.2.2.2.1.next hb HC.out.2.2.2.1.lt, HC.out.2.2.2.2.1, Nat.le_trans HC.out.2.2.2.2.2 hb.size⟩); clear hb u0 u1 u2 uz g1 gf gz; have g1 := HP.out.hh; have gf := HP.out.fh; have gz := HP.out.hg; rw [HH.out] at g1) | (go_at_call 85; first | (refine (must_yes _).mono ?_; rintro r w9 ⟨rfl, hw⟩; have hw := hw.symm; subst hw) | (refine (must_no _ HC.out.2.2.2.1).mono ?_; rintro r w9 ⟨⟨p, rfl⟩, hw⟩; have hw := hw.symm; subst hw)))
    exact ⟨rfl, StP.no HE.out ⟨p, rfl⟩ HC.out.2.2.1⟩
  · have HZ := Hid.intro HDD.out
    have HN : Hid (nxR ss dr rc (mkS l) j' y 7 = some (mkR false 3)) := Hid.intro (by unfold nxR; rw [if_neg (by decide), if_neg (by decide), if_neg (by decide), if_pos rfl, if_pos ⟨by rw [HZ.out]; decide, by rw [HH.out]; exact H34.out.1, by rw [HH.out]; exact H34.out.2⟩, HZ.out]; rfl)
    have HE : Hid (stR ss dr rc 7 (i' : Int) (j' : Int) = some (ss.set i' (mkS (l.set j' (mkR false 3))), dr, rc)) := Hid.intro (by rw [HU.out, HN.out]; rfl)
    go_wp2_with (first | (go_at_call 40; refine (decisionIn_n _ ⟨_, _, _, rfl⟩ dr rc _ _ HDD.out).mono ?_; rintro r w3 ⟨rfl, hb⟩; have HP := Hid.intro (RpX.carry HP.out HC.out.1 hb); have HC := (show Hid (CmX w3 b lo up (.slice va ss.length vc) ss dr rc ∧ Bx w3 w.heap.size [.int .i64 k, .int .i64 (i' : Int), .int .i64 (j' : Int)] ∧ TurnS (Btw lo up) w w3 ∧ Flt w3 ∧ lo ≤ w.heap.size ∧ lo ≤ w3.heap.size) from ⟨HC.out.1.next hb, HC.out.2.1.next hb, HC.out.2.2.1.next hb, HC.out.2.2.2.1.next hb HC.out.2.2.2.1.lt, HC.out.2.2.2.2.1, Nat.le_trans HC.out.2.2.2.2.2 hb.size⟩); clear hb u0 u1 u2 uz g1 gf gz; have g1 := HP.out.hh; have gf := HP.out.fh; have gz := HP.out.hg; rw [HH.out] at g1) | (go_at_call 85; refine (must_yes _).mono ?_; rintro r w9 ⟨rfl, hw⟩; have hw := hw.symm; subst hw))
    first | (go_end0; exact StP.yes HE.out (by have := HP.out.has 3; rwa [HL.out.2.1] at this) (HC.out.2.2.1.set (p := ⟨g, j' * 2 + 1, none⟩) ⟨HP.out.hlo, HP.out.hhi⟩ _)) | exact bodyPost_ret (v := .tuple #[]) (by simp [results, Tryd.results84]) rfl (StP.yes HE.out (by have := HP.out.has 3; rwa [HL.out.2.1] at this) (HC.out.2.2.1.set (p := ⟨g, j' * 2 + 1, none⟩) ⟨HP.out.hlo, HP.out.hhi⟩ _))
  · have HZ := Hid.intro HDD.out
    have HN : Hid (nxR ss dr rc (mkS l) j' y 7 = some (mkR false 4)) := Hid.intro (by unfold nxR; rw [if_neg (by decide), if_neg (by decide), if_neg (by decide), if_pos rfl, if_pos ⟨by rw [HZ.out]; decide, by rw [HH.out]; exact H34.out.1, by rw [HH.out]; exact H34.out.2⟩, HZ.out]; rfl)
    have HE : Hid (stR ss dr rc 7 (i' : Int) (j' : Int) = some (ss.set i' (mkS (l.set j' (mkR false 4))), dr, rc)) := Hid.intro (by rw [HU.out, HN.out]; rfl)
    go_wp2_with (first | (go_at_call 40; refine (decisionIn_n _ ⟨_, _, _, rfl⟩ dr rc _ _ HDD.out).mono ?_; rintro r w3 ⟨rfl, hb⟩; have HP := Hid.intro (RpX.carry HP.out HC.out.1 hb); have HC := (show Hid (CmX w3 b lo up (.slice va ss.length vc) ss dr rc ∧ Bx w3 w.heap.size [.int .i64 k, .int .i64 (i' : Int), .int .i64 (j' : Int)] ∧ TurnS (Btw lo up) w w3 ∧ Flt w3 ∧ lo ≤ w.heap.size ∧ lo ≤ w3.heap.size) from ⟨HC.out.1.next hb, HC.out.2.1.next hb, HC.out.2.2.1.next hb, HC.out.2.2.2.1.next hb HC.out.2.2.2.1.lt, HC.out.2.2.2.2.1, Nat.le_trans HC.out.2.2.2.2.2 hb.size⟩); clear hb u0 u1 u2 uz g1 gf gz; have g1 := HP.out.hh; have gf := HP.out.fh; have gz := HP.out.hg; rw [HH.out] at g1) | (go_at_call 85; refine (must_yes _).mono ?_; rintro r w9 ⟨rfl, hw⟩; have hw := hw.symm; subst hw))
    first | (go_end0; exact StP.yes HE.out (by have := HP.out.has 4; rwa [HL.out.2.1] at this) (HC.out.2.2.1.set (p := ⟨g, j' * 2 + 1, none⟩) ⟨HP.out.hlo, HP.out.hhi⟩ _)) | exact bodyPost_ret (v := .tuple #[]) (by simp [results, Tryd.results84]) rfl (StP.yes HE.out (by have := HP.out.has 4; rwa [HL.out.2.1] at this) (HC.out.2.2.1.set (p := ⟨g, j' * 2 + 1, none⟩) ⟨HP.out.hlo, HP.out.hhi⟩ _))

end Go.Proofs.YtkpobihpcnoemaaDoor
