/- Leases: ticks, the program's table of steps, copies, and impl.StepLease. Written by tools/mkLsB.py. -/
import Derived.Test.YtidalpgkljafdaaLsA
import Derived.Test.YtidalpgkljafdaaNtX
namespace Go.Proofs.Ytidalpgkljafdaa
open Go.RowKit
set_option linter.unusedVariables false
set_option linter.unusedSimpArgs false

theorem LxS.other {W : World} {lo g : Nat} {sk nw : Int} {g1 k1 : Nat} {cl : List (Sh.T .int)} {ho un : Int} {g2 k2 : Nat} {kn : List (Sh.T .int)} {m b q : Nat} {v : Value} (h : LxS W lo g sk nw g1 k1 cl ho un g2 k2 kn m) (h0 : g ≠ b) (h1 : g1 ≠ b) (h2 : g2 ≠ b) : LxS (W.setCell ⟨b, q, none⟩ v) lo g sk nw g1 k1 cl ho un g2 k2 kn m := ⟨h.1.other h0, h.2.1.other (p := ⟨b, q, none⟩) h1 _, h.2.2.1.other (p := ⟨b, q, none⟩) h2 _, h.2.2.2⟩
theorem LtP.back {o : Option (Sh.T shLeases)} {w W W' : World} {lo g g1 k1 g2 k2 m : Nat} {r : Ending} (h : LtP o W lo g g1 k1 g2 k2 m r W') (hb : Below w.heap.size w W) : LtP o w lo g g1 k1 g2 k2 m r W' := ⟨h.1, (TurnS.of_below hb).trans h.2.1, h.2.2⟩
theorem tick_n (b : Nat) (c n : Int) (w : World) (hc : -10000000 ≤ c ∧ c ≤ 10000000) (hn : -10000000 ≤ n ∧ n ≤ 10000000) (q1 : w.cell? ⟨b, 0, none⟩ = some (.int .i64 c)) (q2 : w.frozen? ⟨b, 0, none⟩ = false) (q3 : b < w.heap.size) :
    Calls Try.prog 70 #[.pointer (some ⟨b, 0, none⟩), .int .i64 n] w fun r w' => r = .returned (.tuple #[]) ∧ w' = w.setCell ⟨b, 0, none⟩ (.int .i64 (c + n)) := by
  obtain ⟨hc1, hc2⟩ := hc
  obtain ⟨hn1, hn2⟩ := hn
  go_enter Try.func70, Try.ntmps70
  go_wp2
  go_end0
  exact ⟨rfl, rfl⟩


set_option maxRecDepth 100000 in
set_option maxHeartbeats 2000000 in
theorem tickNode_n (lo g : Nat) (sk nw : Int) (g1 k1 : Nat) (cl : List (Sh.T .int)) (ho un : Int) (g2 k2 : Nat) (kn : List (Sh.T .int)) (m : Nat) (b n : Int) (w : World) (hg : goodL sk nw cl ho un kn) (h : LxS w lo g sk nw g1 k1 cl ho un g2 k2 kn m) :
    Calls Try.prog 68 #[.pointer (some ⟨g, 0, none⟩), .int .i64 b, .int .i64 n] w (LtP (leTick sk nw cl ho un kn b n) w lo g g1 k1 g2 k2 m) := by
  have HX : Hid (LxB w w lo g sk nw g1 k1 cl ho un g2 k2 kn m) := ⟨h, Below.refl _ _⟩
  have HG := Hid.intro hg
  have hm12 : m ≤ 12 := by have h1 := hg.2.2.2.1; rw [h.2.1.2] at h1; omega
  have HM : Hid (cl.length = m ∧ kn.length = m) := ⟨h.2.1.2, h.2.2.1.2⟩
  have hm30 : m ≤ 1073741824 := by omega
  have s0 := h.1.cell 0 rfl
  have s1 := h.1.cell 1 rfl
  have s2 := h.1.cell 2 rfl
  have s3 := h.1.cell 3 rfl
  have s4 := h.1.cell 4 rfl
  have s5 := h.1.cell 5 rfl
  have sz := h.1.2
  clear h hg
  cases c1 : inR b 0 ((m : Int) - 1)
  · have HN : Hid (leTick sk nw cl ho un kn b n = none) := Hid.intro (leTick_no (fun q => by have h1 := q.1; rw [HM.out.1] at h1; rw [inR_iff.2 h1] at c1; cases c1))
    have HC : Hid (inR b 0 ((m : Int) - 1) = false) := c1
    clear c1
    go_enter Try.func68, Try.ntmps68
    go_wp2_with (go_at_call 46; refine (HC.out ▸ hasNode_n sk nw (some ⟨g1, 0, none⟩) m k1 ho un _ b _ hm30 ⟨(some ⟨g2, 0, none⟩), m, k2, rfl⟩).mono ?_; rintro r w1 ⟨rfl, hb⟩; have HX1 := Hid.intro (HX.out.next hb); clear hb s0 s1 s2 s3 s4 s5 sz; have s0 := HX1.out.1.1.cell 0 rfl; have s1 := HX1.out.1.1.cell 1 rfl; have s2 := HX1.out.1.1.cell 2 rfl; have s3 := HX1.out.1.1.cell 3 rfl; have s4 := HX1.out.1.1.cell 4 rfl; have s5 := HX1.out.1.1.cell 5 rfl; have sz := HX1.out.1.1.2)
    go_ret
    exact LtP.no HN.out HX1.out.2
  have HC : Hid (inR b 0 ((m : Int) - 1) = true) := c1
  have hb12 := inR_iff.1 c1
  clear c1
  cases c2 : inR n (-1000) 1000000
  · have HN : Hid (leTick sk nw cl ho un kn b n = none) := Hid.intro (leTick_no (fun q => by rw [inR_iff.2 q.2.1] at c2; cases c2))
    have HC2 : Hid (inR n (-1000) 1000000 = false) := c2
    clear c2
    go_enter Try.func68, Try.ntmps68
    go_wp2_with (first | (go_at_call 46; refine (HC.out ▸ hasNode_n sk nw (some ⟨g1, 0, none⟩) m k1 ho un _ b _ hm30 ⟨(some ⟨g2, 0, none⟩), m, k2, rfl⟩).mono ?_; rintro r w1 ⟨rfl, hb⟩; have HX1 := Hid.intro (HX.out.next hb); clear hb s0 s1 s2 s3 s4 s5 sz; have s0 := HX1.out.1.1.cell 0 rfl; have s1 := HX1.out.1.1.cell 1 rfl; have s2 := HX1.out.1.1.cell 2 rfl; have s3 := HX1.out.1.1.cell 3 rfl; have s4 := HX1.out.1.1.cell 4 rfl; have s5 := HX1.out.1.1.cell 5 rfl; have sz := HX1.out.1.1.2) | (go_at_call 45; refine (HC2.out ▸ inRange_any _ _ _ _).mono ?_; rintro e w' ⟨rfl, hw'⟩; have hw' := hw'.symm; subst hw'))
    go_ret
    exact LtP.no HN.out HX1.out.2
  have HC2 : Hid (inR n (-1000) 1000000 = true) := c2
  have hn12 := inR_iff.1 c2
  clear c2
  obtain ⟨k, hkE⟩ : ∃ k : Nat, b = (k : Int) := ⟨b.toNat, by omega⟩
  have hkm : k < m := by omega
  have hkm' : (k : Int) < (m : Int) := by omega
  have HBD := Hid.intro (node_bd HG.out (show k < cl.length by have := HM.out.1; omega))
  have HN0 : Hid (leTick sk nw cl ho un kn b n = if nearB sk nw (atI cl k + n) = true then some (mkLe sk nw (cl.set k (atI cl k + n)) ho un kn) else none) := Hid.intro (by
    have hkt : b.toNat = k := by omega
    by_cases e : nearB sk nw (atI cl k + n) = true
    · rw [if_pos e, leTick_yes ⟨by rw [HM.out.1]; exact hb12, hn12, by rw [hkt]; exact e⟩, hkt]
    · rw [if_neg e, leTick_no (fun q => e (by have h1 := q.2.2; rw [hkt] at h1; exact h1))])
  have HNB : Hid (-10000000 ≤ n ∧ n ≤ 10000000) := Hid.intro (by omega)
  obtain ⟨c, hcE⟩ : ∃ y, y = atI cl k := ⟨_, rfl⟩
  obtain ⟨x, hxE⟩ : ∃ y, y = atI kn k := ⟨_, rfl⟩
  rw [← hcE] at HN0
  have HE : Hid (atI cl k = c ∧ atI kn k = x) := ⟨hcE.symm, hxE.symm⟩
  have HCB : Hid (-10000000 ≤ c ∧ c ≤ 10000000) := Hid.intro (by have h1 := HBD.out.1; rw [hcE]; omega)
  have HNW : Hid (0 ≤ nw ∧ nw ≤ 2000000) := Hid.intro (by have h1 := HG.out.2.1; omega)
  subst hkE
  clear hb12 hn12 hcE hxE HBD
  go_enter Try.func68, Try.ntmps68
  go_wp2_with (first | (go_at_call 46; refine (HC.out ▸ hasNode_n sk nw (some ⟨g1, 0, none⟩) m k1 ho un _ (k : Int) _ hm30 ⟨(some ⟨g2, 0, none⟩), m, k2, rfl⟩).mono ?_; rintro r w1 ⟨rfl, hb⟩; have HX1 := Hid.intro (HX.out.next hb); clear hb s0 s1 s2 s3 s4 s5 sz; have s0 := HX1.out.1.1.cell 0 rfl; have s1 := HX1.out.1.1.cell 1 rfl; have s2 := HX1.out.1.1.cell 2 rfl; have s3 := HX1.out.1.1.cell 3 rfl; have s4 := HX1.out.1.1.cell 4 rfl; have s5 := HX1.out.1.1.cell 5 rfl; have sz := HX1.out.1.1.2) | (go_at_call 45; refine (HC2.out ▸ inRange_any _ _ _ _).mono ?_; rintro e w' ⟨rfl, hw'⟩; have hw' := hw'.symm; subst hw'))
  refine (nodeIn_n sk nw (some ⟨g1, 0, none⟩) m k1 ho un (some ⟨g2, 0, none⟩) m k2 k w1 (atI cl) (atI kn) hkm hkm HX1.out.1.lel.clocks HX1.out.1.lel.known).mono ?_
  rintro r w2 ⟨rfl, hb⟩
  have HX2 := Hid.intro (HX1.out.next hb)
  rw [HE.out.1, HE.out.2]
  clear hb s0 s1 s2 s3 s4 s5 sz
  obtain ⟨b7, hb7⟩ : ∃ y, y = w2.heap.size := ⟨_, rfl⟩
  obtain ⟨w3, hw3⟩ : ∃ y, y = w2.alloc (.cells #[.int .i64 c, .int .i64 sk, .int .i64 x] 80) := ⟨_, rfl⟩
  have HX3 : Hid (LxB w w3 lo g sk nw g1 k1 cl ho un g2 k2 kn m ∧ Bx w3 b7 [.int .i64 c, .int .i64 sk, .int .i64 x] ∧ g ≠ b7 ∧ g1 ≠ b7 ∧ g2 ≠ b7 ∧ w.heap.size ≤ b7) := ⟨HX2.out.next (hw3 ▸ Go.Joins.below_alloc1 _ _), hb7 ▸ hw3 ▸ Bx.new w2 [_, _, _] _, Nat.ne_of_lt (hb7 ▸ HX2.out.1.1.2), Nat.ne_of_lt (hb7 ▸ HX2.out.1.2.1.lt.1), Nat.ne_of_lt (hb7 ▸ HX2.out.1.2.2.1.lt.1), hb7 ▸ HX2.out.2.size⟩
  go_wp2_with fail
  rw [← hw3, ← hb7]
  clear hw3 hb7 HX2
  refine (tick_n b7 c n w3 HCB.out HNB.out (HX3.out.2.1.cell 0 rfl) (HX3.out.2.1.frz 0 (by simp)) HX3.out.2.1.2).mono ?_
  rintro r w4 ⟨rfl, hw4⟩
  have HX4 : Hid (LxB w w4 lo g sk nw g1 k1 cl ho un g2 k2 kn m ∧ Bx w4 b7 [.int .i64 (c + n), .int .i64 sk, .int .i64 x] ∧ g ≠ b7 ∧ g1 ≠ b7 ∧ g2 ≠ b7) := Hid.intro (by
    rw [hw4]
    exact ⟨⟨HX3.out.1.1.other HX3.out.2.2.1 HX3.out.2.2.2.1 HX3.out.2.2.2.2.1, HX3.out.1.2.setCell (p := ⟨b7, 0, none⟩) HX3.out.2.2.2.2.2 _⟩, HX3.out.2.1.set (k := 0) (by simp) _, HX3.out.2.2.1, HX3.out.2.2.2.1, HX3.out.2.2.2.2.1⟩)
  clear hw4 HX3
  obtain ⟨t, htE⟩ : ∃ y, y = c + n := ⟨_, rfl⟩
  rw [← htE] at HX4 HN0
  clear htE
  cases hz : nearB sk nw t
  · have HN : Hid (leTick sk nw cl ho un kn (k : Int) n = none) := Hid.intro (by rw [HN0.out, hz]; rfl)
    have HZ : Hid (nearB sk nw t = false) := hz
    clear hz
    go_upto_region 5 with fail
    have HX5 : Hid (LxB w w4.drew lo g sk nw g1 k1 cl ho un g2 k2 kn m ∧ Bx w4.drew b7 [.int .i64 t, .int .i64 sk, .int .i64 x]) := ⟨HX4.out.1.next (below_drew _), HX4.out.2.1.next (below_drew _)⟩
    obtain ⟨w5, hw5⟩ : ∃ y, y = w4.drew := ⟨_, rfl⟩
    rw [← hw5] at HX5
    refine wp_region_noPanic ?_
    refine wp_region_held_drew (S := fun W => Bx W g [.int .i64 sk, .int .i64 nw, .slice (some ⟨g1, 0, none⟩) m k1, .int .i64 ho, .int .i64 un, .slice (some ⟨g2, 0, none⟩) m k2] ∧ Bx W b7 [.int .i64 t, .int .i64 sk, .int .i64 x]) (by kernel_rfl) (hw5 ▸ ⟨HX5.out.1.1.1, HX5.out.2⟩) (fun hHeld => ?_)
    rw [← hw5] at hHeld ⊢
    clear hw5
    refine take_v (v := ?_) 0 ⟨some 27, Op.fieldAddr 80 (Operand.tmp 7) 0, _, _, _, none⟩ rfl (fun _ _ _ h => h) ?_ hHeld ?_
    rotate_left
    · (intro W _; go_simp <;> (try with_reducible rfl))
    refine take_v (v := ?_) 1 ⟨some 28, Op.load 78 (Operand.tmp 27), _, _, _, none⟩ rfl (fun _ _ _ h => h) ?_ hHeld ?_
    rotate_left
    · (intro W hSW; (have s0 := hSW.1.cell 0 rfl; have s1 := hSW.1.cell 1 rfl; have s2 := hSW.1.cell 2 rfl; have s3 := hSW.1.cell 3 rfl; have s4 := hSW.1.cell 4 rfl; have s5 := hSW.1.cell 5 rfl; have sz := hSW.1.2; have t0 := hSW.2.cell 0 rfl; have t1 := hSW.2.cell 1 rfl; have t2 := hSW.2.cell 2 rfl; have tz := hSW.2.2); go_simp <;> (try with_reducible rfl))
    refine take_v (v := ?_) 2 ⟨some 29, Op.move (Operand.tmp 0), _, _, _, none⟩ rfl (fun _ _ _ h => h) ?_ hHeld ?_
    rotate_left
    · (intro W _; go_simp <;> (try with_reducible rfl))
    refine take_v (v := ?_) 3 ⟨some 30, Op.nilCheck (Operand.tmp 29), _, _, _, none⟩ rfl (fun _ _ _ h => h) ?_ hHeld ?_
    rotate_left
    · (intro W _; go_simp <;> (try with_reducible rfl))
    refine take_v (v := ?_) 4 ⟨some 31, Op.fieldAddr 28 (Operand.tmp 30) 1, _, _, _, none⟩ rfl (fun _ _ _ h => h) ?_ hHeld ?_
    rotate_left
    · (intro W _; go_simp <;> (try with_reducible rfl))
    refine take_v (v := ?_) 5 ⟨some 32, Op.load 3 (Operand.tmp 31), _, _, _, none⟩ rfl (fun _ _ _ h => h) ?_ hHeld ?_
    rotate_left
    · (intro W hSW; (have s0 := hSW.1.cell 0 rfl; have s1 := hSW.1.cell 1 rfl; have s2 := hSW.1.cell 2 rfl; have s3 := hSW.1.cell 3 rfl; have s4 := hSW.1.cell 4 rfl; have s5 := hSW.1.cell 5 rfl; have sz := hSW.1.2; have t0 := hSW.2.cell 0 rfl; have t1 := hSW.2.cell 1 rfl; have t2 := hSW.2.cell 2 rfl; have tz := hSW.2.2); go_simp <;> (try with_reducible rfl))
    refine ready_call 6 ⟨some 33, Op.call { callee := Callee.value (Operand.func 63), args := #[Operand.tmp 28, Operand.tmp 32], argTypes := #[78, 3] }, _, _, _, none⟩ (by kernel_rfl) rfl (by kernel_rfl) (fun KC hK => ?_)
    go_wp2_with fail
    refine (HZ.out ▸ isNear_n t sk nw _ HG.out.1 HNW.out).mono ?_
    rintro r w6 ⟨rfl, hb⟩
    have HX6 : Hid (LxB w w6 lo g sk nw g1 k1 cl ho un g2 k2 kn m ∧ Bx w6 b7 [.int .i64 t, .int .i64 sk, .int .i64 x]) := ⟨HX5.out.1.next hb, HX5.out.2.next hb⟩
    clear hb
    refine hK.out _ _ ⟨HX6.out.1.1.1, HX6.out.2⟩ (fun hHeld => ?_)
    clear hK KC
    refine take_v (v := ?_) 7 ⟨some 34, Op.unOp UnOp.not 4 (Operand.tmp 33), _, _, _, none⟩ rfl (fun _ _ _ h => h) ?_ hHeld ?_
    rotate_left
    · (intro W _; go_simp <;> (try with_reducible rfl))
    refine wpAnyH_done (by kernel_rfl) ?_ _
    refine NoPanic.normal ?_
    clear hHeld
    go_wp2
    go_ret
    exact LtP.no HN.out HX6.out.1.2
  · have HN : Hid (leTick sk nw cl ho un kn (k : Int) n = some (mkLe sk nw (cl.set k t) ho un kn)) := Hid.intro (by rw [HN0.out, hz]; rfl)
    have HZ : Hid (nearB sk nw t = true) := hz
    clear hz
    go_upto_region 5 with fail
    have HX5 : Hid (LxB w w4.drew lo g sk nw g1 k1 cl ho un g2 k2 kn m ∧ Bx w4.drew b7 [.int .i64 t, .int .i64 sk, .int .i64 x]) := ⟨HX4.out.1.next (below_drew _), HX4.out.2.1.next (below_drew _)⟩
    obtain ⟨w5, hw5⟩ : ∃ y, y = w4.drew := ⟨_, rfl⟩
    rw [← hw5] at HX5
    refine wp_region_noPanic ?_
    refine wp_region_held_drew (S := fun W => Bx W g [.int .i64 sk, .int .i64 nw, .slice (some ⟨g1, 0, none⟩) m k1, .int .i64 ho, .int .i64 un, .slice (some ⟨g2, 0, none⟩) m k2] ∧ Bx W b7 [.int .i64 t, .int .i64 sk, .int .i64 x]) (by kernel_rfl) (hw5 ▸ ⟨HX5.out.1.1.1, HX5.out.2⟩) (fun hHeld => ?_)
    rw [← hw5] at hHeld ⊢
    clear hw5
    refine take_v (v := ?_) 0 ⟨some 27, Op.fieldAddr 80 (Operand.tmp 7) 0, _, _, _, none⟩ rfl (fun _ _ _ h => h) ?_ hHeld ?_
    rotate_left
    · (intro W _; go_simp <;> (try with_reducible rfl))
    refine take_v (v := ?_) 1 ⟨some 28, Op.load 78 (Operand.tmp 27), _, _, _, none⟩ rfl (fun _ _ _ h => h) ?_ hHeld ?_
    rotate_left
    · (intro W hSW; (have s0 := hSW.1.cell 0 rfl; have s1 := hSW.1.cell 1 rfl; have s2 := hSW.1.cell 2 rfl; have s3 := hSW.1.cell 3 rfl; have s4 := hSW.1.cell 4 rfl; have s5 := hSW.1.cell 5 rfl; have sz := hSW.1.2; have t0 := hSW.2.cell 0 rfl; have t1 := hSW.2.cell 1 rfl; have t2 := hSW.2.cell 2 rfl; have tz := hSW.2.2); go_simp <;> (try with_reducible rfl))
    refine take_v (v := ?_) 2 ⟨some 29, Op.move (Operand.tmp 0), _, _, _, none⟩ rfl (fun _ _ _ h => h) ?_ hHeld ?_
    rotate_left
    · (intro W _; go_simp <;> (try with_reducible rfl))
    refine take_v (v := ?_) 3 ⟨some 30, Op.nilCheck (Operand.tmp 29), _, _, _, none⟩ rfl (fun _ _ _ h => h) ?_ hHeld ?_
    rotate_left
    · (intro W _; go_simp <;> (try with_reducible rfl))
    refine take_v (v := ?_) 4 ⟨some 31, Op.fieldAddr 28 (Operand.tmp 30) 1, _, _, _, none⟩ rfl (fun _ _ _ h => h) ?_ hHeld ?_
    rotate_left
    · (intro W _; go_simp <;> (try with_reducible rfl))
    refine take_v (v := ?_) 5 ⟨some 32, Op.load 3 (Operand.tmp 31), _, _, _, none⟩ rfl (fun _ _ _ h => h) ?_ hHeld ?_
    rotate_left
    · (intro W hSW; (have s0 := hSW.1.cell 0 rfl; have s1 := hSW.1.cell 1 rfl; have s2 := hSW.1.cell 2 rfl; have s3 := hSW.1.cell 3 rfl; have s4 := hSW.1.cell 4 rfl; have s5 := hSW.1.cell 5 rfl; have sz := hSW.1.2; have t0 := hSW.2.cell 0 rfl; have t1 := hSW.2.cell 1 rfl; have t2 := hSW.2.cell 2 rfl; have tz := hSW.2.2); go_simp <;> (try with_reducible rfl))
    refine ready_call 6 ⟨some 33, Op.call { callee := Callee.value (Operand.func 63), args := #[Operand.tmp 28, Operand.tmp 32], argTypes := #[78, 3] }, _, _, _, none⟩ (by kernel_rfl) rfl (by kernel_rfl) (fun KC hK => ?_)
    go_wp2_with fail
    refine (HZ.out ▸ isNear_n t sk nw _ HG.out.1 HNW.out).mono ?_
    rintro r w6 ⟨rfl, hb⟩
    have HX6 : Hid (LxB w w6 lo g sk nw g1 k1 cl ho un g2 k2 kn m ∧ Bx w6 b7 [.int .i64 t, .int .i64 sk, .int .i64 x]) := ⟨HX5.out.1.next hb, HX5.out.2.next hb⟩
    clear hb
    refine hK.out _ _ ⟨HX6.out.1.1.1, HX6.out.2⟩ (fun hHeld => ?_)
    clear hK KC
    refine take_v (v := ?_) 7 ⟨some 34, Op.unOp UnOp.not 4 (Operand.tmp 33), _, _, _, none⟩ rfl (fun _ _ _ h => h) ?_ hHeld ?_
    rotate_left
    · (intro W _; go_simp <;> (try with_reducible rfl))
    refine wpAnyH_done (by kernel_rfl) ?_ _
    refine NoPanic.normal ?_
    clear hHeld
    go_upto_region 7 with fail
    have HX7 : Hid (LxB w w6.drew lo g sk nw g1 k1 cl ho un g2 k2 kn m ∧ Bx w6.drew b7 [.int .i64 t, .int .i64 sk, .int .i64 x]) := ⟨HX6.out.1.next (below_drew _), HX6.out.2.next (below_drew _)⟩
    obtain ⟨w7, hw7⟩ : ∃ y, y = w6.drew := ⟨_, rfl⟩
    rw [← hw7] at HX7
    refine wp_region_noPanic ?_
    refine wp_region_held_drew (S := fun W => Bx W g [.int .i64 sk, .int .i64 nw, .slice (some ⟨g1, 0, none⟩) m k1, .int .i64 ho, .int .i64 un, .slice (some ⟨g2, 0, none⟩) m k2] ∧ Bx W b7 [.int .i64 t, .int .i64 sk, .int .i64 x]) (by kernel_rfl) (hw7 ▸ ⟨HX7.out.1.1.1, HX7.out.2⟩) (fun hHeld => ?_)
    rw [← hw7] at hHeld ⊢
    clear hw7
    refine take_v (v := ?_) 0 ⟨some 35, Op.move (Operand.tmp 0), _, _, _, none⟩ rfl (fun _ _ _ h => h) ?_ hHeld ?_
    rotate_left
    · (intro W _; go_simp <;> (try with_reducible rfl))
    refine take_v (v := ?_) 1 ⟨some 36, Op.nilCheck (Operand.tmp 35), _, _, _, none⟩ rfl (fun _ _ _ h => h) ?_ hHeld ?_
    rotate_left
    · (intro W _; go_simp <;> (try with_reducible rfl))
    refine take_v (v := ?_) 2 ⟨some 37, Op.fieldAddr 28 (Operand.tmp 36) 2, _, _, _, none⟩ rfl (fun _ _ _ h => h) ?_ hHeld ?_
    rotate_left
    · (intro W _; go_simp <;> (try with_reducible rfl))
    refine take_v (v := ?_) 3 ⟨some 38, Op.load 26 (Operand.tmp 37), _, _, _, none⟩ rfl (fun _ _ _ h => h) ?_ hHeld ?_
    rotate_left
    · (intro W hSW; (have s0 := hSW.1.cell 0 rfl; have s1 := hSW.1.cell 1 rfl; have s2 := hSW.1.cell 2 rfl; have s3 := hSW.1.cell 3 rfl; have s4 := hSW.1.cell 4 rfl; have s5 := hSW.1.cell 5 rfl; have sz := hSW.1.2; have t0 := hSW.2.cell 0 rfl; have t1 := hSW.2.cell 1 rfl; have t2 := hSW.2.cell 2 rfl; have tz := hSW.2.2); go_simp <;> (try with_reducible rfl))
    refine take_v (v := ?_) 4 ⟨some 39, Op.move (Operand.tmp 1), _, _, _, none⟩ rfl (fun _ _ _ h => h) ?_ hHeld ?_
    rotate_left
    · (intro W _; go_simp <;> (try with_reducible rfl))
    refine take_v (v := ?_) 5 ⟨some 40, Op.fieldAddr 80 (Operand.tmp 7) 0, _, _, _, none⟩ rfl (fun _ _ _ h => h) ?_ hHeld ?_
    rotate_left
    · (intro W _; go_simp <;> (try with_reducible rfl))
    refine take_v (v := ?_) 6 ⟨some 41, Op.fieldAddr 78 (Operand.tmp 40) 0, _, _, _, none⟩ rfl (fun _ _ _ h => h) ?_ hHeld ?_
    rotate_left
    · (intro W _; go_simp <;> (try with_reducible rfl))
    refine take_v (v := ?_) 7 ⟨some 42, Op.load 3 (Operand.tmp 41), _, _, _, none⟩ rfl (fun _ _ _ h => h) ?_ hHeld ?_
    rotate_left
    · (intro W hSW; (have s0 := hSW.1.cell 0 rfl; have s1 := hSW.1.cell 1 rfl; have s2 := hSW.1.cell 2 rfl; have s3 := hSW.1.cell 3 rfl; have s4 := hSW.1.cell 4 rfl; have s5 := hSW.1.cell 5 rfl; have sz := hSW.1.2; have t0 := hSW.2.cell 0 rfl; have t1 := hSW.2.cell 1 rfl; have t2 := hSW.2.cell 2 rfl; have tz := hSW.2.2); go_simp <;> (try with_reducible rfl))
    refine take_v (v := ?_) 8 ⟨some 43, Op.indexAddr 26 (Operand.tmp 38) (Operand.tmp 39), _, _, _, none⟩ rfl (fun _ _ _ h => h) ?_ hHeld ?_
    rotate_left
    · (intro W _; go_simp <;> (try with_reducible rfl))
    refine ready_call 9 ⟨none, Op.store 3 (Operand.tmp 43) (Operand.tmp 42), _, _, _, none⟩ (by kernel_rfl) rfl (by kernel_rfl) (fun KC hK => ?_)
    have hat := HX7.out.1.1.2.1.at hkm
    obtain ⟨q1, q2, q3⟩ := hat
    go_wp2_with fail
    clear q1 q2 q3
    refine hK.out _ _ ⟨hHeld.1.other HX7.out.1.1.2.2.2.2.1, hHeld.2.other (Ne.symm HX4.out.2.2.2.1)⟩ (fun hHeld => ?_)
    clear hK KC
    refine wpAnyH_done (by kernel_rfl) ?_ _
    refine NoPanic.normal ?_
    clear hHeld
    go_wp2
    go_ret
    exact LtP.yes HN.out ((TurnS.of_below HX7.out.1.2).set (p := ⟨g1, k, none⟩) (Or.inr (Or.inl rfl)) _) (HX7.out.1.1.setC hkm t)


set_option maxRecDepth 100000 in
set_option maxHeartbeats 2000000 in
theorem takeLeaseStep_n (lo g : Nat) (sk nw : Int) (g1 k1 : Nat) (cl : List (Sh.T .int)) (ho un : Int) (g2 k2 : Nat) (kn : List (Sh.T .int)) (m : Nat) (a b n : Int) (w : World) (hg : goodL sk nw cl ho un kn) (h : LxS w lo g sk nw g1 k1 cl ho un g2 k2 kn m) :
    Calls Try.prog 51 #[.pointer (some ⟨g, 0, none⟩), .agg #[.int .i64 a, .int .i64 b, .int .i64 n]] w (LtP (leB sk nw cl ho un kn a b n) w lo g g1 k1 g2 k2 m) := by
  have HG := Hid.intro hg
  obtain ⟨w0, hw0⟩ : ∃ x, x = w.alloc (.cells #[.int .i64 a, .int .i64 b, .int .i64 n] 34) := ⟨_, rfl⟩
  have HX : Hid (LxB w w0 lo g sk nw g1 k1 cl ho un g2 k2 kn m) := LxB.next ⟨h, Below.refl _ _⟩ (hw0 ▸ Go.Joins.below_alloc1 _ _)
  have HB : Hid (Bx w0 w.heap.size [.int .i64 a, .int .i64 b, .int .i64 n]) := hw0 ▸ Bx.new w [_, _, _] _
  have s0 := HB.out.cell 0 rfl
  have s1 := HB.out.cell 1 rfl
  have s2 := HB.out.cell 2 rfl
  have sz := HB.out.2
  clear h hg
  by_cases e1 : a = 1
  · subst e1
    have HN : Hid (leB sk nw cl ho un kn 1 b n = leGrant sk nw cl ho un kn b n) := Hid.intro rfl
    rw [HN.out]
    go_enter Try.func51, Try.ntmps51
    go_wp2_with fail
    rw [← hw0]
    refine (grantLease_n lo g sk nw g1 k1 cl ho un g2 k2 kn m b n w0 HG.out HX.out.1).mono ?_
    rintro r w1 hP
    have HP := Hid.intro (hP.back HX.out.2)
    obtain ⟨rfl, _, _⟩ := hP
    clear hw0 s0 s1 s2 sz
    go_wp2
    go_ret
    exact ⟨rfl, HP.out.2⟩
  by_cases e2 : a = 2
  · subst e2
    have HN : Hid (leB sk nw cl ho un kn 2 b n = leTell sk nw cl ho un kn b) := Hid.intro rfl
    rw [HN.out]
    go_enter Try.func51, Try.ntmps51
    go_wp2_with fail
    rw [← hw0]
    refine (tellLease_n lo g sk nw g1 k1 cl ho un g2 k2 kn m b w0 HG.out HX.out.1).mono ?_
    rintro r w1 hP
    have HP := Hid.intro (hP.back HX.out.2)
    obtain ⟨rfl, _, _⟩ := hP
    clear hw0 s0 s1 s2 sz
    go_wp2
    go_ret
    exact ⟨rfl, HP.out.2⟩
  by_cases e3 : a = 3
  · subst e3
    have HN : Hid (leB sk nw cl ho un kn 3 b n = leTime sk nw cl ho un kn n) := Hid.intro rfl
    rw [HN.out]
    go_enter Try.func51, Try.ntmps51
    go_wp2_with fail
    rw [← hw0]
    refine (passTime_n lo g sk nw g1 k1 cl ho un g2 k2 kn m n w0 HG.out HX.out.1).mono ?_
    rintro r w1 hP
    have HP := Hid.intro (hP.back HX.out.2)
    obtain ⟨rfl, _, _⟩ := hP
    clear hw0 s0 s1 s2 sz
    go_wp2
    go_ret
    exact ⟨rfl, HP.out.2⟩
  by_cases e4 : a = 4
  · subst e4
    have HN : Hid (leB sk nw cl ho un kn 4 b n = leTick sk nw cl ho un kn b n) := Hid.intro rfl
    rw [HN.out]
    go_enter Try.func51, Try.ntmps51
    go_wp2_with fail
    rw [← hw0]
    refine (tickNode_n lo g sk nw g1 k1 cl ho un g2 k2 kn m b n w0 HG.out HX.out.1).mono ?_
    rintro r w1 hP
    have HP := Hid.intro (hP.back HX.out.2)
    obtain ⟨rfl, _, _⟩ := hP
    clear hw0 s0 s1 s2 sz
    go_wp2
    go_ret
    exact ⟨rfl, HP.out.2⟩
  have HN : Hid (leB sk nw cl ho un kn a b n = none) := Hid.intro (le5 e1 e2 e3 e4)
  rw [HN.out]
  go_enter Try.func51, Try.ntmps51
  go_wp2_with fail
  rw [← hw0]
  go_ret
  exact LtP.no rfl HX.out.2


set_option maxRecDepth 100000 in
set_option maxHeartbeats 1000000 in
theorem cloneInts_n (a : Option Addr) (cap : Nat) (l : List (Sh.T .int)) (w : World) (hn : l.length ≤ 1073741824) (h : Lies w (.list .int) [.slice a l.length cap] l) :
    Calls Try.prog 64 #[.slice a l.length cap] w (NewX .int 3 l w) := by
  obtain ⟨i0, hi0, hz0, hz1, hz2⟩ := info_parts inf_int
  have HL := Hid.intro h
  have hbA : 0 + l.length ≤ maxLen := by unfold maxLen; omega
  have hcA : (0 + l.length) * 8 ≤ 140737488355328 := by omega
  cases a with
  | none =>
    have h0 : l = [] := by
      obtain ⟨ad, c, e1, _, _, h⟩ := h
      rcases h with h | ⟨g, off, e2, _⟩
      · exact h
      · simp only [List.cons.injEq, Value.slice.injEq, and_true] at e1
        rw [← e1.1] at e2; cases e2
    subst h0
    clear h
    have heq : ∀ W : World, (binOp .eql 26 (.slice none 0 cap) (.slice none 0 0)).run Try.prog W = .ok (.bool true) W := fun _ => by kernel_rfl
    go_enter Try.func64, Try.ntmps64
    go_wp2
    go_ret
    exact ⟨_, rfl, ApS.nil⟩
  | some ad =>
    have HM : Hid (ApS .int 3 w (w.alloc (.cells #[] 3)) (.slice (some ⟨w.heap.size, 0, none⟩) 0 0) []) := Hid.intro (ApS.made (e := .int) rfl)
    clear h
    have heq : ∀ (W : World) (n : Nat), (binOp .eql 26 (.slice (some ad) n cap) (.slice none 0 0)).run Try.prog W = .ok (.bool false) W := fun _ _ => by kernel_rfl
    go_enter Try.func64, Try.ntmps64
    go_wp2_with (at_builtin; refine wpList_appx rfl (.tmp 5) (.tmp 6) 26 3 rfl i0 (.int .i64 0) 8 w.heap.size .int rfl Try.underlying26 hi0 hz0 hz1 hz2 rfl (by decide) (.slice (some ⟨w.heap.size, 0, none⟩) 0 0) [] l _ rfl HM.out.1 (some ad) cap rfl (HL.out.next HM.out.2) hbA hcA HM.out.2.size ?_; intro v1 w1 hO1 hg1 hwh1; have H1 : Hid (ApS .int 3 w w1 v1 l) := Hid.intro (ApS.app (e := .int) (l2 := l) rfl HM.out hO1 hg1); clear hO1 hg1 hwh1)
    go_ret
    exact ⟨_, rfl, H1.out⟩


theorem set6 (W : World) (g : Nat) (u0 u1 u2 u3 u4 u5 : Value) : TurnS (fun k => k = g) W ((((((W.setCell ⟨g, 0, none⟩ u0).setCell ⟨g, 1, none⟩ u1).setCell ⟨g, 2, none⟩ u2).setCell ⟨g, 3, none⟩ u3).setCell ⟨g, 4, none⟩ u4).setCell ⟨g, 5, none⟩ u5) :=
  ((((((TurnS.refl (fun k => k = g) W).set (S := fun k => k = g) (p := ⟨g, 0, none⟩) rfl _).set (S := fun k => k = g) (p := ⟨g, 1, none⟩) rfl _).set (S := fun k => k = g) (p := ⟨g, 2, none⟩) rfl _).set (S := fun k => k = g) (p := ⟨g, 3, none⟩) rfl _).set (S := fun k => k = g) (p := ⟨g, 4, none⟩) rfl _).set (S := fun k => k = g) (p := ⟨g, 5, none⟩) rfl _
/-- Two new lists, in leases. -/
theorem cloned_x {w W W' : World} {sk nw : Int} {cl : List (Sh.T .int)} {ho un : Int} {kn : List (Sh.T .int)} {v1 v2 : Value} {z : Nat} (h1 : OwnX W z (.list .int 3) [v1] cl (Btw z W.heap.size)) (h2 : OwnX W' W.heap.size (.list .int 3) [v2] kn (Btw W.heap.size W'.heap.size)) (hb : Below W.heap.size W W') (hz : z ≤ W.heap.size) (hwz : w.heap.size ≤ z) {S : Nat → Prop} {W2 : World} (ht : TurnS S W' W2) (hS : ∀ k, S k → k < z) :
    OwnX W2 w.heap.size tyLeases [.int .i64 sk, .int .i64 nw, v1, .int .i64 ho, .int .i64 un, v2] (sk, nw, cl, ho, un, kn, ()) (Btw w.heap.size W2.heap.size) := by
  have z1 := hb.size
  have z2 := ht.size
  refine mkownx_Leases (S1 := Btw z W.heap.size) (S2 := Btw W.heap.size W'.heap.size) (((h1.next hb).turn ht (fun k hk q => by have := hS k q; simp only [Btw] at hk; omega)).lower hwz) ((h2.turn ht (fun k hk q => by have := hS k q; simp only [Btw] at hk; omega)).lower (Nat.le_trans hwz hz)) (fun k hk => ?_) (fun k hk => ?_) (fun k e f => ?_)
  · simp only [Btw] at hk ⊢; omega
  · simp only [Btw] at hk ⊢; omega
  · simp only [Btw] at e f; omega

set_option maxRecDepth 100000 in
set_option maxHeartbeats 2000000 in
theorem cloneLeases_n (cs : List Value) (sk nw : Int) (cl : List (Sh.T .int)) (ho un : Int) (kn : List (Sh.T .int)) (w : World) (hz : szD shLeases (sk, nw, cl, ho, un, kn, ()) ≤ 1073741824) (h : Lies w shLeases cs (sk, nw, cl, ho, un, kn, ())) :
    Calls Try.prog 50 #[.agg cs.toArray] w (ToX tyLeases (sk, nw, cl, ho, un, kn, ()) w) := by
  obtain ⟨a1, c1, a2, c2, rfl, h1, h2⟩ := lies_Leases h
  have HL : Hid (Lies w (.list .int) [.slice a1 cl.length c1] cl ∧ Lies w (.list .int) [.slice a2 kn.length c2] kn) := ⟨h1, h2⟩
  have hz1 := (le_sizes hz).1
  have hz2 := (le_sizes hz).2
  clear h h1 h2 hz
  obtain ⟨w0, hw0⟩ : ∃ x, x = (w.alloc (.cells #[.int .i64 sk, .int .i64 nw, .slice a1 cl.length c1, .int .i64 ho, .int .i64 un, .slice a2 kn.length c2] 28)).alloc (.cells #[.int .i64 0, .int .i64 0, .slice none 0 0, .int .i64 0, .int .i64 0, .slice none 0 0] 28) := ⟨_, rfl⟩
  have HD0 : Hid (Bx w0 w.heap.size [.int .i64 sk, .int .i64 nw, .slice a1 cl.length c1, .int .i64 ho, .int .i64 un, .slice a2 kn.length c2] ∧ Bx w0 (w.heap.size + 1) [.int .i64 0, .int .i64 0, .slice none 0 0, .int .i64 0, .int .i64 0, .slice none 0 0] ∧ Below w.heap.size w w0 ∧ w.heap.size + 1 < w0.heap.size) := ⟨hw0 ▸ (Bx.new w [_, _, _, _, _, _] _).alloc _, hw0 ▸ Bx.newAt (by simp), hw0 ▸ ((Below.refl _ _).alloc (Nat.le_refl _) _).alloc (by simp) _, by rw [hw0]; simp⟩
  go_enter Try.func50, Try.ntmps50
  go_upto_region 1 with fail
  rw [← hw0]
  clear hw0
  have HD : Hid (Bx w0.drew w.heap.size [.int .i64 sk, .int .i64 nw, .slice a1 cl.length c1, .int .i64 ho, .int .i64 un, .slice a2 kn.length c2] ∧ Bx w0.drew (w.heap.size + 1) [.int .i64 0, .int .i64 0, .slice none 0 0, .int .i64 0, .int .i64 0, .slice none 0 0] ∧ Below w.heap.size w w0.drew ∧ w.heap.size + 1 < w0.drew.heap.size) := ⟨HD0.out.1.next (below_drew _), HD0.out.2.1.next (below_drew _), below_next HD0.out.2.2.1 (below_drew _), HD0.out.2.2.2⟩
  obtain ⟨X, hX⟩ : ∃ x, x = w0.drew := ⟨_, rfl⟩
  rw [← hX] at HD
  clear HD0
  go_cut [1, 2] (fun s1 s2 wx => ∃ v1 v2, s1 = .pointer (some ⟨w.heap.size, 0, none⟩) ∧ s2 = .pointer (some ⟨w.heap.size + 1, 0, none⟩) ∧ Bx wx w.heap.size [.int .i64 sk, .int .i64 nw, v1, .int .i64 ho, .int .i64 un, v2] ∧ Bx wx (w.heap.size + 1) [.int .i64 0, .int .i64 0, .slice none 0 0, .int .i64 0, .int .i64 0, .slice none 0 0] ∧ Below w.heap.size w wx ∧ (∃ z W W' : World, OwnX W z.heap.size (.list .int 3) [v1] cl (Btw z.heap.size W.heap.size) ∧ OwnX W' W.heap.size (.list .int 3) [v2] kn (Btw W.heap.size W'.heap.size) ∧ Below W.heap.size W W' ∧ Below z.heap.size z W ∧ w.heap.size + 1 < z.heap.size ∧ TurnS (fun k => k = w.heap.size) W' wx))
  case first =>
    refine wp_region_noPanic ?_
    refine wp_region_held_drew (S := fun _ => True) (by kernel_rfl) trivial (fun hHeld => ?_)
    rw [← hX]
    clear hX
    refine take_v (v := ?_) 0 ⟨some 3, Op.fieldAddr 28 (Operand.tmp 1) 2, _, _, _, none⟩ rfl (fun _ _ _ h => h) ?_ hHeld ?_
    rotate_left
    · (intro W _; go_simp <;> (try with_reducible rfl))
    refine take_v (v := ?_) 3 ⟨some 6, Op.fieldAddr 28 (Operand.tmp 1) 5, _, _, _, none⟩ rfl (fun _ _ _ h => h) ?_ hHeld ?_
    rotate_left
    · (intro W _; go_simp <;> (try with_reducible rfl))
    refine ready_two 1 4 ⟨some 4, Op.load 26 (Operand.tmp 3), _, _, _, none⟩ ⟨some 7, Op.load 26 (Operand.tmp 6), _, _, _, none⟩ (by kernel_rfl) rfl rfl (by kernel_rfl) (by kernel_rfl) (fun KC hK => ?_) (fun KC hK => ?_)
    ·
      have s2 := HD.out.1.cell 2 rfl
      have sz := HD.out.1.2
      go_wp2_with fail
      clear s2 sz
      refine hK.out _ _ trivial (fun hHeld => ?_)
      clear hK KC
      refine ready_two 2 4 ⟨some 5, Op.call { callee := Callee.value (Operand.func 64), args := #[Operand.tmp 4], argTypes := #[26] }, _, _, _, none⟩ ⟨some 7, Op.load 26 (Operand.tmp 6), _, _, _, none⟩ (by kernel_rfl) rfl rfl (by kernel_rfl) (by kernel_rfl) (fun KC hK => ?_) (fun KC hK => ?_)
      ·
        go_wp2_with fail
        refine (cloneInts_n a1 c1 cl _ hz1 (HL.out.1.next HD.out.2.2.1)).mono ?_
        rintro r W1 ⟨v1, rfl, hA1⟩
        have HZ := Hid.intro (And.intro hA1 HD.out.2.2.2)
        have HD := (show Hid (Bx W1 w.heap.size [.int .i64 sk, .int .i64 nw, .slice a1 cl.length c1, .int .i64 ho, .int .i64 un, .slice a2 kn.length c2] ∧ Bx W1 (w.heap.size + 1) [.int .i64 0, .int .i64 0, .slice none 0 0, .int .i64 0, .int .i64 0, .slice none 0 0] ∧ Below w.heap.size w W1 ∧ w.heap.size + 1 < W1.heap.size) from ⟨HD.out.1.next hA1.2, HD.out.2.1.next hA1.2, below_next HD.out.2.2.1 hA1.2, Nat.lt_of_lt_of_le HD.out.2.2.2 hA1.2.size⟩)
        obtain ⟨q1, d1, hv1⟩ := hA1.1.vform
        have hv1 : v1 = .slice q1 (List.length (α := Sh.T .int) cl) d1 := hv1
        subst hv1
        clear hA1
        refine hK.out _ _ trivial (fun hHeld => ?_)
        clear hK KC
        refine ready_call 4 ⟨some 7, Op.load 26 (Operand.tmp 6), _, _, _, none⟩ (by kernel_rfl) rfl (by kernel_rfl) (fun KC hK => ?_)
        have s5 := HD.out.1.cell 5 rfl
        have sz := HD.out.1.2
        go_wp2_with fail
        clear s5 sz
        refine hK.out _ _ trivial (fun hHeld => ?_)
        clear hK KC
        refine take_v (v := ?_) 6 ⟨some 9, Op.fieldAddr 28 (Operand.tmp 1) 2, _, _, _, none⟩ rfl (fun _ _ _ h => h) ?_ hHeld ?_
        rotate_left
        · (intro W _; go_simp <;> (try with_reducible rfl))
        refine ready_call 5 ⟨some 8, Op.call { callee := Callee.value (Operand.func 64), args := #[Operand.tmp 7], argTypes := #[26] }, _, _, _, none⟩ (by kernel_rfl) rfl (by kernel_rfl) (fun KC hK => ?_)
        go_wp2_with fail
        refine (cloneInts_n a2 c2 kn _ hz2 (HL.out.2.next HD.out.2.2.1)).mono ?_
        rintro r W2 ⟨v2, rfl, hA2⟩
        have HY := Hid.intro hA2
        have HD := (show Hid (Bx W2 w.heap.size [.int .i64 sk, .int .i64 nw, .slice a1 cl.length c1, .int .i64 ho, .int .i64 un, .slice a2 kn.length c2] ∧ Bx W2 (w.heap.size + 1) [.int .i64 0, .int .i64 0, .slice none 0 0, .int .i64 0, .int .i64 0, .slice none 0 0] ∧ Below w.heap.size w W2 ∧ w.heap.size + 1 < W2.heap.size) from ⟨HD.out.1.next hA2.2, HD.out.2.1.next hA2.2, below_next HD.out.2.2.1 hA2.2, Nat.lt_of_lt_of_le HD.out.2.2.2 hA2.2.size⟩)
        obtain ⟨q2, d2, hv2⟩ := hA2.1.vform
        have hv2 : v2 = .slice q2 (List.length (α := Sh.T .int) kn) d2 := hv2
        subst hv2
        clear hA2
        refine hK.out _ _ trivial (fun hHeld => ?_)
        clear hK KC
        refine ready_call 7 ⟨none, Op.store 26 (Operand.tmp 9) (Operand.tmp 5), _, _, _, none⟩ (by kernel_rfl) rfl (by kernel_rfl) (fun KC hK => ?_)
        have s2 := HD.out.1.cell 2 rfl
        have sf := HD.out.1.frz 2 (by simp)
        have sz := HD.out.1.2
        go_wp2_with fail
        have HD7 := Hid.intro (HD.out.1.set (k := 2) (by simp) (.slice q1 (List.length (α := Sh.T .int) cl) d1))
        clear s2 sf sz
        refine hK.out _ _ trivial (fun hHeld => ?_)
        clear hK KC
        refine take_v (v := ?_) 8 ⟨some 10, Op.fieldAddr 28 (Operand.tmp 1) 5, _, _, _, none⟩ rfl (fun _ _ _ h => h) ?_ hHeld ?_
        rotate_left
        · (intro W _; go_simp <;> (try with_reducible rfl))
        refine ready_call 9 ⟨none, Op.store 26 (Operand.tmp 10) (Operand.tmp 8), _, _, _, none⟩ (by kernel_rfl) rfl (by kernel_rfl) (fun KC hK => ?_)
        have s5 := HD7.out.cell 5 rfl
        have sf := HD7.out.frz 5 (by simp)
        have sz := HD7.out.2
        go_wp2_with fail
        have HD9 := Hid.intro (HD7.out.set (k := 5) (by simp) (.slice q2 (List.length (α := Sh.T .int) kn) d2))
        clear s5 sf sz
        refine hK.out _ _ trivial (fun hHeld => ?_)
        clear hK KC
        refine wpAnyH_done (by kernel_rfl) ?_ _
        refine NoPanic.normal ?_
        go_wp2_with fail
        go_meet
        exact ⟨_, _, rfl, rfl, HD9.out, (HD.out.2.1.other (by omega)).other (by omega), (HD.out.2.2.1.setCell (p := ⟨w.heap.size, 2, none⟩) (Nat.le_refl _) _).setCell (p := ⟨w.heap.size, 5, none⟩) (Nat.le_refl _) _, ⟨_, _, _, HZ.out.1.1, HY.out.1, HY.out.2, HZ.out.1.2, HZ.out.2, ((TurnS.refl (fun k => k = w.heap.size) _).set (S := fun k => k = w.heap.size) (p := ⟨w.heap.size, 2, none⟩) rfl _).set (S := fun k => k = w.heap.size) (p := ⟨w.heap.size, 5, none⟩) rfl _⟩⟩
      ·
        have s5 := HD.out.1.cell 5 rfl
        have sz := HD.out.1.2
        go_wp2_with fail
        clear s5 sz
        refine hK.out _ _ trivial (fun hHeld => ?_)
        clear hK KC
        refine ready_call 2 ⟨some 5, Op.call { callee := Callee.value (Operand.func 64), args := #[Operand.tmp 4], argTypes := #[26] }, _, _, _, none⟩ (by kernel_rfl) rfl (by kernel_rfl) (fun KC hK => ?_)
        go_wp2_with fail
        refine (cloneInts_n a1 c1 cl _ hz1 (HL.out.1.next HD.out.2.2.1)).mono ?_
        rintro r W1 ⟨v1, rfl, hA1⟩
        have HZ := Hid.intro (And.intro hA1 HD.out.2.2.2)
        have HD := (show Hid (Bx W1 w.heap.size [.int .i64 sk, .int .i64 nw, .slice a1 cl.length c1, .int .i64 ho, .int .i64 un, .slice a2 kn.length c2] ∧ Bx W1 (w.heap.size + 1) [.int .i64 0, .int .i64 0, .slice none 0 0, .int .i64 0, .int .i64 0, .slice none 0 0] ∧ Below w.heap.size w W1 ∧ w.heap.size + 1 < W1.heap.size) from ⟨HD.out.1.next hA1.2, HD.out.2.1.next hA1.2, below_next HD.out.2.2.1 hA1.2, Nat.lt_of_lt_of_le HD.out.2.2.2 hA1.2.size⟩)
        obtain ⟨q1, d1, hv1⟩ := hA1.1.vform
        have hv1 : v1 = .slice q1 (List.length (α := Sh.T .int) cl) d1 := hv1
        subst hv1
        clear hA1
        refine hK.out _ _ trivial (fun hHeld => ?_)
        clear hK KC
        refine take_v (v := ?_) 6 ⟨some 9, Op.fieldAddr 28 (Operand.tmp 1) 2, _, _, _, none⟩ rfl (fun _ _ _ h => h) ?_ hHeld ?_
        rotate_left
        · (intro W _; go_simp <;> (try with_reducible rfl))
        refine ready_call 5 ⟨some 8, Op.call { callee := Callee.value (Operand.func 64), args := #[Operand.tmp 7], argTypes := #[26] }, _, _, _, none⟩ (by kernel_rfl) rfl (by kernel_rfl) (fun KC hK => ?_)
        go_wp2_with fail
        refine (cloneInts_n a2 c2 kn _ hz2 (HL.out.2.next HD.out.2.2.1)).mono ?_
        rintro r W2 ⟨v2, rfl, hA2⟩
        have HY := Hid.intro hA2
        have HD := (show Hid (Bx W2 w.heap.size [.int .i64 sk, .int .i64 nw, .slice a1 cl.length c1, .int .i64 ho, .int .i64 un, .slice a2 kn.length c2] ∧ Bx W2 (w.heap.size + 1) [.int .i64 0, .int .i64 0, .slice none 0 0, .int .i64 0, .int .i64 0, .slice none 0 0] ∧ Below w.heap.size w W2 ∧ w.heap.size + 1 < W2.heap.size) from ⟨HD.out.1.next hA2.2, HD.out.2.1.next hA2.2, below_next HD.out.2.2.1 hA2.2, Nat.lt_of_lt_of_le HD.out.2.2.2 hA2.2.size⟩)
        obtain ⟨q2, d2, hv2⟩ := hA2.1.vform
        have hv2 : v2 = .slice q2 (List.length (α := Sh.T .int) kn) d2 := hv2
        subst hv2
        clear hA2
        refine hK.out _ _ trivial (fun hHeld => ?_)
        clear hK KC
        refine ready_call 7 ⟨none, Op.store 26 (Operand.tmp 9) (Operand.tmp 5), _, _, _, none⟩ (by kernel_rfl) rfl (by kernel_rfl) (fun KC hK => ?_)
        have s2 := HD.out.1.cell 2 rfl
        have sf := HD.out.1.frz 2 (by simp)
        have sz := HD.out.1.2
        go_wp2_with fail
        have HD7 := Hid.intro (HD.out.1.set (k := 2) (by simp) (.slice q1 (List.length (α := Sh.T .int) cl) d1))
        clear s2 sf sz
        refine hK.out _ _ trivial (fun hHeld => ?_)
        clear hK KC
        refine take_v (v := ?_) 8 ⟨some 10, Op.fieldAddr 28 (Operand.tmp 1) 5, _, _, _, none⟩ rfl (fun _ _ _ h => h) ?_ hHeld ?_
        rotate_left
        · (intro W _; go_simp <;> (try with_reducible rfl))
        refine ready_call 9 ⟨none, Op.store 26 (Operand.tmp 10) (Operand.tmp 8), _, _, _, none⟩ (by kernel_rfl) rfl (by kernel_rfl) (fun KC hK => ?_)
        have s5 := HD7.out.cell 5 rfl
        have sf := HD7.out.frz 5 (by simp)
        have sz := HD7.out.2
        go_wp2_with fail
        have HD9 := Hid.intro (HD7.out.set (k := 5) (by simp) (.slice q2 (List.length (α := Sh.T .int) kn) d2))
        clear s5 sf sz
        refine hK.out _ _ trivial (fun hHeld => ?_)
        clear hK KC
        refine wpAnyH_done (by kernel_rfl) ?_ _
        refine NoPanic.normal ?_
        go_wp2_with fail
        go_meet
        exact ⟨_, _, rfl, rfl, HD9.out, (HD.out.2.1.other (by omega)).other (by omega), (HD.out.2.2.1.setCell (p := ⟨w.heap.size, 2, none⟩) (Nat.le_refl _) _).setCell (p := ⟨w.heap.size, 5, none⟩) (Nat.le_refl _) _, ⟨_, _, _, HZ.out.1.1, HY.out.1, HY.out.2, HZ.out.1.2, HZ.out.2, ((TurnS.refl (fun k => k = w.heap.size) _).set (S := fun k => k = w.heap.size) (p := ⟨w.heap.size, 2, none⟩) rfl _).set (S := fun k => k = w.heap.size) (p := ⟨w.heap.size, 5, none⟩) rfl _⟩⟩
    ·
      have s5 := HD.out.1.cell 5 rfl
      have sz := HD.out.1.2
      go_wp2_with fail
      clear s5 sz
      refine hK.out _ _ trivial (fun hHeld => ?_)
      clear hK KC
      refine ready_call 1 ⟨some 4, Op.load 26 (Operand.tmp 3), _, _, _, none⟩ (by kernel_rfl) rfl (by kernel_rfl) (fun KC hK => ?_)
      have s2 := HD.out.1.cell 2 rfl
      have sz := HD.out.1.2
      go_wp2_with fail
      clear s2 sz
      refine hK.out _ _ trivial (fun hHeld => ?_)
      clear hK KC
      refine ready_call 2 ⟨some 5, Op.call { callee := Callee.value (Operand.func 64), args := #[Operand.tmp 4], argTypes := #[26] }, _, _, _, none⟩ (by kernel_rfl) rfl (by kernel_rfl) (fun KC hK => ?_)
      go_wp2_with fail
      refine (cloneInts_n a1 c1 cl _ hz1 (HL.out.1.next HD.out.2.2.1)).mono ?_
      rintro r W1 ⟨v1, rfl, hA1⟩
      have HZ := Hid.intro (And.intro hA1 HD.out.2.2.2)
      have HD := (show Hid (Bx W1 w.heap.size [.int .i64 sk, .int .i64 nw, .slice a1 cl.length c1, .int .i64 ho, .int .i64 un, .slice a2 kn.length c2] ∧ Bx W1 (w.heap.size + 1) [.int .i64 0, .int .i64 0, .slice none 0 0, .int .i64 0, .int .i64 0, .slice none 0 0] ∧ Below w.heap.size w W1 ∧ w.heap.size + 1 < W1.heap.size) from ⟨HD.out.1.next hA1.2, HD.out.2.1.next hA1.2, below_next HD.out.2.2.1 hA1.2, Nat.lt_of_lt_of_le HD.out.2.2.2 hA1.2.size⟩)
      obtain ⟨q1, d1, hv1⟩ := hA1.1.vform
      have hv1 : v1 = .slice q1 (List.length (α := Sh.T .int) cl) d1 := hv1
      subst hv1
      clear hA1
      refine hK.out _ _ trivial (fun hHeld => ?_)
      clear hK KC
      refine take_v (v := ?_) 6 ⟨some 9, Op.fieldAddr 28 (Operand.tmp 1) 2, _, _, _, none⟩ rfl (fun _ _ _ h => h) ?_ hHeld ?_
      rotate_left
      · (intro W _; go_simp <;> (try with_reducible rfl))
      refine ready_call 5 ⟨some 8, Op.call { callee := Callee.value (Operand.func 64), args := #[Operand.tmp 7], argTypes := #[26] }, _, _, _, none⟩ (by kernel_rfl) rfl (by kernel_rfl) (fun KC hK => ?_)
      go_wp2_with fail
      refine (cloneInts_n a2 c2 kn _ hz2 (HL.out.2.next HD.out.2.2.1)).mono ?_
      rintro r W2 ⟨v2, rfl, hA2⟩
      have HY := Hid.intro hA2
      have HD := (show Hid (Bx W2 w.heap.size [.int .i64 sk, .int .i64 nw, .slice a1 cl.length c1, .int .i64 ho, .int .i64 un, .slice a2 kn.length c2] ∧ Bx W2 (w.heap.size + 1) [.int .i64 0, .int .i64 0, .slice none 0 0, .int .i64 0, .int .i64 0, .slice none 0 0] ∧ Below w.heap.size w W2 ∧ w.heap.size + 1 < W2.heap.size) from ⟨HD.out.1.next hA2.2, HD.out.2.1.next hA2.2, below_next HD.out.2.2.1 hA2.2, Nat.lt_of_lt_of_le HD.out.2.2.2 hA2.2.size⟩)
      obtain ⟨q2, d2, hv2⟩ := hA2.1.vform
      have hv2 : v2 = .slice q2 (List.length (α := Sh.T .int) kn) d2 := hv2
      subst hv2
      clear hA2
      refine hK.out _ _ trivial (fun hHeld => ?_)
      clear hK KC
      refine ready_call 7 ⟨none, Op.store 26 (Operand.tmp 9) (Operand.tmp 5), _, _, _, none⟩ (by kernel_rfl) rfl (by kernel_rfl) (fun KC hK => ?_)
      have s2 := HD.out.1.cell 2 rfl
      have sf := HD.out.1.frz 2 (by simp)
      have sz := HD.out.1.2
      go_wp2_with fail
      have HD7 := Hid.intro (HD.out.1.set (k := 2) (by simp) (.slice q1 (List.length (α := Sh.T .int) cl) d1))
      clear s2 sf sz
      refine hK.out _ _ trivial (fun hHeld => ?_)
      clear hK KC
      refine take_v (v := ?_) 8 ⟨some 10, Op.fieldAddr 28 (Operand.tmp 1) 5, _, _, _, none⟩ rfl (fun _ _ _ h => h) ?_ hHeld ?_
      rotate_left
      · (intro W _; go_simp <;> (try with_reducible rfl))
      refine ready_call 9 ⟨none, Op.store 26 (Operand.tmp 10) (Operand.tmp 8), _, _, _, none⟩ (by kernel_rfl) rfl (by kernel_rfl) (fun KC hK => ?_)
      have s5 := HD7.out.cell 5 rfl
      have sf := HD7.out.frz 5 (by simp)
      have sz := HD7.out.2
      go_wp2_with fail
      have HD9 := Hid.intro (HD7.out.set (k := 5) (by simp) (.slice q2 (List.length (α := Sh.T .int) kn) d2))
      clear s5 sf sz
      refine hK.out _ _ trivial (fun hHeld => ?_)
      clear hK KC
      refine wpAnyH_done (by kernel_rfl) ?_ _
      refine NoPanic.normal ?_
      go_wp2_with fail
      go_meet
      exact ⟨_, _, rfl, rfl, HD9.out, (HD.out.2.1.other (by omega)).other (by omega), (HD.out.2.2.1.setCell (p := ⟨w.heap.size, 2, none⟩) (Nat.le_refl _) _).setCell (p := ⟨w.heap.size, 5, none⟩) (Nat.le_refl _) _, ⟨_, _, _, HZ.out.1.1, HY.out.1, HY.out.2, HZ.out.1.2, HZ.out.2, ((TurnS.refl (fun k => k = w.heap.size) _).set (S := fun k => k = w.heap.size) (p := ⟨w.heap.size, 2, none⟩) rfl _).set (S := fun k => k = w.heap.size) (p := ⟨w.heap.size, 5, none⟩) rfl _⟩⟩
  case rest =>
    obtain ⟨v1, v2, rfl, rfl, hB1, hB2, hB, z, W, W', o1, o2, hb, hzb, hzz, ht⟩ := hcut
    obtain ⟨q1, d1, hv1⟩ := o1.vform
    have hv1 : v1 = .slice q1 (List.length (α := Sh.T .int) cl) d1 := hv1
    subst hv1
    obtain ⟨q2, d2, hv2⟩ := o2.vform
    have hv2 : v2 = .slice q2 (List.length (α := Sh.T .int) kn) d2 := hv2
    subst hv2
    obtain ⟨wd, hwd⟩ : ∃ x, x = wc := ⟨_, rfl⟩
    subst hwd
    have HF : Hid (OwnX ((((((wd.setCell ⟨w.heap.size + 1, 0, none⟩ (.int .i64 sk)).setCell ⟨w.heap.size + 1, 1, none⟩ (.int .i64 nw)).setCell ⟨w.heap.size + 1, 2, none⟩ (.slice q1 cl.length d1)).setCell ⟨w.heap.size + 1, 3, none⟩ (.int .i64 ho)).setCell ⟨w.heap.size + 1, 4, none⟩ (.int .i64 un)).setCell ⟨w.heap.size + 1, 5, none⟩ (.slice q2 kn.length d2)) w.heap.size tyLeases [.int .i64 sk, .int .i64 nw, .slice q1 cl.length d1, .int .i64 ho, .int .i64 un, .slice q2 kn.length d2] (sk, nw, cl, ho, un, kn, ()) (Btw w.heap.size ((((((wd.setCell ⟨w.heap.size + 1, 0, none⟩ (.int .i64 sk)).setCell ⟨w.heap.size + 1, 1, none⟩ (.int .i64 nw)).setCell ⟨w.heap.size + 1, 2, none⟩ (.slice q1 cl.length d1)).setCell ⟨w.heap.size + 1, 3, none⟩ (.int .i64 ho)).setCell ⟨w.heap.size + 1, 4, none⟩ (.int .i64 un)).setCell ⟨w.heap.size + 1, 5, none⟩ (.slice q2 kn.length d2)).heap.size)) :=
      Hid.intro (cloned_x (w := w) o1 o2 hb hzb.size (by omega) ((ht.wide (fun k (e : k = w.heap.size) => (show k = w.heap.size ∨ k = w.heap.size + 1 from Or.inl e))).trans ((set6 wd (w.heap.size + 1) _ _ _ _ _ _).wide (fun k e => Or.inr e))) (fun k e => by have e : k = w.heap.size ∨ k = w.heap.size + 1 := e; omega))
    have HB : Hid (∀ u0 u1 u2 u3 u4 u5, Below w.heap.size w ((((((wd.setCell ⟨w.heap.size + 1, 0, none⟩ u0).setCell ⟨w.heap.size + 1, 1, none⟩ u1).setCell ⟨w.heap.size + 1, 2, none⟩ u2).setCell ⟨w.heap.size + 1, 3, none⟩ u3).setCell ⟨w.heap.size + 1, 4, none⟩ u4).setCell ⟨w.heap.size + 1, 5, none⟩ u5)) := Hid.intro (fun _ _ _ _ _ _ => hB.trans ((set6 wd (w.heap.size + 1) _ _ _ _ _ _).below (fun k e => by have e : k = w.heap.size + 1 := e; omega) hB.size))
    have s0 := hB1.cell 0 rfl
    have s1 := hB1.cell 1 rfl
    have s2 := hB1.cell 2 rfl
    have s3 := hB1.cell 3 rfl
    have s4 := hB1.cell 4 rfl
    have s5 := hB1.cell 5 rfl
    have sz := hB1.2
    have r0 := hB2.cell 0 rfl
    have r1 := hB2.cell 1 rfl
    have r2 := hB2.cell 2 rfl
    have r3 := hB2.cell 3 rfl
    have r4 := hB2.cell 4 rfl
    have r5 := hB2.cell 5 rfl
    have rz := hB2.2
    have rf0 := hB2.frz 0 (by simp)
    have rf1 := hB2.frz 1 (by simp)
    have rf2 := hB2.frz 2 (by simp)
    have rf3 := hB2.frz 3 (by simp)
    have rf4 := hB2.frz 4 (by simp)
    have rf5 := hB2.frz 5 (by simp)
    clear hB1 hB2 hB o1 o2 hb hzb hzz ht HD hX
    go_wp2
    refine bodyPost_ret (v := .agg #[.int .i64 sk, .int .i64 nw, .slice q1 cl.length d1, .int .i64 ho, .int .i64 un, .slice q2 kn.length d2]) (by simp [results, Try.results50, go_sem, *]) rfl ⟨[.int .i64 sk, .int .i64 nw, .slice q1 cl.length d1, .int .i64 ho, .int .i64 un, .slice q2 kn.length d2], rfl, HF.out, HB.out _ _ _ _ _ _⟩

end Go.Proofs.Ytidalpgkljafdaa
