/- Counters: impl.sumOf, ValueOf on both sides. -/
import Derived.Test.YtnglgndocmkbfaaCtA
namespace Go.Proofs.Ytnglgndocmkbfaa
open Go.RowKit
set_option linter.unusedVariables false
set_option linter.unusedSimpArgs false

theorem w64c {n : Int} (h0 : -9223372036854775808 ≤ n) (h1 : n ≤ 9223372036854775807) : IntKind.i64.wrap n = n := by
  rw [IntKind.wrap_i64]; omega
set_option maxRecDepth 100000 in
set_option maxHeartbeats 1000000 in
theorem sumOf_n (a : Option Addr) (cap : Nat) (l : List (Sh.T .int)) (w : World) (hg : cntR l) (h : Lies w (.list .int) [.slice a l.length cap] l) :
    Calls Try.prog 69 #[.slice a l.length cap] w fun r w' => r = .returned (.int .i64 (sumK l l.length)) ∧ w' = w := by
  have HL := Hid.intro h
  have HG := Hid.intro hg
  have hn := hg.1
  have HB : Hid (∀ k, k ≤ l.length → 0 ≤ sumK l k ∧ sumK l k ≤ 1000000 * k) := Hid.intro (sumK_bd hg.2)
  clear h hg
  go_enter Try.func69, Try.ntmps69
  go_wp2
  go_loopw [8, 3] (fun i v wr => ∃ k : Nat, k ≤ l.length ∧ i = .int .i64 k ∧ v = .int .i64 (sumK l k) ∧ wr = w) (fun i _ _ => l.length - (intOf i).toNat)
  case atStart => exact ⟨0, Nat.zero_le _, rfl, rfl, rfl⟩
  case round =>
    obtain ⟨k, hk, rfl, rfl, rfl⟩ := hrel
    obtain ⟨hs0, hs1⟩ := HB.out k hk
    by_cases hlt : k < l.length
    · have hlt' : (k : Int) < (l.length : Int) := by omega
      obtain ⟨gr, og, har, hcr, hgr⟩ := lies_at HL.out hlt
      subst har
      have HS : Hid (sumK l (k + 1) = sumK l k + atI l k) := Hid.intro (sumK_succ hlt)
      have hx := HG.out.2 k hlt
      obtain ⟨hx0, hx1⟩ := hx
      obtain ⟨y, hy⟩ : ∃ y, y = atI l k := ⟨_, rfl⟩
      rw [← hy] at hcr HS hx0 hx1
      clear hy
      obtain ⟨q, hq⟩ : ∃ q, q = sumK l k := ⟨_, rfl⟩
      rw [← hq] at HS hs0 hs1 ⊢
      clear hq
      go_wp2
      go_roundw
      case rel => exact ⟨k + 1, by omega, by go_num, by rw [HS.out], trivial⟩
      case measure => simp [intOf]; omega
    · have hkn : k = l.length := by omega
      subst hkn
      go_wp2
      go_ret
      exact ⟨rfl, rfl⟩

set_option maxRecDepth 100000 in
set_option maxHeartbeats 1000000 in
theorem valueOf_n (cs : List Value) (u d : List (Sh.T .int)) (w : World) (hz : szD shCounter (u, d, ()) ≤ 1073741824) (h : Lies w shCounter cs (u, d, ())) :
    Calls Try.prog 23 #[.agg cs.toArray] w (VoP (voA u d) w) := by
  obtain ⟨a1, k1, a2, k2, rfl, h1, h2⟩ := lies_Counter h
  obtain ⟨w0, hw0⟩ : ∃ x, x = w.alloc (.cells #[.slice a1 u.length k1, .slice a2 d.length k2] 25) := ⟨_, rfl⟩
  have hb0 : Below w.heap.size w w0 := hw0 ▸ Go.Joins.below_alloc1 _ _
  have HL : Hid (Lies w (.list .int) [.slice a1 u.length k1] u ∧ Lies w (.list .int) [.slice a2 d.length k2] d) := ⟨h1, h2⟩
  have HB0 : Hid (Bx w0 w.heap.size [.slice a1 u.length k1, .slice a2 d.length k2] ∧ Below w.heap.size w w0) := ⟨hw0 ▸ Bx.new w [_, _] _, hb0⟩
  have HC : Hid (Calls Try.prog 42 #[.agg #[.slice a1 u.length k1, .slice a2 d.length k2]] w0 fun r w' => r = .returned (.bool (tf (goodC u d))) ∧ Below w0.heap.size w0 w') := Hid.intro (goodCounter_n _ u d w0 hz (h.next hb0))
  clear h h1 h2 hb0 hz
  go_enter Try.func23, Try.ntmps23
  go_upto_region 1 with fail
  rw [← hw0]
  clear hw0
  have s0 := (HB0.out.1).cell 0 rfl; have s1 := (HB0.out.1).cell 1 rfl; have sz := (HB0.out.1).2
  go_wp2_with fail
  refine HC.out.mono ?_
  rintro r w1 ⟨rfl, hb⟩
  have HB1 : Hid (Bx w1 w.heap.size [.slice a1 u.length k1, .slice a2 d.length k2] ∧ Below w.heap.size w w1) := ⟨HB0.out.1.next hb, below_next HB0.out.2 hb⟩
  clear hb s0 s1 sz HC HB0
  cases e : tf (goodC u d)
  · have HN : Hid (voA u d = (0, false)) := Hid.intro (voA_no (fun q => by rw [tf_yes q] at e; cases e))
    clear e
    go_wp2
    go_ret2
    exact ⟨by rw [HN.out]; rfl, HB1.out.2⟩
  have HG := Hid.intro (tf_iff.1 e)
  have HN : Hid (voA u d = (sumK u u.length - sumK d d.length, true)) := Hid.intro (voA_yes (tf_iff.1 e))
  clear e
  have HB2 : Hid (Bx w1.drew w.heap.size [.slice a1 u.length k1, .slice a2 d.length k2] ∧ Below w.heap.size w w1.drew ∧ Lies w1.drew (.list .int) [.slice a1 u.length k1] u ∧ Lies w1.drew (.list .int) [.slice a2 d.length k2] d) := Hid.intro (by
    have h1 := below_next HB1.out.2 (below_drew w1)
    exact ⟨HB1.out.1.next (below_drew _), h1, HL.out.1.next h1, HL.out.2.next h1⟩)
  obtain ⟨hu0, hu1⟩ := sumK_bd HG.out.1.2 u.length (Nat.le_refl _)
  obtain ⟨hd0, hd1⟩ := sumK_bd HG.out.2.2 d.length (Nat.le_refl _)
  have HU : Hid (-9223372036854775808 ≤ sumK u u.length - sumK d d.length ∧ sumK u u.length - sumK d d.length ≤ 9223372036854775807) := Hid.intro (by have := HG.out.1.1; have := HG.out.2.1; omega)
  clear hu0 hu1 hd0 hd1
  have s0 := (HB1.out.1).cell 0 rfl; have s1 := (HB1.out.1).cell 1 rfl; have sz := (HB1.out.1).2
  go_upto_region 3 with fail
  clear s0 s1 sz
  refine wp_region_noPanic ?_
  refine wp_region_held_drew (S := fun W => Bx W w.heap.size [.slice a1 u.length k1, .slice a2 d.length k2]) (by kernel_rfl) HB2.out.1 (fun hHeld => ?_)
  refine take_v (v := ?_) 0 ⟨some 7, Op.fieldAddr 25 (Operand.tmp 1) 0, _, _, _, none⟩ rfl (fun _ _ _ h => h) ?_ hHeld ?_
  rotate_left
  · (intro W _; go_simp <;> (try with_reducible rfl))
  refine take_v (v := ?_) 1 ⟨some 8, Op.load 23 (Operand.tmp 7), _, _, _, none⟩ rfl (fun _ _ _ h => h) ?_ hHeld ?_
  rotate_left
  · (intro W hSW; (have s0 := hSW.cell 0 rfl; have s1 := hSW.cell 1 rfl; have sz := hSW.2); go_simp <;> (try with_reducible rfl))
  refine take_v (v := ?_) 3 ⟨some 10, Op.fieldAddr 25 (Operand.tmp 1) 1, _, _, _, none⟩ rfl (fun _ _ _ h => h) ?_ hHeld ?_
  rotate_left
  · (intro W _; go_simp <;> (try with_reducible rfl))
  refine take_v (v := ?_) 4 ⟨some 11, Op.load 23 (Operand.tmp 10), _, _, _, none⟩ rfl (fun _ _ _ h => h) ?_ hHeld ?_
  rotate_left
  · (intro W hSW; (have s0 := hSW.cell 0 rfl; have s1 := hSW.cell 1 rfl; have sz := hSW.2); go_simp <;> (try with_reducible rfl))
  refine ready_call 2 ⟨some 9, Op.call { callee := Callee.value (Operand.func 69), args := #[Operand.tmp 8], argTypes := #[23] }, _, _, _, none⟩ (by kernel_rfl) rfl (by kernel_rfl) (fun KC hK => ?_)
  go_wp2_with fail
  refine (sumOf_n a1 k1 u _ HG.out.1 HB2.out.2.2.1).mono ?_
  rintro r w' ⟨rfl, hw'⟩
  have hw' := hw'.symm
  subst hw'
  refine hK.out _ _ HB2.out.1 (fun hHeld => ?_)
  clear hK KC
  refine ready_call 5 ⟨some 12, Op.call { callee := Callee.value (Operand.func 69), args := #[Operand.tmp 11], argTypes := #[23] }, _, _, _, none⟩ (by kernel_rfl) rfl (by kernel_rfl) (fun KC hK => ?_)
  go_wp2_with fail
  refine (sumOf_n a2 k2 d _ HG.out.2 HB2.out.2.2.2).mono ?_
  rintro r w' ⟨rfl, hw'⟩
  have hw' := hw'.symm
  subst hw'
  refine hK.out _ _ HB2.out.1 (fun hHeld => ?_)
  clear hK KC
  refine take_v (v := ?_) 6 ⟨some 13, Op.binOp BinOp.sub 3 (Operand.tmp 9) (Operand.tmp 12) 3, _, _, _, none⟩ rfl (fun _ _ _ h => h) ?_ hHeld ?_
  rotate_left
  · (intro W _; go_simp <;> (try with_reducible rfl))
  refine take_v (v := ?_) 7 ⟨some 2, Op.assign (Operand.tmp 13), _, _, _, none⟩ rfl (fun _ _ _ h => h) ?_ hHeld ?_
  rotate_left
  · (intro W _; go_simp <;> (try with_reducible rfl))
  refine take_v (v := ?_) 8 ⟨some 3, Op.assign (Operand.const (Value.bool true)), _, _, _, none⟩ rfl (fun _ _ _ h => h) ?_ hHeld ?_
  rotate_left
  · (intro W _; go_simp <;> (try with_reducible rfl))
  refine wpAnyH_done (by kernel_rfl) ?_ _
  refine NoPanic.normal ?_
  clear hHeld
  go_wp2
  go_ret2
  exact ⟨by rw [HN.out]; rw [w64c HU.out.1 HU.out.2]; rfl, HB2.out.2.1⟩

/-- The difference of what both sums have so far. -/
theorem dif_succ {u d : List (Sh.T .int)} {k : Nat} (h1 : k < u.length) (h2 : k < d.length) : sumK u (k + 1) - sumK d (k + 1) = (sumK u k - sumK d k) + (atI u k - atI d k) := by
  rw [sumK_succ h1, sumK_succ h2]; omega
set_option maxRecDepth 100000 in
set_option maxHeartbeats 1000000 in
theorem specValueOf_n (cs : List Value) (u d : List (Sh.T .int)) (w : World) (hz : szD shCounter (u, d, ()) ≤ 1073741824) (h : Lies w shCounter cs (u, d, ())) :
    Calls Try.prog 46 #[.agg cs.toArray] w (VoP (voA u d) w) := by
  obtain ⟨a1, k1, a2, k2, rfl, h1, h2⟩ := lies_Counter h
  obtain ⟨w0, hw0⟩ : ∃ x, x = w.alloc (.cells #[.slice a1 u.length k1, .slice a2 d.length k2] 25) := ⟨_, rfl⟩
  have hb0 : Below w.heap.size w w0 := hw0 ▸ Go.Joins.below_alloc1 _ _
  have HL : Hid (Lies w (.list .int) [.slice a1 u.length k1] u ∧ Lies w (.list .int) [.slice a2 d.length k2] d) := ⟨h1, h2⟩
  have HB0 : Hid (Bx w0 w.heap.size [.slice a1 u.length k1, .slice a2 d.length k2] ∧ Below w.heap.size w w0) := ⟨hw0 ▸ Bx.new w [_, _] _, hb0⟩
  have HC : Hid (Calls Try.prog 24 #[.agg #[.slice a1 u.length k1, .slice a2 d.length k2]] w0 fun r w' => r = .returned (.bool (tf (goodC u d))) ∧ Below w0.heap.size w0 w') := Hid.intro (specGoodCounter_n _ u d w0 hz (h.next hb0))
  clear h h1 h2 hb0 hz
  go_enter Try.func46, Try.ntmps46
  go_upto_region 1 with fail
  rw [← hw0]
  clear hw0
  have s0 := (HB0.out.1).cell 0 rfl; have s1 := (HB0.out.1).cell 1 rfl; have sz := (HB0.out.1).2
  go_wp2_with fail
  refine HC.out.mono ?_
  rintro r w1 ⟨rfl, hb⟩
  have HB1 : Hid (Bx w1 w.heap.size [.slice a1 u.length k1, .slice a2 d.length k2] ∧ Below w.heap.size w w1) := ⟨HB0.out.1.next hb, below_next HB0.out.2 hb⟩
  clear hb s0 s1 sz HC HB0
  cases e : tf (goodC u d)
  · have HN : Hid (voA u d = (0, false)) := Hid.intro (voA_no (fun q => by rw [tf_yes q] at e; cases e))
    clear e
    go_wp2
    go_ret2
    exact ⟨by rw [HN.out]; rfl, HB1.out.2⟩
  have HG := Hid.intro (tf_iff.1 e)
  have HN : Hid (voA u d = (sumK u u.length - sumK d d.length, true)) := Hid.intro (voA_yes (tf_iff.1 e))
  have hu6 : u.length = 6 := HG.out.1.1
  have hd6 : d.length = 6 := HG.out.2.1
  clear e
  have s0 := (HB1.out.1).cell 0 rfl; have s1 := (HB1.out.1).cell 1 rfl; have sz := (HB1.out.1).2
  go_wp2
  clear s0 s1 sz
  go_loopw [12, 4] (fun i v wr => ∃ k : Nat, k ≤ u.length ∧ i = .int .i64 k ∧ v = .int .i64 (sumK u k - sumK d k) ∧ Bx wr w.heap.size [.slice a1 u.length k1, .slice a2 d.length k2] ∧ Below w.heap.size w wr) (fun i _ _ => u.length - (intOf i).toNat)
  case atStart => exact ⟨0, Nat.zero_le _, rfl, rfl, HB1.out⟩
  case round =>
    obtain ⟨k, hk, rfl, rfl, hbx, hBr⟩ := hrel
    have HB2 : Hid (Bx wr w.heap.size [.slice a1 u.length k1, .slice a2 d.length k2] ∧ Below w.heap.size w wr) := ⟨hbx, hBr⟩
    clear hbx hBr
    obtain ⟨hs0, hs1⟩ := sumK_bd HG.out.1.2 k hk
    obtain ⟨ht0, ht1⟩ := sumK_bd HG.out.2.2 k (by omega)
    by_cases hlt : k < u.length
    · have hlt' : (k : Int) < (u.length : Int) := by omega
      have hlt2 : k < d.length := by omega
      have hlt2' : (k : Int) < (d.length : Int) := by omega
      obtain ⟨g1, o1, ha1, c1, z1⟩ := lies_at (HL.out.1.next HB2.out.2) hlt
      obtain ⟨g2, o2, ha2, c2, z2⟩ := lies_at (HL.out.2.next HB2.out.2) hlt2
      subst ha1 ha2
      have HS := Hid.intro (dif_succ hlt hlt2)
      obtain ⟨hx0, hx1⟩ := HG.out.1.2 k hlt
      obtain ⟨hy0, hy1⟩ := HG.out.2.2 k hlt2
      obtain ⟨q, hq⟩ : ∃ q, q = sumK u k - sumK d k := ⟨_, rfl⟩
      have hq0 : -6000000 ≤ q ∧ q ≤ 6000000 := by omega
      obtain ⟨hq1, hq2⟩ := hq0
      rw [← hq] at HS ⊢
      clear hq hs0 hs1 ht0 ht1
      obtain ⟨x, hx⟩ : ∃ x, x = atI u k := ⟨_, rfl⟩
      obtain ⟨y, hy⟩ : ∃ y, y = atI d k := ⟨_, rfl⟩
      rw [← hx] at HS hx0 hx1 c1
      rw [← hy] at HS hy0 hy1 c2
      clear hx hy
      have HB3 : Hid (Bx wr.drew w.heap.size [.slice (some ⟨g1, o1, none⟩) u.length k1, .slice (some ⟨g2, o2, none⟩) d.length k2] ∧ Below w.heap.size w wr.drew) := ⟨HB2.out.1.next (below_drew _), below_next HB2.out.2 (below_drew _)⟩
      have HS0 : Hid (Bx wr.drew w.heap.size [.slice (some ⟨g1, o1, none⟩) u.length k1, .slice (some ⟨g2, o2, none⟩) d.length k2] ∧ wr.drew.cell? ⟨g1, o1 + k, none⟩ = some (.int .i64 x) ∧ wr.drew.cell? ⟨g2, o2 + k, none⟩ = some (.int .i64 y) ∧ g1 < wr.drew.heap.size ∧ g2 < wr.drew.heap.size) := ⟨HB3.out.1, c1, c2, z1, z2⟩
      clear c1 c2
      have s0 := (HB2.out.1).cell 0 rfl; have s1 := (HB2.out.1).cell 1 rfl; have sz := (HB2.out.1).2
      go_upto_region 7 with fail
      clear s0 s1 sz z1 z2
      refine wp_region_noPanic ?_
      refine wp_region_held_drew (S := fun W => Bx W w.heap.size [.slice (some ⟨g1, o1, none⟩) u.length k1, .slice (some ⟨g2, o2, none⟩) d.length k2] ∧ W.cell? ⟨g1, o1 + k, none⟩ = some (.int .i64 x) ∧ W.cell? ⟨g2, o2 + k, none⟩ = some (.int .i64 y) ∧ g1 < W.heap.size ∧ g2 < W.heap.size) (by kernel_rfl) HS0.out (fun hHeld => ?_)
      refine take_v (v := ?_) 0 ⟨some 15, Op.move (Operand.tmp 4), _, _, _, none⟩ rfl (fun _ _ _ h => h) ?_ hHeld ?_
      rotate_left
      · (intro W _; go_simp <;> (try with_reducible rfl))
      refine take_v (v := ?_) 1 ⟨some 16, Op.fieldAddr 25 (Operand.tmp 1) 0, _, _, _, none⟩ rfl (fun _ _ _ h => h) ?_ hHeld ?_
      rotate_left
      · (intro W _; go_simp <;> (try with_reducible rfl))
      refine take_v (v := ?_) 2 ⟨some 17, Op.load 23 (Operand.tmp 16), _, _, _, none⟩ rfl (fun _ _ _ h => h) ?_ hHeld ?_
      rotate_left
      · (intro W hSW; (have s0 := hSW.1.cell 0 rfl; have s1 := hSW.1.cell 1 rfl; have sz := hSW.1.2; have sc := hSW.2.1; have sd := hSW.2.2.1; have z1 := hSW.2.2.2.1; have z2 := hSW.2.2.2.2); go_simp <;> (try with_reducible rfl))
      refine take_v (v := ?_) 3 ⟨some 18, Op.move (Operand.tmp 5), _, _, _, none⟩ rfl (fun _ _ _ h => h) ?_ hHeld ?_
      rotate_left
      · (intro W _; go_simp <;> (try with_reducible rfl))
      refine take_v (v := ?_) 4 ⟨some 19, Op.indexAddr 23 (Operand.tmp 17) (Operand.tmp 18), _, _, _, none⟩ rfl (fun _ _ _ h => h) ?_ hHeld ?_
      rotate_left
      · (intro W _; go_simp <;> (try with_reducible rfl))
      refine take_v (v := ?_) 5 ⟨some 20, Op.load 3 (Operand.tmp 19), _, _, _, none⟩ rfl (fun _ _ _ h => h) ?_ hHeld ?_
      rotate_left
      · (intro W hSW; (have s0 := hSW.1.cell 0 rfl; have s1 := hSW.1.cell 1 rfl; have sz := hSW.1.2; have sc := hSW.2.1; have sd := hSW.2.2.1; have z1 := hSW.2.2.2.1; have z2 := hSW.2.2.2.2); go_simp <;> (try with_reducible rfl))
      refine take_v (v := ?_) 6 ⟨some 21, Op.fieldAddr 25 (Operand.tmp 1) 1, _, _, _, none⟩ rfl (fun _ _ _ h => h) ?_ hHeld ?_
      rotate_left
      · (intro W _; go_simp <;> (try with_reducible rfl))
      refine take_v (v := ?_) 7 ⟨some 22, Op.load 23 (Operand.tmp 21), _, _, _, none⟩ rfl (fun _ _ _ h => h) ?_ hHeld ?_
      rotate_left
      · (intro W hSW; (have s0 := hSW.1.cell 0 rfl; have s1 := hSW.1.cell 1 rfl; have sz := hSW.1.2; have sc := hSW.2.1; have sd := hSW.2.2.1; have z1 := hSW.2.2.2.1; have z2 := hSW.2.2.2.2); go_simp <;> (try with_reducible rfl))
      refine take_v (v := ?_) 8 ⟨some 23, Op.move (Operand.tmp 5), _, _, _, none⟩ rfl (fun _ _ _ h => h) ?_ hHeld ?_
      rotate_left
      · (intro W _; go_simp <;> (try with_reducible rfl))
      refine take_v (v := ?_) 9 ⟨some 24, Op.indexAddr 23 (Operand.tmp 22) (Operand.tmp 23), _, _, _, none⟩ rfl (fun _ _ _ h => h) ?_ hHeld ?_
      rotate_left
      · (intro W _; go_simp <;> (try with_reducible rfl))
      refine take_v (v := ?_) 10 ⟨some 25, Op.load 3 (Operand.tmp 24), _, _, _, none⟩ rfl (fun _ _ _ h => h) ?_ hHeld ?_
      rotate_left
      · (intro W hSW; (have s0 := hSW.1.cell 0 rfl; have s1 := hSW.1.cell 1 rfl; have sz := hSW.1.2; have sc := hSW.2.1; have sd := hSW.2.2.1; have z1 := hSW.2.2.2.1; have z2 := hSW.2.2.2.2); go_simp <;> (try with_reducible rfl))
      refine take_v (v := ?_) 11 ⟨some 26, Op.binOp BinOp.sub 3 (Operand.tmp 20) (Operand.tmp 25) 3, _, _, _, none⟩ rfl (fun _ _ _ h => h) ?_ hHeld ?_
      rotate_left
      · (intro W _; go_simp <;> (try with_reducible rfl))
      refine take_v (v := ?_) 12 ⟨some 27, Op.binOp BinOp.add 3 (Operand.tmp 15) (Operand.tmp 26) 3, _, _, _, none⟩ rfl (fun _ _ _ h => h) ?_ hHeld ?_
      rotate_left
      · (intro W _; go_simp <;> (try with_reducible rfl))
      refine take_v (v := ?_) 13 ⟨some 4, Op.assign (Operand.tmp 27), _, _, _, none⟩ rfl (fun _ _ _ h => h) ?_ hHeld ?_
      rotate_left
      · (intro W _; go_simp <;> (try with_reducible rfl))
      refine wpAnyH_done (by kernel_rfl) ?_ _
      refine NoPanic.normal ?_
      clear hHeld
      go_wp2
      go_roundw
      case rel => exact ⟨k + 1, by omega, by go_num, by rw [HS.out, w64c (n := x - y) (by omega) (by omega), w64c (n := q + (x - y)) (by omega) (by omega)], HB3.out⟩
      case measure => simp [intOf]; omega
    · have hkn : k = u.length := by omega
      have HE : Hid (voA u d = (sumK u k - sumK d k, true)) := Hid.intro (by rw [HN.out, hkn, hd6, hu6])
      have s0 := (HB2.out.1).cell 0 rfl; have s1 := (HB2.out.1).cell 1 rfl; have sz := (HB2.out.1).2
      go_wp2
      go_ret2
      exact ⟨by rw [HE.out]; rfl, HB2.out.2⟩
end Go.Proofs.Ytnglgndocmkbfaa
