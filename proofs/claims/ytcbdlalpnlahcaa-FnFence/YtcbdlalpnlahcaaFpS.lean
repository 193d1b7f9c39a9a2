/- Fences: the specification's PlayFence. Written by tools/mkFpS.py. -/
import Derived.Test.YtcbdlalpnlahcaaFeT
import Derived.Test.YtcbdlalpnlahcaaFpG
namespace Go.Proofs.Ytcbdlalpnlahcaa
open Go.RowKit
set_option linter.unusedVariables false
set_option linter.unusedSimpArgs false

theorem l12Step_g (lo : Nat) (S : Nat → Prop) (cs : List Value) (ep du : Int) (ms : List (Sh.T shMember)) (en : List (Sh.T .int)) (a b n : Int) (w : World) (E : Option (Sh.T shFence)) (hE : stF ep du ms en a b n = E) (hG : goodF ep du ms en) (hO : OwnX w lo tyFence cs (ep, du, ms, en, ()) S) (hS : ∀ k, S k → k < w.heap.size) (hlo : lo ≤ w.heap.size) :
    Calls Try.prog 41 #[.agg cs.toArray, .agg #[.int .i64 a, .int .i64 b, .int .i64 n]] w (StX lo S E w) := hE ▸ l12Step_n lo S cs ep du ms en a b n w hG hO hS hlo
theorem stx_out {lo : Nat} {S : Nat → Prop} {E : Option (Sh.T shFence)} {w W : World} {r : Ending} (h : StX lo S E w r W) : ∃ (e5 d5 : Int) (a5 : Option Addr) (n5 c5 : Nat) (a6 : Option Addr) (n6 c6 : Nat), r = .returned (.tuple #[.agg #[.int .i64 e5, .int .i64 d5, .slice a5 n5 c5, .slice a6 n6 c6], .bool E.isSome]) ∧ TurnS S w W ∧ ∀ y, E = some y → OwnX W lo tyFence [.int .i64 e5, .int .i64 d5, .slice a5 n5 c5, .slice a6 n6 c6] y (fun k => S k ∨ Btw w.heap.size W.heap.size k) := by
  obtain ⟨ht, cs, rfl, ⟨e5, d5, a5, n5, c5, a6, n6, c6, rfl⟩, hy⟩ := h
  exact ⟨e5, d5, a5, n5, c5, a6, n6, c6, rfl, ht, hy⟩
theorem fence_name {wr Y : World} {E : Option (Sh.T shFence)} {b7 : Nat} {cs : List Value} (h : Bx Y b7 cs ∧ Below wr.heap.size wr Y ∧ ∀ y, E = some y → ∃ T2 : Nat → Prop, OwnX Y wr.heap.size tyFence cs y T2 ∧ ∀ k, T2 k → wr.heap.size < k ∧ k < Y.heap.size ∧ k ≠ b7) : ∃ Wz, Wz = Y ∧ (Bx Wz b7 cs ∧ Below wr.heap.size wr Wz ∧ ∀ y, E = some y → ∃ T2 : Nat → Prop, OwnX Wz wr.heap.size tyFence cs y T2 ∧ ∀ k, T2 k → wr.heap.size < k ∧ k < Wz.heap.size ∧ k ≠ b7) := ⟨Y, rfl, h⟩
theorem box_fence {wr W : World} {E : Option (Sh.T shFence)} {b7 : Nat} {cs : List Value} (h7 : Bx W b7 [.int .i64 0, .int .i64 0, .slice none 0 0, .slice none 0 0]) (hz : wr.heap.size < b7) (hb : Below wr.heap.size wr W) (hy : ∀ y, E = some y → ∃ T2 : Nat → Prop, OwnX W wr.heap.size tyFence cs y T2 ∧ ∀ k, T2 k → wr.heap.size < k ∧ k < W.heap.size ∧ k ≠ b7) (u0 u1 u2 u3 : Value) :
    Bx ((((W.setCell ⟨b7, 0, none⟩ (u0)).setCell ⟨b7, 1, none⟩ (u1)).setCell ⟨b7, 2, none⟩ (u2)).setCell ⟨b7, 3, none⟩ (u3)) b7 [u0, u1, u2, u3] ∧ Below wr.heap.size wr ((((W.setCell ⟨b7, 0, none⟩ (u0)).setCell ⟨b7, 1, none⟩ (u1)).setCell ⟨b7, 2, none⟩ (u2)).setCell ⟨b7, 3, none⟩ (u3)) ∧ ∀ y, E = some y → ∃ T2 : Nat → Prop, OwnX ((((W.setCell ⟨b7, 0, none⟩ (u0)).setCell ⟨b7, 1, none⟩ (u1)).setCell ⟨b7, 2, none⟩ (u2)).setCell ⟨b7, 3, none⟩ (u3)) wr.heap.size tyFence cs y T2 ∧ ∀ k, T2 k → wr.heap.size < k ∧ k < ((((W.setCell ⟨b7, 0, none⟩ (u0)).setCell ⟨b7, 1, none⟩ (u1)).setCell ⟨b7, 2, none⟩ (u2)).setCell ⟨b7, 3, none⟩ (u3)).heap.size ∧ k ≠ b7 := by
  have hs := set4 W b7 u0 u1 u2 u3
  refine ⟨h7.set4 u0 u1 u2 u3, hb.trans (hs.below (fun k e => by have e : k = b7 := e; omega) hb.size), fun y e => ?_⟩
  obtain ⟨T2, h1, h2⟩ := hy y e
  exact ⟨T2, h1.turn hs (fun k hk q => (h2 k hk).2.2 q), fun k hk => by have := h2 k hk; simp only [World.size_setCell]; exact this⟩

set_option maxRecDepth 100000 in
set_option maxHeartbeats 8000000 in
theorem specPlayFence_n (mm : Int) (a2 : Option Addr) (c2 : Nat) (l : List (Sh.T shFenceStep)) (w : World) (hn : l.length ≤ 1073741824) (h2 : Lies w (.list shFenceStep) [.slice a2 l.length c2] l) :
    Calls Try.prog 13 #[.int .i64 mm, .slice a2 l.length c2] w (FpR mm l w) := by
  have HL := Hid.intro h2
  clear h2
  obtain ⟨i0, hi0, hz0, hz1, hz2⟩ := info_parts inf_int
  obtain ⟨w0, hw0⟩ : ∃ x, x = w.alloc (.cells #[.int .i64 0, .int .i64 0, .slice none 0 0, .slice none 0 0] 29) := ⟨_, rfl⟩
  have HB0 : Hid (Bx w0 w.heap.size [.int .i64 0, .int .i64 0, .slice none 0 0, .slice none 0 0] ∧ Below w.heap.size w w0 ∧ w0.heap.size = w.heap.size + 1) := ⟨hw0 ▸ Bx.new w [_, _, _, _] _, hw0 ▸ Go.Joins.below_alloc1 _ _, by rw [hw0]; simp⟩
  go_enter Try.func13, Try.ntmps13
  go_wp2_with fail
  rw [← hw0]
  clear hw0
  refine (specNewFence_n mm _).mono ?_
  by_cases c0 : 1 ≤ mm ∧ mm ≤ 8
  case neg =>
    obtain ⟨e1, e2, e3⟩ := nf_none c0
    rw [e1, e2, e3]
    rintro r w1 ⟨cs, rfl, ho, hb⟩
    obtain ⟨p1, n1, q1, p2, n2, q2, hev⟩ := own_cellsF ho
    subst hev
    have HB1 : Hid (Bx w1 w.heap.size [.int .i64 0, .int .i64 0, .slice none 0 0, .slice none 0 0] ∧ Below w.heap.size w w1) := ⟨HB0.out.1.next hb, below_next HB0.out.2.1 hb⟩
    have HN : Hid (¬ fpOk mm l) := Hid.intro (fun q => c0 q.1)
    clear ho hb HB0 c0 e1 e2 e3
    have r0 := HB1.out.1.cell 0 rfl
    have r1 := HB1.out.1.cell 1 rfl
    have r2 := HB1.out.1.cell 2 rfl
    have r3 := HB1.out.1.cell 3 rfl
    have rz := HB1.out.1.2
    have rf0 := HB1.out.1.frz 0 (by simp)
    have rf1 := HB1.out.1.frz 1 (by simp)
    have rf2 := HB1.out.1.frz 2 (by simp)
    have rf3 := HB1.out.1.frz 3 (by simp)
    go_wp2_with fail
    refine bodyPost_ret (v := .tuple #[.agg #[.int .i64 0, .int .i64 0, .slice none 0 0, .slice none 0 0], .slice none 0 0, .bool false]) (by simp [results, Try.results13, go_sem, *]) rfl (FpR.no HN.out ?_)
    exact (HB1.out.2.trans ((set4 w1 w.heap.size _ _ _ _).below (fun k e => by have e : k = w.heap.size := e; omega) HB1.out.2.size)).alloc (by have := HB1.out.2.size; simp; omega) _
  have HG0 : Hid (goodT (fp0 mm)) := Hid.intro (fp0_good c0).1
  obtain ⟨e1, e2, e3⟩ := nf_some c0
  rw [e1, e2, e3]
  rintro r w1 ⟨cs, rfl, ho, hb⟩
  obtain ⟨S0, hS0⟩ : ∃ S, fp0 mm = S := ⟨_, rfl⟩
  have ho : Own w1 shFence cs S0 (Btw w0.heap.size w1.heap.size) := hS0 ▸ ho
  rw [hS0] at HG0
  obtain ⟨ep, du, ms, en, ⟨⟩⟩ := S0
  obtain ⟨p3, n3, q3, p4, n4, q4, hcs⟩ := own_cellsF ho
  subst hcs
  have HB1 : Hid (Bx w1 w.heap.size [.int .i64 0, .int .i64 0, .slice none 0 0, .slice none 0 0] ∧ Below w.heap.size w w1) := ⟨HB0.out.1.next hb, below_next HB0.out.2.1 hb⟩
  have HO : Hid (Own w1 shFence [.int .i64 ep, .int .i64 du, .slice p3 n3 q3, .slice p4 n4 q4] (ep, du, ms, en, ()) (Btw w0.heap.size w1.heap.size) ∧ w0.heap.size = w.heap.size + 1) := ⟨ho, HB0.out.2.2⟩
  clear ho hb HB0 e1 e2 e3
  have r0 := HB1.out.1.cell 0 rfl
  have r1 := HB1.out.1.cell 1 rfl
  have r2 := HB1.out.1.cell 2 rfl
  have r3 := HB1.out.1.cell 3 rfl
  have rz := HB1.out.1.2
  have rf0 := HB1.out.1.frz 0 (by simp)
  have rf1 := HB1.out.1.frz 1 (by simp)
  have rf2 := HB1.out.1.frz 2 (by simp)
  have rf3 := HB1.out.1.frz 3 (by simp)
  by_cases c1 : l.length ≤ 120
  case neg =>
    have HN : Hid (¬ fpOk mm l) := Hid.intro (fun q => c1 q.2)
    have c1' : (120 : Int) < (l.length : Int) := by omega
    clear c0 c1
    go_wp2_with fail
    refine bodyPost_ret (v := .tuple #[.agg #[.int .i64 0, .int .i64 0, .slice none 0 0, .slice none 0 0], .slice none 0 0, .bool false]) (by simp [results, Try.results13, go_sem, *]) rfl (FpR.no HN.out ?_)
    exact (HB1.out.2.trans ((set4 w1 w.heap.size _ _ _ _).below (fun k e => by have e : k = w.heap.size := e; omega) HB1.out.2.size)).alloc (by have := HB1.out.2.size; simp; omega) _
  have c1' : (l.length : Int) ≤ 120 := by omega
  have HY : Hid (fpA mm l = fpF (ep, du, ms, en, ()) l ∧ tf (fpOk mm l) = true) := Hid.intro (by rw [← hS0]; exact fp_yes ⟨c0, c1⟩)
  clear c0 hS0
  obtain ⟨w2, hw2⟩ : ∃ x, x = w1.alloc (.cells #[.int .i64 ep, .int .i64 du, .slice p3 n3 q3, .slice p4 n4 q4] 29) := ⟨_, rfl⟩
  have HI0 : Hid (PyS shFence .int 3 [.int .i64 0, .int .i64 0, .slice none 0 0, .slice none 0 0] w w1.heap.size w2 [.int .i64 ep, .int .i64 du, .slice p3 n3 q3, .slice p4 n4 q4] (ep, du, ms, en, ()) (.slice none 0 0) []) := Hid.intro (hw2 ▸ PyS.start0 (cs := [.int .i64 ep, .int .i64 du, .slice p3 n3 q3, .slice p4 n4 q4]) (t2 := 29) HB1.out.1 HO.out.1 (fun k hk => by have := HO.out.2; simp only [Btw] at hk; omega) HB1.out.2)
  go_wp2_with fail
  rw [← hw2]
  obtain ⟨b, hbE⟩ : ∃ b, b = w1.heap.size := ⟨_, rfl⟩
  have HI : Hid (FqS w b w2 (ep, du, ms, en, ()) (.slice none 0 0) []) := Hid.intro ⟨_, _, _, _, _, _, by rw [hbE]; exact HI0.out⟩
  rw [← hbE]
  clear hbE HI0 HO HB1 hw2 r0 r1 r2 r3 rz rf0 rf1 rf2 rf3
  obtain ⟨S0, hS0⟩ : ∃ S : Sh.T shFence, S = (ep, du, ms, en, ()) := ⟨_, rfl⟩
  rw [← hS0] at HI HY HG0
  clear hS0
  go_loopw [29, 9] (fun i vl wr => ∃ (k : Nat) (v : Value), k ≤ l.length ∧ i = .int .i64 k ∧ vl = v ∧ FqS w b wr (fpF S0 (l.take k)).1 v (fpF S0 (l.take k)).2) (fun i _ _ => l.length - (intOf i).toNat)
  case atStart => exact ⟨0, _, Nat.zero_le _, rfl, rfl, HI.out⟩
  case round =>
    obtain ⟨k, v, hk, rfl, hvl, hC⟩ := hrel
    have hvl := hvl.symm
    subst hvl
    clear HI
    have HG : Hid (goodT (fpF S0 (l.take k)).1) := Hid.intro (fp_good HG0.out hk)
    have HDL : Hid ((fpF S0 (l.take k)).2.length = k) := Hid.intro (fp_len hk)
    by_cases hlt : k < l.length
    · have hlt' : (k : Int) < (l.length : Int) := by omega
      have HLE : Hid (Lies wr (.list shFenceStep) [.slice a2 l.length c2] l) := Hid.intro (by obtain ⟨_, _, _, _, _, _, q⟩ := hC; exact HL.out.next q.2.2.2.1)
      obtain ⟨xg, xoff, xgo, xgs, xec, xel, xhec, xle⟩ := Lies.elem (HLE.out) hlt
      subst xgo
      rcases xX : l[k] with ⟨x0, x1, x2, ⟨⟩⟩
      rw [xX] at xle
      have xH : Hid (l[k] = (x0, x1, x2, ())) := xX
      clear xX
      obtain xev := lies_FenceStep xle
      subst xev
      have xc0 : wr.cell? ⟨xg, xoff + k * 3, none⟩ = some (.int .i64 x0) := xhec 0 (by simp)
      have xc1 : wr.cell? ⟨xg, xoff + k * 3 + 1, none⟩ = some (.int .i64 x1) := xhec 1 (by simp)
      have xc2 : wr.cell? ⟨xg, xoff + k * 3 + 2, none⟩ = some (.int .i64 x2) := xhec 2 (by simp)
      clear xhec xel xle
      have HPD := Hid.intro (fp_take (s := S0) hlt)
      rw [xH.out] at HPD
      clear HLE
      generalize fpF S0 (l.take k) = F at hC HG HDL HPD
      obtain ⟨⟨ep, du, ms, en, ⟨⟩⟩, D⟩ := F
      obtain ⟨p3, n3, q3, p4, n4, q4, hC⟩ := hC
      have HC : Hid (PyS shFence .int 3 [.int .i64 0, .int .i64 0, .slice none 0 0, .slice none 0 0] w b wr [.int .i64 ep, .int .i64 du, .slice p3 n3 q3, .slice p4 n4 q4] (ep, du, ms, en, ()) v D) := hC
      have HG : Hid (goodF ep du ms en) := HG
      have HZ : Hid (szD shFence (ep, du, ms, en, ()) ≤ 1073741824) := Hid.intro (Nat.le_trans (good_sz HG.out) (by decide))
      have HDL : Hid (D.length = k) := HDL
      have HBL : Hid (b < wr.heap.size) := hC.2.1.2
      obtain ⟨E, hEE⟩ : ∃ E, E = stF ep du ms en x0 x1 x2 := ⟨_, rfl⟩
      have HEE : Hid (stF ep du ms en x0 x1 x2 = E) := hEE.symm
      have HPD : Hid (fpF S0 (l.take (k + 1)) = (E.getD (ep, du, ms, en, ()), D ++ [(E.getD (ep, du, ms, en, ())).2.1])) := Hid.intro (by rw [hEE]; exact HPD.out)
      clear hC hEE
      obtain ⟨W1, hW1⟩ : ∃ x, x = wr.alloc (.cells #[.int .i64 x0, .int .i64 x1, .int .i64 x2] 40) := ⟨_, rfl⟩
      have HD : Hid (Bx W1.drew b [.int .i64 ep, .int .i64 du, .slice p3 n3 q3, .slice p4 n4 q4] ∧ Bx W1.drew wr.heap.size [.int .i64 x0, .int .i64 x1, .int .i64 x2] ∧ Below wr.heap.size wr W1.drew ∧ wr.heap.size < W1.drew.heap.size) := Hid.intro (by
        have hb : Below wr.heap.size wr W1.drew := below_next (hW1 ▸ Go.Joins.below_alloc1 _ _ : Below wr.heap.size wr W1) (below_drew _)
        have hz : wr.heap.size < W1.drew.heap.size := by have e : W1.drew.heap.size = W1.heap.size := rfl; rw [e, hW1]; simp
        exact ⟨HC.out.2.1.next hb, (hW1 ▸ Bx.new wr [_, _, _] _ : Bx W1 _ _).next (below_drew _), hb, hz⟩)
      go_upto_region 8 with fail
      rw [← hW1]
      clear hW1 xc0 xc1 xc2
      refine wp_region_noPanic ?_
      refine wp_region_held_drew (S := fun W => Bx W b [.int .i64 ep, .int .i64 du, .slice p3 n3 q3, .slice p4 n4 q4] ∧ Bx W wr.heap.size [.int .i64 x0, .int .i64 x1, .int .i64 x2]) (by kernel_rfl) ⟨HD.out.1, HD.out.2.1⟩ (fun hHeld => ?_)
      obtain ⟨X0, hX0⟩ : ∃ x, x = W1.drew := ⟨_, rfl⟩
      rw [← hX0] at HD hHeld ⊢
      clear hX0
      rename_i W1x
      refine take_v (v := ?_) 0 ⟨some 34, Op.load 29 (Operand.tmp 7), _, _, _, none⟩ rfl (fun _ _ _ h => h) ?_ hHeld ?_
      rotate_left
      · (intro W hSW; (have s0 := hSW.1.cell 0 rfl; have s1 := hSW.1.cell 1 rfl; have s2 := hSW.1.cell 2 rfl; have s3 := hSW.1.cell 3 rfl; have sz := hSW.1.2; have t0 := hSW.2.cell 0 rfl; have t1 := hSW.2.cell 1 rfl; have t2 := hSW.2.cell 2 rfl; have tz := hSW.2.2); go_simp <;> (try with_reducible rfl))
      refine take_v (v := ?_) 2 ⟨some 36, Op.load 40 (Operand.tmp 11), _, _, _, none⟩ rfl (fun _ _ _ h => h) ?_ hHeld ?_
      rotate_left
      · (intro W hSW; (have s0 := hSW.1.cell 0 rfl; have s1 := hSW.1.cell 1 rfl; have s2 := hSW.1.cell 2 rfl; have s3 := hSW.1.cell 3 rfl; have sz := hSW.1.2; have t0 := hSW.2.cell 0 rfl; have t1 := hSW.2.cell 1 rfl; have t2 := hSW.2.cell 2 rfl; have tz := hSW.2.2); go_simp <;> (try with_reducible rfl))
      refine ready_two 1 7 ⟨some 35, Op.call { callee := Callee.value (Operand.func 42), args := #[Operand.tmp 34], argTypes := #[29] }, _, _, _, none⟩ ⟨some 12, Op.alloc 29, _, _, _, none⟩ (by kernel_rfl) rfl rfl (by kernel_rfl) (by kernel_rfl) (fun KC hK => ?_) (fun KC hK => ?_)
      ·
        go_wp2_with fail
        refine (l12Own_n [.int .i64 ep, .int .i64 du, .slice p3 n3 q3, .slice p4 n4 q4] ep du ms en _ HZ.out (HC.out.lies.next HD.out.2.2.1)).mono ?_
        rintro r W1 ⟨cs1, rfl, hO1, hb⟩
        have hO1' := hO1
        obtain ⟨v5, S5, v6, S6, hcs, o5, o6, _⟩ := ownx_Fence hO1'
        obtain ⟨p5, q5, hv5⟩ := o5.vform
        obtain ⟨p6, q6, hv6⟩ := o6.vform
        have hv5 : v5 = .slice p5 (List.length (α := Sh.T shMember) ms) q5 := hv5
        have hv6 : v6 = .slice p6 (List.length (α := Sh.T .int) en) q6 := hv6
        subst hv5 hv6 hcs
        have hl1 := HD.out.2.2.1.size
        have hz1 := HD.out.2.2.2
        (first | (have HO1 := (show Hid (∃ T1 : Nat → Prop, OwnX W1 wr.heap.size tyFence [.int .i64 ep, .int .i64 du, .slice p5 ms.length q5, .slice p6 en.length q6] (ep, du, ms, en, ()) T1 ∧ ∀ k, T1 k → wr.heap.size < k ∧ k < W1.heap.size ∧ k ≠ b7) from ⟨_, hO1.lower hl1, fun k hk => by have h7 := H7.out.1.2; simp only [Btw] at hk; omega⟩)) | (have HO1 := (show Hid (∃ T1 : Nat → Prop, OwnX W1 wr.heap.size tyFence [.int .i64 ep, .int .i64 du, .slice p5 ms.length q5, .slice p6 en.length q6] (ep, du, ms, en, ()) T1 ∧ ∀ k, T1 k → wr.heap.size < k ∧ k < W1.heap.size) from ⟨_, hO1.lower hl1, fun k hk => by simp only [Btw] at hk; omega⟩)))
        have HD := (show Hid (Bx W1 b [.int .i64 ep, .int .i64 du, .slice p3 n3 q3, .slice p4 n4 q4] ∧ Bx W1 wr.heap.size [.int .i64 x0, .int .i64 x1, .int .i64 x2] ∧ Below wr.heap.size wr W1 ∧ wr.heap.size < W1.heap.size) from ⟨HD.out.1.next hb, HD.out.2.1.next hb, below_next HD.out.2.2.1 hb, Nat.lt_of_lt_of_le HD.out.2.2.2 hb.size⟩)
        (first | (have H7 := (show Hid (Bx W1 b7 [.int .i64 0, .int .i64 0, .slice none 0 0, .slice none 0 0] ∧ wr.heap.size < b7) from ⟨H7.out.1.next hb, H7.out.2⟩)) | skip)
        clear hb hO1 hO1' o5 o6 hl1 hz1
        refine hK.out _ _ ⟨HD.out.1, HD.out.2.1⟩ (fun hHeld => ?_)
        clear hK KC
        refine ready_two 3 7 ⟨some 37, Op.call { callee := Callee.value (Operand.func 41), args := #[Operand.tmp 35, Operand.tmp 36], argTypes := #[29, 40] }, _, _, _, none⟩ ⟨some 12, Op.alloc 29, _, _, _, none⟩ (by kernel_rfl) rfl rfl (by kernel_rfl) (by kernel_rfl) (fun KC hK => ?_) (fun KC hK => ?_)
        ·
          go_wp2_with fail
          obtain ⟨T1, hO1, hT1⟩ := HO1.out
          refine (l12Step_g wr.heap.size T1 [.int .i64 ep, .int .i64 du, .slice p5 ms.length q5, .slice p6 en.length q6] ep du ms en x0 x1 x2 _ E HEE.out HG.out hO1 (fun k hk => by have := hT1 k hk; omega) HD.out.2.2.1.size).mono ?_
          intro r W2 hQ2
          obtain ⟨e5, d5, a5, n5, c5, a6, n6, c6, rfl, hT, hy⟩ := stx_out hQ2
          have hbl := HBL.out
          have hz1 := HD.out.2.2.2
          have hz2 := hT.size
          (first | (have HO2 := (show Hid (∀ y, E = some y → ∃ T2 : Nat → Prop, OwnX W2 wr.heap.size tyFence [.int .i64 e5, .int .i64 d5, .slice a5 n5 c5, .slice a6 n6 c6] y T2 ∧ ∀ k, T2 k → wr.heap.size < k ∧ k < W2.heap.size ∧ k ≠ b7) from fun y e => ⟨_, hy y e, fun k hk => by have h7 := H7.out.1.2; have h8 := hT1 k; rcases hk with q | q; (· have := h8 q; omega); simp only [Btw] at q; omega⟩)) | (have HO2 := (show Hid (∀ y, E = some y → ∃ T2 : Nat → Prop, OwnX W2 wr.heap.size tyFence [.int .i64 e5, .int .i64 d5, .slice a5 n5 c5, .slice a6 n6 c6] y T2 ∧ ∀ k, T2 k → wr.heap.size < k ∧ k < W2.heap.size) from fun y e => ⟨_, hy y e, fun k hk => by have h8 := hT1 k; rcases hk with q | q; (· have := h8 q; omega); simp only [Btw] at q; omega⟩)))
          (first | (have H7 := (show Hid (Bx W2 b7 [.int .i64 0, .int .i64 0, .slice none 0 0, .slice none 0 0] ∧ wr.heap.size < b7) from ⟨H7.out.1.turnS hT (fun q => by have := hT1 b7 q; omega), H7.out.2⟩)) | skip)
          have HD := (show Hid (Bx W2 b [.int .i64 ep, .int .i64 du, .slice p3 n3 q3, .slice p4 n4 q4] ∧ Bx W2 wr.heap.size [.int .i64 x0, .int .i64 x1, .int .i64 x2] ∧ Below wr.heap.size wr W2 ∧ wr.heap.size < W2.heap.size) from ⟨HD.out.1.turnS hT (fun q => by have := hT1 b q; omega), HD.out.2.1.turnS hT (fun q => by have := hT1 wr.heap.size q; omega), HD.out.2.2.1.trans (hT.below (fun k q => by have := hT1 k q; omega) HD.out.2.2.1.size), Nat.lt_of_lt_of_le HD.out.2.2.2 hT.size⟩)
          clear hT hy hQ2 hbl hz1 hz2 hO1 hT1
          refine hK.out _ _ ⟨HD.out.1, HD.out.2.1⟩ (fun hHeld => ?_)
          clear hK KC
          refine take_v (v := ?_) 4 ⟨some 33, Op.move (Operand.tmp 37), _, _, _, none⟩ rfl (fun _ _ _ h => h) ?_ hHeld ?_
          rotate_left
          · (intro W _; go_simp <;> (try with_reducible rfl))
          refine take_v (v := ?_) 5 ⟨some 38, Op.extract (Operand.tmp 33) 0, _, _, _, none⟩ rfl (fun _ _ _ h => h) ?_ hHeld ?_
          rotate_left
          · (intro W _; go_simp <;> (try with_reducible rfl))
          refine take_v (v := ?_) 6 ⟨some 39, Op.extract (Operand.tmp 33) 1, _, _, _, none⟩ rfl (fun _ _ _ h => h) ?_ hHeld ?_
          rotate_left
          · (intro W _; go_simp <;> (try with_reducible rfl))
          refine ready_call 7 ⟨some 12, Op.alloc 29, _, _, _, none⟩ (by kernel_rfl) rfl (by kernel_rfl) (fun KC hK => ?_)
          go_wp2_with fail
          (first | (obtain ⟨W7, hW7⟩ : ∃ x, x = W2.alloc (.cells #[.int .i64 0, .int .i64 0, .slice none 0 0, .slice none 0 0] 29) := ⟨_, rfl⟩; have hb : Below W2.heap.size W2 W7 := hW7 ▸ Go.Joins.below_alloc1 _ _; have hzz : W7.heap.size = W2.heap.size + 1 := (by rw [hW7]; simp); obtain ⟨b7, hb7⟩ : ∃ b, b = W2.heap.size := ⟨_, rfl⟩; have H7 : Hid (Bx W7 b7 [.int .i64 0, .int .i64 0, .slice none 0 0, .slice none 0 0] ∧ wr.heap.size < b7) := ⟨hb7 ▸ hW7 ▸ Bx.new W2 [_, _, _, _] _, by rw [hb7]; exact HD.out.2.2.2⟩; have HO2 := (show Hid (∀ y, E = some y → ∃ T2 : Nat → Prop, OwnX W7 wr.heap.size tyFence [.int .i64 e5, .int .i64 d5, .slice a5 n5 c5, .slice a6 n6 c6] y T2 ∧ ∀ k, T2 k → wr.heap.size < k ∧ k < W7.heap.size ∧ k ≠ b7) from fun y e => (by obtain ⟨T2, h1, h2⟩ := HO2.out y e; exact ⟨T2, h1.next hb, fun k hk => by have := h2 k hk; omega⟩)); have HD := (show Hid (Bx W7 b [.int .i64 ep, .int .i64 du, .slice p3 n3 q3, .slice p4 n4 q4] ∧ Bx W7 wr.heap.size [.int .i64 x0, .int .i64 x1, .int .i64 x2] ∧ Below wr.heap.size wr W7 ∧ wr.heap.size < W7.heap.size) from ⟨HD.out.1.next hb, HD.out.2.1.next hb, below_next HD.out.2.2.1 hb, Nat.lt_of_lt_of_le HD.out.2.2.2 hb.size⟩); rw [← hW7, ← hb7]; clear hb hW7 hzz hb7) | (obtain ⟨W7, hW7⟩ : ∃ x, x = W1.alloc (.cells #[.int .i64 0, .int .i64 0, .slice none 0 0, .slice none 0 0] 29) := ⟨_, rfl⟩; have hb : Below W1.heap.size W1 W7 := hW7 ▸ Go.Joins.below_alloc1 _ _; have hzz : W7.heap.size = W1.heap.size + 1 := (by rw [hW7]; simp); obtain ⟨b7, hb7⟩ : ∃ b, b = W1.heap.size := ⟨_, rfl⟩; have H7 : Hid (Bx W7 b7 [.int .i64 0, .int .i64 0, .slice none 0 0, .slice none 0 0] ∧ wr.heap.size < b7) := ⟨hb7 ▸ hW7 ▸ Bx.new W1 [_, _, _, _] _, by rw [hb7]; exact HD.out.2.2.2⟩; have HO1 := (show Hid (∃ T1 : Nat → Prop, OwnX W7 wr.heap.size tyFence [.int .i64 ep, .int .i64 du, .slice p5 ms.length q5, .slice p6 en.length q6] (ep, du, ms, en, ()) T1 ∧ ∀ k, T1 k → wr.heap.size < k ∧ k < W7.heap.size ∧ k ≠ b7) from (by obtain ⟨T1, h1, h2⟩ := HO1.out; exact ⟨T1, h1.next hb, fun k hk => by have := h2 k hk; omega⟩)); have HD := (show Hid (Bx W7 b [.int .i64 ep, .int .i64 du, .slice p3 n3 q3, .slice p4 n4 q4] ∧ Bx W7 wr.heap.size [.int .i64 x0, .int .i64 x1, .int .i64 x2] ∧ Below wr.heap.size wr W7 ∧ wr.heap.size < W7.heap.size) from ⟨HD.out.1.next hb, HD.out.2.1.next hb, below_next HD.out.2.2.1 hb, Nat.lt_of_lt_of_le HD.out.2.2.2 hb.size⟩); rw [← hW7, ← hb7]; clear hb hW7 hzz hb7) | (obtain ⟨W7, hW7⟩ : ∃ x, x = X0.alloc (.cells #[.int .i64 0, .int .i64 0, .slice none 0 0, .slice none 0 0] 29) := ⟨_, rfl⟩; have hb : Below X0.heap.size X0 W7 := hW7 ▸ Go.Joins.below_alloc1 _ _; have hzz : W7.heap.size = X0.heap.size + 1 := (by rw [hW7]; simp); obtain ⟨b7, hb7⟩ : ∃ b, b = X0.heap.size := ⟨_, rfl⟩; have H7 : Hid (Bx W7 b7 [.int .i64 0, .int .i64 0, .slice none 0 0, .slice none 0 0] ∧ wr.heap.size < b7) := ⟨hb7 ▸ hW7 ▸ Bx.new X0 [_, _, _, _] _, by rw [hb7]; exact HD.out.2.2.2⟩; skip; have HD := (show Hid (Bx W7 b [.int .i64 ep, .int .i64 du, .slice p3 n3 q3, .slice p4 n4 q4] ∧ Bx W7 wr.heap.size [.int .i64 x0, .int .i64 x1, .int .i64 x2] ∧ Below wr.heap.size wr W7 ∧ wr.heap.size < W7.heap.size) from ⟨HD.out.1.next hb, HD.out.2.1.next hb, below_next HD.out.2.2.1 hb, Nat.lt_of_lt_of_le HD.out.2.2.2 hb.size⟩); rw [← hW7, ← hb7]; clear hb hW7 hzz hb7))
          refine hK.out _ _ ⟨HD.out.1, HD.out.2.1⟩ (fun hHeld => ?_)
          clear hK KC
          refine ready_call 8 ⟨none, Op.store 29 (Operand.tmp 12) (Operand.tmp 38), _, _, _, none⟩ (by kernel_rfl) rfl (by kernel_rfl) (fun KC hK => ?_)
          have d0 := H7.out.1.cell 0 rfl
          have d1 := H7.out.1.cell 1 rfl
          have d2 := H7.out.1.cell 2 rfl
          have d3 := H7.out.1.cell 3 rfl
          have dz := H7.out.1.2
          have df0 := H7.out.1.frz 0 (by simp)
          have df1 := H7.out.1.frz 1 (by simp)
          have df2 := H7.out.1.frz 2 (by simp)
          have df3 := H7.out.1.frz 3 (by simp)
          have h7 := H7.out.2
          have hbl := HBL.out
          go_wp2_with fail
          have HF := Hid.intro (box_fence H7.out.1 H7.out.2 HD.out.2.2.1 HO2.out (.int .i64 e5) (.int .i64 d5) (.slice a5 n5 c5) (.slice a6 n6 c6))
          clear d0 d1 d2 d3 dz df0 df1 df2 df3
          refine hK.out _ _ ⟨HD.out.1.turnS (set4 _ b7 _ _ _ _) (by omega), HD.out.2.1.turnS (set4 _ b7 _ _ _ _) (by omega)⟩ (fun hHeld => ?_)
          clear hK KC
          refine take_v (v := ?_) 9 ⟨some 13, Op.assign (Operand.tmp 39), _, _, _, none⟩ rfl (fun _ _ _ h => h) ?_ hHeld ?_
          rotate_left
          · (intro W _; go_simp <;> (try with_reducible rfl))
          refine wpAnyH_done (by kernel_rfl) ?_ _
          refine NoPanic.normal ?_
          (obtain ⟨Y, hY, HFz⟩ := fence_name HF.out)
          rw [← hY]
          have HF := Hid.intro HFz
          clear hHeld hY HFz H7 HO1 HO2 HD
          have HCz := Hid.intro (HC.out.next HF.out.2.1)
          have d0 := HF.out.1.cell 0 rfl
          have d1 := HF.out.1.cell 1 rfl
          have d2 := HF.out.1.cell 2 rfl
          have d3 := HF.out.1.cell 3 rfl
          have dz := HF.out.1.2
          have s0 := HCz.out.2.1.cell 0 rfl
          have s1 := HCz.out.2.1.cell 1 rfl
          have s2 := HCz.out.2.1.cell 2 rfl
          have s3 := HCz.out.2.1.cell 3 rfl
          have sz := HCz.out.2.1.2
          have sf0 := HCz.out.2.1.frz 0 (by simp)
          have sf1 := HCz.out.2.1.frz 1 (by simp)
          have sf2 := HCz.out.2.1.frz 2 (by simp)
          have sf3 := HCz.out.2.1.frz 3 (by simp)
          have hDk : D.length + 1 ≤ maxLen := by have := HDL.out; unfold maxLen; omega
          have hDb : (D.length + 1) * 8 ≤ 140737488355328 := by have := HDL.out; omega
          have hb7b : b7 ≠ b := by have := HBL.out; omega
          cases E with
          | none =>
            have HPD : Hid (fpF S0 (l.take (k + 1)) = ((ep, du, ms, en, ()), D ++ [du])) := HPD
            have HQ := HCz
            simp only [Option.isSome_none]
            clear s0 s1 s2 s3 sz sf0 sf1 sf2 sf3 d0 d1 d2 d3 dz
            have HA := Hid.intro (HQ.out.next (Go.Joins.below_alloc1 Y (.cells #[.int .i64 du] 3)))
            have s0 := HQ.out.2.1.cell 0 rfl
            have s1 := HQ.out.2.1.cell 1 rfl
            have s2 := HQ.out.2.1.cell 2 rfl
            have s3 := HQ.out.2.1.cell 3 rfl
            have sz := HQ.out.2.1.2
            go_wp2_with (first | (at_builtin; (obtain ⟨Sd9, hOd⟩ := HA.out.row); refine wpList_appx rfl (.tmp 42) (.tmp 45) 27 3 rfl i0 (.int .i64 0) 8 (w.heap.size + 1) .int rfl Try.underlying27 hi0 hz0 hz1 hz2 rfl (by decide) v D [du] Sd9 rfl hOd (some ⟨Y.heap.size, 0, none⟩) 1 rfl (lies_one (w := Y) (e := .int) (cs := [.int .i64 du]) (x := du) 3 rfl rfl) hDk hDb (by have h1 := HA.out.2.2.2.1.size; have h2 := HA.out.1.2; omega) ?_; intro v9 w9 hO9 hg9 hwh9; have H9 := Hid.intro (HA.out.app rfl hO9 hg9 hwh9); clear hO9 hg9 hwh9) | go_in)
            go_roundw
            case rel => exact ⟨k + 1, v9, by omega, by go_num, rfl, by rw [HPD.out]; exact ⟨_, _, _, _, _, _, H9.out⟩⟩
            case measure => simp [intOf]; omega
          | some y =>
            simp only [Option.isSome_some]
            (obtain ⟨T2, hO2, hT2⟩ := HF.out.2.2 y rfl)
            (obtain ⟨ep', du', ms', en', ⟨⟩⟩ := y)
            have HPD : Hid (fpF S0 (l.take (k + 1)) = ((ep', du', ms', en', ()), D ++ [du'])) := HPD
            (obtain ⟨he5, hd5⟩ : e5 = ep' ∧ d5 = du' := by
              obtain ⟨v5, S5, v6, S6, hcs, _⟩ := ownx_Fence hO2
              simp only [List.cons.injEq, Value.int.injEq, and_true, true_and] at hcs
              exact ⟨hcs.1, hcs.2.1⟩)
            subst he5 hd5
            (obtain ⟨Z, hZ⟩ : ∃ x, x = ((((Y.setCell ⟨b, 0, none⟩ (.int .i64 e5)).setCell ⟨b, 1, none⟩ (.int .i64 d5)).setCell ⟨b, 2, none⟩ (.slice a5 n5 c5)).setCell ⟨b, 3, none⟩ (.slice a6 n6 c6)) := ⟨_, rfl⟩)
            have HQ : Hid (PyS shFence .int 3 [.int .i64 0, .int .i64 0, .slice none 0 0, .slice none 0 0] w b Z [.int .i64 e5, .int .i64 d5, .slice a5 n5 c5, .slice a6 n6 c6] (e5, d5, ms', en', ()) v D) := Hid.intro (HC.out.put HF.out.2.1 hO2.own (fun k hk => by have := hT2 k hk; omega) (hZ ▸ set4 Y b _ _ _ _) (hZ ▸ HCz.out.2.1.set4 _ _ _ _))
            clear hO2 hT2
            go_upto_region 11 with fail
            rw [← hZ]
            clear hZ s0 s1 s2 s3 sz sf0 sf1 sf2 sf3 d0 d1 d2 d3 dz
            have HA := Hid.intro (HQ.out.next (Go.Joins.below_alloc1 Z (.cells #[.int .i64 d5] 3)))
            have s0 := HQ.out.2.1.cell 0 rfl
            have s1 := HQ.out.2.1.cell 1 rfl
            have s2 := HQ.out.2.1.cell 2 rfl
            have s3 := HQ.out.2.1.cell 3 rfl
            have sz := HQ.out.2.1.2
            go_wp2_with (first | (at_builtin; (obtain ⟨Sd9, hOd⟩ := HA.out.row); refine wpList_appx rfl (.tmp 42) (.tmp 45) 27 3 rfl i0 (.int .i64 0) 8 (w.heap.size + 1) .int rfl Try.underlying27 hi0 hz0 hz1 hz2 rfl (by decide) v D [d5] Sd9 rfl hOd (some ⟨Z.heap.size, 0, none⟩) 1 rfl (lies_one (w := Z) (e := .int) (cs := [.int .i64 d5]) (x := d5) 3 rfl rfl) hDk hDb (by have h1 := HA.out.2.2.2.1.size; have h2 := HA.out.1.2; omega) ?_; intro v9 w9 hO9 hg9 hwh9; have H9 := Hid.intro (HA.out.app rfl hO9 hg9 hwh9); clear hO9 hg9 hwh9) | go_in)
            go_roundw
            case rel => exact ⟨k + 1, v9, by omega, by go_num, rfl, by rw [HPD.out]; exact ⟨_, _, _, _, _, _, H9.out⟩⟩
            case measure => simp [intOf]; omega
        ·
          go_wp2_with fail
          (first | (obtain ⟨W7, hW7⟩ : ∃ x, x = W2.alloc (.cells #[.int .i64 0, .int .i64 0, .slice none 0 0, .slice none 0 0] 29) := ⟨_, rfl⟩; have hb : Below W2.heap.size W2 W7 := hW7 ▸ Go.Joins.below_alloc1 _ _; have hzz : W7.heap.size = W2.heap.size + 1 := (by rw [hW7]; simp); obtain ⟨b7, hb7⟩ : ∃ b, b = W2.heap.size := ⟨_, rfl⟩; have H7 : Hid (Bx W7 b7 [.int .i64 0, .int .i64 0, .slice none 0 0, .slice none 0 0] ∧ wr.heap.size < b7) := ⟨hb7 ▸ hW7 ▸ Bx.new W2 [_, _, _, _] _, by rw [hb7]; exact HD.out.2.2.2⟩; have HO2 := (show Hid (∀ y, E = some y → ∃ T2 : Nat → Prop, OwnX W7 wr.heap.size tyFence [.int .i64 e5, .int .i64 d5, .slice a5 n5 c5, .slice a6 n6 c6] y T2 ∧ ∀ k, T2 k → wr.heap.size < k ∧ k < W7.heap.size ∧ k ≠ b7) from fun y e => (by obtain ⟨T2, h1, h2⟩ := HO2.out y e; exact ⟨T2, h1.next hb, fun k hk => by have := h2 k hk; omega⟩)); have HD := (show Hid (Bx W7 b [.int .i64 ep, .int .i64 du, .slice p3 n3 q3, .slice p4 n4 q4] ∧ Bx W7 wr.heap.size [.int .i64 x0, .int .i64 x1, .int .i64 x2] ∧ Below wr.heap.size wr W7 ∧ wr.heap.size < W7.heap.size) from ⟨HD.out.1.next hb, HD.out.2.1.next hb, below_next HD.out.2.2.1 hb, Nat.lt_of_lt_of_le HD.out.2.2.2 hb.size⟩); rw [← hW7, ← hb7]; clear hb hW7 hzz hb7) | (obtain ⟨W7, hW7⟩ : ∃ x, x = W1.alloc (.cells #[.int .i64 0, .int .i64 0, .slice none 0 0, .slice none 0 0] 29) := ⟨_, rfl⟩; have hb : Below W1.heap.size W1 W7 := hW7 ▸ Go.Joins.below_alloc1 _ _; have hzz : W7.heap.size = W1.heap.size + 1 := (by rw [hW7]; simp); obtain ⟨b7, hb7⟩ : ∃ b, b = W1.heap.size := ⟨_, rfl⟩; have H7 : Hid (Bx W7 b7 [.int .i64 0, .int .i64 0, .slice none 0 0, .slice none 0 0] ∧ wr.heap.size < b7) := ⟨hb7 ▸ hW7 ▸ Bx.new W1 [_, _, _, _] _, by rw [hb7]; exact HD.out.2.2.2⟩; have HO1 := (show Hid (∃ T1 : Nat → Prop, OwnX W7 wr.heap.size tyFence [.int .i64 ep, .int .i64 du, .slice p5 ms.length q5, .slice p6 en.length q6] (ep, du, ms, en, ()) T1 ∧ ∀ k, T1 k → wr.heap.size < k ∧ k < W7.heap.size ∧ k ≠ b7) from (by obtain ⟨T1, h1, h2⟩ := HO1.out; exact ⟨T1, h1.next hb, fun k hk => by have := h2 k hk; omega⟩)); have HD := (show Hid (Bx W7 b [.int .i64 ep, .int .i64 du, .slice p3 n3 q3, .slice p4 n4 q4] ∧ Bx W7 wr.heap.size [.int .i64 x0, .int .i64 x1, .int .i64 x2] ∧ Below wr.heap.size wr W7 ∧ wr.heap.size < W7.heap.size) from ⟨HD.out.1.next hb, HD.out.2.1.next hb, below_next HD.out.2.2.1 hb, Nat.lt_of_lt_of_le HD.out.2.2.2 hb.size⟩); rw [← hW7, ← hb7]; clear hb hW7 hzz hb7) | (obtain ⟨W7, hW7⟩ : ∃ x, x = X0.alloc (.cells #[.int .i64 0, .int .i64 0, .slice none 0 0, .slice none 0 0] 29) := ⟨_, rfl⟩; have hb : Below X0.heap.size X0 W7 := hW7 ▸ Go.Joins.below_alloc1 _ _; have hzz : W7.heap.size = X0.heap.size + 1 := (by rw [hW7]; simp); obtain ⟨b7, hb7⟩ : ∃ b, b = X0.heap.size := ⟨_, rfl⟩; have H7 : Hid (Bx W7 b7 [.int .i64 0, .int .i64 0, .slice none 0 0, .slice none 0 0] ∧ wr.heap.size < b7) := ⟨hb7 ▸ hW7 ▸ Bx.new X0 [_, _, _, _] _, by rw [hb7]; exact HD.out.2.2.2⟩; skip; have HD := (show Hid (Bx W7 b [.int .i64 ep, .int .i64 du, .slice p3 n3 q3, .slice p4 n4 q4] ∧ Bx W7 wr.heap.size [.int .i64 x0, .int .i64 x1, .int .i64 x2] ∧ Below wr.heap.size wr W7 ∧ wr.heap.size < W7.heap.size) from ⟨HD.out.1.next hb, HD.out.2.1.next hb, below_next HD.out.2.2.1 hb, Nat.lt_of_lt_of_le HD.out.2.2.2 hb.size⟩); rw [← hW7, ← hb7]; clear hb hW7 hzz hb7))
          refine hK.out _ _ ⟨HD.out.1, HD.out.2.1⟩ (fun hHeld => ?_)
          clear hK KC
          refine ready_call 3 ⟨some 37, Op.call { callee := Callee.value (Operand.func 41), args := #[Operand.tmp 35, Operand.tmp 36], argTypes := #[29, 40] }, _, _, _, none⟩ (by kernel_rfl) rfl (by kernel_rfl) (fun KC hK => ?_)
          go_wp2_with fail
          obtain ⟨T1, hO1, hT1⟩ := HO1.out
          refine (l12Step_g wr.heap.size T1 [.int .i64 ep, .int .i64 du, .slice p5 ms.length q5, .slice p6 en.length q6] ep du ms en x0 x1 x2 _ E HEE.out HG.out hO1 (fun k hk => by have := hT1 k hk; omega) HD.out.2.2.1.size).mono ?_
          intro r W2 hQ2
          obtain ⟨e5, d5, a5, n5, c5, a6, n6, c6, rfl, hT, hy⟩ := stx_out hQ2
          have hbl := HBL.out
          have hz1 := HD.out.2.2.2
          have hz2 := hT.size
          (first | (have HO2 := (show Hid (∀ y, E = some y → ∃ T2 : Nat → Prop, OwnX W2 wr.heap.size tyFence [.int .i64 e5, .int .i64 d5, .slice a5 n5 c5, .slice a6 n6 c6] y T2 ∧ ∀ k, T2 k → wr.heap.size < k ∧ k < W2.heap.size ∧ k ≠ b7) from fun y e => ⟨_, hy y e, fun k hk => by have h7 := H7.out.1.2; have h8 := hT1 k; rcases hk with q | q; (· have := h8 q; omega); simp only [Btw] at q; omega⟩)) | (have HO2 := (show Hid (∀ y, E = some y → ∃ T2 : Nat → Prop, OwnX W2 wr.heap.size tyFence [.int .i64 e5, .int .i64 d5, .slice a5 n5 c5, .slice a6 n6 c6] y T2 ∧ ∀ k, T2 k → wr.heap.size < k ∧ k < W2.heap.size) from fun y e => ⟨_, hy y e, fun k hk => by have h8 := hT1 k; rcases hk with q | q; (· have := h8 q; omega); simp only [Btw] at q; omega⟩)))
          (first | (have H7 := (show Hid (Bx W2 b7 [.int .i64 0, .int .i64 0, .slice none 0 0, .slice none 0 0] ∧ wr.heap.size < b7) from ⟨H7.out.1.turnS hT (fun q => by have := hT1 b7 q; omega), H7.out.2⟩)) | skip)
          have HD := (show Hid (Bx W2 b [.int .i64 ep, .int .i64 du, .slice p3 n3 q3, .slice p4 n4 q4] ∧ Bx W2 wr.heap.size [.int .i64 x0, .int .i64 x1, .int .i64 x2] ∧ Below wr.heap.size wr W2 ∧ wr.heap.size < W2.heap.size) from ⟨HD.out.1.turnS hT (fun q => by have := hT1 b q; omega), HD.out.2.1.turnS hT (fun q => by have := hT1 wr.heap.size q; omega), HD.out.2.2.1.trans (hT.below (fun k q => by have := hT1 k q; omega) HD.out.2.2.1.size), Nat.lt_of_lt_of_le HD.out.2.2.2 hT.size⟩)
          clear hT hy hQ2 hbl hz1 hz2 hO1 hT1
          refine hK.out _ _ ⟨HD.out.1, HD.out.2.1⟩ (fun hHeld => ?_)
          clear hK KC
          refine take_v (v := ?_) 4 ⟨some 33, Op.move (Operand.tmp 37), _, _, _, none⟩ rfl (fun _ _ _ h => h) ?_ hHeld ?_
          rotate_left
          · (intro W _; go_simp <;> (try with_reducible rfl))
          refine take_v (v := ?_) 5 ⟨some 38, Op.extract (Operand.tmp 33) 0, _, _, _, none⟩ rfl (fun _ _ _ h => h) ?_ hHeld ?_
          rotate_left
          · (intro W _; go_simp <;> (try with_reducible rfl))
          refine take_v (v := ?_) 6 ⟨some 39, Op.extract (Operand.tmp 33) 1, _, _, _, none⟩ rfl (fun _ _ _ h => h) ?_ hHeld ?_
          rotate_left
          · (intro W _; go_simp <;> (try with_reducible rfl))
          refine ready_call 8 ⟨none, Op.store 29 (Operand.tmp 12) (Operand.tmp 38), _, _, _, none⟩ (by kernel_rfl) rfl (by kernel_rfl) (fun KC hK => ?_)
          have d0 := H7.out.1.cell 0 rfl
          have d1 := H7.out.1.cell 1 rfl
          have d2 := H7.out.1.cell 2 rfl
          have d3 := H7.out.1.cell 3 rfl
          have dz := H7.out.1.2
          have df0 := H7.out.1.frz 0 (by simp)
          have df1 := H7.out.1.frz 1 (by simp)
          have df2 := H7.out.1.frz 2 (by simp)
          have df3 := H7.out.1.frz 3 (by simp)
          have h7 := H7.out.2
          have hbl := HBL.out
          go_wp2_with fail
          have HF := Hid.intro (box_fence H7.out.1 H7.out.2 HD.out.2.2.1 HO2.out (.int .i64 e5) (.int .i64 d5) (.slice a5 n5 c5) (.slice a6 n6 c6))
          clear d0 d1 d2 d3 dz df0 df1 df2 df3
          refine hK.out _ _ ⟨HD.out.1.turnS (set4 _ b7 _ _ _ _) (by omega), HD.out.2.1.turnS (set4 _ b7 _ _ _ _) (by omega)⟩ (fun hHeld => ?_)
          clear hK KC
          refine take_v (v := ?_) 9 ⟨some 13, Op.assign (Operand.tmp 39), _, _, _, none⟩ rfl (fun _ _ _ h => h) ?_ hHeld ?_
          rotate_left
          · (intro W _; go_simp <;> (try with_reducible rfl))
          refine wpAnyH_done (by kernel_rfl) ?_ _
          refine NoPanic.normal ?_
          (obtain ⟨Y, hY, HFz⟩ := fence_name HF.out)
          rw [← hY]
          have HF := Hid.intro HFz
          clear hHeld hY HFz H7 HO1 HO2 HD
          have HCz := Hid.intro (HC.out.next HF.out.2.1)
          have d0 := HF.out.1.cell 0 rfl
          have d1 := HF.out.1.cell 1 rfl
          have d2 := HF.out.1.cell 2 rfl
          have d3 := HF.out.1.cell 3 rfl
          have dz := HF.out.1.2
          have s0 := HCz.out.2.1.cell 0 rfl
          have s1 := HCz.out.2.1.cell 1 rfl
          have s2 := HCz.out.2.1.cell 2 rfl
          have s3 := HCz.out.2.1.cell 3 rfl
          have sz := HCz.out.2.1.2
          have sf0 := HCz.out.2.1.frz 0 (by simp)
          have sf1 := HCz.out.2.1.frz 1 (by simp)
          have sf2 := HCz.out.2.1.frz 2 (by simp)
          have sf3 := HCz.out.2.1.frz 3 (by simp)
          have hDk : D.length + 1 ≤ maxLen := by have := HDL.out; unfold maxLen; omega
          have hDb : (D.length + 1) * 8 ≤ 140737488355328 := by have := HDL.out; omega
          have hb7b : b7 ≠ b := by have := HBL.out; omega
          cases E with
          | none =>
            have HPD : Hid (fpF S0 (l.take (k + 1)) = ((ep, du, ms, en, ()), D ++ [du])) := HPD
            have HQ := HCz
            simp only [Option.isSome_none]
            clear s0 s1 s2 s3 sz sf0 sf1 sf2 sf3 d0 d1 d2 d3 dz
            have HA := Hid.intro (HQ.out.next (Go.Joins.below_alloc1 Y (.cells #[.int .i64 du] 3)))
            have s0 := HQ.out.2.1.cell 0 rfl
            have s1 := HQ.out.2.1.cell 1 rfl
            have s2 := HQ.out.2.1.cell 2 rfl
            have s3 := HQ.out.2.1.cell 3 rfl
            have sz := HQ.out.2.1.2
            go_wp2_with (first | (at_builtin; (obtain ⟨Sd9, hOd⟩ := HA.out.row); refine wpList_appx rfl (.tmp 42) (.tmp 45) 27 3 rfl i0 (.int .i64 0) 8 (w.heap.size + 1) .int rfl Try.underlying27 hi0 hz0 hz1 hz2 rfl (by decide) v D [du] Sd9 rfl hOd (some ⟨Y.heap.size, 0, none⟩) 1 rfl (lies_one (w := Y) (e := .int) (cs := [.int .i64 du]) (x := du) 3 rfl rfl) hDk hDb (by have h1 := HA.out.2.2.2.1.size; have h2 := HA.out.1.2; omega) ?_; intro v9 w9 hO9 hg9 hwh9; have H9 := Hid.intro (HA.out.app rfl hO9 hg9 hwh9); clear hO9 hg9 hwh9) | go_in)
            go_roundw
            case rel => exact ⟨k + 1, v9, by omega, by go_num, rfl, by rw [HPD.out]; exact ⟨_, _, _, _, _, _, H9.out⟩⟩
            case measure => simp [intOf]; omega
          | some y =>
            simp only [Option.isSome_some]
            (obtain ⟨T2, hO2, hT2⟩ := HF.out.2.2 y rfl)
            (obtain ⟨ep', du', ms', en', ⟨⟩⟩ := y)
            have HPD : Hid (fpF S0 (l.take (k + 1)) = ((ep', du', ms', en', ()), D ++ [du'])) := HPD
            (obtain ⟨he5, hd5⟩ : e5 = ep' ∧ d5 = du' := by
              obtain ⟨v5, S5, v6, S6, hcs, _⟩ := ownx_Fence hO2
              simp only [List.cons.injEq, Value.int.injEq, and_true, true_and] at hcs
              exact ⟨hcs.1, hcs.2.1⟩)
            subst he5 hd5
            (obtain ⟨Z, hZ⟩ : ∃ x, x = ((((Y.setCell ⟨b, 0, none⟩ (.int .i64 e5)).setCell ⟨b, 1, none⟩ (.int .i64 d5)).setCell ⟨b, 2, none⟩ (.slice a5 n5 c5)).setCell ⟨b, 3, none⟩ (.slice a6 n6 c6)) := ⟨_, rfl⟩)
            have HQ : Hid (PyS shFence .int 3 [.int .i64 0, .int .i64 0, .slice none 0 0, .slice none 0 0] w b Z [.int .i64 e5, .int .i64 d5, .slice a5 n5 c5, .slice a6 n6 c6] (e5, d5, ms', en', ()) v D) := Hid.intro (HC.out.put HF.out.2.1 hO2.own (fun k hk => by have := hT2 k hk; omega) (hZ ▸ set4 Y b _ _ _ _) (hZ ▸ HCz.out.2.1.set4 _ _ _ _))
            clear hO2 hT2
            go_upto_region 11 with fail
            rw [← hZ]
            clear hZ s0 s1 s2 s3 sz sf0 sf1 sf2 sf3 d0 d1 d2 d3 dz
            have HA := Hid.intro (HQ.out.next (Go.Joins.below_alloc1 Z (.cells #[.int .i64 d5] 3)))
            have s0 := HQ.out.2.1.cell 0 rfl
            have s1 := HQ.out.2.1.cell 1 rfl
            have s2 := HQ.out.2.1.cell 2 rfl
            have s3 := HQ.out.2.1.cell 3 rfl
            have sz := HQ.out.2.1.2
            go_wp2_with (first | (at_builtin; (obtain ⟨Sd9, hOd⟩ := HA.out.row); refine wpList_appx rfl (.tmp 42) (.tmp 45) 27 3 rfl i0 (.int .i64 0) 8 (w.heap.size + 1) .int rfl Try.underlying27 hi0 hz0 hz1 hz2 rfl (by decide) v D [d5] Sd9 rfl hOd (some ⟨Z.heap.size, 0, none⟩) 1 rfl (lies_one (w := Z) (e := .int) (cs := [.int .i64 d5]) (x := d5) 3 rfl rfl) hDk hDb (by have h1 := HA.out.2.2.2.1.size; have h2 := HA.out.1.2; omega) ?_; intro v9 w9 hO9 hg9 hwh9; have H9 := Hid.intro (HA.out.app rfl hO9 hg9 hwh9); clear hO9 hg9 hwh9) | go_in)
            go_roundw
            case rel => exact ⟨k + 1, v9, by omega, by go_num, rfl, by rw [HPD.out]; exact ⟨_, _, _, _, _, _, H9.out⟩⟩
            case measure => simp [intOf]; omega
      ·
        go_wp2_with fail
        (first | (obtain ⟨W7, hW7⟩ : ∃ x, x = W2.alloc (.cells #[.int .i64 0, .int .i64 0, .slice none 0 0, .slice none 0 0] 29) := ⟨_, rfl⟩; have hb : Below W2.heap.size W2 W7 := hW7 ▸ Go.Joins.below_alloc1 _ _; have hzz : W7.heap.size = W2.heap.size + 1 := (by rw [hW7]; simp); obtain ⟨b7, hb7⟩ : ∃ b, b = W2.heap.size := ⟨_, rfl⟩; have H7 : Hid (Bx W7 b7 [.int .i64 0, .int .i64 0, .slice none 0 0, .slice none 0 0] ∧ wr.heap.size < b7) := ⟨hb7 ▸ hW7 ▸ Bx.new W2 [_, _, _, _] _, by rw [hb7]; exact HD.out.2.2.2⟩; have HO2 := (show Hid (∀ y, E = some y → ∃ T2 : Nat → Prop, OwnX W7 wr.heap.size tyFence [.int .i64 e5, .int .i64 d5, .slice a5 n5 c5, .slice a6 n6 c6] y T2 ∧ ∀ k, T2 k → wr.heap.size < k ∧ k < W7.heap.size ∧ k ≠ b7) from fun y e => (by obtain ⟨T2, h1, h2⟩ := HO2.out y e; exact ⟨T2, h1.next hb, fun k hk => by have := h2 k hk; omega⟩)); have HD := (show Hid (Bx W7 b [.int .i64 ep, .int .i64 du, .slice p3 n3 q3, .slice p4 n4 q4] ∧ Bx W7 wr.heap.size [.int .i64 x0, .int .i64 x1, .int .i64 x2] ∧ Below wr.heap.size wr W7 ∧ wr.heap.size < W7.heap.size) from ⟨HD.out.1.next hb, HD.out.2.1.next hb, below_next HD.out.2.2.1 hb, Nat.lt_of_lt_of_le HD.out.2.2.2 hb.size⟩); rw [← hW7, ← hb7]; clear hb hW7 hzz hb7) | (obtain ⟨W7, hW7⟩ : ∃ x, x = W1.alloc (.cells #[.int .i64 0, .int .i64 0, .slice none 0 0, .slice none 0 0] 29) := ⟨_, rfl⟩; have hb : Below W1.heap.size W1 W7 := hW7 ▸ Go.Joins.below_alloc1 _ _; have hzz : W7.heap.size = W1.heap.size + 1 := (by rw [hW7]; simp); obtain ⟨b7, hb7⟩ : ∃ b, b = W1.heap.size := ⟨_, rfl⟩; have H7 : Hid (Bx W7 b7 [.int .i64 0, .int .i64 0, .slice none 0 0, .slice none 0 0] ∧ wr.heap.size < b7) := ⟨hb7 ▸ hW7 ▸ Bx.new W1 [_, _, _, _] _, by rw [hb7]; exact HD.out.2.2.2⟩; have HO1 := (show Hid (∃ T1 : Nat → Prop, OwnX W7 wr.heap.size tyFence [.int .i64 ep, .int .i64 du, .slice p5 ms.length q5, .slice p6 en.length q6] (ep, du, ms, en, ()) T1 ∧ ∀ k, T1 k → wr.heap.size < k ∧ k < W7.heap.size ∧ k ≠ b7) from (by obtain ⟨T1, h1, h2⟩ := HO1.out; exact ⟨T1, h1.next hb, fun k hk => by have := h2 k hk; omega⟩)); have HD := (show Hid (Bx W7 b [.int .i64 ep, .int .i64 du, .slice p3 n3 q3, .slice p4 n4 q4] ∧ Bx W7 wr.heap.size [.int .i64 x0, .int .i64 x1, .int .i64 x2] ∧ Below wr.heap.size wr W7 ∧ wr.heap.size < W7.heap.size) from ⟨HD.out.1.next hb, HD.out.2.1.next hb, below_next HD.out.2.2.1 hb, Nat.lt_of_lt_of_le HD.out.2.2.2 hb.size⟩); rw [← hW7, ← hb7]; clear hb hW7 hzz hb7) | (obtain ⟨W7, hW7⟩ : ∃ x, x = X0.alloc (.cells #[.int .i64 0, .int .i64 0, .slice none 0 0, .slice none 0 0] 29) := ⟨_, rfl⟩; have hb : Below X0.heap.size X0 W7 := hW7 ▸ Go.Joins.below_alloc1 _ _; have hzz : W7.heap.size = X0.heap.size + 1 := (by rw [hW7]; simp); obtain ⟨b7, hb7⟩ : ∃ b, b = X0.heap.size := ⟨_, rfl⟩; have H7 : Hid (Bx W7 b7 [.int .i64 0, .int .i64 0, .slice none 0 0, .slice none 0 0] ∧ wr.heap.size < b7) := ⟨hb7 ▸ hW7 ▸ Bx.new X0 [_, _, _, _] _, by rw [hb7]; exact HD.out.2.2.2⟩; skip; have HD := (show Hid (Bx W7 b [.int .i64 ep, .int .i64 du, .slice p3 n3 q3, .slice p4 n4 q4] ∧ Bx W7 wr.heap.size [.int .i64 x0, .int .i64 x1, .int .i64 x2] ∧ Below wr.heap.size wr W7 ∧ wr.heap.size < W7.heap.size) from ⟨HD.out.1.next hb, HD.out.2.1.next hb, below_next HD.out.2.2.1 hb, Nat.lt_of_lt_of_le HD.out.2.2.2 hb.size⟩); rw [← hW7, ← hb7]; clear hb hW7 hzz hb7))
        refine hK.out _ _ ⟨HD.out.1, HD.out.2.1⟩ (fun hHeld => ?_)
        clear hK KC
        refine ready_call 1 ⟨some 35, Op.call { callee := Callee.value (Operand.func 42), args := #[Operand.tmp 34], argTypes := #[29] }, _, _, _, none⟩ (by kernel_rfl) rfl (by kernel_rfl) (fun KC hK => ?_)
        go_wp2_with fail
        refine (l12Own_n [.int .i64 ep, .int .i64 du, .slice p3 n3 q3, .slice p4 n4 q4] ep du ms en _ HZ.out (HC.out.lies.next HD.out.2.2.1)).mono ?_
        rintro r W1 ⟨cs1, rfl, hO1, hb⟩
        have hO1' := hO1
        obtain ⟨v5, S5, v6, S6, hcs, o5, o6, _⟩ := ownx_Fence hO1'
        obtain ⟨p5, q5, hv5⟩ := o5.vform
        obtain ⟨p6, q6, hv6⟩ := o6.vform
        have hv5 : v5 = .slice p5 (List.length (α := Sh.T shMember) ms) q5 := hv5
        have hv6 : v6 = .slice p6 (List.length (α := Sh.T .int) en) q6 := hv6
        subst hv5 hv6 hcs
        have hl1 := HD.out.2.2.1.size
        have hz1 := HD.out.2.2.2
        (first | (have HO1 := (show Hid (∃ T1 : Nat → Prop, OwnX W1 wr.heap.size tyFence [.int .i64 ep, .int .i64 du, .slice p5 ms.length q5, .slice p6 en.length q6] (ep, du, ms, en, ()) T1 ∧ ∀ k, T1 k → wr.heap.size < k ∧ k < W1.heap.size ∧ k ≠ b7) from ⟨_, hO1.lower hl1, fun k hk => by have h7 := H7.out.1.2; simp only [Btw] at hk; omega⟩)) | (have HO1 := (show Hid (∃ T1 : Nat → Prop, OwnX W1 wr.heap.size tyFence [.int .i64 ep, .int .i64 du, .slice p5 ms.length q5, .slice p6 en.length q6] (ep, du, ms, en, ()) T1 ∧ ∀ k, T1 k → wr.heap.size < k ∧ k < W1.heap.size) from ⟨_, hO1.lower hl1, fun k hk => by simp only [Btw] at hk; omega⟩)))
        have HD := (show Hid (Bx W1 b [.int .i64 ep, .int .i64 du, .slice p3 n3 q3, .slice p4 n4 q4] ∧ Bx W1 wr.heap.size [.int .i64 x0, .int .i64 x1, .int .i64 x2] ∧ Below wr.heap.size wr W1 ∧ wr.heap.size < W1.heap.size) from ⟨HD.out.1.next hb, HD.out.2.1.next hb, below_next HD.out.2.2.1 hb, Nat.lt_of_lt_of_le HD.out.2.2.2 hb.size⟩)
        (first | (have H7 := (show Hid (Bx W1 b7 [.int .i64 0, .int .i64 0, .slice none 0 0, .slice none 0 0] ∧ wr.heap.size < b7) from ⟨H7.out.1.next hb, H7.out.2⟩)) | skip)
        clear hb hO1 hO1' o5 o6 hl1 hz1
        refine hK.out _ _ ⟨HD.out.1, HD.out.2.1⟩ (fun hHeld => ?_)
        clear hK KC
        refine ready_call 3 ⟨some 37, Op.call { callee := Callee.value (Operand.func 41), args := #[Operand.tmp 35, Operand.tmp 36], argTypes := #[29, 40] }, _, _, _, none⟩ (by kernel_rfl) rfl (by kernel_rfl) (fun KC hK => ?_)
        go_wp2_with fail
        obtain ⟨T1, hO1, hT1⟩ := HO1.out
        refine (l12Step_g wr.heap.size T1 [.int .i64 ep, .int .i64 du, .slice p5 ms.length q5, .slice p6 en.length q6] ep du ms en x0 x1 x2 _ E HEE.out HG.out hO1 (fun k hk => by have := hT1 k hk; omega) HD.out.2.2.1.size).mono ?_
        intro r W2 hQ2
        obtain ⟨e5, d5, a5, n5, c5, a6, n6, c6, rfl, hT, hy⟩ := stx_out hQ2
        have hbl := HBL.out
        have hz1 := HD.out.2.2.2
        have hz2 := hT.size
        (first | (have HO2 := (show Hid (∀ y, E = some y → ∃ T2 : Nat → Prop, OwnX W2 wr.heap.size tyFence [.int .i64 e5, .int .i64 d5, .slice a5 n5 c5, .slice a6 n6 c6] y T2 ∧ ∀ k, T2 k → wr.heap.size < k ∧ k < W2.heap.size ∧ k ≠ b7) from fun y e => ⟨_, hy y e, fun k hk => by have h7 := H7.out.1.2; have h8 := hT1 k; rcases hk with q | q; (· have := h8 q; omega); simp only [Btw] at q; omega⟩)) | (have HO2 := (show Hid (∀ y, E = some y → ∃ T2 : Nat → Prop, OwnX W2 wr.heap.size tyFence [.int .i64 e5, .int .i64 d5, .slice a5 n5 c5, .slice a6 n6 c6] y T2 ∧ ∀ k, T2 k → wr.heap.size < k ∧ k < W2.heap.size) from fun y e => ⟨_, hy y e, fun k hk => by have h8 := hT1 k; rcases hk with q | q; (· have := h8 q; omega); simp only [Btw] at q; omega⟩)))
        (first | (have H7 := (show Hid (Bx W2 b7 [.int .i64 0, .int .i64 0, .slice none 0 0, .slice none 0 0] ∧ wr.heap.size < b7) from ⟨H7.out.1.turnS hT (fun q => by have := hT1 b7 q; omega), H7.out.2⟩)) | skip)
        have HD := (show Hid (Bx W2 b [.int .i64 ep, .int .i64 du, .slice p3 n3 q3, .slice p4 n4 q4] ∧ Bx W2 wr.heap.size [.int .i64 x0, .int .i64 x1, .int .i64 x2] ∧ Below wr.heap.size wr W2 ∧ wr.heap.size < W2.heap.size) from ⟨HD.out.1.turnS hT (fun q => by have := hT1 b q; omega), HD.out.2.1.turnS hT (fun q => by have := hT1 wr.heap.size q; omega), HD.out.2.2.1.trans (hT.below (fun k q => by have := hT1 k q; omega) HD.out.2.2.1.size), Nat.lt_of_lt_of_le HD.out.2.2.2 hT.size⟩)
        clear hT hy hQ2 hbl hz1 hz2 hO1 hT1
        refine hK.out _ _ ⟨HD.out.1, HD.out.2.1⟩ (fun hHeld => ?_)
        clear hK KC
        refine take_v (v := ?_) 4 ⟨some 33, Op.move (Operand.tmp 37), _, _, _, none⟩ rfl (fun _ _ _ h => h) ?_ hHeld ?_
        rotate_left
        · (intro W _; go_simp <;> (try with_reducible rfl))
        refine take_v (v := ?_) 5 ⟨some 38, Op.extract (Operand.tmp 33) 0, _, _, _, none⟩ rfl (fun _ _ _ h => h) ?_ hHeld ?_
        rotate_left
        · (intro W _; go_simp <;> (try with_reducible rfl))
        refine take_v (v := ?_) 6 ⟨some 39, Op.extract (Operand.tmp 33) 1, _, _, _, none⟩ rfl (fun _ _ _ h => h) ?_ hHeld ?_
        rotate_left
        · (intro W _; go_simp <;> (try with_reducible rfl))
        refine ready_call 8 ⟨none, Op.store 29 (Operand.tmp 12) (Operand.tmp 38), _, _, _, none⟩ (by kernel_rfl) rfl (by kernel_rfl) (fun KC hK => ?_)
        have d0 := H7.out.1.cell 0 rfl
        have d1 := H7.out.1.cell 1 rfl
        have d2 := H7.out.1.cell 2 rfl
        have d3 := H7.out.1.cell 3 rfl
        have dz := H7.out.1.2
        have df0 := H7.out.1.frz 0 (by simp)
        have df1 := H7.out.1.frz 1 (by simp)
        have df2 := H7.out.1.frz 2 (by simp)
        have df3 := H7.out.1.frz 3 (by simp)
        have h7 := H7.out.2
        have hbl := HBL.out
        go_wp2_with fail
        have HF := Hid.intro (box_fence H7.out.1 H7.out.2 HD.out.2.2.1 HO2.out (.int .i64 e5) (.int .i64 d5) (.slice a5 n5 c5) (.slice a6 n6 c6))
        clear d0 d1 d2 d3 dz df0 df1 df2 df3
        refine hK.out _ _ ⟨HD.out.1.turnS (set4 _ b7 _ _ _ _) (by omega), HD.out.2.1.turnS (set4 _ b7 _ _ _ _) (by omega)⟩ (fun hHeld => ?_)
        clear hK KC
        refine take_v (v := ?_) 9 ⟨some 13, Op.assign (Operand.tmp 39), _, _, _, none⟩ rfl (fun _ _ _ h => h) ?_ hHeld ?_
        rotate_left
        · (intro W _; go_simp <;> (try with_reducible rfl))
        refine wpAnyH_done (by kernel_rfl) ?_ _
        refine NoPanic.normal ?_
        (obtain ⟨Y, hY, HFz⟩ := fence_name HF.out)
        rw [← hY]
        have HF := Hid.intro HFz
        clear hHeld hY HFz H7 HO1 HO2 HD
        have HCz := Hid.intro (HC.out.next HF.out.2.1)
        have d0 := HF.out.1.cell 0 rfl
        have d1 := HF.out.1.cell 1 rfl
        have d2 := HF.out.1.cell 2 rfl
        have d3 := HF.out.1.cell 3 rfl
        have dz := HF.out.1.2
        have s0 := HCz.out.2.1.cell 0 rfl
        have s1 := HCz.out.2.1.cell 1 rfl
        have s2 := HCz.out.2.1.cell 2 rfl
        have s3 := HCz.out.2.1.cell 3 rfl
        have sz := HCz.out.2.1.2
        have sf0 := HCz.out.2.1.frz 0 (by simp)
        have sf1 := HCz.out.2.1.frz 1 (by simp)
        have sf2 := HCz.out.2.1.frz 2 (by simp)
        have sf3 := HCz.out.2.1.frz 3 (by simp)
        have hDk : D.length + 1 ≤ maxLen := by have := HDL.out; unfold maxLen; omega
        have hDb : (D.length + 1) * 8 ≤ 140737488355328 := by have := HDL.out; omega
        have hb7b : b7 ≠ b := by have := HBL.out; omega
        cases E with
        | none =>
          have HPD : Hid (fpF S0 (l.take (k + 1)) = ((ep, du, ms, en, ()), D ++ [du])) := HPD
          have HQ := HCz
          simp only [Option.isSome_none]
          clear s0 s1 s2 s3 sz sf0 sf1 sf2 sf3 d0 d1 d2 d3 dz
          have HA := Hid.intro (HQ.out.next (Go.Joins.below_alloc1 Y (.cells #[.int .i64 du] 3)))
          have s0 := HQ.out.2.1.cell 0 rfl
          have s1 := HQ.out.2.1.cell 1 rfl
          have s2 := HQ.out.2.1.cell 2 rfl
          have s3 := HQ.out.2.1.cell 3 rfl
          have sz := HQ.out.2.1.2
          go_wp2_with (first | (at_builtin; (obtain ⟨Sd9, hOd⟩ := HA.out.row); refine wpList_appx rfl (.tmp 42) (.tmp 45) 27 3 rfl i0 (.int .i64 0) 8 (w.heap.size + 1) .int rfl Try.underlying27 hi0 hz0 hz1 hz2 rfl (by decide) v D [du] Sd9 rfl hOd (some ⟨Y.heap.size, 0, none⟩) 1 rfl (lies_one (w := Y) (e := .int) (cs := [.int .i64 du]) (x := du) 3 rfl rfl) hDk hDb (by have h1 := HA.out.2.2.2.1.size; have h2 := HA.out.1.2; omega) ?_; intro v9 w9 hO9 hg9 hwh9; have H9 := Hid.intro (HA.out.app rfl hO9 hg9 hwh9); clear hO9 hg9 hwh9) | go_in)
          go_roundw
          case rel => exact ⟨k + 1, v9, by omega, by go_num, rfl, by rw [HPD.out]; exact ⟨_, _, _, _, _, _, H9.out⟩⟩
          case measure => simp [intOf]; omega
        | some y =>
          simp only [Option.isSome_some]
          (obtain ⟨T2, hO2, hT2⟩ := HF.out.2.2 y rfl)
          (obtain ⟨ep', du', ms', en', ⟨⟩⟩ := y)
          have HPD : Hid (fpF S0 (l.take (k + 1)) = ((ep', du', ms', en', ()), D ++ [du'])) := HPD
          (obtain ⟨he5, hd5⟩ : e5 = ep' ∧ d5 = du' := by
            obtain ⟨v5, S5, v6, S6, hcs, _⟩ := ownx_Fence hO2
            simp only [List.cons.injEq, Value.int.injEq, and_true, true_and] at hcs
            exact ⟨hcs.1, hcs.2.1⟩)
          subst he5 hd5
          (obtain ⟨Z, hZ⟩ : ∃ x, x = ((((Y.setCell ⟨b, 0, none⟩ (.int .i64 e5)).setCell ⟨b, 1, none⟩ (.int .i64 d5)).setCell ⟨b, 2, none⟩ (.slice a5 n5 c5)).setCell ⟨b, 3, none⟩ (.slice a6 n6 c6)) := ⟨_, rfl⟩)
          have HQ : Hid (PyS shFence .int 3 [.int .i64 0, .int .i64 0, .slice none 0 0, .slice none 0 0] w b Z [.int .i64 e5, .int .i64 d5, .slice a5 n5 c5, .slice a6 n6 c6] (e5, d5, ms', en', ()) v D) := Hid.intro (HC.out.put HF.out.2.1 hO2.own (fun k hk => by have := hT2 k hk; omega) (hZ ▸ set4 Y b _ _ _ _) (hZ ▸ HCz.out.2.1.set4 _ _ _ _))
          clear hO2 hT2
          go_upto_region 11 with fail
          rw [← hZ]
          clear hZ s0 s1 s2 s3 sz sf0 sf1 sf2 sf3 d0 d1 d2 d3 dz
          have HA := Hid.intro (HQ.out.next (Go.Joins.below_alloc1 Z (.cells #[.int .i64 d5] 3)))
          have s0 := HQ.out.2.1.cell 0 rfl
          have s1 := HQ.out.2.1.cell 1 rfl
          have s2 := HQ.out.2.1.cell 2 rfl
          have s3 := HQ.out.2.1.cell 3 rfl
          have sz := HQ.out.2.1.2
          go_wp2_with (first | (at_builtin; (obtain ⟨Sd9, hOd⟩ := HA.out.row); refine wpList_appx rfl (.tmp 42) (.tmp 45) 27 3 rfl i0 (.int .i64 0) 8 (w.heap.size + 1) .int rfl Try.underlying27 hi0 hz0 hz1 hz2 rfl (by decide) v D [d5] Sd9 rfl hOd (some ⟨Z.heap.size, 0, none⟩) 1 rfl (lies_one (w := Z) (e := .int) (cs := [.int .i64 d5]) (x := d5) 3 rfl rfl) hDk hDb (by have h1 := HA.out.2.2.2.1.size; have h2 := HA.out.1.2; omega) ?_; intro v9 w9 hO9 hg9 hwh9; have H9 := Hid.intro (HA.out.app rfl hO9 hg9 hwh9); clear hO9 hg9 hwh9) | go_in)
          go_roundw
          case rel => exact ⟨k + 1, v9, by omega, by go_num, rfl, by rw [HPD.out]; exact ⟨_, _, _, _, _, _, H9.out⟩⟩
          case measure => simp [intOf]; omega
    · have hkn : k = l.length := by omega
      have hC2 : FqS w b wr (fpF S0 l).1 v (fpF S0 l).2 := by
        have := hC
        rw [hkn, List.take_length] at this
        exact this
      have HG2 : Hid (goodT (fpF S0 l).1) := Hid.intro (by have := HG.out; rw [hkn, List.take_length] at this; exact this)
      clear hC HG HDL hkn
      generalize fpF S0 l = F at hC2 HY HG2
      obtain ⟨⟨ep, du, ms, en, ⟨⟩⟩, D⟩ := F
      obtain ⟨p3, n3, q3, p4, n4, q4, hC2⟩ := hC2
      have HC : Hid (PyS shFence .int 3 [.int .i64 0, .int .i64 0, .slice none 0 0, .slice none 0 0] w b wr [.int .i64 ep, .int .i64 du, .slice p3 n3 q3, .slice p4 n4 q4] (ep, du, ms, en, ()) v D) := hC2
      have HZ : Hid (szD shFence (ep, du, ms, en, ()) ≤ 1073741824) := Hid.intro (Nat.le_trans (good_sz (ep := ep) (du := du) (ms := ms) (en := en) HG2.out) (by decide))
      clear hC2 HG2
      have s0 := HC.out.2.1.cell 0 rfl
      have s1 := HC.out.2.1.cell 1 rfl
      have s2 := HC.out.2.1.cell 2 rfl
      have s3 := HC.out.2.1.cell 3 rfl
      have sz := HC.out.2.1.2
      go_wp2_with fail
      refine (l12Own_n [.int .i64 ep, .int .i64 du, .slice p3 n3 q3, .slice p4 n4 q4] ep du ms en _ HZ.out HC.out.lies).mono ?_
      rintro r W1 ⟨cs1, rfl, hO1, hb⟩
      have hO1' := hO1.own
      obtain ⟨p5, n5, q5, p6, n6, q6, hcs⟩ := own_cellsF (ep := ep) (du := du) (ms := ms) (en := en) hO1'
      subst hcs
      have HC2 := Hid.intro (HC.out.next hb)
      have HP : Hid (FpR mm l w (.returned (.tuple #[.agg #[.int .i64 ep, .int .i64 du, .slice p5 n5 q5, .slice p6 n6 q6], v, .bool true])) ((((W1.setCell ⟨w.heap.size, 0, none⟩ (.int .i64 ep)).setCell ⟨w.heap.size, 1, none⟩ (.int .i64 du)).setCell ⟨w.heap.size, 2, none⟩ (.slice p5 n5 q5)).setCell ⟨w.heap.size, 3, none⟩ (.slice p6 n6 q6))) := Hid.intro (by
        unfold FpR; rw [HY.out.1, HY.out.2]; exact HC.out.done2 hb hO1' (fun k hk => by simp only [Btw] at hk; exact hk) (set4 W1 w.heap.size _ _ _ _))
      clear hO1 hO1' hb s0 s1 s2 s3 sz
      have r0 := HC2.out.1.cell 0 rfl
      have r1 := HC2.out.1.cell 1 rfl
      have r2 := HC2.out.1.cell 2 rfl
      have r3 := HC2.out.1.cell 3 rfl
      have rz := HC2.out.1.2
      have rf0 := HC2.out.1.frz 0 (by simp)
      have rf1 := HC2.out.1.frz 1 (by simp)
      have rf2 := HC2.out.1.frz 2 (by simp)
      have rf3 := HC2.out.1.frz 3 (by simp)
      go_wp2_with fail
      exact bodyPost_ret (v := .tuple #[.agg #[.int .i64 ep, .int .i64 du, .slice p5 n5 q5, .slice p6 n6 q6], v, .bool true]) (by simp [results, Try.results13, go_sem, *]) rfl HP.out
end Go.Proofs.Ytcbdlalpnlahcaa
