/- Leases: the specification's PlayLeases. Written by tools/mkLpI.py. -/
import Derived.Test.YtidalpgkljafdaaLpI
namespace Go.Proofs.Ytidalpgkljafdaa
open Go.RowKit
set_option linter.unusedVariables false
set_option linter.unusedSimpArgs false

theorem boxM {wr W : World} {lo b7 g1 k1 g2 k2 m : Nat} {cl kn : List (Sh.T .int)} (h7 : Bx W b7 [.int .i64 0, .int .i64 0, .slice none 0 0, .int .i64 0, .int .i64 0, .slice none 0 0]) (r1 : Rw 3 W lo g1 k1 cl m) (r2 : Rw 3 W lo g2 k2 kn m) (n1 : g1 ≠ b7) (n2 : g2 ≠ b7) (hb : Below wr.heap.size wr W) (hz : wr.heap.size < b7) (u0 u1 u2 u3 u4 u5 : Value) :
    Bx ((((((W.setCell ⟨b7, 0, none⟩ u0).setCell ⟨b7, 1, none⟩ u1).setCell ⟨b7, 2, none⟩ u2).setCell ⟨b7, 3, none⟩ u3).setCell ⟨b7, 4, none⟩ u4).setCell ⟨b7, 5, none⟩ u5) b7 [u0, u1, u2, u3, u4, u5] ∧ Rw 3 ((((((W.setCell ⟨b7, 0, none⟩ u0).setCell ⟨b7, 1, none⟩ u1).setCell ⟨b7, 2, none⟩ u2).setCell ⟨b7, 3, none⟩ u3).setCell ⟨b7, 4, none⟩ u4).setCell ⟨b7, 5, none⟩ u5) lo g1 k1 cl m ∧ Rw 3 ((((((W.setCell ⟨b7, 0, none⟩ u0).setCell ⟨b7, 1, none⟩ u1).setCell ⟨b7, 2, none⟩ u2).setCell ⟨b7, 3, none⟩ u3).setCell ⟨b7, 4, none⟩ u4).setCell ⟨b7, 5, none⟩ u5) lo g2 k2 kn m ∧ Below wr.heap.size wr ((((((W.setCell ⟨b7, 0, none⟩ u0).setCell ⟨b7, 1, none⟩ u1).setCell ⟨b7, 2, none⟩ u2).setCell ⟨b7, 3, none⟩ u3).setCell ⟨b7, 4, none⟩ u4).setCell ⟨b7, 5, none⟩ u5) :=
  ⟨h7.set6 u0 u1 u2 u3 u4 u5, r1.turn (set6 W b7 _ _ _ _ _ _) n1, r2.turn (set6 W b7 _ _ _ _ _ _) n2, hb.trans ((set6 W b7 _ _ _ _ _ _).below (fun k e => by have e : k = b7 := e; omega) hb.size)⟩
theorem boxM_name {wr Y : World} {lo b7 g1 k1 g2 k2 m : Nat} {cl kn : List (Sh.T .int)} {cs : List Value} (h : Bx Y b7 cs ∧ Rw 3 Y lo g1 k1 cl m ∧ Rw 3 Y lo g2 k2 kn m ∧ Below wr.heap.size wr Y) : ∃ Wz, Wz = Y ∧ (Bx Wz b7 cs ∧ Rw 3 Wz lo g1 k1 cl m ∧ Rw 3 Wz lo g2 k2 kn m ∧ Below wr.heap.size wr Wz) := ⟨Y, rfl, h⟩

theorem rw_ownx {W : World} {lo g1 k1 g2 k2 m : Nat} {sk nw ho un : Int} {cl kn : List (Sh.T .int)} (r1 : Rw 3 W lo g1 k1 cl m) (r2 : Rw 3 W lo g2 k2 kn m) (hne : g1 ≠ g2) : OwnX W lo tyLeases [.int .i64 sk, .int .i64 nw, .slice (some ⟨g1, 0, none⟩) m k1, .int .i64 ho, .int .i64 un, .slice (some ⟨g2, 0, none⟩) m k2] (sk, nw, cl, ho, un, kn, ()) (fun k => k = g1 ∨ k = g2) :=
  mkownx_Leases (S1 := fun k => k = g1) (S2 := fun k => k = g2) r1.1 r2.1 (fun k e => Or.inl e) (fun k e => Or.inr e) (fun k e f => by have e : k = g1 := e; have f : k = g2 := f; omega)
/-- What the specification's PlayLeases answers: its lists' rows are known exactly. -/
def LpX (m sk : Int) (l : List (Sh.T shLeaseStep)) (w : World) (r : Ending) (w' : World) : Prop := LpR m sk l w r w' ∧ ∃ (cs : List Value) (v : Value) (S : Nat → Prop), r = .returned (.tuple #[.agg cs.toArray, v, .bool (tf (lpOk m sk l))]) ∧ OwnX w' w.heap.size tyLeases cs (lpA m sk l).1 S
theorem LpX.no {m sk : Int} {l : List (Sh.T shLeaseStep)} {w w' : World} (h : ¬ lpOk m sk l) (hb : Below w.heap.size w w') : LpX m sk l w (.returned (.tuple #[.agg #[.int .i64 0, .int .i64 0, .slice none 0 0, .int .i64 0, .int .i64 0, .slice none 0 0], .slice none 0 0, .bool false])) w' :=
  ⟨LpR.no h hb, [.int .i64 0, .int .i64 0, .slice none 0 0, .int .i64 0, .int .i64 0, .slice none 0 0], _, fun _ => False, by rw [(lp_no h).2], by rw [(lp_no h).1]; exact mkownx_Leases OwnX.nil' OwnX.nil' (fun k e => e) (fun k e => e) (fun k (e : False) => e.elim)⟩

set_option maxRecDepth 100000 in
set_option maxHeartbeats 8000000 in
theorem specPlayLeases_x (mm sk0 : Int) (a2 : Option Addr) (c2 : Nat) (l : List (Sh.T shLeaseStep)) (w : World) (hn : l.length ≤ 1073741824) (h2 : Lies w (.list shLeaseStep) [.slice a2 l.length c2] l) :
    Calls Try.prog 12 #[.int .i64 mm, .int .i64 sk0, .slice a2 l.length c2] w (LpX mm sk0 l w) := by
  have HL := Hid.intro h2
  clear h2
  obtain ⟨i0, hi0, hz0, hz1, hz2⟩ := info_parts inf_int
  obtain ⟨w0, hw0⟩ : ∃ x, x = w.alloc (.cells #[.int .i64 0, .int .i64 0, .slice none 0 0, .int .i64 0, .int .i64 0, .slice none 0 0] 28) := ⟨_, rfl⟩
  have HB0 : Hid (Bx w0 w.heap.size [.int .i64 0, .int .i64 0, .slice none 0 0, .int .i64 0, .int .i64 0, .slice none 0 0] ∧ Below w.heap.size w w0 ∧ w0.heap.size = w.heap.size + 1) := ⟨hw0 ▸ Bx.new w [_, _, _, _, _, _] _, hw0 ▸ Go.Joins.below_alloc1 _ _, by rw [hw0]; simp⟩
  go_enter Try.func12, Try.ntmps12
  go_wp2_with fail
  rw [← hw0]
  clear hw0
  refine (specNewLeases_n mm sk0 _).mono ?_
  by_cases c0 : (1 ≤ mm ∧ mm ≤ 12) ∧ (0 ≤ sk0 ∧ sk0 ≤ 1000)
  case neg =>
    rw [nwL_no c0]
    rintro r w1 ⟨cs, rfl, ho, hb⟩
    have ho : Own w1 shLeases cs (0, 0, [], 0, 0, [], ()) _ := ho
    obtain ⟨p1, q1, _, p2, q2, _, hev, _⟩ := own_Leases ho
    subst hev
    have HB1 : Hid (Bx w1 w.heap.size [.int .i64 0, .int .i64 0, .slice none 0 0, .int .i64 0, .int .i64 0, .slice none 0 0] ∧ Below w.heap.size w w1) := ⟨HB0.out.1.next hb, below_next HB0.out.2.1 hb⟩
    have HN : Hid (¬ lpOk mm sk0 l) := Hid.intro (fun q => c0 q.1)
    clear ho hb HB0 c0
    have r0 := HB1.out.1.cell 0 rfl
    have r1 := HB1.out.1.cell 1 rfl
    have r2 := HB1.out.1.cell 2 rfl
    have r3 := HB1.out.1.cell 3 rfl
    have r4 := HB1.out.1.cell 4 rfl
    have r5 := HB1.out.1.cell 5 rfl
    have rz := HB1.out.1.2
    have rf0 := HB1.out.1.frz 0 (by simp)
    have rf1 := HB1.out.1.frz 1 (by simp)
    have rf2 := HB1.out.1.frz 2 (by simp)
    have rf3 := HB1.out.1.frz 3 (by simp)
    have rf4 := HB1.out.1.frz 4 (by simp)
    have rf5 := HB1.out.1.frz 5 (by simp)
    simp only [Option.isSome_none]
    go_wp2_with fail
    refine bodyPost_ret (v := .tuple #[.agg #[.int .i64 0, .int .i64 0, .slice none 0 0, .int .i64 0, .int .i64 0, .slice none 0 0], .slice none 0 0, .bool false]) (by simp [results, Try.results12, go_sem, *]) rfl (LpX.no HN.out ?_)
    exact (HB1.out.2.trans ((set6 w1 w.heap.size _ _ _ _ _ _).below (fun k e => by have e : k = w.heap.size := e; omega) HB1.out.2.size)).alloc (by have := HB1.out.2.size; simp; omega) _
  have HG0 : Hid (goodX (lp0 mm sk0)) := Hid.intro (good_lp0 c0)
  rw [nwL_yes c0]
  rintro r w1 ⟨cs, rfl, ho, hb⟩
  obtain ⟨S0, hS0⟩ : ∃ S, lp0 mm sk0 = S := ⟨_, rfl⟩
  have ho : Own w1 shLeases cs S0 (Btw w0.heap.size w1.heap.size) := hS0 ▸ ho
  rw [hS0] at HG0
  obtain ⟨sk, nw, cl, ho', un, kn, ⟨⟩⟩ := S0
  have HGG : Hid (goodL sk nw cl ho' un kn) := HG0
  obtain ⟨p3, q3, p4, q4, m, hcs⟩ := own_cells ho (cl_ne HGG.out).2.2
  subst hcs
  have HB1 : Hid (Bx w1 w.heap.size [.int .i64 0, .int .i64 0, .slice none 0 0, .int .i64 0, .int .i64 0, .slice none 0 0] ∧ Below w.heap.size w w1) := ⟨HB0.out.1.next hb, below_next HB0.out.2.1 hb⟩
  have HO : Hid (Own w1 shLeases [.int .i64 sk, .int .i64 nw, .slice p3 m q3, .int .i64 ho', .int .i64 un, .slice p4 m q4] (sk, nw, cl, ho', un, kn, ()) (Btw w0.heap.size w1.heap.size) ∧ w0.heap.size = w.heap.size + 1) := ⟨ho, HB0.out.2.2⟩
  clear ho hb HB0
  have r0 := HB1.out.1.cell 0 rfl
  have r1 := HB1.out.1.cell 1 rfl
  have r2 := HB1.out.1.cell 2 rfl
  have r3 := HB1.out.1.cell 3 rfl
  have r4 := HB1.out.1.cell 4 rfl
  have r5 := HB1.out.1.cell 5 rfl
  have rz := HB1.out.1.2
  have rf0 := HB1.out.1.frz 0 (by simp)
  have rf1 := HB1.out.1.frz 1 (by simp)
  have rf2 := HB1.out.1.frz 2 (by simp)
  have rf3 := HB1.out.1.frz 3 (by simp)
  have rf4 := HB1.out.1.frz 4 (by simp)
  have rf5 := HB1.out.1.frz 5 (by simp)
  simp only [Option.isSome_some]
  by_cases c1 : l.length ≤ 100
  case neg =>
    have HN : Hid (¬ lpOk mm sk0 l) := Hid.intro (fun q => c1 q.2)
    have c1' : (100 : Int) < (l.length : Int) := by omega
    clear c0 c1
    go_wp2_with fail
    refine bodyPost_ret (v := .tuple #[.agg #[.int .i64 0, .int .i64 0, .slice none 0 0, .int .i64 0, .int .i64 0, .slice none 0 0], .slice none 0 0, .bool false]) (by simp [results, Try.results12, go_sem, *]) rfl (LpX.no HN.out ?_)
    exact (HB1.out.2.trans ((set6 w1 w.heap.size _ _ _ _ _ _).below (fun k e => by have e : k = w.heap.size := e; omega) HB1.out.2.size)).alloc (by have := HB1.out.2.size; simp; omega) _
  have c1' : (l.length : Int) ≤ 100 := by omega
  have HY : Hid (lpA mm sk0 l = lpF (sk, nw, cl, ho', un, kn, ()) l ∧ tf (lpOk mm sk0 l) = true) := Hid.intro (by rw [← hS0]; exact lp_yes ⟨c0, c1⟩)
  clear c0 hS0
  obtain ⟨w2, hw2⟩ : ∃ x, x = w1.alloc (.cells #[.int .i64 sk, .int .i64 nw, .slice p3 m q3, .int .i64 ho', .int .i64 un, .slice p4 m q4] 28) := ⟨_, rfl⟩
  have HI0 : Hid (PyS shLeases .int 3 [.int .i64 0, .int .i64 0, .slice none 0 0, .int .i64 0, .int .i64 0, .slice none 0 0] w w1.heap.size w2 [.int .i64 sk, .int .i64 nw, .slice p3 m q3, .int .i64 ho', .int .i64 un, .slice p4 m q4] (sk, nw, cl, ho', un, kn, ()) (.slice none 0 0) []) := Hid.intro (hw2 ▸ PyS.start0 (cs := [.int .i64 sk, .int .i64 nw, .slice p3 m q3, .int .i64 ho', .int .i64 un, .slice p4 m q4]) HB1.out.1 HO.out.1 (fun k hk => by have := HO.out.2; simp only [Btw] at hk; omega) HB1.out.2)
  go_wp2_with fail
  rw [← hw2]
  obtain ⟨b, hbE⟩ : ∃ b, b = w1.heap.size := ⟨_, rfl⟩
  have HI : Hid (LqS w b w2 (sk, nw, cl, ho', un, kn, ()) (.slice none 0 0) []) := Hid.intro ⟨_, _, _, _, _, by rw [hbE]; exact HI0.out⟩
  rw [← hbE]
  clear hbE HI0 HO HB1 hw2 r0 rf0 r1 rf1 r2 rf2 r3 rf3 r4 rf4 r5 rf5 rz
  obtain ⟨S0, hS0⟩ : ∃ S : Sh.T shLeases, S = (sk, nw, cl, ho', un, kn, ()) := ⟨_, rfl⟩
  rw [← hS0] at HI HY HG0
  clear hS0 HGG
  go_loopw [32, 11] (fun i vl wr => ∃ (k : Nat) (v : Value), k ≤ l.length ∧ i = .int .i64 k ∧ vl = v ∧ LqS w b wr (lpF S0 (l.take k)).1 v (lpF S0 (l.take k)).2) (fun i _ _ => l.length - (intOf i).toNat)
  case atStart => exact ⟨0, _, Nat.zero_le _, rfl, rfl, HI.out⟩
  case round =>
    obtain ⟨k, v, hk, rfl, hvl, hC⟩ := hrel
    have hvl := hvl.symm
    subst hvl
    clear HI
    have HG : Hid (goodX (lpF S0 (l.take k)).1) := Hid.intro (lp_good HG0.out hk)
    have HDL : Hid ((lpF S0 (l.take k)).2.length = k) := Hid.intro (lp_len hk)
    by_cases hlt : k < l.length
    · have hlt' : (k : Int) < (l.length : Int) := by omega
      have HLE : Hid (Lies wr (.list shLeaseStep) [.slice a2 l.length c2] l) := Hid.intro (by obtain ⟨_, _, _, _, _, q⟩ := hC; exact HL.out.next q.2.2.2.1)
      obtain ⟨xg, xoff, xgo, xgs, xec, xel, xhec, xle⟩ := Lies.elem (HLE.out) hlt
      subst xgo
      rcases xX : l[k] with ⟨x0, x1, x2, ⟨⟩⟩
      rw [xX] at xle
      have xH : Hid (l[k] = (x0, x1, x2, ())) := xX
      clear xX
      obtain xev := lies_LeaseStep xle
      subst xev
      have xc0 : wr.cell? ⟨xg, xoff + k * 3, none⟩ = some (.int .i64 x0) := xhec 0 (by simp)
      have xc1 : wr.cell? ⟨xg, xoff + k * 3 + 1, none⟩ = some (.int .i64 x1) := xhec 1 (by simp)
      have xc2 : wr.cell? ⟨xg, xoff + k * 3 + 2, none⟩ = some (.int .i64 x2) := xhec 2 (by simp)
      clear xhec xel xle
      have HPD := Hid.intro (lp_take (s := S0) hlt)
      rw [xH.out] at HPD
      clear HLE
      generalize lpF S0 (l.take k) = F at hC HG HDL HPD
      obtain ⟨⟨sk, nw, cl, ho, un, kn, ⟨⟩⟩, D⟩ := F
      obtain ⟨p3, q3, p4, q4, m, hC⟩ := hC
      have HC : Hid (PyS shLeases .int 3 [.int .i64 0, .int .i64 0, .slice none 0 0, .int .i64 0, .int .i64 0, .slice none 0 0] w b wr [.int .i64 sk, .int .i64 nw, .slice p3 m q3, .int .i64 ho, .int .i64 un, .slice p4 m q4] (sk, nw, cl, ho, un, kn, ()) v (D)) := hC
      have HG : Hid (goodL sk nw cl ho un kn) := HG
      have HZ : Hid (szD shLeases (sk, nw, cl, ho, un, kn, ()) ≤ 1073741824) := Hid.intro (Nat.le_trans (good_szL (y := (sk, nw, cl, ho, un, kn, ())) HG.out) (by decide))
      have HDL : Hid (D.length = k) := HDL
      have HBL : Hid (b < wr.heap.size) := hC.2.1.2
      have HPD : Hid (lpF S0 (l.take (k + 1)) = ((leB sk nw cl ho un kn x0 x1 x2).getD (sk, nw, cl, ho, un, kn, ()), D ++ [blN ((leB sk nw cl ho un kn x0 x1 x2).getD (sk, nw, cl, ho, un, kn, ()))])) := HPD
      clear hC
      obtain ⟨W1, hW1⟩ : ∃ x, x = wr.alloc (.cells #[.int .i64 x0, .int .i64 x1, .int .i64 x2] 34) := ⟨_, rfl⟩
      have HD : Hid (Bx W1.drew b [.int .i64 sk, .int .i64 nw, .slice p3 m q3, .int .i64 ho, .int .i64 un, .slice p4 m q4] ∧ Bx W1.drew wr.heap.size [.int .i64 x0, .int .i64 x1, .int .i64 x2] ∧ Below wr.heap.size wr W1.drew ∧ wr.heap.size < W1.drew.heap.size) := Hid.intro (by
        have hb : Below wr.heap.size wr W1.drew := below_next (hW1 ▸ Go.Joins.below_alloc1 _ _ : Below wr.heap.size wr W1) (below_drew _)
        have hz : wr.heap.size < W1.drew.heap.size := by have e : W1.drew.heap.size = W1.heap.size := rfl; rw [e, hW1]; simp
        exact ⟨HC.out.2.1.next hb, (hW1 ▸ Bx.new wr [_, _, _] _ : Bx W1 _ _).next (below_drew _), hb, hz⟩)
      go_upto_region 8 with fail
      rw [← hW1]
      clear hW1 xc0 xc1 xc2
      refine wp_region_noPanic ?_
      refine wp_region_held_drew (S := fun W => Bx W b [.int .i64 sk, .int .i64 nw, .slice p3 m q3, .int .i64 ho, .int .i64 un, .slice p4 m q4] ∧ Bx W wr.heap.size [.int .i64 x0, .int .i64 x1, .int .i64 x2]) (by kernel_rfl) ⟨HD.out.1, HD.out.2.1⟩ (fun hHeld => ?_)
      obtain ⟨X0, hX0⟩ : ∃ x, x = W1.drew := ⟨_, rfl⟩
      rw [← hX0] at HD hHeld ⊢
      clear hX0
      rename_i W1x
      refine take_v (v := ?_) 0 ⟨some 37, Op.load 28 (Operand.tmp 9), _, _, _, none⟩ rfl (fun _ _ _ h => h) ?_ hHeld ?_
      rotate_left
      · (intro W hSW; (have s0 := hSW.1.cell 0 rfl; have s1 := hSW.1.cell 1 rfl; have s2 := hSW.1.cell 2 rfl; have s3 := hSW.1.cell 3 rfl; have s4 := hSW.1.cell 4 rfl; have s5 := hSW.1.cell 5 rfl; have sz := hSW.1.2; have t0 := hSW.2.cell 0 rfl; have t1 := hSW.2.cell 1 rfl; have t2 := hSW.2.cell 2 rfl; have tz := hSW.2.2); go_simp <;> (try with_reducible rfl))
      refine take_v (v := ?_) 2 ⟨some 39, Op.load 34 (Operand.tmp 13), _, _, _, none⟩ rfl (fun _ _ _ h => h) ?_ hHeld ?_
      rotate_left
      · (intro W hSW; (have s0 := hSW.1.cell 0 rfl; have s1 := hSW.1.cell 1 rfl; have s2 := hSW.1.cell 2 rfl; have s3 := hSW.1.cell 3 rfl; have s4 := hSW.1.cell 4 rfl; have s5 := hSW.1.cell 5 rfl; have sz := hSW.1.2; have t0 := hSW.2.cell 0 rfl; have t1 := hSW.2.cell 1 rfl; have t2 := hSW.2.cell 2 rfl; have tz := hSW.2.2); go_simp <;> (try with_reducible rfl))
      refine ready_two 1 7 ⟨some 38, Op.call { callee := Callee.value (Operand.func 43), args := #[Operand.tmp 37], argTypes := #[28] }, _, _, _, none⟩ ⟨some 14, Op.alloc 28, _, _, _, none⟩ (by kernel_rfl) rfl rfl (by kernel_rfl) (by kernel_rfl) (fun KC hK => ?_) (fun KC hK => ?_)
      ·
        go_wp2_with fail
        refine (l11Own_n [.int .i64 sk, .int .i64 nw, .slice p3 m q3, .int .i64 ho, .int .i64 un, .slice p4 m q4] sk nw cl ho un kn _ HZ.out (HC.out.lies.next HD.out.2.2.1)).mono ?_
        intro r W1 hT1
        obtain ⟨g1, k1, g2, k2, mo, rfl, hr1, hr2, hne, hb, hm12⟩ := toX_rows HG.out hT1
        have hz1 := HD.out.2.2.2
        have hy1 := hr1.lt.2
        have hy2 := hr2.lt.2
        have hl1 := HD.out.2.2.1.size
        (first | (have HO1 := (show Hid (Rw 3 W1 wr.heap.size g1 k1 cl mo ∧ Rw 3 W1 wr.heap.size g2 k2 kn mo ∧ g1 ≠ g2 ∧ wr.heap.size < g1 ∧ wr.heap.size < g2 ∧ g1 ≠ b7 ∧ g2 ≠ b7) from ⟨hr1.lower hl1, hr2.lower hl1, hne, by omega, by omega, by have := H7.out.1.2; omega, by have := H7.out.1.2; omega⟩)) | (have HO1 := (show Hid (Rw 3 W1 wr.heap.size g1 k1 cl mo ∧ Rw 3 W1 wr.heap.size g2 k2 kn mo ∧ g1 ≠ g2 ∧ wr.heap.size < g1 ∧ wr.heap.size < g2) from ⟨hr1.lower hl1, hr2.lower hl1, hne, by omega, by omega⟩)))
        have HD := (show Hid (Bx W1 b [.int .i64 sk, .int .i64 nw, .slice p3 m q3, .int .i64 ho, .int .i64 un, .slice p4 m q4] ∧ Bx W1 wr.heap.size [.int .i64 x0, .int .i64 x1, .int .i64 x2] ∧ Below wr.heap.size wr W1 ∧ wr.heap.size < W1.heap.size) from ⟨HD.out.1.next hb, HD.out.2.1.next hb, below_next HD.out.2.2.1 hb, Nat.lt_of_lt_of_le HD.out.2.2.2 hb.size⟩)
        (first | (have H7 := (show Hid (Bx W1 b7 [.int .i64 0, .int .i64 0, .slice none 0 0, .int .i64 0, .int .i64 0, .slice none 0 0] ∧ wr.heap.size < b7) from ⟨H7.out.1.next hb, H7.out.2⟩)) | skip)
        clear hb hr1 hr2 hT1 hz1 hy1 hy2 hl1 hne hm12
        refine hK.out _ _ ⟨HD.out.1, HD.out.2.1⟩ (fun hHeld => ?_)
        clear hK KC
        refine ready_two 3 7 ⟨some 40, Op.call { callee := Callee.value (Operand.func 42), args := #[Operand.tmp 38, Operand.tmp 39], argTypes := #[28, 34] }, _, _, _, none⟩ ⟨some 14, Op.alloc 28, _, _, _, none⟩ (by kernel_rfl) rfl rfl (by kernel_rfl) (by kernel_rfl) (fun KC hK => ?_) (fun KC hK => ?_)
        ·
          go_wp2_with fail
          refine (l11Step_n wr.heap.size sk nw g1 k1 cl ho un g2 k2 kn mo x0 x1 x2 _ HG.out HO1.out.1 HO1.out.2.1 HO1.out.2.2.1).mono ?_
          intro r W2 hQ2
          obtain ⟨sk', nw', cl', ho', un', kn', rfl, hT, hr1, hr2, hy⟩ := hQ2
          have HY9 := Hid.intro hy
          have hg1 := HO1.out.2.2.2.1
          have hbl := HBL.out
          (first | (have hg2 := HO1.out.2.2.2.2.1) | (have hg2 := HO1.out.2.2.2.2))
          (first | (have HO2 := (show Hid (Rw 3 W2 wr.heap.size g1 k1 cl' mo ∧ Rw 3 W2 wr.heap.size g2 k2 kn' mo ∧ g1 ≠ g2 ∧ wr.heap.size < g1 ∧ wr.heap.size < g2 ∧ g1 ≠ b7 ∧ g2 ≠ b7) from ⟨hr1, hr2, HO1.out.2.2.1, hg1, hg2, HO1.out.2.2.2.2.2⟩)) | (have HO2 := (show Hid (Rw 3 W2 wr.heap.size g1 k1 cl' mo ∧ Rw 3 W2 wr.heap.size g2 k2 kn' mo ∧ g1 ≠ g2 ∧ wr.heap.size < g1 ∧ wr.heap.size < g2) from ⟨hr1, hr2, HO1.out.2.2.1, hg1, hg2⟩)))
          (first | (have H7 := (show Hid (Bx W2 b7 [.int .i64 0, .int .i64 0, .slice none 0 0, .int .i64 0, .int .i64 0, .slice none 0 0] ∧ wr.heap.size < b7) from ⟨H7.out.1.turnS hT (fun q => by have q : b7 = g1 ∨ b7 = g2 := q; have := HO1.out.2.2.2.2.2; omega), H7.out.2⟩)) | skip)
          have HD := (show Hid (Bx W2 b [.int .i64 sk, .int .i64 nw, .slice p3 m q3, .int .i64 ho, .int .i64 un, .slice p4 m q4] ∧ Bx W2 wr.heap.size [.int .i64 x0, .int .i64 x1, .int .i64 x2] ∧ Below wr.heap.size wr W2 ∧ wr.heap.size < W2.heap.size) from ⟨HD.out.1.turnS hT (fun q => by have q : b = g1 ∨ b = g2 := q; omega), HD.out.2.1.turnS hT (fun q => by have q : wr.heap.size = g1 ∨ wr.heap.size = g2 := q; omega), HD.out.2.2.1.trans (hT.below (fun k q => by have q : k = g1 ∨ k = g2 := q; omega) HD.out.2.2.1.size), Nat.lt_of_lt_of_le HD.out.2.2.2 hT.size⟩)
          clear hT hr1 hr2 hy hg1 hg2 hbl
          refine hK.out _ _ ⟨HD.out.1, HD.out.2.1⟩ (fun hHeld => ?_)
          clear hK KC
          refine take_v (v := ?_) 4 ⟨some 36, Op.move (Operand.tmp 40), _, _, _, none⟩ rfl (fun _ _ _ h => h) ?_ hHeld ?_
          rotate_left
          · (intro W _; go_simp <;> (try with_reducible rfl))
          refine take_v (v := ?_) 5 ⟨some 41, Op.extract (Operand.tmp 36) 0, _, _, _, none⟩ rfl (fun _ _ _ h => h) ?_ hHeld ?_
          rotate_left
          · (intro W _; go_simp <;> (try with_reducible rfl))
          refine take_v (v := ?_) 6 ⟨some 42, Op.extract (Operand.tmp 36) 1, _, _, _, none⟩ rfl (fun _ _ _ h => h) ?_ hHeld ?_
          rotate_left
          · (intro W _; go_simp <;> (try with_reducible rfl))
          refine ready_call 7 ⟨some 14, Op.alloc 28, _, _, _, none⟩ (by kernel_rfl) rfl (by kernel_rfl) (fun KC hK => ?_)
          go_wp2_with fail
          (first | (obtain ⟨W7, hW7⟩ : ∃ x, x = W2.alloc (.cells #[.int .i64 0, .int .i64 0, .slice none 0 0, .int .i64 0, .int .i64 0, .slice none 0 0] 28) := ⟨_, rfl⟩; have hb : Below W2.heap.size W2 W7 := hW7 ▸ Go.Joins.below_alloc1 _ _; obtain ⟨b7, hb7⟩ : ∃ b, b = W2.heap.size := ⟨_, rfl⟩; have H7 : Hid (Bx W7 b7 [.int .i64 0, .int .i64 0, .slice none 0 0, .int .i64 0, .int .i64 0, .slice none 0 0] ∧ wr.heap.size < b7) := ⟨hb7 ▸ hW7 ▸ Bx.new W2 [_, _, _, _, _, _] _, by rw [hb7]; exact HD.out.2.2.2⟩; have HO2 := (show Hid (Rw 3 W7 wr.heap.size g1 k1 cl' mo ∧ Rw 3 W7 wr.heap.size g2 k2 kn' mo ∧ g1 ≠ g2 ∧ wr.heap.size < g1 ∧ wr.heap.size < g2 ∧ g1 ≠ b7 ∧ g2 ≠ b7) from ⟨HO2.out.1.next hb, HO2.out.2.1.next hb, HO2.out.2.2.1, HO2.out.2.2.2.1, HO2.out.2.2.2.2, by have := HO2.out.1.lt.1; omega, by have := HO2.out.2.1.lt.1; omega⟩); have HD := (show Hid (Bx W7 b [.int .i64 sk, .int .i64 nw, .slice p3 m q3, .int .i64 ho, .int .i64 un, .slice p4 m q4] ∧ Bx W7 wr.heap.size [.int .i64 x0, .int .i64 x1, .int .i64 x2] ∧ Below wr.heap.size wr W7 ∧ wr.heap.size < W7.heap.size) from ⟨HD.out.1.next hb, HD.out.2.1.next hb, below_next HD.out.2.2.1 hb, Nat.lt_of_lt_of_le HD.out.2.2.2 hb.size⟩); rw [← hW7, ← hb7]; clear hW7 hb7 hb) | (obtain ⟨W7, hW7⟩ : ∃ x, x = W1.alloc (.cells #[.int .i64 0, .int .i64 0, .slice none 0 0, .int .i64 0, .int .i64 0, .slice none 0 0] 28) := ⟨_, rfl⟩; have hb : Below W1.heap.size W1 W7 := hW7 ▸ Go.Joins.below_alloc1 _ _; obtain ⟨b7, hb7⟩ : ∃ b, b = W1.heap.size := ⟨_, rfl⟩; have H7 : Hid (Bx W7 b7 [.int .i64 0, .int .i64 0, .slice none 0 0, .int .i64 0, .int .i64 0, .slice none 0 0] ∧ wr.heap.size < b7) := ⟨hb7 ▸ hW7 ▸ Bx.new W1 [_, _, _, _, _, _] _, by rw [hb7]; exact HD.out.2.2.2⟩; have HO1 := (show Hid (Rw 3 W7 wr.heap.size g1 k1 cl mo ∧ Rw 3 W7 wr.heap.size g2 k2 kn mo ∧ g1 ≠ g2 ∧ wr.heap.size < g1 ∧ wr.heap.size < g2 ∧ g1 ≠ b7 ∧ g2 ≠ b7) from ⟨HO1.out.1.next hb, HO1.out.2.1.next hb, HO1.out.2.2.1, HO1.out.2.2.2.1, HO1.out.2.2.2.2, by have := HO1.out.1.lt.1; omega, by have := HO1.out.2.1.lt.1; omega⟩); have HD := (show Hid (Bx W7 b [.int .i64 sk, .int .i64 nw, .slice p3 m q3, .int .i64 ho, .int .i64 un, .slice p4 m q4] ∧ Bx W7 wr.heap.size [.int .i64 x0, .int .i64 x1, .int .i64 x2] ∧ Below wr.heap.size wr W7 ∧ wr.heap.size < W7.heap.size) from ⟨HD.out.1.next hb, HD.out.2.1.next hb, below_next HD.out.2.2.1 hb, Nat.lt_of_lt_of_le HD.out.2.2.2 hb.size⟩); rw [← hW7, ← hb7]; clear hW7 hb7 hb) | (obtain ⟨W7, hW7⟩ : ∃ x, x = X0.alloc (.cells #[.int .i64 0, .int .i64 0, .slice none 0 0, .int .i64 0, .int .i64 0, .slice none 0 0] 28) := ⟨_, rfl⟩; have hb : Below X0.heap.size X0 W7 := hW7 ▸ Go.Joins.below_alloc1 _ _; obtain ⟨b7, hb7⟩ : ∃ b, b = X0.heap.size := ⟨_, rfl⟩; have H7 : Hid (Bx W7 b7 [.int .i64 0, .int .i64 0, .slice none 0 0, .int .i64 0, .int .i64 0, .slice none 0 0] ∧ wr.heap.size < b7) := ⟨hb7 ▸ hW7 ▸ Bx.new X0 [_, _, _, _, _, _] _, by rw [hb7]; exact HD.out.2.2.2⟩; skip; have HD := (show Hid (Bx W7 b [.int .i64 sk, .int .i64 nw, .slice p3 m q3, .int .i64 ho, .int .i64 un, .slice p4 m q4] ∧ Bx W7 wr.heap.size [.int .i64 x0, .int .i64 x1, .int .i64 x2] ∧ Below wr.heap.size wr W7 ∧ wr.heap.size < W7.heap.size) from ⟨HD.out.1.next hb, HD.out.2.1.next hb, below_next HD.out.2.2.1 hb, Nat.lt_of_lt_of_le HD.out.2.2.2 hb.size⟩); rw [← hW7, ← hb7]; clear hW7 hb7 hb))
          refine hK.out _ _ ⟨HD.out.1, HD.out.2.1⟩ (fun hHeld => ?_)
          clear hK KC
          refine ready_call 8 ⟨none, Op.store 28 (Operand.tmp 14) (Operand.tmp 41), _, _, _, none⟩ (by kernel_rfl) rfl (by kernel_rfl) (fun KC hK => ?_)
          have d0 := H7.out.1.cell 0 rfl
          have d1 := H7.out.1.cell 1 rfl
          have d2 := H7.out.1.cell 2 rfl
          have d3 := H7.out.1.cell 3 rfl
          have d4 := H7.out.1.cell 4 rfl
          have d5 := H7.out.1.cell 5 rfl
          have dz := H7.out.1.2
          have df0 := H7.out.1.frz 0 (by simp)
          have df1 := H7.out.1.frz 1 (by simp)
          have df2 := H7.out.1.frz 2 (by simp)
          have df3 := H7.out.1.frz 3 (by simp)
          have df4 := H7.out.1.frz 4 (by simp)
          have df5 := H7.out.1.frz 5 (by simp)
          have h7 := H7.out.2
          have hbl := HBL.out
          go_wp2_with fail
          have HF := Hid.intro (boxM H7.out.1 HO2.out.1 HO2.out.2.1 HO2.out.2.2.2.2.2.1 HO2.out.2.2.2.2.2.2 HD.out.2.2.1 H7.out.2 (.int .i64 sk') (.int .i64 nw') (.slice (some ⟨g1, 0, none⟩) mo k1) (.int .i64 ho') (.int .i64 un') (.slice (some ⟨g2, 0, none⟩) mo k2))
          have HGE := Hid.intro HO2.out.2.2
          clear d0 df0 d1 df1 d2 df2 d3 df3 d4 df4 d5 df5 dz
          refine hK.out _ _ ⟨HD.out.1.turnS (set6 _ b7 _ _ _ _ _ _) (by omega), HD.out.2.1.turnS (set6 _ b7 _ _ _ _ _ _) (by omega)⟩ (fun hHeld => ?_)
          clear hK KC
          refine take_v (v := ?_) 9 ⟨some 15, Op.assign (Operand.tmp 42), _, _, _, none⟩ rfl (fun _ _ _ h => h) ?_ hHeld ?_
          rotate_left
          · (intro W _; go_simp <;> (try with_reducible rfl))
          refine wpAnyH_done (by kernel_rfl) ?_ _
          refine NoPanic.normal ?_
          (obtain ⟨Y, hY, HFz⟩ := boxM_name HF.out)
          rw [← hY]
          have HF := Hid.intro HFz
          clear hHeld hY HFz H7 HO1 HO2 HD
          have HCz := Hid.intro (HC.out.next HF.out.2.2.2)
          have d0 := HF.out.1.cell 0 rfl
          have d1 := HF.out.1.cell 1 rfl
          have d2 := HF.out.1.cell 2 rfl
          have d3 := HF.out.1.cell 3 rfl
          have d4 := HF.out.1.cell 4 rfl
          have d5 := HF.out.1.cell 5 rfl
          have dz := HF.out.1.2
          have s0 := HCz.out.2.1.cell 0 rfl
          have s1 := HCz.out.2.1.cell 1 rfl
          have s2 := HCz.out.2.1.cell 2 rfl
          have s3 := HCz.out.2.1.cell 3 rfl
          have s4 := HCz.out.2.1.cell 4 rfl
          have s5 := HCz.out.2.1.cell 5 rfl
          have sz := HCz.out.2.1.2
          have sf0 := HCz.out.2.1.frz 0 (by simp)
          have sf1 := HCz.out.2.1.frz 1 (by simp)
          have sf2 := HCz.out.2.1.frz 2 (by simp)
          have sf3 := HCz.out.2.1.frz 3 (by simp)
          have sf4 := HCz.out.2.1.frz 4 (by simp)
          have sf5 := HCz.out.2.1.frz 5 (by simp)
          have hDk : D.length + 1 ≤ maxLen := by have := HDL.out; unfold maxLen; omega
          have hDb : (D.length + 1) * 8 ≤ 140737488355328 := by have := HDL.out; omega
          (obtain ⟨E, hEE⟩ : ∃ E, E = leB sk nw cl ho un kn x0 x1 x2 := ⟨_, rfl⟩)
          rw [← hEE] at HY9 HPD ⊢
          have HEE := Hid.intro hEE.symm
          clear hEE
          have hb7b : b7 ≠ b := by have := HBL.out; omega
          cases E with
          | none =>
            have HPD : Hid (lpF S0 (l.take (k + 1)) = ((sk, nw, cl, ho, un, kn, ()), D ++ [blN (sk, nw, cl, ho, un, kn, ())])) := HPD
            have HGY : Hid (goodL sk nw cl ho un kn) := HG
            have HQ := HCz
            simp only [Option.isSome_none]
            go_wp2_with fail
            clear s0 s1 s2 s3 s4 s5 sz sf0 sf1 sf2 sf3 sf4 sf5 d0 d1 d2 d3 d4 d5 dz
            refine (l11Believers_n sk nw p3 q3 ho un p4 m q4 cl kn Y HGY.out (lies_lel HQ.out.lies)).mono ?_
            rintro r W3 ⟨a9, c9, rfl, _, hb⟩
            have HQ3 := Hid.intro (HQ.out.next hb)
            (obtain ⟨N9, hN9⟩ : ∃ x, x = blv sk cl kn cl.length := ⟨_, rfl⟩)
            rw [← hN9]
            have hN12 : N9.length ≤ 12 := by rw [hN9]; have h1 := blv_len sk cl kn cl.length; have h2 := HGY.out.2.2.2.1; omega
            have HPD2 : Hid (lpF S0 (l.take (k + 1)) = ((sk, nw, cl, ho, un, kn, ()), D ++ [(N9.length : Int)])) := Hid.intro (by rw [HPD.out, hN9]; rfl)
            clear hb hN9 HQ
            have HA := Hid.intro (HQ3.out.next (Go.Joins.below_alloc1 W3 (.cells #[.int .i64 (N9.length : Int)] 3)))
            go_wp2_with (first | (at_builtin; (obtain ⟨Sd9, hOd⟩ := HA.out.row); refine wpList_appx rfl (.tmp 45) (.tmp 49) 26 3 rfl i0 (.int .i64 0) 8 (w.heap.size + 1) .int rfl Try.underlying26 hi0 hz0 hz1 hz2 rfl (by decide) v D [(N9.length : Int)] Sd9 rfl hOd (some ⟨W3.heap.size, 0, none⟩) 1 rfl (lies_one (w := W3) (e := .int) (cs := [.int .i64 (N9.length : Int)]) (x := (N9.length : Int)) 3 rfl rfl) hDk hDb (by have h1 := HA.out.2.2.2.1.size; have h2 := HA.out.1.2; omega) ?_; intro v9 w9 hO9 hg9 hwh9; have H9 := Hid.intro (HA.out.app rfl hO9 hg9 hwh9); clear hO9 hg9 hwh9) | go_in)
            go_roundw
            case rel => exact ⟨k + 1, v9, by omega, by go_num, rfl, by rw [HPD2.out]; exact ⟨_, _, _, _, _, H9.out⟩⟩
            case measure => simp [intOf]; omega
          | some y =>
            have hyE := HY9.out y rfl
            subst hyE
            have HPD : Hid (lpF S0 (l.take (k + 1)) = ((sk', nw', cl', ho', un', kn', ()), D ++ [blN (sk', nw', cl', ho', un', kn', ())])) := HPD
            have HGY : Hid (goodL sk' nw' cl' ho' un' kn') := Hid.intro (leB_good (y := (sk', nw', cl', ho', un', kn', ())) HG.out HEE.out)
            (obtain ⟨Z, hZ⟩ : ∃ x, x = ((((((Y.setCell ⟨b, 0, none⟩ (.int .i64 sk')).setCell ⟨b, 1, none⟩ (.int .i64 nw')).setCell ⟨b, 2, none⟩ (.slice (some ⟨g1, 0, none⟩) mo k1)).setCell ⟨b, 3, none⟩ (.int .i64 ho')).setCell ⟨b, 4, none⟩ (.int .i64 un')).setCell ⟨b, 5, none⟩ (.slice (some ⟨g2, 0, none⟩) mo k2)) := ⟨_, rfl⟩)
            have HQ : Hid (PyS shLeases .int 3 [.int .i64 0, .int .i64 0, .slice none 0 0, .int .i64 0, .int .i64 0, .slice none 0 0] w b Z [.int .i64 sk', .int .i64 nw', .slice (some ⟨g1, 0, none⟩) mo k1, .int .i64 ho', .int .i64 un', .slice (some ⟨g2, 0, none⟩) mo k2] (sk', nw', cl', ho', un', kn', ()) v D) := Hid.intro (HC.out.put HF.out.2.2.2 (rw_own HF.out.2.1 HF.out.2.2.1 HGE.out.1 (Nat.le_of_lt HGE.out.2.1) (Nat.le_of_lt HGE.out.2.2.1)) (fun k hk => hk) (hZ ▸ set6 Y b _ _ _ _ _ _) (hZ ▸ HCz.out.2.1.set6 _ _ _ _ _ _))
            simp only [Option.isSome_some]
            go_wp2_with fail
            rw [← hZ]
            clear hZ s0 s1 s2 s3 s4 s5 sz sf0 sf1 sf2 sf3 sf4 sf5 d0 d1 d2 d3 d4 d5 dz
            refine (l11Believers_n sk' nw' (some ⟨g1, 0, none⟩) k1 ho' un' (some ⟨g2, 0, none⟩) mo k2 cl' kn' Z HGY.out (lies_lel HQ.out.lies)).mono ?_
            rintro r W3 ⟨a9, c9, rfl, _, hb⟩
            have HQ3 := Hid.intro (HQ.out.next hb)
            (obtain ⟨N9, hN9⟩ : ∃ x, x = blv sk' cl' kn' cl'.length := ⟨_, rfl⟩)
            rw [← hN9]
            have hN12 : N9.length ≤ 12 := by rw [hN9]; have h1 := blv_len sk' cl' kn' cl'.length; have h2 := HGY.out.2.2.2.1; omega
            have HPD2 : Hid (lpF S0 (l.take (k + 1)) = ((sk', nw', cl', ho', un', kn', ()), D ++ [(N9.length : Int)])) := Hid.intro (by rw [HPD.out, hN9]; rfl)
            clear hb hN9 HQ
            have HA := Hid.intro (HQ3.out.next (Go.Joins.below_alloc1 W3 (.cells #[.int .i64 (N9.length : Int)] 3)))
            go_wp2_with (first | (at_builtin; (obtain ⟨Sd9, hOd⟩ := HA.out.row); refine wpList_appx rfl (.tmp 45) (.tmp 49) 26 3 rfl i0 (.int .i64 0) 8 (w.heap.size + 1) .int rfl Try.underlying26 hi0 hz0 hz1 hz2 rfl (by decide) v D [(N9.length : Int)] Sd9 rfl hOd (some ⟨W3.heap.size, 0, none⟩) 1 rfl (lies_one (w := W3) (e := .int) (cs := [.int .i64 (N9.length : Int)]) (x := (N9.length : Int)) 3 rfl rfl) hDk hDb (by have h1 := HA.out.2.2.2.1.size; have h2 := HA.out.1.2; omega) ?_; intro v9 w9 hO9 hg9 hwh9; have H9 := Hid.intro (HA.out.app rfl hO9 hg9 hwh9); clear hO9 hg9 hwh9) | go_in)
            go_roundw
            case rel => exact ⟨k + 1, v9, by omega, by go_num, rfl, by rw [HPD2.out]; exact ⟨_, _, _, _, _, H9.out⟩⟩
            case measure => simp [intOf]; omega
        ·
          go_wp2_with fail
          (first | (obtain ⟨W7, hW7⟩ : ∃ x, x = W2.alloc (.cells #[.int .i64 0, .int .i64 0, .slice none 0 0, .int .i64 0, .int .i64 0, .slice none 0 0] 28) := ⟨_, rfl⟩; have hb : Below W2.heap.size W2 W7 := hW7 ▸ Go.Joins.below_alloc1 _ _; obtain ⟨b7, hb7⟩ : ∃ b, b = W2.heap.size := ⟨_, rfl⟩; have H7 : Hid (Bx W7 b7 [.int .i64 0, .int .i64 0, .slice none 0 0, .int .i64 0, .int .i64 0, .slice none 0 0] ∧ wr.heap.size < b7) := ⟨hb7 ▸ hW7 ▸ Bx.new W2 [_, _, _, _, _, _] _, by rw [hb7]; exact HD.out.2.2.2⟩; have HO2 := (show Hid (Rw 3 W7 wr.heap.size g1 k1 cl' mo ∧ Rw 3 W7 wr.heap.size g2 k2 kn' mo ∧ g1 ≠ g2 ∧ wr.heap.size < g1 ∧ wr.heap.size < g2 ∧ g1 ≠ b7 ∧ g2 ≠ b7) from ⟨HO2.out.1.next hb, HO2.out.2.1.next hb, HO2.out.2.2.1, HO2.out.2.2.2.1, HO2.out.2.2.2.2, by have := HO2.out.1.lt.1; omega, by have := HO2.out.2.1.lt.1; omega⟩); have HD := (show Hid (Bx W7 b [.int .i64 sk, .int .i64 nw, .slice p3 m q3, .int .i64 ho, .int .i64 un, .slice p4 m q4] ∧ Bx W7 wr.heap.size [.int .i64 x0, .int .i64 x1, .int .i64 x2] ∧ Below wr.heap.size wr W7 ∧ wr.heap.size < W7.heap.size) from ⟨HD.out.1.next hb, HD.out.2.1.next hb, below_next HD.out.2.2.1 hb, Nat.lt_of_lt_of_le HD.out.2.2.2 hb.size⟩); rw [← hW7, ← hb7]; clear hW7 hb7 hb) | (obtain ⟨W7, hW7⟩ : ∃ x, x = W1.alloc (.cells #[.int .i64 0, .int .i64 0, .slice none 0 0, .int .i64 0, .int .i64 0, .slice none 0 0] 28) := ⟨_, rfl⟩; have hb : Below W1.heap.size W1 W7 := hW7 ▸ Go.Joins.below_alloc1 _ _; obtain ⟨b7, hb7⟩ : ∃ b, b = W1.heap.size := ⟨_, rfl⟩; have H7 : Hid (Bx W7 b7 [.int .i64 0, .int .i64 0, .slice none 0 0, .int .i64 0, .int .i64 0, .slice none 0 0] ∧ wr.heap.size < b7) := ⟨hb7 ▸ hW7 ▸ Bx.new W1 [_, _, _, _, _, _] _, by rw [hb7]; exact HD.out.2.2.2⟩; have HO1 := (show Hid (Rw 3 W7 wr.heap.size g1 k1 cl mo ∧ Rw 3 W7 wr.heap.size g2 k2 kn mo ∧ g1 ≠ g2 ∧ wr.heap.size < g1 ∧ wr.heap.size < g2 ∧ g1 ≠ b7 ∧ g2 ≠ b7) from ⟨HO1.out.1.next hb, HO1.out.2.1.next hb, HO1.out.2.2.1, HO1.out.2.2.2.1, HO1.out.2.2.2.2, by have := HO1.out.1.lt.1; omega, by have := HO1.out.2.1.lt.1; omega⟩); have HD := (show Hid (Bx W7 b [.int .i64 sk, .int .i64 nw, .slice p3 m q3, .int .i64 ho, .int .i64 un, .slice p4 m q4] ∧ Bx W7 wr.heap.size [.int .i64 x0, .int .i64 x1, .int .i64 x2] ∧ Below wr.heap.size wr W7 ∧ wr.heap.size < W7.heap.size) from ⟨HD.out.1.next hb, HD.out.2.1.next hb, below_next HD.out.2.2.1 hb, Nat.lt_of_lt_of_le HD.out.2.2.2 hb.size⟩); rw [← hW7, ← hb7]; clear hW7 hb7 hb) | (obtain ⟨W7, hW7⟩ : ∃ x, x = X0.alloc (.cells #[.int .i64 0, .int .i64 0, .slice none 0 0, .int .i64 0, .int .i64 0, .slice none 0 0] 28) := ⟨_, rfl⟩; have hb : Below X0.heap.size X0 W7 := hW7 ▸ Go.Joins.below_alloc1 _ _; obtain ⟨b7, hb7⟩ : ∃ b, b = X0.heap.size := ⟨_, rfl⟩; have H7 : Hid (Bx W7 b7 [.int .i64 0, .int .i64 0, .slice none 0 0, .int .i64 0, .int .i64 0, .slice none 0 0] ∧ wr.heap.size < b7) := ⟨hb7 ▸ hW7 ▸ Bx.new X0 [_, _, _, _, _, _] _, by rw [hb7]; exact HD.out.2.2.2⟩; skip; have HD := (show Hid (Bx W7 b [.int .i64 sk, .int .i64 nw, .slice p3 m q3, .int .i64 ho, .int .i64 un, .slice p4 m q4] ∧ Bx W7 wr.heap.size [.int .i64 x0, .int .i64 x1, .int .i64 x2] ∧ Below wr.heap.size wr W7 ∧ wr.heap.size < W7.heap.size) from ⟨HD.out.1.next hb, HD.out.2.1.next hb, below_next HD.out.2.2.1 hb, Nat.lt_of_lt_of_le HD.out.2.2.2 hb.size⟩); rw [← hW7, ← hb7]; clear hW7 hb7 hb))
          refine hK.out _ _ ⟨HD.out.1, HD.out.2.1⟩ (fun hHeld => ?_)
          clear hK KC
          refine ready_call 3 ⟨some 40, Op.call { callee := Callee.value (Operand.func 42), args := #[Operand.tmp 38, Operand.tmp 39], argTypes := #[28, 34] }, _, _, _, none⟩ (by kernel_rfl) rfl (by kernel_rfl) (fun KC hK => ?_)
          go_wp2_with fail
          refine (l11Step_n wr.heap.size sk nw g1 k1 cl ho un g2 k2 kn mo x0 x1 x2 _ HG.out HO1.out.1 HO1.out.2.1 HO1.out.2.2.1).mono ?_
          intro r W2 hQ2
          obtain ⟨sk', nw', cl', ho', un', kn', rfl, hT, hr1, hr2, hy⟩ := hQ2
          have HY9 := Hid.intro hy
          have hg1 := HO1.out.2.2.2.1
          have hbl := HBL.out
          (first | (have hg2 := HO1.out.2.2.2.2.1) | (have hg2 := HO1.out.2.2.2.2))
          (first | (have HO2 := (show Hid (Rw 3 W2 wr.heap.size g1 k1 cl' mo ∧ Rw 3 W2 wr.heap.size g2 k2 kn' mo ∧ g1 ≠ g2 ∧ wr.heap.size < g1 ∧ wr.heap.size < g2 ∧ g1 ≠ b7 ∧ g2 ≠ b7) from ⟨hr1, hr2, HO1.out.2.2.1, hg1, hg2, HO1.out.2.2.2.2.2⟩)) | (have HO2 := (show Hid (Rw 3 W2 wr.heap.size g1 k1 cl' mo ∧ Rw 3 W2 wr.heap.size g2 k2 kn' mo ∧ g1 ≠ g2 ∧ wr.heap.size < g1 ∧ wr.heap.size < g2) from ⟨hr1, hr2, HO1.out.2.2.1, hg1, hg2⟩)))
          (first | (have H7 := (show Hid (Bx W2 b7 [.int .i64 0, .int .i64 0, .slice none 0 0, .int .i64 0, .int .i64 0, .slice none 0 0] ∧ wr.heap.size < b7) from ⟨H7.out.1.turnS hT (fun q => by have q : b7 = g1 ∨ b7 = g2 := q; have := HO1.out.2.2.2.2.2; omega), H7.out.2⟩)) | skip)
          have HD := (show Hid (Bx W2 b [.int .i64 sk, .int .i64 nw, .slice p3 m q3, .int .i64 ho, .int .i64 un, .slice p4 m q4] ∧ Bx W2 wr.heap.size [.int .i64 x0, .int .i64 x1, .int .i64 x2] ∧ Below wr.heap.size wr W2 ∧ wr.heap.size < W2.heap.size) from ⟨HD.out.1.turnS hT (fun q => by have q : b = g1 ∨ b = g2 := q; omega), HD.out.2.1.turnS hT (fun q => by have q : wr.heap.size = g1 ∨ wr.heap.size = g2 := q; omega), HD.out.2.2.1.trans (hT.below (fun k q => by have q : k = g1 ∨ k = g2 := q; omega) HD.out.2.2.1.size), Nat.lt_of_lt_of_le HD.out.2.2.2 hT.size⟩)
          clear hT hr1 hr2 hy hg1 hg2 hbl
          refine hK.out _ _ ⟨HD.out.1, HD.out.2.1⟩ (fun hHeld => ?_)
          clear hK KC
          refine take_v (v := ?_) 4 ⟨some 36, Op.move (Operand.tmp 40), _, _, _, none⟩ rfl (fun _ _ _ h => h) ?_ hHeld ?_
          rotate_left
          · (intro W _; go_simp <;> (try with_reducible rfl))
          refine take_v (v := ?_) 5 ⟨some 41, Op.extract (Operand.tmp 36) 0, _, _, _, none⟩ rfl (fun _ _ _ h => h) ?_ hHeld ?_
          rotate_left
          · (intro W _; go_simp <;> (try with_reducible rfl))
          refine take_v (v := ?_) 6 ⟨some 42, Op.extract (Operand.tmp 36) 1, _, _, _, none⟩ rfl (fun _ _ _ h => h) ?_ hHeld ?_
          rotate_left
          · (intro W _; go_simp <;> (try with_reducible rfl))
          refine ready_call 8 ⟨none, Op.store 28 (Operand.tmp 14) (Operand.tmp 41), _, _, _, none⟩ (by kernel_rfl) rfl (by kernel_rfl) (fun KC hK => ?_)
          have d0 := H7.out.1.cell 0 rfl
          have d1 := H7.out.1.cell 1 rfl
          have d2 := H7.out.1.cell 2 rfl
          have d3 := H7.out.1.cell 3 rfl
          have d4 := H7.out.1.cell 4 rfl
          have d5 := H7.out.1.cell 5 rfl
          have dz := H7.out.1.2
          have df0 := H7.out.1.frz 0 (by simp)
          have df1 := H7.out.1.frz 1 (by simp)
          have df2 := H7.out.1.frz 2 (by simp)
          have df3 := H7.out.1.frz 3 (by simp)
          have df4 := H7.out.1.frz 4 (by simp)
          have df5 := H7.out.1.frz 5 (by simp)
          have h7 := H7.out.2
          have hbl := HBL.out
          go_wp2_with fail
          have HF := Hid.intro (boxM H7.out.1 HO2.out.1 HO2.out.2.1 HO2.out.2.2.2.2.2.1 HO2.out.2.2.2.2.2.2 HD.out.2.2.1 H7.out.2 (.int .i64 sk') (.int .i64 nw') (.slice (some ⟨g1, 0, none⟩) mo k1) (.int .i64 ho') (.int .i64 un') (.slice (some ⟨g2, 0, none⟩) mo k2))
          have HGE := Hid.intro HO2.out.2.2
          clear d0 df0 d1 df1 d2 df2 d3 df3 d4 df4 d5 df5 dz
          refine hK.out _ _ ⟨HD.out.1.turnS (set6 _ b7 _ _ _ _ _ _) (by omega), HD.out.2.1.turnS (set6 _ b7 _ _ _ _ _ _) (by omega)⟩ (fun hHeld => ?_)
          clear hK KC
          refine take_v (v := ?_) 9 ⟨some 15, Op.assign (Operand.tmp 42), _, _, _, none⟩ rfl (fun _ _ _ h => h) ?_ hHeld ?_
          rotate_left
          · (intro W _; go_simp <;> (try with_reducible rfl))
          refine wpAnyH_done (by kernel_rfl) ?_ _
          refine NoPanic.normal ?_
          (obtain ⟨Y, hY, HFz⟩ := boxM_name HF.out)
          rw [← hY]
          have HF := Hid.intro HFz
          clear hHeld hY HFz H7 HO1 HO2 HD
          have HCz := Hid.intro (HC.out.next HF.out.2.2.2)
          have d0 := HF.out.1.cell 0 rfl
          have d1 := HF.out.1.cell 1 rfl
          have d2 := HF.out.1.cell 2 rfl
          have d3 := HF.out.1.cell 3 rfl
          have d4 := HF.out.1.cell 4 rfl
          have d5 := HF.out.1.cell 5 rfl
          have dz := HF.out.1.2
          have s0 := HCz.out.2.1.cell 0 rfl
          have s1 := HCz.out.2.1.cell 1 rfl
          have s2 := HCz.out.2.1.cell 2 rfl
          have s3 := HCz.out.2.1.cell 3 rfl
          have s4 := HCz.out.2.1.cell 4 rfl
          have s5 := HCz.out.2.1.cell 5 rfl
          have sz := HCz.out.2.1.2
          have sf0 := HCz.out.2.1.frz 0 (by simp)
          have sf1 := HCz.out.2.1.frz 1 (by simp)
          have sf2 := HCz.out.2.1.frz 2 (by simp)
          have sf3 := HCz.out.2.1.frz 3 (by simp)
          have sf4 := HCz.out.2.1.frz 4 (by simp)
          have sf5 := HCz.out.2.1.frz 5 (by simp)
          have hDk : D.length + 1 ≤ maxLen := by have := HDL.out; unfold maxLen; omega
          have hDb : (D.length + 1) * 8 ≤ 140737488355328 := by have := HDL.out; omega
          (obtain ⟨E, hEE⟩ : ∃ E, E = leB sk nw cl ho un kn x0 x1 x2 := ⟨_, rfl⟩)
          rw [← hEE] at HY9 HPD ⊢
          have HEE := Hid.intro hEE.symm
          clear hEE
          have hb7b : b7 ≠ b := by have := HBL.out; omega
          cases E with
          | none =>
            have HPD : Hid (lpF S0 (l.take (k + 1)) = ((sk, nw, cl, ho, un, kn, ()), D ++ [blN (sk, nw, cl, ho, un, kn, ())])) := HPD
            have HGY : Hid (goodL sk nw cl ho un kn) := HG
            have HQ := HCz
            simp only [Option.isSome_none]
            go_wp2_with fail
            clear s0 s1 s2 s3 s4 s5 sz sf0 sf1 sf2 sf3 sf4 sf5 d0 d1 d2 d3 d4 d5 dz
            refine (l11Believers_n sk nw p3 q3 ho un p4 m q4 cl kn Y HGY.out (lies_lel HQ.out.lies)).mono ?_
            rintro r W3 ⟨a9, c9, rfl, _, hb⟩
            have HQ3 := Hid.intro (HQ.out.next hb)
            (obtain ⟨N9, hN9⟩ : ∃ x, x = blv sk cl kn cl.length := ⟨_, rfl⟩)
            rw [← hN9]
            have hN12 : N9.length ≤ 12 := by rw [hN9]; have h1 := blv_len sk cl kn cl.length; have h2 := HGY.out.2.2.2.1; omega
            have HPD2 : Hid (lpF S0 (l.take (k + 1)) = ((sk, nw, cl, ho, un, kn, ()), D ++ [(N9.length : Int)])) := Hid.intro (by rw [HPD.out, hN9]; rfl)
            clear hb hN9 HQ
            have HA := Hid.intro (HQ3.out.next (Go.Joins.below_alloc1 W3 (.cells #[.int .i64 (N9.length : Int)] 3)))
            go_wp2_with (first | (at_builtin; (obtain ⟨Sd9, hOd⟩ := HA.out.row); refine wpList_appx rfl (.tmp 45) (.tmp 49) 26 3 rfl i0 (.int .i64 0) 8 (w.heap.size + 1) .int rfl Try.underlying26 hi0 hz0 hz1 hz2 rfl (by decide) v D [(N9.length : Int)] Sd9 rfl hOd (some ⟨W3.heap.size, 0, none⟩) 1 rfl (lies_one (w := W3) (e := .int) (cs := [.int .i64 (N9.length : Int)]) (x := (N9.length : Int)) 3 rfl rfl) hDk hDb (by have h1 := HA.out.2.2.2.1.size; have h2 := HA.out.1.2; omega) ?_; intro v9 w9 hO9 hg9 hwh9; have H9 := Hid.intro (HA.out.app rfl hO9 hg9 hwh9); clear hO9 hg9 hwh9) | go_in)
            go_roundw
            case rel => exact ⟨k + 1, v9, by omega, by go_num, rfl, by rw [HPD2.out]; exact ⟨_, _, _, _, _, H9.out⟩⟩
            case measure => simp [intOf]; omega
          | some y =>
            have hyE := HY9.out y rfl
            subst hyE
            have HPD : Hid (lpF S0 (l.take (k + 1)) = ((sk', nw', cl', ho', un', kn', ()), D ++ [blN (sk', nw', cl', ho', un', kn', ())])) := HPD
            have HGY : Hid (goodL sk' nw' cl' ho' un' kn') := Hid.intro (leB_good (y := (sk', nw', cl', ho', un', kn', ())) HG.out HEE.out)
            (obtain ⟨Z, hZ⟩ : ∃ x, x = ((((((Y.setCell ⟨b, 0, none⟩ (.int .i64 sk')).setCell ⟨b, 1, none⟩ (.int .i64 nw')).setCell ⟨b, 2, none⟩ (.slice (some ⟨g1, 0, none⟩) mo k1)).setCell ⟨b, 3, none⟩ (.int .i64 ho')).setCell ⟨b, 4, none⟩ (.int .i64 un')).setCell ⟨b, 5, none⟩ (.slice (some ⟨g2, 0, none⟩) mo k2)) := ⟨_, rfl⟩)
            have HQ : Hid (PyS shLeases .int 3 [.int .i64 0, .int .i64 0, .slice none 0 0, .int .i64 0, .int .i64 0, .slice none 0 0] w b Z [.int .i64 sk', .int .i64 nw', .slice (some ⟨g1, 0, none⟩) mo k1, .int .i64 ho', .int .i64 un', .slice (some ⟨g2, 0, none⟩) mo k2] (sk', nw', cl', ho', un', kn', ()) v D) := Hid.intro (HC.out.put HF.out.2.2.2 (rw_own HF.out.2.1 HF.out.2.2.1 HGE.out.1 (Nat.le_of_lt HGE.out.2.1) (Nat.le_of_lt HGE.out.2.2.1)) (fun k hk => hk) (hZ ▸ set6 Y b _ _ _ _ _ _) (hZ ▸ HCz.out.2.1.set6 _ _ _ _ _ _))
            simp only [Option.isSome_some]
            go_wp2_with fail
            rw [← hZ]
            clear hZ s0 s1 s2 s3 s4 s5 sz sf0 sf1 sf2 sf3 sf4 sf5 d0 d1 d2 d3 d4 d5 dz
            refine (l11Believers_n sk' nw' (some ⟨g1, 0, none⟩) k1 ho' un' (some ⟨g2, 0, none⟩) mo k2 cl' kn' Z HGY.out (lies_lel HQ.out.lies)).mono ?_
            rintro r W3 ⟨a9, c9, rfl, _, hb⟩
            have HQ3 := Hid.intro (HQ.out.next hb)
            (obtain ⟨N9, hN9⟩ : ∃ x, x = blv sk' cl' kn' cl'.length := ⟨_, rfl⟩)
            rw [← hN9]
            have hN12 : N9.length ≤ 12 := by rw [hN9]; have h1 := blv_len sk' cl' kn' cl'.length; have h2 := HGY.out.2.2.2.1; omega
            have HPD2 : Hid (lpF S0 (l.take (k + 1)) = ((sk', nw', cl', ho', un', kn', ()), D ++ [(N9.length : Int)])) := Hid.intro (by rw [HPD.out, hN9]; rfl)
            clear hb hN9 HQ
            have HA := Hid.intro (HQ3.out.next (Go.Joins.below_alloc1 W3 (.cells #[.int .i64 (N9.length : Int)] 3)))
            go_wp2_with (first | (at_builtin; (obtain ⟨Sd9, hOd⟩ := HA.out.row); refine wpList_appx rfl (.tmp 45) (.tmp 49) 26 3 rfl i0 (.int .i64 0) 8 (w.heap.size + 1) .int rfl Try.underlying26 hi0 hz0 hz1 hz2 rfl (by decide) v D [(N9.length : Int)] Sd9 rfl hOd (some ⟨W3.heap.size, 0, none⟩) 1 rfl (lies_one (w := W3) (e := .int) (cs := [.int .i64 (N9.length : Int)]) (x := (N9.length : Int)) 3 rfl rfl) hDk hDb (by have h1 := HA.out.2.2.2.1.size; have h2 := HA.out.1.2; omega) ?_; intro v9 w9 hO9 hg9 hwh9; have H9 := Hid.intro (HA.out.app rfl hO9 hg9 hwh9); clear hO9 hg9 hwh9) | go_in)
            go_roundw
            case rel => exact ⟨k + 1, v9, by omega, by go_num, rfl, by rw [HPD2.out]; exact ⟨_, _, _, _, _, H9.out⟩⟩
            case measure => simp [intOf]; omega
      ·
        go_wp2_with fail
        (first | (obtain ⟨W7, hW7⟩ : ∃ x, x = W2.alloc (.cells #[.int .i64 0, .int .i64 0, .slice none 0 0, .int .i64 0, .int .i64 0, .slice none 0 0] 28) := ⟨_, rfl⟩; have hb : Below W2.heap.size W2 W7 := hW7 ▸ Go.Joins.below_alloc1 _ _; obtain ⟨b7, hb7⟩ : ∃ b, b = W2.heap.size := ⟨_, rfl⟩; have H7 : Hid (Bx W7 b7 [.int .i64 0, .int .i64 0, .slice none 0 0, .int .i64 0, .int .i64 0, .slice none 0 0] ∧ wr.heap.size < b7) := ⟨hb7 ▸ hW7 ▸ Bx.new W2 [_, _, _, _, _, _] _, by rw [hb7]; exact HD.out.2.2.2⟩; have HO2 := (show Hid (Rw 3 W7 wr.heap.size g1 k1 cl' mo ∧ Rw 3 W7 wr.heap.size g2 k2 kn' mo ∧ g1 ≠ g2 ∧ wr.heap.size < g1 ∧ wr.heap.size < g2 ∧ g1 ≠ b7 ∧ g2 ≠ b7) from ⟨HO2.out.1.next hb, HO2.out.2.1.next hb, HO2.out.2.2.1, HO2.out.2.2.2.1, HO2.out.2.2.2.2, by have := HO2.out.1.lt.1; omega, by have := HO2.out.2.1.lt.1; omega⟩); have HD := (show Hid (Bx W7 b [.int .i64 sk, .int .i64 nw, .slice p3 m q3, .int .i64 ho, .int .i64 un, .slice p4 m q4] ∧ Bx W7 wr.heap.size [.int .i64 x0, .int .i64 x1, .int .i64 x2] ∧ Below wr.heap.size wr W7 ∧ wr.heap.size < W7.heap.size) from ⟨HD.out.1.next hb, HD.out.2.1.next hb, below_next HD.out.2.2.1 hb, Nat.lt_of_lt_of_le HD.out.2.2.2 hb.size⟩); rw [← hW7, ← hb7]; clear hW7 hb7 hb) | (obtain ⟨W7, hW7⟩ : ∃ x, x = W1.alloc (.cells #[.int .i64 0, .int .i64 0, .slice none 0 0, .int .i64 0, .int .i64 0, .slice none 0 0] 28) := ⟨_, rfl⟩; have hb : Below W1.heap.size W1 W7 := hW7 ▸ Go.Joins.below_alloc1 _ _; obtain ⟨b7, hb7⟩ : ∃ b, b = W1.heap.size := ⟨_, rfl⟩; have H7 : Hid (Bx W7 b7 [.int .i64 0, .int .i64 0, .slice none 0 0, .int .i64 0, .int .i64 0, .slice none 0 0] ∧ wr.heap.size < b7) := ⟨hb7 ▸ hW7 ▸ Bx.new W1 [_, _, _, _, _, _] _, by rw [hb7]; exact HD.out.2.2.2⟩; have HO1 := (show Hid (Rw 3 W7 wr.heap.size g1 k1 cl mo ∧ Rw 3 W7 wr.heap.size g2 k2 kn mo ∧ g1 ≠ g2 ∧ wr.heap.size < g1 ∧ wr.heap.size < g2 ∧ g1 ≠ b7 ∧ g2 ≠ b7) from ⟨HO1.out.1.next hb, HO1.out.2.1.next hb, HO1.out.2.2.1, HO1.out.2.2.2.1, HO1.out.2.2.2.2, by have := HO1.out.1.lt.1; omega, by have := HO1.out.2.1.lt.1; omega⟩); have HD := (show Hid (Bx W7 b [.int .i64 sk, .int .i64 nw, .slice p3 m q3, .int .i64 ho, .int .i64 un, .slice p4 m q4] ∧ Bx W7 wr.heap.size [.int .i64 x0, .int .i64 x1, .int .i64 x2] ∧ Below wr.heap.size wr W7 ∧ wr.heap.size < W7.heap.size) from ⟨HD.out.1.next hb, HD.out.2.1.next hb, below_next HD.out.2.2.1 hb, Nat.lt_of_lt_of_le HD.out.2.2.2 hb.size⟩); rw [← hW7, ← hb7]; clear hW7 hb7 hb) | (obtain ⟨W7, hW7⟩ : ∃ x, x = X0.alloc (.cells #[.int .i64 0, .int .i64 0, .slice none 0 0, .int .i64 0, .int .i64 0, .slice none 0 0] 28) := ⟨_, rfl⟩; have hb : Below X0.heap.size X0 W7 := hW7 ▸ Go.Joins.below_alloc1 _ _; obtain ⟨b7, hb7⟩ : ∃ b, b = X0.heap.size := ⟨_, rfl⟩; have H7 : Hid (Bx W7 b7 [.int .i64 0, .int .i64 0, .slice none 0 0, .int .i64 0, .int .i64 0, .slice none 0 0] ∧ wr.heap.size < b7) := ⟨hb7 ▸ hW7 ▸ Bx.new X0 [_, _, _, _, _, _] _, by rw [hb7]; exact HD.out.2.2.2⟩; skip; have HD := (show Hid (Bx W7 b [.int .i64 sk, .int .i64 nw, .slice p3 m q3, .int .i64 ho, .int .i64 un, .slice p4 m q4] ∧ Bx W7 wr.heap.size [.int .i64 x0, .int .i64 x1, .int .i64 x2] ∧ Below wr.heap.size wr W7 ∧ wr.heap.size < W7.heap.size) from ⟨HD.out.1.next hb, HD.out.2.1.next hb, below_next HD.out.2.2.1 hb, Nat.lt_of_lt_of_le HD.out.2.2.2 hb.size⟩); rw [← hW7, ← hb7]; clear hW7 hb7 hb))
        refine hK.out _ _ ⟨HD.out.1, HD.out.2.1⟩ (fun hHeld => ?_)
        clear hK KC
        refine ready_call 1 ⟨some 38, Op.call { callee := Callee.value (Operand.func 43), args := #[Operand.tmp 37], argTypes := #[28] }, _, _, _, none⟩ (by kernel_rfl) rfl (by kernel_rfl) (fun KC hK => ?_)
        go_wp2_with fail
        refine (l11Own_n [.int .i64 sk, .int .i64 nw, .slice p3 m q3, .int .i64 ho, .int .i64 un, .slice p4 m q4] sk nw cl ho un kn _ HZ.out (HC.out.lies.next HD.out.2.2.1)).mono ?_
        intro r W1 hT1
        obtain ⟨g1, k1, g2, k2, mo, rfl, hr1, hr2, hne, hb, hm12⟩ := toX_rows HG.out hT1
        have hz1 := HD.out.2.2.2
        have hy1 := hr1.lt.2
        have hy2 := hr2.lt.2
        have hl1 := HD.out.2.2.1.size
        (first | (have HO1 := (show Hid (Rw 3 W1 wr.heap.size g1 k1 cl mo ∧ Rw 3 W1 wr.heap.size g2 k2 kn mo ∧ g1 ≠ g2 ∧ wr.heap.size < g1 ∧ wr.heap.size < g2 ∧ g1 ≠ b7 ∧ g2 ≠ b7) from ⟨hr1.lower hl1, hr2.lower hl1, hne, by omega, by omega, by have := H7.out.1.2; omega, by have := H7.out.1.2; omega⟩)) | (have HO1 := (show Hid (Rw 3 W1 wr.heap.size g1 k1 cl mo ∧ Rw 3 W1 wr.heap.size g2 k2 kn mo ∧ g1 ≠ g2 ∧ wr.heap.size < g1 ∧ wr.heap.size < g2) from ⟨hr1.lower hl1, hr2.lower hl1, hne, by omega, by omega⟩)))
        have HD := (show Hid (Bx W1 b [.int .i64 sk, .int .i64 nw, .slice p3 m q3, .int .i64 ho, .int .i64 un, .slice p4 m q4] ∧ Bx W1 wr.heap.size [.int .i64 x0, .int .i64 x1, .int .i64 x2] ∧ Below wr.heap.size wr W1 ∧ wr.heap.size < W1.heap.size) from ⟨HD.out.1.next hb, HD.out.2.1.next hb, below_next HD.out.2.2.1 hb, Nat.lt_of_lt_of_le HD.out.2.2.2 hb.size⟩)
        (first | (have H7 := (show Hid (Bx W1 b7 [.int .i64 0, .int .i64 0, .slice none 0 0, .int .i64 0, .int .i64 0, .slice none 0 0] ∧ wr.heap.size < b7) from ⟨H7.out.1.next hb, H7.out.2⟩)) | skip)
        clear hb hr1 hr2 hT1 hz1 hy1 hy2 hl1 hne hm12
        refine hK.out _ _ ⟨HD.out.1, HD.out.2.1⟩ (fun hHeld => ?_)
        clear hK KC
        refine ready_call 3 ⟨some 40, Op.call { callee := Callee.value (Operand.func 42), args := #[Operand.tmp 38, Operand.tmp 39], argTypes := #[28, 34] }, _, _, _, none⟩ (by kernel_rfl) rfl (by kernel_rfl) (fun KC hK => ?_)
        go_wp2_with fail
        refine (l11Step_n wr.heap.size sk nw g1 k1 cl ho un g2 k2 kn mo x0 x1 x2 _ HG.out HO1.out.1 HO1.out.2.1 HO1.out.2.2.1).mono ?_
        intro r W2 hQ2
        obtain ⟨sk', nw', cl', ho', un', kn', rfl, hT, hr1, hr2, hy⟩ := hQ2
        have HY9 := Hid.intro hy
        have hg1 := HO1.out.2.2.2.1
        have hbl := HBL.out
        (first | (have hg2 := HO1.out.2.2.2.2.1) | (have hg2 := HO1.out.2.2.2.2))
        (first | (have HO2 := (show Hid (Rw 3 W2 wr.heap.size g1 k1 cl' mo ∧ Rw 3 W2 wr.heap.size g2 k2 kn' mo ∧ g1 ≠ g2 ∧ wr.heap.size < g1 ∧ wr.heap.size < g2 ∧ g1 ≠ b7 ∧ g2 ≠ b7) from ⟨hr1, hr2, HO1.out.2.2.1, hg1, hg2, HO1.out.2.2.2.2.2⟩)) | (have HO2 := (show Hid (Rw 3 W2 wr.heap.size g1 k1 cl' mo ∧ Rw 3 W2 wr.heap.size g2 k2 kn' mo ∧ g1 ≠ g2 ∧ wr.heap.size < g1 ∧ wr.heap.size < g2) from ⟨hr1, hr2, HO1.out.2.2.1, hg1, hg2⟩)))
        (first | (have H7 := (show Hid (Bx W2 b7 [.int .i64 0, .int .i64 0, .slice none 0 0, .int .i64 0, .int .i64 0, .slice none 0 0] ∧ wr.heap.size < b7) from ⟨H7.out.1.turnS hT (fun q => by have q : b7 = g1 ∨ b7 = g2 := q; have := HO1.out.2.2.2.2.2; omega), H7.out.2⟩)) | skip)
        have HD := (show Hid (Bx W2 b [.int .i64 sk, .int .i64 nw, .slice p3 m q3, .int .i64 ho, .int .i64 un, .slice p4 m q4] ∧ Bx W2 wr.heap.size [.int .i64 x0, .int .i64 x1, .int .i64 x2] ∧ Below wr.heap.size wr W2 ∧ wr.heap.size < W2.heap.size) from ⟨HD.out.1.turnS hT (fun q => by have q : b = g1 ∨ b = g2 := q; omega), HD.out.2.1.turnS hT (fun q => by have q : wr.heap.size = g1 ∨ wr.heap.size = g2 := q; omega), HD.out.2.2.1.trans (hT.below (fun k q => by have q : k = g1 ∨ k = g2 := q; omega) HD.out.2.2.1.size), Nat.lt_of_lt_of_le HD.out.2.2.2 hT.size⟩)
        clear hT hr1 hr2 hy hg1 hg2 hbl
        refine hK.out _ _ ⟨HD.out.1, HD.out.2.1⟩ (fun hHeld => ?_)
        clear hK KC
        refine take_v (v := ?_) 4 ⟨some 36, Op.move (Operand.tmp 40), _, _, _, none⟩ rfl (fun _ _ _ h => h) ?_ hHeld ?_
        rotate_left
        · (intro W _; go_simp <;> (try with_reducible rfl))
        refine take_v (v := ?_) 5 ⟨some 41, Op.extract (Operand.tmp 36) 0, _, _, _, none⟩ rfl (fun _ _ _ h => h) ?_ hHeld ?_
        rotate_left
        · (intro W _; go_simp <;> (try with_reducible rfl))
        refine take_v (v := ?_) 6 ⟨some 42, Op.extract (Operand.tmp 36) 1, _, _, _, none⟩ rfl (fun _ _ _ h => h) ?_ hHeld ?_
        rotate_left
        · (intro W _; go_simp <;> (try with_reducible rfl))
        refine ready_call 8 ⟨none, Op.store 28 (Operand.tmp 14) (Operand.tmp 41), _, _, _, none⟩ (by kernel_rfl) rfl (by kernel_rfl) (fun KC hK => ?_)
        have d0 := H7.out.1.cell 0 rfl
        have d1 := H7.out.1.cell 1 rfl
        have d2 := H7.out.1.cell 2 rfl
        have d3 := H7.out.1.cell 3 rfl
        have d4 := H7.out.1.cell 4 rfl
        have d5 := H7.out.1.cell 5 rfl
        have dz := H7.out.1.2
        have df0 := H7.out.1.frz 0 (by simp)
        have df1 := H7.out.1.frz 1 (by simp)
        have df2 := H7.out.1.frz 2 (by simp)
        have df3 := H7.out.1.frz 3 (by simp)
        have df4 := H7.out.1.frz 4 (by simp)
        have df5 := H7.out.1.frz 5 (by simp)
        have h7 := H7.out.2
        have hbl := HBL.out
        go_wp2_with fail
        have HF := Hid.intro (boxM H7.out.1 HO2.out.1 HO2.out.2.1 HO2.out.2.2.2.2.2.1 HO2.out.2.2.2.2.2.2 HD.out.2.2.1 H7.out.2 (.int .i64 sk') (.int .i64 nw') (.slice (some ⟨g1, 0, none⟩) mo k1) (.int .i64 ho') (.int .i64 un') (.slice (some ⟨g2, 0, none⟩) mo k2))
        have HGE := Hid.intro HO2.out.2.2
        clear d0 df0 d1 df1 d2 df2 d3 df3 d4 df4 d5 df5 dz
        refine hK.out _ _ ⟨HD.out.1.turnS (set6 _ b7 _ _ _ _ _ _) (by omega), HD.out.2.1.turnS (set6 _ b7 _ _ _ _ _ _) (by omega)⟩ (fun hHeld => ?_)
        clear hK KC
        refine take_v (v := ?_) 9 ⟨some 15, Op.assign (Operand.tmp 42), _, _, _, none⟩ rfl (fun _ _ _ h => h) ?_ hHeld ?_
        rotate_left
        · (intro W _; go_simp <;> (try with_reducible rfl))
        refine wpAnyH_done (by kernel_rfl) ?_ _
        refine NoPanic.normal ?_
        (obtain ⟨Y, hY, HFz⟩ := boxM_name HF.out)
        rw [← hY]
        have HF := Hid.intro HFz
        clear hHeld hY HFz H7 HO1 HO2 HD
        have HCz := Hid.intro (HC.out.next HF.out.2.2.2)
        have d0 := HF.out.1.cell 0 rfl
        have d1 := HF.out.1.cell 1 rfl
        have d2 := HF.out.1.cell 2 rfl
        have d3 := HF.out.1.cell 3 rfl
        have d4 := HF.out.1.cell 4 rfl
        have d5 := HF.out.1.cell 5 rfl
        have dz := HF.out.1.2
        have s0 := HCz.out.2.1.cell 0 rfl
        have s1 := HCz.out.2.1.cell 1 rfl
        have s2 := HCz.out.2.1.cell 2 rfl
        have s3 := HCz.out.2.1.cell 3 rfl
        have s4 := HCz.out.2.1.cell 4 rfl
        have s5 := HCz.out.2.1.cell 5 rfl
        have sz := HCz.out.2.1.2
        have sf0 := HCz.out.2.1.frz 0 (by simp)
        have sf1 := HCz.out.2.1.frz 1 (by simp)
        have sf2 := HCz.out.2.1.frz 2 (by simp)
        have sf3 := HCz.out.2.1.frz 3 (by simp)
        have sf4 := HCz.out.2.1.frz 4 (by simp)
        have sf5 := HCz.out.2.1.frz 5 (by simp)
        have hDk : D.length + 1 ≤ maxLen := by have := HDL.out; unfold maxLen; omega
        have hDb : (D.length + 1) * 8 ≤ 140737488355328 := by have := HDL.out; omega
        (obtain ⟨E, hEE⟩ : ∃ E, E = leB sk nw cl ho un kn x0 x1 x2 := ⟨_, rfl⟩)
        rw [← hEE] at HY9 HPD ⊢
        have HEE := Hid.intro hEE.symm
        clear hEE
        have hb7b : b7 ≠ b := by have := HBL.out; omega
        cases E with
        | none =>
          have HPD : Hid (lpF S0 (l.take (k + 1)) = ((sk, nw, cl, ho, un, kn, ()), D ++ [blN (sk, nw, cl, ho, un, kn, ())])) := HPD
          have HGY : Hid (goodL sk nw cl ho un kn) := HG
          have HQ := HCz
          simp only [Option.isSome_none]
          go_wp2_with fail
          clear s0 s1 s2 s3 s4 s5 sz sf0 sf1 sf2 sf3 sf4 sf5 d0 d1 d2 d3 d4 d5 dz
          refine (l11Believers_n sk nw p3 q3 ho un p4 m q4 cl kn Y HGY.out (lies_lel HQ.out.lies)).mono ?_
          rintro r W3 ⟨a9, c9, rfl, _, hb⟩
          have HQ3 := Hid.intro (HQ.out.next hb)
          (obtain ⟨N9, hN9⟩ : ∃ x, x = blv sk cl kn cl.length := ⟨_, rfl⟩)
          rw [← hN9]
          have hN12 : N9.length ≤ 12 := by rw [hN9]; have h1 := blv_len sk cl kn cl.length; have h2 := HGY.out.2.2.2.1; omega
          have HPD2 : Hid (lpF S0 (l.take (k + 1)) = ((sk, nw, cl, ho, un, kn, ()), D ++ [(N9.length : Int)])) := Hid.intro (by rw [HPD.out, hN9]; rfl)
          clear hb hN9 HQ
          have HA := Hid.intro (HQ3.out.next (Go.Joins.below_alloc1 W3 (.cells #[.int .i64 (N9.length : Int)] 3)))
          go_wp2_with (first | (at_builtin; (obtain ⟨Sd9, hOd⟩ := HA.out.row); refine wpList_appx rfl (.tmp 45) (.tmp 49) 26 3 rfl i0 (.int .i64 0) 8 (w.heap.size + 1) .int rfl Try.underlying26 hi0 hz0 hz1 hz2 rfl (by decide) v D [(N9.length : Int)] Sd9 rfl hOd (some ⟨W3.heap.size, 0, none⟩) 1 rfl (lies_one (w := W3) (e := .int) (cs := [.int .i64 (N9.length : Int)]) (x := (N9.length : Int)) 3 rfl rfl) hDk hDb (by have h1 := HA.out.2.2.2.1.size; have h2 := HA.out.1.2; omega) ?_; intro v9 w9 hO9 hg9 hwh9; have H9 := Hid.intro (HA.out.app rfl hO9 hg9 hwh9); clear hO9 hg9 hwh9) | go_in)
          go_roundw
          case rel => exact ⟨k + 1, v9, by omega, by go_num, rfl, by rw [HPD2.out]; exact ⟨_, _, _, _, _, H9.out⟩⟩
          case measure => simp [intOf]; omega
        | some y =>
          have hyE := HY9.out y rfl
          subst hyE
          have HPD : Hid (lpF S0 (l.take (k + 1)) = ((sk', nw', cl', ho', un', kn', ()), D ++ [blN (sk', nw', cl', ho', un', kn', ())])) := HPD
          have HGY : Hid (goodL sk' nw' cl' ho' un' kn') := Hid.intro (leB_good (y := (sk', nw', cl', ho', un', kn', ())) HG.out HEE.out)
          (obtain ⟨Z, hZ⟩ : ∃ x, x = ((((((Y.setCell ⟨b, 0, none⟩ (.int .i64 sk')).setCell ⟨b, 1, none⟩ (.int .i64 nw')).setCell ⟨b, 2, none⟩ (.slice (some ⟨g1, 0, none⟩) mo k1)).setCell ⟨b, 3, none⟩ (.int .i64 ho')).setCell ⟨b, 4, none⟩ (.int .i64 un')).setCell ⟨b, 5, none⟩ (.slice (some ⟨g2, 0, none⟩) mo k2)) := ⟨_, rfl⟩)
          have HQ : Hid (PyS shLeases .int 3 [.int .i64 0, .int .i64 0, .slice none 0 0, .int .i64 0, .int .i64 0, .slice none 0 0] w b Z [.int .i64 sk', .int .i64 nw', .slice (some ⟨g1, 0, none⟩) mo k1, .int .i64 ho', .int .i64 un', .slice (some ⟨g2, 0, none⟩) mo k2] (sk', nw', cl', ho', un', kn', ()) v D) := Hid.intro (HC.out.put HF.out.2.2.2 (rw_own HF.out.2.1 HF.out.2.2.1 HGE.out.1 (Nat.le_of_lt HGE.out.2.1) (Nat.le_of_lt HGE.out.2.2.1)) (fun k hk => hk) (hZ ▸ set6 Y b _ _ _ _ _ _) (hZ ▸ HCz.out.2.1.set6 _ _ _ _ _ _))
          simp only [Option.isSome_some]
          go_wp2_with fail
          rw [← hZ]
          clear hZ s0 s1 s2 s3 s4 s5 sz sf0 sf1 sf2 sf3 sf4 sf5 d0 d1 d2 d3 d4 d5 dz
          refine (l11Believers_n sk' nw' (some ⟨g1, 0, none⟩) k1 ho' un' (some ⟨g2, 0, none⟩) mo k2 cl' kn' Z HGY.out (lies_lel HQ.out.lies)).mono ?_
          rintro r W3 ⟨a9, c9, rfl, _, hb⟩
          have HQ3 := Hid.intro (HQ.out.next hb)
          (obtain ⟨N9, hN9⟩ : ∃ x, x = blv sk' cl' kn' cl'.length := ⟨_, rfl⟩)
          rw [← hN9]
          have hN12 : N9.length ≤ 12 := by rw [hN9]; have h1 := blv_len sk' cl' kn' cl'.length; have h2 := HGY.out.2.2.2.1; omega
          have HPD2 : Hid (lpF S0 (l.take (k + 1)) = ((sk', nw', cl', ho', un', kn', ()), D ++ [(N9.length : Int)])) := Hid.intro (by rw [HPD.out, hN9]; rfl)
          clear hb hN9 HQ
          have HA := Hid.intro (HQ3.out.next (Go.Joins.below_alloc1 W3 (.cells #[.int .i64 (N9.length : Int)] 3)))
          go_wp2_with (first | (at_builtin; (obtain ⟨Sd9, hOd⟩ := HA.out.row); refine wpList_appx rfl (.tmp 45) (.tmp 49) 26 3 rfl i0 (.int .i64 0) 8 (w.heap.size + 1) .int rfl Try.underlying26 hi0 hz0 hz1 hz2 rfl (by decide) v D [(N9.length : Int)] Sd9 rfl hOd (some ⟨W3.heap.size, 0, none⟩) 1 rfl (lies_one (w := W3) (e := .int) (cs := [.int .i64 (N9.length : Int)]) (x := (N9.length : Int)) 3 rfl rfl) hDk hDb (by have h1 := HA.out.2.2.2.1.size; have h2 := HA.out.1.2; omega) ?_; intro v9 w9 hO9 hg9 hwh9; have H9 := Hid.intro (HA.out.app rfl hO9 hg9 hwh9); clear hO9 hg9 hwh9) | go_in)
          go_roundw
          case rel => exact ⟨k + 1, v9, by omega, by go_num, rfl, by rw [HPD2.out]; exact ⟨_, _, _, _, _, H9.out⟩⟩
          case measure => simp [intOf]; omega
    · have hkn : k = l.length := by omega
      have hC2 : LqS w b wr (lpF S0 l).1 v (lpF S0 l).2 := by
        have := hC
        rw [hkn, List.take_length] at this
        exact this
      have HG2 : Hid (goodX (lpF S0 l).1) := Hid.intro (by have := HG.out; rw [hkn, List.take_length] at this; exact this)
      clear hC HG HDL hkn
      generalize lpF S0 l = F at hC2 HY HG2
      obtain ⟨⟨sk, nw, cl, ho, un, kn, ⟨⟩⟩, D⟩ := F
      obtain ⟨p3, q3, p4, q4, m, hC2⟩ := hC2
      have HC : Hid (PyS shLeases .int 3 [.int .i64 0, .int .i64 0, .slice none 0 0, .int .i64 0, .int .i64 0, .slice none 0 0] w b wr [.int .i64 sk, .int .i64 nw, .slice p3 m q3, .int .i64 ho, .int .i64 un, .slice p4 m q4] (sk, nw, cl, ho, un, kn, ()) v D) := hC2
      have HG : Hid (goodL sk nw cl ho un kn) := HG2
      have HZ : Hid (szD shLeases (sk, nw, cl, ho, un, kn, ()) ≤ 1073741824) := Hid.intro (Nat.le_trans (good_szL (y := (sk, nw, cl, ho, un, kn, ())) HG.out) (by decide))
      clear hC2 HG2
      have s0 := HC.out.2.1.cell 0 rfl
      have s1 := HC.out.2.1.cell 1 rfl
      have s2 := HC.out.2.1.cell 2 rfl
      have s3 := HC.out.2.1.cell 3 rfl
      have s4 := HC.out.2.1.cell 4 rfl
      have s5 := HC.out.2.1.cell 5 rfl
      have sz := HC.out.2.1.2
      go_wp2_with fail
      refine (l11Own_n [.int .i64 sk, .int .i64 nw, .slice p3 m q3, .int .i64 ho, .int .i64 un, .slice p4 m q4] sk nw cl ho un kn _ HZ.out HC.out.lies).mono ?_
      intro r W1 hT1
      obtain ⟨g1, k1, g2, k2, mo, rfl, hr1, hr2, hne, hb, hm12⟩ := toX_rows HG.out hT1
      have HC2 := Hid.intro (HC.out.next hb)
      have HP : Hid (LpX mm sk0 l w (.returned (.tuple #[.agg #[.int .i64 sk, .int .i64 nw, .slice (some ⟨g1, 0, none⟩) mo k1, .int .i64 ho, .int .i64 un, .slice (some ⟨g2, 0, none⟩) mo k2], v, .bool true])) ((((((W1.setCell ⟨w.heap.size, 0, none⟩ (.int .i64 sk)).setCell ⟨w.heap.size, 1, none⟩ (.int .i64 nw)).setCell ⟨w.heap.size, 2, none⟩ (.slice (some ⟨g1, 0, none⟩) mo k1)).setCell ⟨w.heap.size, 3, none⟩ (.int .i64 ho)).setCell ⟨w.heap.size, 4, none⟩ (.int .i64 un)).setCell ⟨w.heap.size, 5, none⟩ (.slice (some ⟨g2, 0, none⟩) mo k2))) := Hid.intro (by
        have hlo := HC.out.2.2.2.1.size
        have hlz := HC.out.1.2
        refine ⟨?_, [.int .i64 sk, .int .i64 nw, .slice (some ⟨g1, 0, none⟩) mo k1, .int .i64 ho, .int .i64 un, .slice (some ⟨g2, 0, none⟩) mo k2], v, _, by rw [HY.out.2], by
          rw [HY.out.1]
          exact rw_ownx ((hr1.lower hlo).turn (set6 W1 w.heap.size _ _ _ _ _ _) (fun e => by have e : g1 = w.heap.size := e; have := hr1.lt.2; omega)) ((hr2.lower hlo).turn (set6 W1 w.heap.size _ _ _ _ _ _) (fun e => by have e : g2 = w.heap.size := e; have := hr2.lt.2; omega)) hne⟩
        unfold LpR; rw [HY.out.1, HY.out.2]; exact HC.out.done2 hb (rw_own hr1 hr2 hne hr1.lt.2 hr2.lt.2) (fun k hk => hk) (set6 W1 w.heap.size _ _ _ _ _ _))
      clear hT1 hr1 hr2 hne hb hm12 s0 s1 s2 s3 s4 s5 sz
      have r0 := HC2.out.1.cell 0 rfl
      have r1 := HC2.out.1.cell 1 rfl
      have r2 := HC2.out.1.cell 2 rfl
      have r3 := HC2.out.1.cell 3 rfl
      have r4 := HC2.out.1.cell 4 rfl
      have r5 := HC2.out.1.cell 5 rfl
      have rz := HC2.out.1.2
      have rf0 := HC2.out.1.frz 0 (by simp)
      have rf1 := HC2.out.1.frz 1 (by simp)
      have rf2 := HC2.out.1.frz 2 (by simp)
      have rf3 := HC2.out.1.frz 3 (by simp)
      have rf4 := HC2.out.1.frz 4 (by simp)
      have rf5 := HC2.out.1.frz 5 (by simp)
      go_wp2_with fail
      exact bodyPost_ret (v := .tuple #[.agg #[.int .i64 sk, .int .i64 nw, .slice (some ⟨g1, 0, none⟩) mo k1, .int .i64 ho, .int .i64 un, .slice (some ⟨g2, 0, none⟩) mo k2], v, .bool true]) (by simp [results, Try.results12, go_sem, *]) rfl HP.out
theorem specPlayLeases_n (mm sk0 : Int) (a2 : Option Addr) (c2 : Nat) (l : List (Sh.T shLeaseStep)) (w : World) (hn : l.length ≤ 1073741824) (h2 : Lies w (.list shLeaseStep) [.slice a2 l.length c2] l) :
    Calls Try.prog 12 #[.int .i64 mm, .int .i64 sk0, .slice a2 l.length c2] w (LpR mm sk0 l w) := (specPlayLeases_x mm sk0 a2 c2 l w hn h2).mono (fun r w' h => h.1)
end Go.Proofs.Ytidalpgkljafdaa
