/- Fences: spec.GoodFence. Written by tools/mkFeS.py. -/
import Derived.Test.YtcbdlalpnlahcaaFeA
namespace Go.Proofs.Ytcbdlalpnlahcaa
open Go.RowKit
set_option linter.unusedVariables false
set_option linter.unusedSimpArgs false

theorem mem_cell {w : World} {g o n cap : Nat} {ms : List (Sh.T shMember)} (h : Lies w (.list shMember) [.slice (some ⟨g, o, none⟩) n cap] ms) {j : Nat} (hj : j < ms.length) : w.cell? ⟨g, o + j * 4, none⟩ = some (.int .i64 (mid ms[j])) ∧ g < w.heap.size := by
  obtain ⟨g', o', e, hg, ec, hl, hc, hle⟩ := Lies.elem h hj
  simp only [Option.some.injEq, Addr.mk.injEq, and_true] at e
  obtain ⟨rfl, rfl⟩ := e
  obtain ⟨x0, x1, x2, x3, hm⟩ : ∃ (x0 x1 : Int) (x2 : List (Sh.T .int)) (x3 : Int), ms[j] = (x0, x1, x2, x3, ()) := ⟨_, _, _, _, rfl⟩
  rw [hm] at hle ⊢
  obtain ⟨a1, k1, rfl, _⟩ := lies_Member hle
  have := hc 0 (by simp)
  exact ⟨this, hg⟩
/-- The one ahead is less. -/
def prevP (ms : List (Sh.T shMember)) (k : Nat) (x : Int) : Prop := ∀ h : k - 1 < ms.length, 0 < k → mid ms[k - 1] < x
theorem mems_step {ep du : Int} {ms : List (Sh.T shMember)} {k : Nat} {x0 x1 : Int} {x2 : List (Sh.T .int)} {x3 : Int} (h : memsP ep du ms k) (hk : k < ms.length) (hx : ms[k] = (x0, x1, x2, x3, ())) (hm : (0 ≤ x0 ∧ x0 ≤ 99) ∧ (du + 1 ≤ x1 ∧ x1 ≤ ep) ∧ x2.length ≤ 20 ∧ (du ≤ x3 ∧ x3 ≤ ep - 1) ∧ runP x3 x1 x2 x2.length ∧ x3 < x1) (hp : prevP ms k x0) : memsP ep du ms (k + 1) := by
  intro i hi hik
  by_cases e : i = k
  · subst e
    rw [hx]
    exact ⟨hm, fun h0 => hp (by omega) h0⟩
  · exact h i hi (by omega)
theorem run_step {ac ep : Int} {l : List (Sh.T .int)} {k : Nat} (h : runP ac ep l k) (h1 : ac + 1 ≤ atI l k ∧ atI l k ≤ ep) (h2 : 0 < k → atI l (k - 1) ≤ atI l k) : runP ac ep l (k + 1) := by
  intro j hj
  by_cases e : j = k
  · subst e; exact ⟨h1, h2⟩
  · exact h j (by omega)

set_option maxRecDepth 100000 in
set_option maxHeartbeats 16000000 in
theorem specGoodFence_n (cs : List Value) (ep du : Int) (ms : List (Sh.T shMember)) (en : List (Sh.T .int)) (w : World) (hz : szD shFence (ep, du, ms, en, ()) ≤ 1073741824) (h : Lies w shFence cs (ep, du, ms, en, ())) :
    Calls Try.prog 17 #[.agg cs.toArray] w fun r w' => r = .returned (.bool (tf (goodF ep du ms en))) ∧ Below w.heap.size w w' := by
  obtain ⟨a1, k1, a2, k2, rfl, h1, h2⟩ := lies_Fence h
  have HL : Hid (FeL w a1 k1 a2 k2 ms en) := ⟨h1, h2⟩
  have HZ : Hid (szD shFence (ep, du, ms, en, ()) ≤ 1073741824) := hz
  have hzm := (fe_sizes hz).1
  have hze := (fe_sizes hz).2.1
  have hzs := (fe_sizes hz).2.2
  clear h h1 h2 hz
  obtain ⟨w0, hw0⟩ : ∃ x, x = (w.alloc (.cells #[.int .i64 ep, .int .i64 du, .slice a1 ms.length k1, .slice a2 en.length k2] 29)) := ⟨_, rfl⟩
  have HB0 : Hid (Bx w0 w.heap.size [.int .i64 ep, .int .i64 du, .slice a1 ms.length k1, .slice a2 en.length k2] ∧ Below w.heap.size w w0) := ⟨hw0 ▸ Bx.new w [_, _, _, _] _, hw0 ▸ Go.Joins.below_alloc1 _ _⟩
  have s0 := HB0.out.1.cell 0 rfl
  have s1 := HB0.out.1.cell 1 rfl
  have s2 := HB0.out.1.cell 2 rfl
  have s3 := HB0.out.1.cell 3 rfl
  have sz := HB0.out.1.2
  obtain ⟨q, hq⟩ : ∃ q : Nat, q = en.length + runN ms ms.length := ⟨_, rfl⟩
  have hq30 : q ≤ 1073741824 := by omega
  have HQ := Hid.intro hq
  go_enter Try.func17, Try.ntmps17
  go_upto_region 1 with fail
  rw [← hw0]
  clear hw0
  cases c0 : inR ep 1 1000
  · have HN : Hid (¬ goodF ep du ms en) := Hid.intro (fun q => by rw [inR_iff.2 q.1] at c0; cases c0)
    clear hq
    go_wp2_with (go_at_call 46; refine (l1In_any _ _ _ _).mono ?_; rintro e w' ⟨rfl, hw⟩; have hw := hw.symm; subst hw; (first | rw [c0] | rw [c1] | rw [c2]))
    go_ret
    exact ⟨goodF_no HN.out, HB0.out.2⟩
  have hb0 := inR_iff.1 c0
  obtain ⟨hep1, hep2⟩ := hb0
  cases c1 : inR du 0 (ep - 1)
  · have HN : Hid (¬ goodF ep du ms en) := Hid.intro (fun q => by rw [inR_iff.2 q.2.1] at c1; cases c1)
    clear hq
    go_wp2_with (go_at_call 46; refine (l1In_any _ _ _ _).mono ?_; rintro e w' ⟨rfl, hw⟩; have hw := hw.symm; subst hw; (first | rw [c0] | rw [c1] | rw [c2]))
    go_ret
    exact ⟨goodF_no HN.out, HB0.out.2⟩
  have hb1 := inR_iff.1 c1
  obtain ⟨hdu1, hdu2⟩ := hb1
  cases c2 : inR (ms.length : Int) 1 8
  · have HN : Hid (¬ goodF ep du ms en) := Hid.intro (fun q => by rw [inR_iff.2 q.2.2.1] at c2; cases c2)
    clear hq
    go_wp2_with (go_at_call 46; refine (l1In_any _ _ _ _).mono ?_; rintro e w' ⟨rfl, hw⟩; have hw := hw.symm; subst hw; (first | rw [c0] | rw [c1] | rw [c2]))
    go_ret
    exact ⟨goodF_no HN.out, HB0.out.2⟩
  have hb2 := inR_iff.1 c2
  by_cases c3 : (200 : Int) < (q : Int)
  · have HN : Hid (¬ goodF ep du ms en) := Hid.intro (fun g => by have h1 := g.2.2.2.1; have h2 := HQ.out; omega)
    go_wp2_with (first | (go_at_call 46; refine (l1In_any _ _ _ _).mono ?_; rintro e w' ⟨rfl, hw⟩; have hw := hw.symm; subst hw; (first | rw [c0] | rw [c1] | rw [c2])) | (go_at_call 47; refine (l12Running_n [.int .i64 ep, .int .i64 du, .slice a1 ms.length k1, .slice a2 en.length k2] ep du ms en _ HZ.out (mk_Fence (HL.out.next HB0.out.2).1 (HL.out.next HB0.out.2).2)).mono ?_; rintro r w1 ⟨rfl, hb⟩; have HB1 : Hid (Bx w1 w.heap.size [.int .i64 ep, .int .i64 du, .slice a1 ms.length k1, .slice a2 en.length k2] ∧ Below w.heap.size w w1) := ⟨HB0.out.1.next hb, below_next HB0.out.2 hb⟩; rw [← hq]; clear hb s0 s1 s2 s3 sz; have s0 := HB1.out.1.cell 0 rfl; have s1 := HB1.out.1.cell 1 rfl; have s2 := HB1.out.1.cell 2 rfl; have s3 := HB1.out.1.cell 3 rfl; have sz := HB1.out.1.2))
    go_ret
    exact ⟨goodF_no HN.out, HB1.out.2⟩
  have c3' : (q : Int) ≤ 200 := by omega
  have HR : Hid ((1 ≤ ep ∧ ep ≤ 1000) ∧ (0 ≤ du ∧ du ≤ ep - 1) ∧ (1 ≤ (ms.length : Int) ∧ (ms.length : Int) ≤ 8) ∧ en.length + runN ms ms.length ≤ 200) := Hid.intro ⟨⟨hep1, hep2⟩, ⟨hdu1, hdu2⟩, hb2, by have := HQ.out; omega⟩
  have HBAD : Hid (∀ k (h : k < ms.length), ¬ (memP ep du ms[k] ∧ prevP ms k (mid ms[k])) → ¬ goodF ep du ms en) := Hid.intro (fun k h e q => e ⟨(q.2.2.2.2.1 k h h).1, fun _ h0 => (q.2.2.2.2.1 k h h).2 h0⟩)
  go_wp2_with (first | (go_at_call 46; refine (l1In_any _ _ _ _).mono ?_; rintro e w' ⟨rfl, hw⟩; have hw := hw.symm; subst hw; (first | rw [c0] | rw [c1] | rw [c2])) | (go_at_call 47; refine (l12Running_n [.int .i64 ep, .int .i64 du, .slice a1 ms.length k1, .slice a2 en.length k2] ep du ms en _ HZ.out (mk_Fence (HL.out.next HB0.out.2).1 (HL.out.next HB0.out.2).2)).mono ?_; rintro r w1 ⟨rfl, hb⟩; have HB1 : Hid (Bx w1 w.heap.size [.int .i64 ep, .int .i64 du, .slice a1 ms.length k1, .slice a2 en.length k2] ∧ Below w.heap.size w w1) := ⟨HB0.out.1.next hb, below_next HB0.out.2 hb⟩; rw [← hq]; clear hb s0 s1 s2 s3 sz; have s0 := HB1.out.1.cell 0 rfl; have s1 := HB1.out.1.cell 1 rfl; have s2 := HB1.out.1.cell 2 rfl; have s3 := HB1.out.1.cell 3 rfl; have sz := HB1.out.1.2))
  clear hq c0 c1 c2 HB0 s0 s1 s2 s3 sz
  go_loopw [37] (fun i wr => ∃ k : Nat, k ≤ ms.length ∧ i = .int .i64 k ∧ memsP ep du ms k ∧ Bx wr w.heap.size [.int .i64 ep, .int .i64 du, .slice a1 ms.length k1, .slice a2 en.length k2] ∧ Below w.heap.size w wr) (fun i _ => ms.length - (intOf i).toNat)
  case atStart => exact ⟨0, Nat.zero_le _, rfl, fun i _ hi => absurd hi (by omega), HB1.out⟩
  case round =>
    obtain ⟨kk, hk, rfl, hall, hbx, hBr⟩ := hrel
    clear HB1
    have HA := Hid.intro hall
    have HB := Hid.intro (And.intro hbx hBr)
    clear hall hbx hBr
    have s0 := HB.out.1.cell 0 rfl
    have s1 := HB.out.1.cell 1 rfl
    have s2 := HB.out.1.cell 2 rfl
    have s3 := HB.out.1.cell 3 rfl
    have sz := HB.out.1.2
    by_cases hlt : kk < ms.length
    case neg =>
      have hke : kk = ms.length := by omega
      have hkn : ¬ (kk : Int) < (ms.length : Int) := by omega
      have HMS : Hid (memsP ep du ms ms.length) := Hid.intro (by have := HA.out; rw [hke] at this; exact this)
      clear hke
      go_wp2
      clear s0 s1 s2 s3 sz
      obtain ⟨wo, hwo⟩ : ∃ x, x = wr := ⟨_, rfl⟩
      subst hwo
      go_loopw [130] (fun i wr2 => ∃ j : Nat, j ≤ en.length ∧ i = .int .i64 j ∧ endP ep en j ∧ wr2 = wo) (fun i _ => en.length - (intOf i).toNat)
      case atStart => exact ⟨0, Nat.zero_le _, rfl, fun j hj => absurd hj (by omega), rfl⟩
      case round =>
        obtain ⟨j, hj, rfl, hend, hwr⟩ := hrel
        subst hwr
        have HED := Hid.intro hend
        clear hend
        have s0 := HB.out.1.cell 0 rfl
        have s1 := HB.out.1.cell 1 rfl
        have s2 := HB.out.1.cell 2 rfl
        have s3 := HB.out.1.cell 3 rfl
        have sz := HB.out.1.2
        by_cases hjl : j < en.length
        case neg =>
          have hjn : ¬ (j : Int) < (en.length : Int) := by omega
          have HG : Hid (goodF ep du ms en) := Hid.intro ⟨HR.out.1, HR.out.2.1, HR.out.2.2.1, HR.out.2.2.2, HMS.out, by have := HED.out; rw [show j = en.length by omega] at this; exact this⟩
          go_wp2
          go_ret
          exact ⟨goodF_yes HG.out, HB.out.2⟩
        have hjl' : (j : Int) < (en.length : Int) := by omega
        obtain ⟨gr, org, hgr, cr, hgz⟩ := lies_at (HL.out.2.next HB.out.2) hjl
        obtain ⟨e, he⟩ : ∃ y, y = atI en j := ⟨_, rfl⟩
        rw [← he] at cr
        have HEQ := Hid.intro he
        clear he
        subst hgr
        cases c9 : inR e 1 ep
        · have HN : Hid (¬ goodF ep du ms en) := Hid.intro (fun q => by have h1 := q.2.2.2.2.2 j hjl; rw [← HEQ.out] at h1; rw [inR_iff.2 h1] at c9; cases c9)
          have HC9 : Hid (inR e 1 ep = false) := c9
          clear c9
          go_wp2_with (go_at_call 46; refine (HC9.out ▸ l1In_any e 1 ep _).mono ?_; rintro r w' ⟨rfl, hw'⟩; have hw' := hw'.symm; subst hw')
          go_ret
          exact ⟨goodF_no HN.out, HB.out.2⟩
        · have HED2 : Hid (endP ep en (j + 1)) := Hid.intro (fun i hi => by
            by_cases q : i = j
            · subst q; rw [← HEQ.out]; exact inR_iff.1 c9
            · exact HED.out i (by omega))
          have HC9 : Hid (inR e 1 ep = true) := c9
          clear c9
          go_wp2_with (go_at_call 46; refine (HC9.out ▸ l1In_any e 1 ep _).mono ?_; rintro r w' ⟨rfl, hw'⟩; have hw' := hw'.symm; subst hw')
          go_roundw
          case rel => exact ⟨j + 1, by omega, by go_num, HED2.out, trivial⟩
          case measure => simp [intOf]; omega
    have hlt' : (kk : Int) < (ms.length : Int) := by omega
    have HLE : Hid (Lies wr (.list shMember) [.slice a1 ms.length k1] ms) := HL.out.1.next HB.out.2
    obtain ⟨yg, yoff, ygo, ygs, yec, yel, yhec, yle⟩ := Lies.elem (HLE.out) hlt
    subst ygo
    rcases yX : ms[kk] with ⟨y0, y1, y2, y3, ⟨⟩⟩
    rw [yX] at yle
    have yH : Hid (ms[kk] = (y0, y1, y2, y3, ())) := yX
    clear yX
    obtain ⟨ya1, yk1, yev, yq1⟩ := lies_Member yle
    subst yev
    have yc0 : wr.cell? ⟨yg, yoff + kk * 4, none⟩ = some (.int .i64 y0) := yhec 0 (by simp)
    have yc1 : wr.cell? ⟨yg, yoff + kk * 4 + 1, none⟩ = some (.int .i64 y1) := yhec 1 (by simp)
    have yc2 : wr.cell? ⟨yg, yoff + kk * 4 + 2, none⟩ = some (.slice ya1 y2.length yk1) := yhec 2 (by simp)
    have yc3 : wr.cell? ⟨yg, yoff + kk * 4 + 3, none⟩ = some (.int .i64 y3) := yhec 3 (by simp)
    clear yhec yel yle
    obtain ⟨x0, rfl⟩ : ∃ x : Int, x = y0 := ⟨y0, rfl⟩
    obtain ⟨x1, rfl⟩ : ∃ x : Int, x = y1 := ⟨y1, rfl⟩
    obtain ⟨x2, rfl⟩ : ∃ x : List (Sh.T .int), x = y2 := ⟨y2, rfl⟩
    obtain ⟨x3, rfl⟩ : ∃ x : Int, x = y3 := ⟨y3, rfl⟩
    have HRL : Hid (Lies wr (.list .int) [.slice ya1 x2.length yk1] x2) := yq1
    obtain ⟨W1, hW1⟩ : ∃ x, x = wr.alloc (.cells #[.int .i64 x0, .int .i64 x1, .slice ya1 x2.length yk1, .int .i64 x3] 37) := ⟨_, rfl⟩
    obtain ⟨b4, hb4E⟩ : ∃ y, y = wr.heap.size := ⟨_, rfl⟩
    have hbW : Below wr.heap.size wr W1.drew := below_next (hW1 ▸ Go.Joins.below_alloc1 _ _ : Below wr.heap.size wr W1) (below_drew _)
    have HX0 : Hid (Bx W1.drew w.heap.size [.int .i64 ep, .int .i64 du, .slice (some ⟨yg, yoff, none⟩) ms.length k1, .slice a2 en.length k2] ∧ Bx W1.drew b4 [.int .i64 x0, .int .i64 x1, .slice ya1 x2.length yk1, .int .i64 x3] ∧ Below w.heap.size w W1.drew ∧ Lies W1.drew (.list shMember) [.slice (some ⟨yg, yoff, none⟩) ms.length k1] ms ∧ Lies W1.drew (.list .int) [.slice ya1 x2.length yk1] x2) := ⟨HB.out.1.next hbW, hb4E ▸ (hW1 ▸ Bx.new wr [_, _, _, _] _ : Bx W1 _ _).next (below_drew _), below_next HB.out.2 hbW, HLE.out.next hbW, HRL.out.next hbW⟩
    clear yq1 hbW HRL
    go_upto_region 6 with fail
    rw [← hW1, ← hb4E]
    clear hb4E s0 s1 s2 s3 sz yc0 yc1 yc2 yc3
    obtain ⟨X0, hX0⟩ : ∃ x, x = W1.drew := ⟨_, rfl⟩
    rw [← hX0] at HX0
    have HRL := Hid.intro HX0.out.2.2.2.2
    cases c4 : inR x0 0 99
    case false =>
      have HI : Hid (inR x0 0 99 = false) := c4
      have HX : Hid (Bx X0 w.heap.size [.int .i64 ep, .int .i64 du, .slice (some ⟨yg, yoff, none⟩) ms.length k1, .slice a2 en.length k2] ∧ Bx X0 b4 [.int .i64 x0, .int .i64 x1, .slice ya1 x2.length yk1, .int .i64 x3] ∧ Below w.heap.size w X0 ∧ True) := ⟨HX0.out.1, HX0.out.2.1, HX0.out.2.2.1, trivial⟩
      have HN : Hid (¬ goodF ep du ms en) := Hid.intro (HBAD.out kk hlt (fun q => by have h1 := q.1.1; rw [yH.out] at h1; rw [inR_iff.2 (show 0 ≤ x0 ∧ x0 ≤ 99 from h1)] at c4; cases c4))
      clear c4
      refine wp_region_noPanic ?_
      refine wp_region_held_drew (S := fun W => Bx W w.heap.size [.int .i64 ep, .int .i64 du, .slice (some ⟨yg, yoff, none⟩) ms.length k1, .slice a2 en.length k2] ∧ Bx W b4 [.int .i64 x0, .int .i64 x1, .slice ya1 x2.length yk1, .int .i64 x3]) (by kernel_rfl) (hX0 ▸ ⟨HX.out.1, HX.out.2.1⟩) (fun hHeld => ?_)
      rw [← hX0] at hHeld ⊢
      clear hX0
      refine take_v (v := ?_) 0 ⟨some 42, Op.fieldAddr 37 (Operand.tmp 4) 0, _, _, _, none⟩ rfl (fun _ _ _ h => h) ?_ hHeld ?_
      rotate_left
      · (intro W _; go_simp <;> (try with_reducible rfl))
      refine take_v (v := ?_) 1 ⟨some 43, Op.load 3 (Operand.tmp 42), _, _, _, none⟩ rfl (fun _ _ _ h => h) ?_ hHeld ?_
      rotate_left
      · (intro W hSW; (have s0 := hSW.1.cell 0 rfl; have s1 := hSW.1.cell 1 rfl; have s2 := hSW.1.cell 2 rfl; have s3 := hSW.1.cell 3 rfl; have sz := hSW.1.2; have m0 := hSW.2.cell 0 rfl; have m1 := hSW.2.cell 1 rfl; have m2 := hSW.2.cell 2 rfl; have m3 := hSW.2.cell 3 rfl; have mz := hSW.2.2); go_simp <;> (try with_reducible rfl))
      refine ready_call 2 ⟨some 44, Op.call { callee := Callee.value (Operand.func 46), args := #[Operand.tmp 43, Operand.const (Value.int IntKind.i64 0), Operand.const (Value.int IntKind.i64 99)], argTypes := #[3, 3, 3] }, _, _, _, none⟩ (by kernel_rfl) rfl (by kernel_rfl) (fun KC hK => ?_)
      go_wp2_with fail
      refine (HI.out ▸ l1In_any x0 0 99 _).mono ?_
      rintro r w' ⟨rfl, hw'⟩
      have hw' := hw'.symm
      subst hw'
      refine hK.out _ _ hHeld (fun hHeld => ?_)
      clear hK KC
      refine take_v (v := ?_) 3 ⟨some 45, Op.unOp UnOp.not 4 (Operand.tmp 44), _, _, _, none⟩ rfl (fun _ _ _ h => h) ?_ hHeld ?_
      rotate_left
      · (intro W _; go_simp <;> (try with_reducible rfl))
      refine take_v (v := ?_) 4 ⟨some 46, Op.move (Operand.tmp 45), _, _, _, none⟩ rfl (fun _ _ _ h => h) ?_ hHeld ?_
      rotate_left
      · (intro W _; go_simp <;> (try with_reducible rfl))
      refine take_n 5 ⟨some 47, Op.move (Operand.tmp 3), _, _, _, some (4, false)⟩ rfl (fun _ _ _ h => h) hHeld ?_
      refine take_n 6 ⟨some 48, Op.binOp BinOp.gtr 3 (Operand.tmp 47) (Operand.const (Value.int IntKind.i64 0)) 3, _, _, _, some (4, false)⟩ rfl (fun _ _ _ h => h) hHeld ?_
      refine take_n 7 ⟨some 49, Op.move (Operand.tmp 48), _, _, _, some (4, false)⟩ rfl (fun _ _ _ h => h) hHeld ?_
      refine take_n 8 ⟨some 50, Op.fieldAddr 29 (Operand.tmp 1) 2, _, _, _, some (7, true)⟩ rfl (fun _ _ _ h => h) hHeld ?_
      refine take_n 9 ⟨some 51, Op.load 26 (Operand.tmp 50), _, _, _, some (7, true)⟩ rfl (fun _ _ _ h => h) hHeld ?_
      refine take_n 10 ⟨some 52, Op.move (Operand.tmp 3), _, _, _, some (7, true)⟩ rfl (fun _ _ _ h => h) hHeld ?_
      refine take_n 11 ⟨some 53, Op.binOp BinOp.sub 3 (Operand.tmp 52) (Operand.const (Value.int IntKind.i64 1)) 3, _, _, _, some (7, true)⟩ rfl (fun _ _ _ h => h) hHeld ?_
      refine take_n 12 ⟨some 54, Op.indexAddr 26 (Operand.tmp 51) (Operand.tmp 53), _, _, _, some (7, true)⟩ rfl (fun _ _ _ h => h) hHeld ?_
      refine take_n 13 ⟨some 55, Op.fieldAddr 37 (Operand.tmp 54) 0, _, _, _, some (7, true)⟩ rfl (fun _ _ _ h => h) hHeld ?_
      refine take_n 14 ⟨some 56, Op.load 3 (Operand.tmp 55), _, _, _, some (7, true)⟩ rfl (fun _ _ _ h => h) hHeld ?_
      refine take_n 15 ⟨some 57, Op.fieldAddr 37 (Operand.tmp 4) 0, _, _, _, some (7, true)⟩ rfl (fun _ _ _ h => h) hHeld ?_
      refine take_n 16 ⟨some 58, Op.load 3 (Operand.tmp 57), _, _, _, some (7, true)⟩ rfl (fun _ _ _ h => h) hHeld ?_
      refine take_n 17 ⟨some 59, Op.binOp BinOp.geq 3 (Operand.tmp 56) (Operand.tmp 58) 3, _, _, _, some (7, true)⟩ rfl (fun _ _ _ h => h) hHeld ?_
      refine take_n 18 ⟨some 60, Op.pick (Operand.tmp 49) (Operand.tmp 59) (Operand.const (Value.bool false)), _, _, _, some (4, false)⟩ rfl (fun _ _ _ h => h) hHeld ?_
      refine take_v (v := ?_) 19 ⟨some 61, Op.pick (Operand.tmp 46) (Operand.const (Value.bool true)) (Operand.tmp 60), _, _, _, none⟩ rfl (fun _ _ _ h => h) ?_ hHeld ?_
      rotate_left
      · (intro W _; go_simp <;> (try with_reducible rfl))
      refine take_v (v := ?_) 20 ⟨some 62, Op.move (Operand.tmp 61), _, _, _, none⟩ rfl (fun _ _ _ h => h) ?_ hHeld ?_
      rotate_left
      · (intro W _; go_simp <;> (try with_reducible rfl))
      refine take_n 21 ⟨some 63, Op.fieldAddr 37 (Operand.tmp 4) 1, _, _, _, some (20, false)⟩ rfl (fun _ _ _ h => h) hHeld ?_
      refine take_n 22 ⟨some 64, Op.load 3 (Operand.tmp 63), _, _, _, some (20, false)⟩ rfl (fun _ _ _ h => h) hHeld ?_
      refine take_n 23 ⟨some 65, Op.fieldAddr 29 (Operand.tmp 1) 1, _, _, _, some (20, false)⟩ rfl (fun _ _ _ h => h) hHeld ?_
      refine take_n 24 ⟨some 66, Op.load 3 (Operand.tmp 65), _, _, _, some (20, false)⟩ rfl (fun _ _ _ h => h) hHeld ?_
      refine take_n 25 ⟨some 67, Op.binOp BinOp.add 3 (Operand.tmp 66) (Operand.const (Value.int IntKind.i64 1)) 3, _, _, _, some (20, false)⟩ rfl (fun _ _ _ h => h) hHeld ?_
      refine take_n 26 ⟨some 68, Op.fieldAddr 29 (Operand.tmp 1) 0, _, _, _, some (20, false)⟩ rfl (fun _ _ _ h => h) hHeld ?_
      refine take_n 27 ⟨some 69, Op.load 3 (Operand.tmp 68), _, _, _, some (20, false)⟩ rfl (fun _ _ _ h => h) hHeld ?_
      refine take_n 28 ⟨some 70, Op.call { callee := Callee.value (Operand.func 46), args := #[Operand.tmp 64, Operand.tmp 67, Operand.tmp 69], argTypes := #[3, 3, 3] }, _, _, _, some (20, false)⟩ rfl (fun _ _ _ h => h) hHeld ?_
      refine take_n 29 ⟨some 71, Op.unOp UnOp.not 4 (Operand.tmp 70), _, _, _, some (20, false)⟩ rfl (fun _ _ _ h => h) hHeld ?_
      refine take_v (v := ?_) 30 ⟨some 72, Op.pick (Operand.tmp 62) (Operand.const (Value.bool true)) (Operand.tmp 71), _, _, _, none⟩ rfl (fun _ _ _ h => h) ?_ hHeld ?_
      rotate_left
      · (intro W _; go_simp <;> (try with_reducible rfl))
      refine take_v (v := ?_) 31 ⟨some 73, Op.move (Operand.tmp 72), _, _, _, none⟩ rfl (fun _ _ _ h => h) ?_ hHeld ?_
      rotate_left
      · (intro W _; go_simp <;> (try with_reducible rfl))
      refine take_n 32 ⟨some 74, Op.fieldAddr 37 (Operand.tmp 4) 2, _, _, _, some (31, false)⟩ rfl (fun _ _ _ h => h) hHeld ?_
      refine take_n 33 ⟨some 75, Op.load 27 (Operand.tmp 74), _, _, _, some (31, false)⟩ rfl (fun _ _ _ h => h) hHeld ?_
      refine take_n 34 ⟨some 76, Op.call { callee := Callee.builtin Builtin.len, args := #[Operand.tmp 75], argTypes := #[27] }, _, _, _, some (31, false)⟩ rfl (fun _ _ _ h => h) hHeld ?_
      refine take_n 35 ⟨some 77, Op.binOp BinOp.gtr 3 (Operand.tmp 76) (Operand.const (Value.int IntKind.i64 20)) 3, _, _, _, some (31, false)⟩ rfl (fun _ _ _ h => h) hHeld ?_
      refine take_v (v := ?_) 36 ⟨some 78, Op.pick (Operand.tmp 73) (Operand.const (Value.bool true)) (Operand.tmp 77), _, _, _, none⟩ rfl (fun _ _ _ h => h) ?_ hHeld ?_
      rotate_left
      · (intro W _; go_simp <;> (try with_reducible rfl))
      refine take_v (v := ?_) 37 ⟨some 79, Op.move (Operand.tmp 78), _, _, _, none⟩ rfl (fun _ _ _ h => h) ?_ hHeld ?_
      rotate_left
      · (intro W _; go_simp <;> (try with_reducible rfl))
      refine take_n 38 ⟨some 80, Op.fieldAddr 37 (Operand.tmp 4) 3, _, _, _, some (37, false)⟩ rfl (fun _ _ _ h => h) hHeld ?_
      refine take_n 39 ⟨some 81, Op.load 3 (Operand.tmp 80), _, _, _, some (37, false)⟩ rfl (fun _ _ _ h => h) hHeld ?_
      refine take_n 40 ⟨some 82, Op.fieldAddr 29 (Operand.tmp 1) 1, _, _, _, some (37, false)⟩ rfl (fun _ _ _ h => h) hHeld ?_
      refine take_n 41 ⟨some 83, Op.load 3 (Operand.tmp 82), _, _, _, some (37, false)⟩ rfl (fun _ _ _ h => h) hHeld ?_
      refine take_n 42 ⟨some 84, Op.fieldAddr 29 (Operand.tmp 1) 0, _, _, _, some (37, false)⟩ rfl (fun _ _ _ h => h) hHeld ?_
      refine take_n 43 ⟨some 85, Op.load 3 (Operand.tmp 84), _, _, _, some (37, false)⟩ rfl (fun _ _ _ h => h) hHeld ?_
      refine take_n 44 ⟨some 86, Op.binOp BinOp.sub 3 (Operand.tmp 85) (Operand.const (Value.int IntKind.i64 1)) 3, _, _, _, some (37, false)⟩ rfl (fun _ _ _ h => h) hHeld ?_
      refine take_n 45 ⟨some 87, Op.call { callee := Callee.value (Operand.func 46), args := #[Operand.tmp 81, Operand.tmp 83, Operand.tmp 86], argTypes := #[3, 3, 3] }, _, _, _, some (37, false)⟩ rfl (fun _ _ _ h => h) hHeld ?_
      refine take_n 46 ⟨some 88, Op.unOp UnOp.not 4 (Operand.tmp 87), _, _, _, some (37, false)⟩ rfl (fun _ _ _ h => h) hHeld ?_
      refine take_v (v := ?_) 47 ⟨some 89, Op.pick (Operand.tmp 79) (Operand.const (Value.bool true)) (Operand.tmp 88), _, _, _, none⟩ rfl (fun _ _ _ h => h) ?_ hHeld ?_
      rotate_left
      · (intro W _; go_simp <;> (try with_reducible rfl))
      refine wpAnyH_done (by kernel_rfl) ?_ _
      refine NoPanic.normal ?_
      clear hHeld
      go_wp2
      go_ret
      exact ⟨goodF_no HN.out, HX.out.2.2.1⟩
    have HI : Hid (inR x0 0 99 = true) := c4
    have hb4 := inR_iff.1 c4
    clear c4
    by_cases hk0 : kk = 0
    case pos =>
      have HX : Hid (Bx X0 w.heap.size [.int .i64 ep, .int .i64 du, .slice (some ⟨yg, yoff, none⟩) ms.length k1, .slice a2 en.length k2] ∧ Bx X0 b4 [.int .i64 x0, .int .i64 x1, .slice ya1 x2.length yk1, .int .i64 x3] ∧ Below w.heap.size w X0 ∧ True) := ⟨HX0.out.1, HX0.out.2.1, HX0.out.2.2.1, trivial⟩
      have HPV : Hid (prevP ms kk x0) := Hid.intro (fun _ h0 => absurd h0 (by omega))
      clear HX0
      subst hk0
      cases c5 : inR x1 (du + 1) ep
      case false =>
        have HE : Hid (inR x1 (du + 1) ep = false) := c5
        have HN : Hid (¬ goodF ep du ms en) := Hid.intro (HBAD.out 0 hlt (fun q => by have h1 := q.1.2.1; rw [yH.out] at h1; rw [inR_iff.2 (show du + 1 ≤ x1 ∧ x1 ≤ ep from h1)] at c5; cases c5))
        clear c5
        refine wp_region_noPanic ?_
        refine wp_region_held_drew (S := fun W => Bx W w.heap.size [.int .i64 ep, .int .i64 du, .slice (some ⟨yg, yoff, none⟩) ms.length k1, .slice a2 en.length k2] ∧ Bx W b4 [.int .i64 x0, .int .i64 x1, .slice ya1 x2.length yk1, .int .i64 x3]) (by kernel_rfl) (hX0 ▸ ⟨HX.out.1, HX.out.2.1⟩) (fun hHeld => ?_)
        rw [← hX0] at hHeld ⊢
        clear hX0
        refine take_v (v := ?_) 0 ⟨some 42, Op.fieldAddr 37 (Operand.tmp 4) 0, _, _, _, none⟩ rfl (fun _ _ _ h => h) ?_ hHeld ?_
        rotate_left
        · (intro W _; go_simp <;> (try with_reducible rfl))
        refine take_v (v := ?_) 1 ⟨some 43, Op.load 3 (Operand.tmp 42), _, _, _, none⟩ rfl (fun _ _ _ h => h) ?_ hHeld ?_
        rotate_left
        · (intro W hSW; (have s0 := hSW.1.cell 0 rfl; have s1 := hSW.1.cell 1 rfl; have s2 := hSW.1.cell 2 rfl; have s3 := hSW.1.cell 3 rfl; have sz := hSW.1.2; have m0 := hSW.2.cell 0 rfl; have m1 := hSW.2.cell 1 rfl; have m2 := hSW.2.cell 2 rfl; have m3 := hSW.2.cell 3 rfl; have mz := hSW.2.2); go_simp <;> (try with_reducible rfl))
        refine ready_call 2 ⟨some 44, Op.call { callee := Callee.value (Operand.func 46), args := #[Operand.tmp 43, Operand.const (Value.int IntKind.i64 0), Operand.const (Value.int IntKind.i64 99)], argTypes := #[3, 3, 3] }, _, _, _, none⟩ (by kernel_rfl) rfl (by kernel_rfl) (fun KC hK => ?_)
        go_wp2_with fail
        refine (HI.out ▸ l1In_any x0 0 99 _).mono ?_
        rintro r w' ⟨rfl, hw'⟩
        have hw' := hw'.symm
        subst hw'
        refine hK.out _ _ hHeld (fun hHeld => ?_)
        clear hK KC
        refine take_v (v := ?_) 3 ⟨some 45, Op.unOp UnOp.not 4 (Operand.tmp 44), _, _, _, none⟩ rfl (fun _ _ _ h => h) ?_ hHeld ?_
        rotate_left
        · (intro W _; go_simp <;> (try with_reducible rfl))
        refine take_v (v := ?_) 4 ⟨some 46, Op.move (Operand.tmp 45), _, _, _, none⟩ rfl (fun _ _ _ h => h) ?_ hHeld ?_
        rotate_left
        · (intro W _; go_simp <;> (try with_reducible rfl))
        refine take_v (v := ?_) 5 ⟨some 47, Op.move (Operand.tmp 3), _, _, _, some (4, false)⟩ rfl (fun _ _ _ h => h) ?_ hHeld ?_
        rotate_left
        · (intro W _; go_simp <;> (try with_reducible rfl))
        refine take_v (v := ?_) 6 ⟨some 48, Op.binOp BinOp.gtr 3 (Operand.tmp 47) (Operand.const (Value.int IntKind.i64 0)) 3, _, _, _, some (4, false)⟩ rfl (fun _ _ _ h => h) ?_ hHeld ?_
        rotate_left
        · (intro W _; go_simp <;> (try with_reducible rfl))
        refine take_v (v := ?_) 7 ⟨some 49, Op.move (Operand.tmp 48), _, _, _, some (4, false)⟩ rfl (fun _ _ _ h => h) ?_ hHeld ?_
        rotate_left
        · (intro W _; go_simp <;> (try with_reducible rfl))
        refine take_n 8 ⟨some 50, Op.fieldAddr 29 (Operand.tmp 1) 2, _, _, _, some (7, true)⟩ rfl (fun _ _ _ h => h) hHeld ?_
        refine take_n 9 ⟨some 51, Op.load 26 (Operand.tmp 50), _, _, _, some (7, true)⟩ rfl (fun _ _ _ h => h) hHeld ?_
        refine take_n 10 ⟨some 52, Op.move (Operand.tmp 3), _, _, _, some (7, true)⟩ rfl (fun _ _ _ h => h) hHeld ?_
        refine take_n 11 ⟨some 53, Op.binOp BinOp.sub 3 (Operand.tmp 52) (Operand.const (Value.int IntKind.i64 1)) 3, _, _, _, some (7, true)⟩ rfl (fun _ _ _ h => h) hHeld ?_
        refine take_n 12 ⟨some 54, Op.indexAddr 26 (Operand.tmp 51) (Operand.tmp 53), _, _, _, some (7, true)⟩ rfl (fun _ _ _ h => h) hHeld ?_
        refine take_n 13 ⟨some 55, Op.fieldAddr 37 (Operand.tmp 54) 0, _, _, _, some (7, true)⟩ rfl (fun _ _ _ h => h) hHeld ?_
        refine take_n 14 ⟨some 56, Op.load 3 (Operand.tmp 55), _, _, _, some (7, true)⟩ rfl (fun _ _ _ h => h) hHeld ?_
        refine take_n 15 ⟨some 57, Op.fieldAddr 37 (Operand.tmp 4) 0, _, _, _, some (7, true)⟩ rfl (fun _ _ _ h => h) hHeld ?_
        refine take_n 16 ⟨some 58, Op.load 3 (Operand.tmp 57), _, _, _, some (7, true)⟩ rfl (fun _ _ _ h => h) hHeld ?_
        refine take_n 17 ⟨some 59, Op.binOp BinOp.geq 3 (Operand.tmp 56) (Operand.tmp 58) 3, _, _, _, some (7, true)⟩ rfl (fun _ _ _ h => h) hHeld ?_
        refine take_v (v := ?_) 18 ⟨some 60, Op.pick (Operand.tmp 49) (Operand.tmp 59) (Operand.const (Value.bool false)), _, _, _, some (4, false)⟩ rfl (fun _ _ _ h => h) ?_ hHeld ?_
        rotate_left
        · (intro W _; go_simp <;> (try with_reducible rfl))
        refine take_v (v := ?_) 19 ⟨some 61, Op.pick (Operand.tmp 46) (Operand.const (Value.bool true)) (Operand.tmp 60), _, _, _, none⟩ rfl (fun _ _ _ h => h) ?_ hHeld ?_
        rotate_left
        · (intro W _; go_simp <;> (try with_reducible rfl))
        refine take_v (v := ?_) 20 ⟨some 62, Op.move (Operand.tmp 61), _, _, _, none⟩ rfl (fun _ _ _ h => h) ?_ hHeld ?_
        rotate_left
        · (intro W _; go_simp <;> (try with_reducible rfl))
        refine take_v (v := ?_) 21 ⟨some 63, Op.fieldAddr 37 (Operand.tmp 4) 1, _, _, _, some (20, false)⟩ rfl (fun _ _ _ h => h) ?_ hHeld ?_
        rotate_left
        · (intro W _; go_simp <;> (try with_reducible rfl))
        refine take_v (v := ?_) 22 ⟨some 64, Op.load 3 (Operand.tmp 63), _, _, _, some (20, false)⟩ rfl (fun _ _ _ h => h) ?_ hHeld ?_
        rotate_left
        · (intro W hSW; (have s0 := hSW.1.cell 0 rfl; have s1 := hSW.1.cell 1 rfl; have s2 := hSW.1.cell 2 rfl; have s3 := hSW.1.cell 3 rfl; have sz := hSW.1.2; have m0 := hSW.2.cell 0 rfl; have m1 := hSW.2.cell 1 rfl; have m2 := hSW.2.cell 2 rfl; have m3 := hSW.2.cell 3 rfl; have mz := hSW.2.2); go_simp <;> (try with_reducible rfl))
        refine take_v (v := ?_) 23 ⟨some 65, Op.fieldAddr 29 (Operand.tmp 1) 1, _, _, _, some (20, false)⟩ rfl (fun _ _ _ h => h) ?_ hHeld ?_
        rotate_left
        · (intro W _; go_simp <;> (try with_reducible rfl))
        refine take_v (v := ?_) 24 ⟨some 66, Op.load 3 (Operand.tmp 65), _, _, _, some (20, false)⟩ rfl (fun _ _ _ h => h) ?_ hHeld ?_
        rotate_left
        · (intro W hSW; (have s0 := hSW.1.cell 0 rfl; have s1 := hSW.1.cell 1 rfl; have s2 := hSW.1.cell 2 rfl; have s3 := hSW.1.cell 3 rfl; have sz := hSW.1.2; have m0 := hSW.2.cell 0 rfl; have m1 := hSW.2.cell 1 rfl; have m2 := hSW.2.cell 2 rfl; have m3 := hSW.2.cell 3 rfl; have mz := hSW.2.2); go_simp <;> (try with_reducible rfl))
        refine take_v (v := ?_) 25 ⟨some 67, Op.binOp BinOp.add 3 (Operand.tmp 66) (Operand.const (Value.int IntKind.i64 1)) 3, _, _, _, some (20, false)⟩ rfl (fun _ _ _ h => h) ?_ hHeld ?_
        rotate_left
        · (intro W _; go_simp <;> (try with_reducible rfl))
        refine take_v (v := ?_) 26 ⟨some 68, Op.fieldAddr 29 (Operand.tmp 1) 0, _, _, _, some (20, false)⟩ rfl (fun _ _ _ h => h) ?_ hHeld ?_
        rotate_left
        · (intro W _; go_simp <;> (try with_reducible rfl))
        refine take_v (v := ?_) 27 ⟨some 69, Op.load 3 (Operand.tmp 68), _, _, _, some (20, false)⟩ rfl (fun _ _ _ h => h) ?_ hHeld ?_
        rotate_left
        · (intro W hSW; (have s0 := hSW.1.cell 0 rfl; have s1 := hSW.1.cell 1 rfl; have s2 := hSW.1.cell 2 rfl; have s3 := hSW.1.cell 3 rfl; have sz := hSW.1.2; have m0 := hSW.2.cell 0 rfl; have m1 := hSW.2.cell 1 rfl; have m2 := hSW.2.cell 2 rfl; have m3 := hSW.2.cell 3 rfl; have mz := hSW.2.2); go_simp <;> (try with_reducible rfl))
        refine ready_call 28 ⟨some 70, Op.call { callee := Callee.value (Operand.func 46), args := #[Operand.tmp 64, Operand.tmp 67, Operand.tmp 69], argTypes := #[3, 3, 3] }, _, _, _, some (20, false)⟩ (by kernel_rfl) rfl (by kernel_rfl) (fun KC hK => ?_)
        go_wp2_with fail
        refine (HE.out ▸ l1In_any x1 (du + 1) ep _).mono ?_
        rintro r w' ⟨rfl, hw'⟩
        have hw' := hw'.symm
        subst hw'
        refine hK.out _ _ hHeld (fun hHeld => ?_)
        clear hK KC
        refine take_v (v := ?_) 29 ⟨some 71, Op.unOp UnOp.not 4 (Operand.tmp 70), _, _, _, some (20, false)⟩ rfl (fun _ _ _ h => h) ?_ hHeld ?_
        rotate_left
        · (intro W _; go_simp <;> (try with_reducible rfl))
        refine take_v (v := ?_) 30 ⟨some 72, Op.pick (Operand.tmp 62) (Operand.const (Value.bool true)) (Operand.tmp 71), _, _, _, none⟩ rfl (fun _ _ _ h => h) ?_ hHeld ?_
        rotate_left
        · (intro W _; go_simp <;> (try with_reducible rfl))
        refine take_v (v := ?_) 31 ⟨some 73, Op.move (Operand.tmp 72), _, _, _, none⟩ rfl (fun _ _ _ h => h) ?_ hHeld ?_
        rotate_left
        · (intro W _; go_simp <;> (try with_reducible rfl))
        refine take_n 32 ⟨some 74, Op.fieldAddr 37 (Operand.tmp 4) 2, _, _, _, some (31, false)⟩ rfl (fun _ _ _ h => h) hHeld ?_
        refine take_n 33 ⟨some 75, Op.load 27 (Operand.tmp 74), _, _, _, some (31, false)⟩ rfl (fun _ _ _ h => h) hHeld ?_
        refine take_n 34 ⟨some 76, Op.call { callee := Callee.builtin Builtin.len, args := #[Operand.tmp 75], argTypes := #[27] }, _, _, _, some (31, false)⟩ rfl (fun _ _ _ h => h) hHeld ?_
        refine take_n 35 ⟨some 77, Op.binOp BinOp.gtr 3 (Operand.tmp 76) (Operand.const (Value.int IntKind.i64 20)) 3, _, _, _, some (31, false)⟩ rfl (fun _ _ _ h => h) hHeld ?_
        refine take_v (v := ?_) 36 ⟨some 78, Op.pick (Operand.tmp 73) (Operand.const (Value.bool true)) (Operand.tmp 77), _, _, _, none⟩ rfl (fun _ _ _ h => h) ?_ hHeld ?_
        rotate_left
        · (intro W _; go_simp <;> (try with_reducible rfl))
        refine take_v (v := ?_) 37 ⟨some 79, Op.move (Operand.tmp 78), _, _, _, none⟩ rfl (fun _ _ _ h => h) ?_ hHeld ?_
        rotate_left
        · (intro W _; go_simp <;> (try with_reducible rfl))
        refine take_n 38 ⟨some 80, Op.fieldAddr 37 (Operand.tmp 4) 3, _, _, _, some (37, false)⟩ rfl (fun _ _ _ h => h) hHeld ?_
        refine take_n 39 ⟨some 81, Op.load 3 (Operand.tmp 80), _, _, _, some (37, false)⟩ rfl (fun _ _ _ h => h) hHeld ?_
        refine take_n 40 ⟨some 82, Op.fieldAddr 29 (Operand.tmp 1) 1, _, _, _, some (37, false)⟩ rfl (fun _ _ _ h => h) hHeld ?_
        refine take_n 41 ⟨some 83, Op.load 3 (Operand.tmp 82), _, _, _, some (37, false)⟩ rfl (fun _ _ _ h => h) hHeld ?_
        refine take_n 42 ⟨some 84, Op.fieldAddr 29 (Operand.tmp 1) 0, _, _, _, some (37, false)⟩ rfl (fun _ _ _ h => h) hHeld ?_
        refine take_n 43 ⟨some 85, Op.load 3 (Operand.tmp 84), _, _, _, some (37, false)⟩ rfl (fun _ _ _ h => h) hHeld ?_
        refine take_n 44 ⟨some 86, Op.binOp BinOp.sub 3 (Operand.tmp 85) (Operand.const (Value.int IntKind.i64 1)) 3, _, _, _, some (37, false)⟩ rfl (fun _ _ _ h => h) hHeld ?_
        refine take_n 45 ⟨some 87, Op.call { callee := Callee.value (Operand.func 46), args := #[Operand.tmp 81, Operand.tmp 83, Operand.tmp 86], argTypes := #[3, 3, 3] }, _, _, _, some (37, false)⟩ rfl (fun _ _ _ h => h) hHeld ?_
        refine take_n 46 ⟨some 88, Op.unOp UnOp.not 4 (Operand.tmp 87), _, _, _, some (37, false)⟩ rfl (fun _ _ _ h => h) hHeld ?_
        refine take_v (v := ?_) 47 ⟨some 89, Op.pick (Operand.tmp 79) (Operand.const (Value.bool true)) (Operand.tmp 88), _, _, _, none⟩ rfl (fun _ _ _ h => h) ?_ hHeld ?_
        rotate_left
        · (intro W _; go_simp <;> (try with_reducible rfl))
        refine wpAnyH_done (by kernel_rfl) ?_ _
        refine NoPanic.normal ?_
        clear hHeld
        go_wp2
        go_ret
        exact ⟨goodF_no HN.out, HX.out.2.2.1⟩
      have HE : Hid (inR x1 (du + 1) ep = true) := c5
      have hb5 := inR_iff.1 c5
      clear c5
      by_cases hl20 : (20 : Int) < (x2.length : Int)
      case pos =>
        have HN : Hid (¬ goodF ep du ms en) := Hid.intro (HBAD.out 0 hlt (fun q => by have h1 := q.1.2.2.1; rw [yH.out] at h1; have h1 : x2.length ≤ 20 := h1; omega))
        have hl20' : decide ((20 : Int) < (x2.length : Int)) = true := decide_eq_true hl20
        refine wp_region_noPanic ?_
        refine wp_region_held_drew (S := fun W => Bx W w.heap.size [.int .i64 ep, .int .i64 du, .slice (some ⟨yg, yoff, none⟩) ms.length k1, .slice a2 en.length k2] ∧ Bx W b4 [.int .i64 x0, .int .i64 x1, .slice ya1 x2.length yk1, .int .i64 x3]) (by kernel_rfl) (hX0 ▸ ⟨HX.out.1, HX.out.2.1⟩) (fun hHeld => ?_)
        rw [← hX0] at hHeld ⊢
        clear hX0
        refine take_v (v := ?_) 0 ⟨some 42, Op.fieldAddr 37 (Operand.tmp 4) 0, _, _, _, none⟩ rfl (fun _ _ _ h => h) ?_ hHeld ?_
        rotate_left
        · (intro W _; go_simp <;> (try with_reducible rfl))
        refine take_v (v := ?_) 1 ⟨some 43, Op.load 3 (Operand.tmp 42), _, _, _, none⟩ rfl (fun _ _ _ h => h) ?_ hHeld ?_
        rotate_left
        · (intro W hSW; (have s0 := hSW.1.cell 0 rfl; have s1 := hSW.1.cell 1 rfl; have s2 := hSW.1.cell 2 rfl; have s3 := hSW.1.cell 3 rfl; have sz := hSW.1.2; have m0 := hSW.2.cell 0 rfl; have m1 := hSW.2.cell 1 rfl; have m2 := hSW.2.cell 2 rfl; have m3 := hSW.2.cell 3 rfl; have mz := hSW.2.2); go_simp <;> (try with_reducible rfl))
        refine ready_call 2 ⟨some 44, Op.call { callee := Callee.value (Operand.func 46), args := #[Operand.tmp 43, Operand.const (Value.int IntKind.i64 0), Operand.const (Value.int IntKind.i64 99)], argTypes := #[3, 3, 3] }, _, _, _, none⟩ (by kernel_rfl) rfl (by kernel_rfl) (fun KC hK => ?_)
        go_wp2_with fail
        refine (HI.out ▸ l1In_any x0 0 99 _).mono ?_
        rintro r w' ⟨rfl, hw'⟩
        have hw' := hw'.symm
        subst hw'
        refine hK.out _ _ hHeld (fun hHeld => ?_)
        clear hK KC
        refine take_v (v := ?_) 3 ⟨some 45, Op.unOp UnOp.not 4 (Operand.tmp 44), _, _, _, none⟩ rfl (fun _ _ _ h => h) ?_ hHeld ?_
        rotate_left
        · (intro W _; go_simp <;> (try with_reducible rfl))
        refine take_v (v := ?_) 4 ⟨some 46, Op.move (Operand.tmp 45), _, _, _, none⟩ rfl (fun _ _ _ h => h) ?_ hHeld ?_
        rotate_left
        · (intro W _; go_simp <;> (try with_reducible rfl))
        refine take_v (v := ?_) 5 ⟨some 47, Op.move (Operand.tmp 3), _, _, _, some (4, false)⟩ rfl (fun _ _ _ h => h) ?_ hHeld ?_
        rotate_left
        · (intro W _; go_simp <;> (try with_reducible rfl))
        refine take_v (v := ?_) 6 ⟨some 48, Op.binOp BinOp.gtr 3 (Operand.tmp 47) (Operand.const (Value.int IntKind.i64 0)) 3, _, _, _, some (4, false)⟩ rfl (fun _ _ _ h => h) ?_ hHeld ?_
        rotate_left
        · (intro W _; go_simp <;> (try with_reducible rfl))
        refine take_v (v := ?_) 7 ⟨some 49, Op.move (Operand.tmp 48), _, _, _, some (4, false)⟩ rfl (fun _ _ _ h => h) ?_ hHeld ?_
        rotate_left
        · (intro W _; go_simp <;> (try with_reducible rfl))
        refine take_n 8 ⟨some 50, Op.fieldAddr 29 (Operand.tmp 1) 2, _, _, _, some (7, true)⟩ rfl (fun _ _ _ h => h) hHeld ?_
        refine take_n 9 ⟨some 51, Op.load 26 (Operand.tmp 50), _, _, _, some (7, true)⟩ rfl (fun _ _ _ h => h) hHeld ?_
        refine take_n 10 ⟨some 52, Op.move (Operand.tmp 3), _, _, _, some (7, true)⟩ rfl (fun _ _ _ h => h) hHeld ?_
        refine take_n 11 ⟨some 53, Op.binOp BinOp.sub 3 (Operand.tmp 52) (Operand.const (Value.int IntKind.i64 1)) 3, _, _, _, some (7, true)⟩ rfl (fun _ _ _ h => h) hHeld ?_
        refine take_n 12 ⟨some 54, Op.indexAddr 26 (Operand.tmp 51) (Operand.tmp 53), _, _, _, some (7, true)⟩ rfl (fun _ _ _ h => h) hHeld ?_
        refine take_n 13 ⟨some 55, Op.fieldAddr 37 (Operand.tmp 54) 0, _, _, _, some (7, true)⟩ rfl (fun _ _ _ h => h) hHeld ?_
        refine take_n 14 ⟨some 56, Op.load 3 (Operand.tmp 55), _, _, _, some (7, true)⟩ rfl (fun _ _ _ h => h) hHeld ?_
        refine take_n 15 ⟨some 57, Op.fieldAddr 37 (Operand.tmp 4) 0, _, _, _, some (7, true)⟩ rfl (fun _ _ _ h => h) hHeld ?_
        refine take_n 16 ⟨some 58, Op.load 3 (Operand.tmp 57), _, _, _, some (7, true)⟩ rfl (fun _ _ _ h => h) hHeld ?_
        refine take_n 17 ⟨some 59, Op.binOp BinOp.geq 3 (Operand.tmp 56) (Operand.tmp 58) 3, _, _, _, some (7, true)⟩ rfl (fun _ _ _ h => h) hHeld ?_
        refine take_v (v := ?_) 18 ⟨some 60, Op.pick (Operand.tmp 49) (Operand.tmp 59) (Operand.const (Value.bool false)), _, _, _, some (4, false)⟩ rfl (fun _ _ _ h => h) ?_ hHeld ?_
        rotate_left
        · (intro W _; go_simp <;> (try with_reducible rfl))
        refine take_v (v := ?_) 19 ⟨some 61, Op.pick (Operand.tmp 46) (Operand.const (Value.bool true)) (Operand.tmp 60), _, _, _, none⟩ rfl (fun _ _ _ h => h) ?_ hHeld ?_
        rotate_left
        · (intro W _; go_simp <;> (try with_reducible rfl))
        refine take_v (v := ?_) 20 ⟨some 62, Op.move (Operand.tmp 61), _, _, _, none⟩ rfl (fun _ _ _ h => h) ?_ hHeld ?_
        rotate_left
        · (intro W _; go_simp <;> (try with_reducible rfl))
        refine take_v (v := ?_) 21 ⟨some 63, Op.fieldAddr 37 (Operand.tmp 4) 1, _, _, _, some (20, false)⟩ rfl (fun _ _ _ h => h) ?_ hHeld ?_
        rotate_left
        · (intro W _; go_simp <;> (try with_reducible rfl))
        refine take_v (v := ?_) 22 ⟨some 64, Op.load 3 (Operand.tmp 63), _, _, _, some (20, false)⟩ rfl (fun _ _ _ h => h) ?_ hHeld ?_
        rotate_left
        · (intro W hSW; (have s0 := hSW.1.cell 0 rfl; have s1 := hSW.1.cell 1 rfl; have s2 := hSW.1.cell 2 rfl; have s3 := hSW.1.cell 3 rfl; have sz := hSW.1.2; have m0 := hSW.2.cell 0 rfl; have m1 := hSW.2.cell 1 rfl; have m2 := hSW.2.cell 2 rfl; have m3 := hSW.2.cell 3 rfl; have mz := hSW.2.2); go_simp <;> (try with_reducible rfl))
        refine take_v (v := ?_) 23 ⟨some 65, Op.fieldAddr 29 (Operand.tmp 1) 1, _, _, _, some (20, false)⟩ rfl (fun _ _ _ h => h) ?_ hHeld ?_
        rotate_left
        · (intro W _; go_simp <;> (try with_reducible rfl))
        refine take_v (v := ?_) 24 ⟨some 66, Op.load 3 (Operand.tmp 65), _, _, _, some (20, false)⟩ rfl (fun _ _ _ h => h) ?_ hHeld ?_
        rotate_left
        · (intro W hSW; (have s0 := hSW.1.cell 0 rfl; have s1 := hSW.1.cell 1 rfl; have s2 := hSW.1.cell 2 rfl; have s3 := hSW.1.cell 3 rfl; have sz := hSW.1.2; have m0 := hSW.2.cell 0 rfl; have m1 := hSW.2.cell 1 rfl; have m2 := hSW.2.cell 2 rfl; have m3 := hSW.2.cell 3 rfl; have mz := hSW.2.2); go_simp <;> (try with_reducible rfl))
        refine take_v (v := ?_) 25 ⟨some 67, Op.binOp BinOp.add 3 (Operand.tmp 66) (Operand.const (Value.int IntKind.i64 1)) 3, _, _, _, some (20, false)⟩ rfl (fun _ _ _ h => h) ?_ hHeld ?_
        rotate_left
        · (intro W _; go_simp <;> (try with_reducible rfl))
        refine take_v (v := ?_) 26 ⟨some 68, Op.fieldAddr 29 (Operand.tmp 1) 0, _, _, _, some (20, false)⟩ rfl (fun _ _ _ h => h) ?_ hHeld ?_
        rotate_left
        · (intro W _; go_simp <;> (try with_reducible rfl))
        refine take_v (v := ?_) 27 ⟨some 69, Op.load 3 (Operand.tmp 68), _, _, _, some (20, false)⟩ rfl (fun _ _ _ h => h) ?_ hHeld ?_
        rotate_left
        · (intro W hSW; (have s0 := hSW.1.cell 0 rfl; have s1 := hSW.1.cell 1 rfl; have s2 := hSW.1.cell 2 rfl; have s3 := hSW.1.cell 3 rfl; have sz := hSW.1.2; have m0 := hSW.2.cell 0 rfl; have m1 := hSW.2.cell 1 rfl; have m2 := hSW.2.cell 2 rfl; have m3 := hSW.2.cell 3 rfl; have mz := hSW.2.2); go_simp <;> (try with_reducible rfl))
        refine ready_call 28 ⟨some 70, Op.call { callee := Callee.value (Operand.func 46), args := #[Operand.tmp 64, Operand.tmp 67, Operand.tmp 69], argTypes := #[3, 3, 3] }, _, _, _, some (20, false)⟩ (by kernel_rfl) rfl (by kernel_rfl) (fun KC hK => ?_)
        go_wp2_with fail
        refine (HE.out ▸ l1In_any x1 (du + 1) ep _).mono ?_
        rintro r w' ⟨rfl, hw'⟩
        have hw' := hw'.symm
        subst hw'
        refine hK.out _ _ hHeld (fun hHeld => ?_)
        clear hK KC
        refine take_v (v := ?_) 29 ⟨some 71, Op.unOp UnOp.not 4 (Operand.tmp 70), _, _, _, some (20, false)⟩ rfl (fun _ _ _ h => h) ?_ hHeld ?_
        rotate_left
        · (intro W _; go_simp <;> (try with_reducible rfl))
        refine take_v (v := ?_) 30 ⟨some 72, Op.pick (Operand.tmp 62) (Operand.const (Value.bool true)) (Operand.tmp 71), _, _, _, none⟩ rfl (fun _ _ _ h => h) ?_ hHeld ?_
        rotate_left
        · (intro W _; go_simp <;> (try with_reducible rfl))
        refine take_v (v := ?_) 31 ⟨some 73, Op.move (Operand.tmp 72), _, _, _, none⟩ rfl (fun _ _ _ h => h) ?_ hHeld ?_
        rotate_left
        · (intro W _; go_simp <;> (try with_reducible rfl))
        refine take_v (v := ?_) 32 ⟨some 74, Op.fieldAddr 37 (Operand.tmp 4) 2, _, _, _, some (31, false)⟩ rfl (fun _ _ _ h => h) ?_ hHeld ?_
        rotate_left
        · (intro W _; go_simp <;> (try with_reducible rfl))
        refine take_v (v := ?_) 33 ⟨some 75, Op.load 27 (Operand.tmp 74), _, _, _, some (31, false)⟩ rfl (fun _ _ _ h => h) ?_ hHeld ?_
        rotate_left
        · (intro W hSW; (have s0 := hSW.1.cell 0 rfl; have s1 := hSW.1.cell 1 rfl; have s2 := hSW.1.cell 2 rfl; have s3 := hSW.1.cell 3 rfl; have sz := hSW.1.2; have m0 := hSW.2.cell 0 rfl; have m1 := hSW.2.cell 1 rfl; have m2 := hSW.2.cell 2 rfl; have m3 := hSW.2.cell 3 rfl; have mz := hSW.2.2); go_simp <;> (try with_reducible rfl))
        refine take_v (v := ?_) 34 ⟨some 76, Op.call { callee := Callee.builtin Builtin.len, args := #[Operand.tmp 75], argTypes := #[27] }, _, _, _, some (31, false)⟩ rfl (fun _ _ _ h => h) ?_ hHeld ?_
        rotate_left
        · (intro W _; go_simp <;> (try with_reducible rfl))
        refine take_v (v := ?_) 35 ⟨some 77, Op.binOp BinOp.gtr 3 (Operand.tmp 76) (Operand.const (Value.int IntKind.i64 20)) 3, _, _, _, some (31, false)⟩ rfl (fun _ _ _ h => h) ?_ hHeld ?_
        rotate_left
        · (intro W _; go_simp <;> (try with_reducible rfl))
        refine take_v (v := ?_) 36 ⟨some 78, Op.pick (Operand.tmp 73) (Operand.const (Value.bool true)) (Operand.tmp 77), _, _, _, none⟩ rfl (fun _ _ _ h => h) ?_ hHeld ?_
        rotate_left
        · (intro W _; go_simp <;> (try with_reducible rfl))
        refine take_v (v := ?_) 37 ⟨some 79, Op.move (Operand.tmp 78), _, _, _, none⟩ rfl (fun _ _ _ h => h) ?_ hHeld ?_
        rotate_left
        · (intro W _; go_simp <;> (try with_reducible rfl))
        refine take_n 38 ⟨some 80, Op.fieldAddr 37 (Operand.tmp 4) 3, _, _, _, some (37, false)⟩ rfl (fun _ _ _ h => h) hHeld ?_
        refine take_n 39 ⟨some 81, Op.load 3 (Operand.tmp 80), _, _, _, some (37, false)⟩ rfl (fun _ _ _ h => h) hHeld ?_
        refine take_n 40 ⟨some 82, Op.fieldAddr 29 (Operand.tmp 1) 1, _, _, _, some (37, false)⟩ rfl (fun _ _ _ h => h) hHeld ?_
        refine take_n 41 ⟨some 83, Op.load 3 (Operand.tmp 82), _, _, _, some (37, false)⟩ rfl (fun _ _ _ h => h) hHeld ?_
        refine take_n 42 ⟨some 84, Op.fieldAddr 29 (Operand.tmp 1) 0, _, _, _, some (37, false)⟩ rfl (fun _ _ _ h => h) hHeld ?_
        refine take_n 43 ⟨some 85, Op.load 3 (Operand.tmp 84), _, _, _, some (37, false)⟩ rfl (fun _ _ _ h => h) hHeld ?_
        refine take_n 44 ⟨some 86, Op.binOp BinOp.sub 3 (Operand.tmp 85) (Operand.const (Value.int IntKind.i64 1)) 3, _, _, _, some (37, false)⟩ rfl (fun _ _ _ h => h) hHeld ?_
        refine take_n 45 ⟨some 87, Op.call { callee := Callee.value (Operand.func 46), args := #[Operand.tmp 81, Operand.tmp 83, Operand.tmp 86], argTypes := #[3, 3, 3] }, _, _, _, some (37, false)⟩ rfl (fun _ _ _ h => h) hHeld ?_
        refine take_n 46 ⟨some 88, Op.unOp UnOp.not 4 (Operand.tmp 87), _, _, _, some (37, false)⟩ rfl (fun _ _ _ h => h) hHeld ?_
        refine take_v (v := ?_) 47 ⟨some 89, Op.pick (Operand.tmp 79) (Operand.const (Value.bool true)) (Operand.tmp 88), _, _, _, none⟩ rfl (fun _ _ _ h => h) ?_ hHeld ?_
        rotate_left
        · (intro W _; go_simp <;> (try with_reducible rfl))
        refine wpAnyH_done (by kernel_rfl) ?_ _
        refine NoPanic.normal ?_
        clear hHeld
        go_wp2
        go_ret
        exact ⟨goodF_no HN.out, HX.out.2.2.1⟩
      have hl20' : decide ((20 : Int) < (x2.length : Int)) = false := decide_eq_false hl20
      cases c6 : inR x3 du (ep - 1)
      case false =>
        have HK : Hid (inR x3 du (ep - 1) = false) := c6
        have HN : Hid (¬ goodF ep du ms en) := Hid.intro (HBAD.out 0 hlt (fun q => by have h1 := q.1.2.2.2.1; rw [yH.out] at h1; rw [inR_iff.2 (show du ≤ x3 ∧ x3 ≤ ep - 1 from h1)] at c6; cases c6))
        clear c6
        refine wp_region_noPanic ?_
        refine wp_region_held_drew (S := fun W => Bx W w.heap.size [.int .i64 ep, .int .i64 du, .slice (some ⟨yg, yoff, none⟩) ms.length k1, .slice a2 en.length k2] ∧ Bx W b4 [.int .i64 x0, .int .i64 x1, .slice ya1 x2.length yk1, .int .i64 x3]) (by kernel_rfl) (hX0 ▸ ⟨HX.out.1, HX.out.2.1⟩) (fun hHeld => ?_)
        rw [← hX0] at hHeld ⊢
        clear hX0
        refine take_v (v := ?_) 0 ⟨some 42, Op.fieldAddr 37 (Operand.tmp 4) 0, _, _, _, none⟩ rfl (fun _ _ _ h => h) ?_ hHeld ?_
        rotate_left
        · (intro W _; go_simp <;> (try with_reducible rfl))
        refine take_v (v := ?_) 1 ⟨some 43, Op.load 3 (Operand.tmp 42), _, _, _, none⟩ rfl (fun _ _ _ h => h) ?_ hHeld ?_
        rotate_left
        · (intro W hSW; (have s0 := hSW.1.cell 0 rfl; have s1 := hSW.1.cell 1 rfl; have s2 := hSW.1.cell 2 rfl; have s3 := hSW.1.cell 3 rfl; have sz := hSW.1.2; have m0 := hSW.2.cell 0 rfl; have m1 := hSW.2.cell 1 rfl; have m2 := hSW.2.cell 2 rfl; have m3 := hSW.2.cell 3 rfl; have mz := hSW.2.2); go_simp <;> (try with_reducible rfl))
        refine ready_call 2 ⟨some 44, Op.call { callee := Callee.value (Operand.func 46), args := #[Operand.tmp 43, Operand.const (Value.int IntKind.i64 0), Operand.const (Value.int IntKind.i64 99)], argTypes := #[3, 3, 3] }, _, _, _, none⟩ (by kernel_rfl) rfl (by kernel_rfl) (fun KC hK => ?_)
        go_wp2_with fail
        refine (HI.out ▸ l1In_any x0 0 99 _).mono ?_
        rintro r w' ⟨rfl, hw'⟩
        have hw' := hw'.symm
        subst hw'
        refine hK.out _ _ hHeld (fun hHeld => ?_)
        clear hK KC
        refine take_v (v := ?_) 3 ⟨some 45, Op.unOp UnOp.not 4 (Operand.tmp 44), _, _, _, none⟩ rfl (fun _ _ _ h => h) ?_ hHeld ?_
        rotate_left
        · (intro W _; go_simp <;> (try with_reducible rfl))
        refine take_v (v := ?_) 4 ⟨some 46, Op.move (Operand.tmp 45), _, _, _, none⟩ rfl (fun _ _ _ h => h) ?_ hHeld ?_
        rotate_left
        · (intro W _; go_simp <;> (try with_reducible rfl))
        refine take_v (v := ?_) 5 ⟨some 47, Op.move (Operand.tmp 3), _, _, _, some (4, false)⟩ rfl (fun _ _ _ h => h) ?_ hHeld ?_
        rotate_left
        · (intro W _; go_simp <;> (try with_reducible rfl))
        refine take_v (v := ?_) 6 ⟨some 48, Op.binOp BinOp.gtr 3 (Operand.tmp 47) (Operand.const (Value.int IntKind.i64 0)) 3, _, _, _, some (4, false)⟩ rfl (fun _ _ _ h => h) ?_ hHeld ?_
        rotate_left
        · (intro W _; go_simp <;> (try with_reducible rfl))
        refine take_v (v := ?_) 7 ⟨some 49, Op.move (Operand.tmp 48), _, _, _, some (4, false)⟩ rfl (fun _ _ _ h => h) ?_ hHeld ?_
        rotate_left
        · (intro W _; go_simp <;> (try with_reducible rfl))
        refine take_n 8 ⟨some 50, Op.fieldAddr 29 (Operand.tmp 1) 2, _, _, _, some (7, true)⟩ rfl (fun _ _ _ h => h) hHeld ?_
        refine take_n 9 ⟨some 51, Op.load 26 (Operand.tmp 50), _, _, _, some (7, true)⟩ rfl (fun _ _ _ h => h) hHeld ?_
        refine take_n 10 ⟨some 52, Op.move (Operand.tmp 3), _, _, _, some (7, true)⟩ rfl (fun _ _ _ h => h) hHeld ?_
        refine take_n 11 ⟨some 53, Op.binOp BinOp.sub 3 (Operand.tmp 52) (Operand.const (Value.int IntKind.i64 1)) 3, _, _, _, some (7, true)⟩ rfl (fun _ _ _ h => h) hHeld ?_
        refine take_n 12 ⟨some 54, Op.indexAddr 26 (Operand.tmp 51) (Operand.tmp 53), _, _, _, some (7, true)⟩ rfl (fun _ _ _ h => h) hHeld ?_
        refine take_n 13 ⟨some 55, Op.fieldAddr 37 (Operand.tmp 54) 0, _, _, _, some (7, true)⟩ rfl (fun _ _ _ h => h) hHeld ?_
        refine take_n 14 ⟨some 56, Op.load 3 (Operand.tmp 55), _, _, _, some (7, true)⟩ rfl (fun _ _ _ h => h) hHeld ?_
        refine take_n 15 ⟨some 57, Op.fieldAddr 37 (Operand.tmp 4) 0, _, _, _, some (7, true)⟩ rfl (fun _ _ _ h => h) hHeld ?_
        refine take_n 16 ⟨some 58, Op.load 3 (Operand.tmp 57), _, _, _, some (7, true)⟩ rfl (fun _ _ _ h => h) hHeld ?_
        refine take_n 17 ⟨some 59, Op.binOp BinOp.geq 3 (Operand.tmp 56) (Operand.tmp 58) 3, _, _, _, some (7, true)⟩ rfl (fun _ _ _ h => h) hHeld ?_
        refine take_v (v := ?_) 18 ⟨some 60, Op.pick (Operand.tmp 49) (Operand.tmp 59) (Operand.const (Value.bool false)), _, _, _, some (4, false)⟩ rfl (fun _ _ _ h => h) ?_ hHeld ?_
        rotate_left
        · (intro W _; go_simp <;> (try with_reducible rfl))
        refine take_v (v := ?_) 19 ⟨some 61, Op.pick (Operand.tmp 46) (Operand.const (Value.bool true)) (Operand.tmp 60), _, _, _, none⟩ rfl (fun _ _ _ h => h) ?_ hHeld ?_
        rotate_left
        · (intro W _; go_simp <;> (try with_reducible rfl))
        refine take_v (v := ?_) 20 ⟨some 62, Op.move (Operand.tmp 61), _, _, _, none⟩ rfl (fun _ _ _ h => h) ?_ hHeld ?_
        rotate_left
        · (intro W _; go_simp <;> (try with_reducible rfl))
        refine take_v (v := ?_) 21 ⟨some 63, Op.fieldAddr 37 (Operand.tmp 4) 1, _, _, _, some (20, false)⟩ rfl (fun _ _ _ h => h) ?_ hHeld ?_
        rotate_left
        · (intro W _; go_simp <;> (try with_reducible rfl))
        refine take_v (v := ?_) 22 ⟨some 64, Op.load 3 (Operand.tmp 63), _, _, _, some (20, false)⟩ rfl (fun _ _ _ h => h) ?_ hHeld ?_
        rotate_left
        · (intro W hSW; (have s0 := hSW.1.cell 0 rfl; have s1 := hSW.1.cell 1 rfl; have s2 := hSW.1.cell 2 rfl; have s3 := hSW.1.cell 3 rfl; have sz := hSW.1.2; have m0 := hSW.2.cell 0 rfl; have m1 := hSW.2.cell 1 rfl; have m2 := hSW.2.cell 2 rfl; have m3 := hSW.2.cell 3 rfl; have mz := hSW.2.2); go_simp <;> (try with_reducible rfl))
        refine take_v (v := ?_) 23 ⟨some 65, Op.fieldAddr 29 (Operand.tmp 1) 1, _, _, _, some (20, false)⟩ rfl (fun _ _ _ h => h) ?_ hHeld ?_
        rotate_left
        · (intro W _; go_simp <;> (try with_reducible rfl))
        refine take_v (v := ?_) 24 ⟨some 66, Op.load 3 (Operand.tmp 65), _, _, _, some (20, false)⟩ rfl (fun _ _ _ h => h) ?_ hHeld ?_
        rotate_left
        · (intro W hSW; (have s0 := hSW.1.cell 0 rfl; have s1 := hSW.1.cell 1 rfl; have s2 := hSW.1.cell 2 rfl; have s3 := hSW.1.cell 3 rfl; have sz := hSW.1.2; have m0 := hSW.2.cell 0 rfl; have m1 := hSW.2.cell 1 rfl; have m2 := hSW.2.cell 2 rfl; have m3 := hSW.2.cell 3 rfl; have mz := hSW.2.2); go_simp <;> (try with_reducible rfl))
        refine take_v (v := ?_) 25 ⟨some 67, Op.binOp BinOp.add 3 (Operand.tmp 66) (Operand.const (Value.int IntKind.i64 1)) 3, _, _, _, some (20, false)⟩ rfl (fun _ _ _ h => h) ?_ hHeld ?_
        rotate_left
        · (intro W _; go_simp <;> (try with_reducible rfl))
        refine take_v (v := ?_) 26 ⟨some 68, Op.fieldAddr 29 (Operand.tmp 1) 0, _, _, _, some (20, false)⟩ rfl (fun _ _ _ h => h) ?_ hHeld ?_
        rotate_left
        · (intro W _; go_simp <;> (try with_reducible rfl))
        refine take_v (v := ?_) 27 ⟨some 69, Op.load 3 (Operand.tmp 68), _, _, _, some (20, false)⟩ rfl (fun _ _ _ h => h) ?_ hHeld ?_
        rotate_left
        · (intro W hSW; (have s0 := hSW.1.cell 0 rfl; have s1 := hSW.1.cell 1 rfl; have s2 := hSW.1.cell 2 rfl; have s3 := hSW.1.cell 3 rfl; have sz := hSW.1.2; have m0 := hSW.2.cell 0 rfl; have m1 := hSW.2.cell 1 rfl; have m2 := hSW.2.cell 2 rfl; have m3 := hSW.2.cell 3 rfl; have mz := hSW.2.2); go_simp <;> (try with_reducible rfl))
        refine ready_call 28 ⟨some 70, Op.call { callee := Callee.value (Operand.func 46), args := #[Operand.tmp 64, Operand.tmp 67, Operand.tmp 69], argTypes := #[3, 3, 3] }, _, _, _, some (20, false)⟩ (by kernel_rfl) rfl (by kernel_rfl) (fun KC hK => ?_)
        go_wp2_with fail
        refine (HE.out ▸ l1In_any x1 (du + 1) ep _).mono ?_
        rintro r w' ⟨rfl, hw'⟩
        have hw' := hw'.symm
        subst hw'
        refine hK.out _ _ hHeld (fun hHeld => ?_)
        clear hK KC
        refine take_v (v := ?_) 29 ⟨some 71, Op.unOp UnOp.not 4 (Operand.tmp 70), _, _, _, some (20, false)⟩ rfl (fun _ _ _ h => h) ?_ hHeld ?_
        rotate_left
        · (intro W _; go_simp <;> (try with_reducible rfl))
        refine take_v (v := ?_) 30 ⟨some 72, Op.pick (Operand.tmp 62) (Operand.const (Value.bool true)) (Operand.tmp 71), _, _, _, none⟩ rfl (fun _ _ _ h => h) ?_ hHeld ?_
        rotate_left
        · (intro W _; go_simp <;> (try with_reducible rfl))
        refine take_v (v := ?_) 31 ⟨some 73, Op.move (Operand.tmp 72), _, _, _, none⟩ rfl (fun _ _ _ h => h) ?_ hHeld ?_
        rotate_left
        · (intro W _; go_simp <;> (try with_reducible rfl))
        refine take_v (v := ?_) 32 ⟨some 74, Op.fieldAddr 37 (Operand.tmp 4) 2, _, _, _, some (31, false)⟩ rfl (fun _ _ _ h => h) ?_ hHeld ?_
        rotate_left
        · (intro W _; go_simp <;> (try with_reducible rfl))
        refine take_v (v := ?_) 33 ⟨some 75, Op.load 27 (Operand.tmp 74), _, _, _, some (31, false)⟩ rfl (fun _ _ _ h => h) ?_ hHeld ?_
        rotate_left
        · (intro W hSW; (have s0 := hSW.1.cell 0 rfl; have s1 := hSW.1.cell 1 rfl; have s2 := hSW.1.cell 2 rfl; have s3 := hSW.1.cell 3 rfl; have sz := hSW.1.2; have m0 := hSW.2.cell 0 rfl; have m1 := hSW.2.cell 1 rfl; have m2 := hSW.2.cell 2 rfl; have m3 := hSW.2.cell 3 rfl; have mz := hSW.2.2); go_simp <;> (try with_reducible rfl))
        refine take_v (v := ?_) 34 ⟨some 76, Op.call { callee := Callee.builtin Builtin.len, args := #[Operand.tmp 75], argTypes := #[27] }, _, _, _, some (31, false)⟩ rfl (fun _ _ _ h => h) ?_ hHeld ?_
        rotate_left
        · (intro W _; go_simp <;> (try with_reducible rfl))
        refine take_v (v := ?_) 35 ⟨some 77, Op.binOp BinOp.gtr 3 (Operand.tmp 76) (Operand.const (Value.int IntKind.i64 20)) 3, _, _, _, some (31, false)⟩ rfl (fun _ _ _ h => h) ?_ hHeld ?_
        rotate_left
        · (intro W _; go_simp <;> (try with_reducible rfl))
        refine take_v (v := ?_) 36 ⟨some 78, Op.pick (Operand.tmp 73) (Operand.const (Value.bool true)) (Operand.tmp 77), _, _, _, none⟩ rfl (fun _ _ _ h => h) ?_ hHeld ?_
        rotate_left
        · (intro W _; go_simp <;> (try with_reducible rfl))
        refine take_v (v := ?_) 37 ⟨some 79, Op.move (Operand.tmp 78), _, _, _, none⟩ rfl (fun _ _ _ h => h) ?_ hHeld ?_
        rotate_left
        · (intro W _; go_simp <;> (try with_reducible rfl))
        refine take_v (v := ?_) 38 ⟨some 80, Op.fieldAddr 37 (Operand.tmp 4) 3, _, _, _, some (37, false)⟩ rfl (fun _ _ _ h => h) ?_ hHeld ?_
        rotate_left
        · (intro W _; go_simp <;> (try with_reducible rfl))
        refine take_v (v := ?_) 39 ⟨some 81, Op.load 3 (Operand.tmp 80), _, _, _, some (37, false)⟩ rfl (fun _ _ _ h => h) ?_ hHeld ?_
        rotate_left
        · (intro W hSW; (have s0 := hSW.1.cell 0 rfl; have s1 := hSW.1.cell 1 rfl; have s2 := hSW.1.cell 2 rfl; have s3 := hSW.1.cell 3 rfl; have sz := hSW.1.2; have m0 := hSW.2.cell 0 rfl; have m1 := hSW.2.cell 1 rfl; have m2 := hSW.2.cell 2 rfl; have m3 := hSW.2.cell 3 rfl; have mz := hSW.2.2); go_simp <;> (try with_reducible rfl))
        refine take_v (v := ?_) 40 ⟨some 82, Op.fieldAddr 29 (Operand.tmp 1) 1, _, _, _, some (37, false)⟩ rfl (fun _ _ _ h => h) ?_ hHeld ?_
        rotate_left
        · (intro W _; go_simp <;> (try with_reducible rfl))
        refine take_v (v := ?_) 41 ⟨some 83, Op.load 3 (Operand.tmp 82), _, _, _, some (37, false)⟩ rfl (fun _ _ _ h => h) ?_ hHeld ?_
        rotate_left
        · (intro W hSW; (have s0 := hSW.1.cell 0 rfl; have s1 := hSW.1.cell 1 rfl; have s2 := hSW.1.cell 2 rfl; have s3 := hSW.1.cell 3 rfl; have sz := hSW.1.2; have m0 := hSW.2.cell 0 rfl; have m1 := hSW.2.cell 1 rfl; have m2 := hSW.2.cell 2 rfl; have m3 := hSW.2.cell 3 rfl; have mz := hSW.2.2); go_simp <;> (try with_reducible rfl))
        refine take_v (v := ?_) 42 ⟨some 84, Op.fieldAddr 29 (Operand.tmp 1) 0, _, _, _, some (37, false)⟩ rfl (fun _ _ _ h => h) ?_ hHeld ?_
        rotate_left
        · (intro W _; go_simp <;> (try with_reducible rfl))
        refine take_v (v := ?_) 43 ⟨some 85, Op.load 3 (Operand.tmp 84), _, _, _, some (37, false)⟩ rfl (fun _ _ _ h => h) ?_ hHeld ?_
        rotate_left
        · (intro W hSW; (have s0 := hSW.1.cell 0 rfl; have s1 := hSW.1.cell 1 rfl; have s2 := hSW.1.cell 2 rfl; have s3 := hSW.1.cell 3 rfl; have sz := hSW.1.2; have m0 := hSW.2.cell 0 rfl; have m1 := hSW.2.cell 1 rfl; have m2 := hSW.2.cell 2 rfl; have m3 := hSW.2.cell 3 rfl; have mz := hSW.2.2); go_simp <;> (try with_reducible rfl))
        refine take_v (v := ?_) 44 ⟨some 86, Op.binOp BinOp.sub 3 (Operand.tmp 85) (Operand.const (Value.int IntKind.i64 1)) 3, _, _, _, some (37, false)⟩ rfl (fun _ _ _ h => h) ?_ hHeld ?_
        rotate_left
        · (intro W _; go_simp <;> (try with_reducible rfl))
        refine ready_call 45 ⟨some 87, Op.call { callee := Callee.value (Operand.func 46), args := #[Operand.tmp 81, Operand.tmp 83, Operand.tmp 86], argTypes := #[3, 3, 3] }, _, _, _, some (37, false)⟩ (by kernel_rfl) rfl (by kernel_rfl) (fun KC hK => ?_)
        go_wp2_with fail
        refine (HK.out ▸ l1In_any x3 du (ep - 1) _).mono ?_
        rintro r w' ⟨rfl, hw'⟩
        have hw' := hw'.symm
        subst hw'
        refine hK.out _ _ hHeld (fun hHeld => ?_)
        clear hK KC
        refine take_v (v := ?_) 46 ⟨some 88, Op.unOp UnOp.not 4 (Operand.tmp 87), _, _, _, some (37, false)⟩ rfl (fun _ _ _ h => h) ?_ hHeld ?_
        rotate_left
        · (intro W _; go_simp <;> (try with_reducible rfl))
        refine take_v (v := ?_) 47 ⟨some 89, Op.pick (Operand.tmp 79) (Operand.const (Value.bool true)) (Operand.tmp 88), _, _, _, none⟩ rfl (fun _ _ _ h => h) ?_ hHeld ?_
        rotate_left
        · (intro W _; go_simp <;> (try with_reducible rfl))
        refine wpAnyH_done (by kernel_rfl) ?_ _
        refine NoPanic.normal ?_
        clear hHeld
        go_wp2
        go_ret
        exact ⟨goodF_no HN.out, HX.out.2.2.1⟩
      have HK : Hid (inR x3 du (ep - 1) = true) := c6
      have hb6 := inR_iff.1 c6
      have HR6 : Hid ((0 ≤ x0 ∧ x0 ≤ 99) ∧ (du + 1 ≤ x1 ∧ x1 ≤ ep) ∧ x2.length ≤ 20 ∧ (du ≤ x3 ∧ x3 ≤ ep - 1)) := ⟨hb4, hb5, by omega, hb6⟩
      have hx3a : 0 ≤ x3 := by omega
      have hx3b : x3 ≤ 1000 := by omega
      clear c6 hb4 hb5 hb6
      refine wp_region_noPanic ?_
      refine wp_region_held_drew (S := fun W => Bx W w.heap.size [.int .i64 ep, .int .i64 du, .slice (some ⟨yg, yoff, none⟩) ms.length k1, .slice a2 en.length k2] ∧ Bx W b4 [.int .i64 x0, .int .i64 x1, .slice ya1 x2.length yk1, .int .i64 x3]) (by kernel_rfl) (hX0 ▸ ⟨HX.out.1, HX.out.2.1⟩) (fun hHeld => ?_)
      rw [← hX0] at hHeld ⊢
      clear hX0
      refine take_v (v := ?_) 0 ⟨some 42, Op.fieldAddr 37 (Operand.tmp 4) 0, _, _, _, none⟩ rfl (fun _ _ _ h => h) ?_ hHeld ?_
      rotate_left
      · (intro W _; go_simp <;> (try with_reducible rfl))
      refine take_v (v := ?_) 1 ⟨some 43, Op.load 3 (Operand.tmp 42), _, _, _, none⟩ rfl (fun _ _ _ h => h) ?_ hHeld ?_
      rotate_left
      · (intro W hSW; (have s0 := hSW.1.cell 0 rfl; have s1 := hSW.1.cell 1 rfl; have s2 := hSW.1.cell 2 rfl; have s3 := hSW.1.cell 3 rfl; have sz := hSW.1.2; have m0 := hSW.2.cell 0 rfl; have m1 := hSW.2.cell 1 rfl; have m2 := hSW.2.cell 2 rfl; have m3 := hSW.2.cell 3 rfl; have mz := hSW.2.2); go_simp <;> (try with_reducible rfl))
      refine ready_call 2 ⟨some 44, Op.call { callee := Callee.value (Operand.func 46), args := #[Operand.tmp 43, Operand.const (Value.int IntKind.i64 0), Operand.const (Value.int IntKind.i64 99)], argTypes := #[3, 3, 3] }, _, _, _, none⟩ (by kernel_rfl) rfl (by kernel_rfl) (fun KC hK => ?_)
      go_wp2_with fail
      refine (HI.out ▸ l1In_any x0 0 99 _).mono ?_
      rintro r w' ⟨rfl, hw'⟩
      have hw' := hw'.symm
      subst hw'
      refine hK.out _ _ hHeld (fun hHeld => ?_)
      clear hK KC
      refine take_v (v := ?_) 3 ⟨some 45, Op.unOp UnOp.not 4 (Operand.tmp 44), _, _, _, none⟩ rfl (fun _ _ _ h => h) ?_ hHeld ?_
      rotate_left
      · (intro W _; go_simp <;> (try with_reducible rfl))
      refine take_v (v := ?_) 4 ⟨some 46, Op.move (Operand.tmp 45), _, _, _, none⟩ rfl (fun _ _ _ h => h) ?_ hHeld ?_
      rotate_left
      · (intro W _; go_simp <;> (try with_reducible rfl))
      refine take_v (v := ?_) 5 ⟨some 47, Op.move (Operand.tmp 3), _, _, _, some (4, false)⟩ rfl (fun _ _ _ h => h) ?_ hHeld ?_
      rotate_left
      · (intro W _; go_simp <;> (try with_reducible rfl))
      refine take_v (v := ?_) 6 ⟨some 48, Op.binOp BinOp.gtr 3 (Operand.tmp 47) (Operand.const (Value.int IntKind.i64 0)) 3, _, _, _, some (4, false)⟩ rfl (fun _ _ _ h => h) ?_ hHeld ?_
      rotate_left
      · (intro W _; go_simp <;> (try with_reducible rfl))
      refine take_v (v := ?_) 7 ⟨some 49, Op.move (Operand.tmp 48), _, _, _, some (4, false)⟩ rfl (fun _ _ _ h => h) ?_ hHeld ?_
      rotate_left
      · (intro W _; go_simp <;> (try with_reducible rfl))
      refine take_n 8 ⟨some 50, Op.fieldAddr 29 (Operand.tmp 1) 2, _, _, _, some (7, true)⟩ rfl (fun _ _ _ h => h) hHeld ?_
      refine take_n 9 ⟨some 51, Op.load 26 (Operand.tmp 50), _, _, _, some (7, true)⟩ rfl (fun _ _ _ h => h) hHeld ?_
      refine take_n 10 ⟨some 52, Op.move (Operand.tmp 3), _, _, _, some (7, true)⟩ rfl (fun _ _ _ h => h) hHeld ?_
      refine take_n 11 ⟨some 53, Op.binOp BinOp.sub 3 (Operand.tmp 52) (Operand.const (Value.int IntKind.i64 1)) 3, _, _, _, some (7, true)⟩ rfl (fun _ _ _ h => h) hHeld ?_
      refine take_n 12 ⟨some 54, Op.indexAddr 26 (Operand.tmp 51) (Operand.tmp 53), _, _, _, some (7, true)⟩ rfl (fun _ _ _ h => h) hHeld ?_
      refine take_n 13 ⟨some 55, Op.fieldAddr 37 (Operand.tmp 54) 0, _, _, _, some (7, true)⟩ rfl (fun _ _ _ h => h) hHeld ?_
      refine take_n 14 ⟨some 56, Op.load 3 (Operand.tmp 55), _, _, _, some (7, true)⟩ rfl (fun _ _ _ h => h) hHeld ?_
      refine take_n 15 ⟨some 57, Op.fieldAddr 37 (Operand.tmp 4) 0, _, _, _, some (7, true)⟩ rfl (fun _ _ _ h => h) hHeld ?_
      refine take_n 16 ⟨some 58, Op.load 3 (Operand.tmp 57), _, _, _, some (7, true)⟩ rfl (fun _ _ _ h => h) hHeld ?_
      refine take_n 17 ⟨some 59, Op.binOp BinOp.geq 3 (Operand.tmp 56) (Operand.tmp 58) 3, _, _, _, some (7, true)⟩ rfl (fun _ _ _ h => h) hHeld ?_
      refine take_v (v := ?_) 18 ⟨some 60, Op.pick (Operand.tmp 49) (Operand.tmp 59) (Operand.const (Value.bool false)), _, _, _, some (4, false)⟩ rfl (fun _ _ _ h => h) ?_ hHeld ?_
      rotate_left
      · (intro W _; go_simp <;> (try with_reducible rfl))
      refine take_v (v := ?_) 19 ⟨some 61, Op.pick (Operand.tmp 46) (Operand.const (Value.bool true)) (Operand.tmp 60), _, _, _, none⟩ rfl (fun _ _ _ h => h) ?_ hHeld ?_
      rotate_left
      · (intro W _; go_simp <;> (try with_reducible rfl))
      refine take_v (v := ?_) 20 ⟨some 62, Op.move (Operand.tmp 61), _, _, _, none⟩ rfl (fun _ _ _ h => h) ?_ hHeld ?_
      rotate_left
      · (intro W _; go_simp <;> (try with_reducible rfl))
      refine take_v (v := ?_) 21 ⟨some 63, Op.fieldAddr 37 (Operand.tmp 4) 1, _, _, _, some (20, false)⟩ rfl (fun _ _ _ h => h) ?_ hHeld ?_
      rotate_left
      · (intro W _; go_simp <;> (try with_reducible rfl))
      refine take_v (v := ?_) 22 ⟨some 64, Op.load 3 (Operand.tmp 63), _, _, _, some (20, false)⟩ rfl (fun _ _ _ h => h) ?_ hHeld ?_
      rotate_left
      · (intro W hSW; (have s0 := hSW.1.cell 0 rfl; have s1 := hSW.1.cell 1 rfl; have s2 := hSW.1.cell 2 rfl; have s3 := hSW.1.cell 3 rfl; have sz := hSW.1.2; have m0 := hSW.2.cell 0 rfl; have m1 := hSW.2.cell 1 rfl; have m2 := hSW.2.cell 2 rfl; have m3 := hSW.2.cell 3 rfl; have mz := hSW.2.2); go_simp <;> (try with_reducible rfl))
      refine take_v (v := ?_) 23 ⟨some 65, Op.fieldAddr 29 (Operand.tmp 1) 1, _, _, _, some (20, false)⟩ rfl (fun _ _ _ h => h) ?_ hHeld ?_
      rotate_left
      · (intro W _; go_simp <;> (try with_reducible rfl))
      refine take_v (v := ?_) 24 ⟨some 66, Op.load 3 (Operand.tmp 65), _, _, _, some (20, false)⟩ rfl (fun _ _ _ h => h) ?_ hHeld ?_
      rotate_left
      · (intro W hSW; (have s0 := hSW.1.cell 0 rfl; have s1 := hSW.1.cell 1 rfl; have s2 := hSW.1.cell 2 rfl; have s3 := hSW.1.cell 3 rfl; have sz := hSW.1.2; have m0 := hSW.2.cell 0 rfl; have m1 := hSW.2.cell 1 rfl; have m2 := hSW.2.cell 2 rfl; have m3 := hSW.2.cell 3 rfl; have mz := hSW.2.2); go_simp <;> (try with_reducible rfl))
      refine take_v (v := ?_) 25 ⟨some 67, Op.binOp BinOp.add 3 (Operand.tmp 66) (Operand.const (Value.int IntKind.i64 1)) 3, _, _, _, some (20, false)⟩ rfl (fun _ _ _ h => h) ?_ hHeld ?_
      rotate_left
      · (intro W _; go_simp <;> (try with_reducible rfl))
      refine take_v (v := ?_) 26 ⟨some 68, Op.fieldAddr 29 (Operand.tmp 1) 0, _, _, _, some (20, false)⟩ rfl (fun _ _ _ h => h) ?_ hHeld ?_
      rotate_left
      · (intro W _; go_simp <;> (try with_reducible rfl))
      refine take_v (v := ?_) 27 ⟨some 69, Op.load 3 (Operand.tmp 68), _, _, _, some (20, false)⟩ rfl (fun _ _ _ h => h) ?_ hHeld ?_
      rotate_left
      · (intro W hSW; (have s0 := hSW.1.cell 0 rfl; have s1 := hSW.1.cell 1 rfl; have s2 := hSW.1.cell 2 rfl; have s3 := hSW.1.cell 3 rfl; have sz := hSW.1.2; have m0 := hSW.2.cell 0 rfl; have m1 := hSW.2.cell 1 rfl; have m2 := hSW.2.cell 2 rfl; have m3 := hSW.2.cell 3 rfl; have mz := hSW.2.2); go_simp <;> (try with_reducible rfl))
      refine ready_call 28 ⟨some 70, Op.call { callee := Callee.value (Operand.func 46), args := #[Operand.tmp 64, Operand.tmp 67, Operand.tmp 69], argTypes := #[3, 3, 3] }, _, _, _, some (20, false)⟩ (by kernel_rfl) rfl (by kernel_rfl) (fun KC hK => ?_)
      go_wp2_with fail
      refine (HE.out ▸ l1In_any x1 (du + 1) ep _).mono ?_
      rintro r w' ⟨rfl, hw'⟩
      have hw' := hw'.symm
      subst hw'
      refine hK.out _ _ hHeld (fun hHeld => ?_)
      clear hK KC
      refine take_v (v := ?_) 29 ⟨some 71, Op.unOp UnOp.not 4 (Operand.tmp 70), _, _, _, some (20, false)⟩ rfl (fun _ _ _ h => h) ?_ hHeld ?_
      rotate_left
      · (intro W _; go_simp <;> (try with_reducible rfl))
      refine take_v (v := ?_) 30 ⟨some 72, Op.pick (Operand.tmp 62) (Operand.const (Value.bool true)) (Operand.tmp 71), _, _, _, none⟩ rfl (fun _ _ _ h => h) ?_ hHeld ?_
      rotate_left
      · (intro W _; go_simp <;> (try with_reducible rfl))
      refine take_v (v := ?_) 31 ⟨some 73, Op.move (Operand.tmp 72), _, _, _, none⟩ rfl (fun _ _ _ h => h) ?_ hHeld ?_
      rotate_left
      · (intro W _; go_simp <;> (try with_reducible rfl))
      refine take_v (v := ?_) 32 ⟨some 74, Op.fieldAddr 37 (Operand.tmp 4) 2, _, _, _, some (31, false)⟩ rfl (fun _ _ _ h => h) ?_ hHeld ?_
      rotate_left
      · (intro W _; go_simp <;> (try with_reducible rfl))
      refine take_v (v := ?_) 33 ⟨some 75, Op.load 27 (Operand.tmp 74), _, _, _, some (31, false)⟩ rfl (fun _ _ _ h => h) ?_ hHeld ?_
      rotate_left
      · (intro W hSW; (have s0 := hSW.1.cell 0 rfl; have s1 := hSW.1.cell 1 rfl; have s2 := hSW.1.cell 2 rfl; have s3 := hSW.1.cell 3 rfl; have sz := hSW.1.2; have m0 := hSW.2.cell 0 rfl; have m1 := hSW.2.cell 1 rfl; have m2 := hSW.2.cell 2 rfl; have m3 := hSW.2.cell 3 rfl; have mz := hSW.2.2); go_simp <;> (try with_reducible rfl))
      refine take_v (v := ?_) 34 ⟨some 76, Op.call { callee := Callee.builtin Builtin.len, args := #[Operand.tmp 75], argTypes := #[27] }, _, _, _, some (31, false)⟩ rfl (fun _ _ _ h => h) ?_ hHeld ?_
      rotate_left
      · (intro W _; go_simp <;> (try with_reducible rfl))
      refine take_v (v := ?_) 35 ⟨some 77, Op.binOp BinOp.gtr 3 (Operand.tmp 76) (Operand.const (Value.int IntKind.i64 20)) 3, _, _, _, some (31, false)⟩ rfl (fun _ _ _ h => h) ?_ hHeld ?_
      rotate_left
      · (intro W _; go_simp <;> (try with_reducible rfl))
      refine take_v (v := ?_) 36 ⟨some 78, Op.pick (Operand.tmp 73) (Operand.const (Value.bool true)) (Operand.tmp 77), _, _, _, none⟩ rfl (fun _ _ _ h => h) ?_ hHeld ?_
      rotate_left
      · (intro W _; go_simp <;> (try with_reducible rfl))
      refine take_v (v := ?_) 37 ⟨some 79, Op.move (Operand.tmp 78), _, _, _, none⟩ rfl (fun _ _ _ h => h) ?_ hHeld ?_
      rotate_left
      · (intro W _; go_simp <;> (try with_reducible rfl))
      refine take_v (v := ?_) 38 ⟨some 80, Op.fieldAddr 37 (Operand.tmp 4) 3, _, _, _, some (37, false)⟩ rfl (fun _ _ _ h => h) ?_ hHeld ?_
      rotate_left
      · (intro W _; go_simp <;> (try with_reducible rfl))
      refine take_v (v := ?_) 39 ⟨some 81, Op.load 3 (Operand.tmp 80), _, _, _, some (37, false)⟩ rfl (fun _ _ _ h => h) ?_ hHeld ?_
      rotate_left
      · (intro W hSW; (have s0 := hSW.1.cell 0 rfl; have s1 := hSW.1.cell 1 rfl; have s2 := hSW.1.cell 2 rfl; have s3 := hSW.1.cell 3 rfl; have sz := hSW.1.2; have m0 := hSW.2.cell 0 rfl; have m1 := hSW.2.cell 1 rfl; have m2 := hSW.2.cell 2 rfl; have m3 := hSW.2.cell 3 rfl; have mz := hSW.2.2); go_simp <;> (try with_reducible rfl))
      refine take_v (v := ?_) 40 ⟨some 82, Op.fieldAddr 29 (Operand.tmp 1) 1, _, _, _, some (37, false)⟩ rfl (fun _ _ _ h => h) ?_ hHeld ?_
      rotate_left
      · (intro W _; go_simp <;> (try with_reducible rfl))
      refine take_v (v := ?_) 41 ⟨some 83, Op.load 3 (Operand.tmp 82), _, _, _, some (37, false)⟩ rfl (fun _ _ _ h => h) ?_ hHeld ?_
      rotate_left
      · (intro W hSW; (have s0 := hSW.1.cell 0 rfl; have s1 := hSW.1.cell 1 rfl; have s2 := hSW.1.cell 2 rfl; have s3 := hSW.1.cell 3 rfl; have sz := hSW.1.2; have m0 := hSW.2.cell 0 rfl; have m1 := hSW.2.cell 1 rfl; have m2 := hSW.2.cell 2 rfl; have m3 := hSW.2.cell 3 rfl; have mz := hSW.2.2); go_simp <;> (try with_reducible rfl))
      refine take_v (v := ?_) 42 ⟨some 84, Op.fieldAddr 29 (Operand.tmp 1) 0, _, _, _, some (37, false)⟩ rfl (fun _ _ _ h => h) ?_ hHeld ?_
      rotate_left
      · (intro W _; go_simp <;> (try with_reducible rfl))
      refine take_v (v := ?_) 43 ⟨some 85, Op.load 3 (Operand.tmp 84), _, _, _, some (37, false)⟩ rfl (fun _ _ _ h => h) ?_ hHeld ?_
      rotate_left
      · (intro W hSW; (have s0 := hSW.1.cell 0 rfl; have s1 := hSW.1.cell 1 rfl; have s2 := hSW.1.cell 2 rfl; have s3 := hSW.1.cell 3 rfl; have sz := hSW.1.2; have m0 := hSW.2.cell 0 rfl; have m1 := hSW.2.cell 1 rfl; have m2 := hSW.2.cell 2 rfl; have m3 := hSW.2.cell 3 rfl; have mz := hSW.2.2); go_simp <;> (try with_reducible rfl))
      refine take_v (v := ?_) 44 ⟨some 86, Op.binOp BinOp.sub 3 (Operand.tmp 85) (Operand.const (Value.int IntKind.i64 1)) 3, _, _, _, some (37, false)⟩ rfl (fun _ _ _ h => h) ?_ hHeld ?_
      rotate_left
      · (intro W _; go_simp <;> (try with_reducible rfl))
      refine ready_call 45 ⟨some 87, Op.call { callee := Callee.value (Operand.func 46), args := #[Operand.tmp 81, Operand.tmp 83, Operand.tmp 86], argTypes := #[3, 3, 3] }, _, _, _, some (37, false)⟩ (by kernel_rfl) rfl (by kernel_rfl) (fun KC hK => ?_)
      go_wp2_with fail
      refine (HK.out ▸ l1In_any x3 du (ep - 1) _).mono ?_
      rintro r w' ⟨rfl, hw'⟩
      have hw' := hw'.symm
      subst hw'
      refine hK.out _ _ hHeld (fun hHeld => ?_)
      clear hK KC
      refine take_v (v := ?_) 46 ⟨some 88, Op.unOp UnOp.not 4 (Operand.tmp 87), _, _, _, some (37, false)⟩ rfl (fun _ _ _ h => h) ?_ hHeld ?_
      rotate_left
      · (intro W _; go_simp <;> (try with_reducible rfl))
      refine take_v (v := ?_) 47 ⟨some 89, Op.pick (Operand.tmp 79) (Operand.const (Value.bool true)) (Operand.tmp 88), _, _, _, none⟩ rfl (fun _ _ _ h => h) ?_ hHeld ?_
      rotate_left
      · (intro W _; go_simp <;> (try with_reducible rfl))
      refine wpAnyH_done (by kernel_rfl) ?_ _
      refine NoPanic.normal ?_
      clear hHeld
      have s0 := HX.out.1.cell 0 rfl
      have s1 := HX.out.1.cell 1 rfl
      have s2 := HX.out.1.cell 2 rfl
      have s3 := HX.out.1.cell 3 rfl
      have sz := HX.out.1.2
      have m0 := HX.out.2.1.cell 0 rfl
      have m1 := HX.out.2.1.cell 1 rfl
      have m2 := HX.out.2.1.cell 2 rfl
      have m3 := HX.out.2.1.cell 3 rfl
      have mz := HX.out.2.1.2
      go_wp2
      clear s0 s1 s2 s3 sz m0 m1 m2 m3 mz
      go_loopw [93] (fun i wr2 => ∃ j : Nat, j ≤ x2.length ∧ i = .int .i64 j ∧ runP x3 x1 x2 j ∧ Below X0.heap.size X0 wr2) (fun i _ => x2.length - (intOf i).toNat)
      case atStart => exact ⟨0, Nat.zero_le _, rfl, fun j hj => absurd hj (by omega), Below.refl _ _⟩
      case round =>
        obtain ⟨j, hj, rfl, hrun, hB2⟩ := hrel
        have HX2 : Hid (Bx wr w.heap.size [.int .i64 ep, .int .i64 du, .slice (some ⟨yg, yoff, none⟩) ms.length k1, .slice a2 en.length k2] ∧ Bx wr b4 [.int .i64 x0, .int .i64 x1, .slice ya1 x2.length yk1, .int .i64 x3] ∧ Below w.heap.size w wr) := ⟨HX.out.1.next hB2, HX.out.2.1.next hB2, below_next HX.out.2.2.1 hB2⟩
        have HB2 := Hid.intro hB2
        have HRU := Hid.intro hrun
        clear hB2 hrun
        have s0 := HX2.out.1.cell 0 rfl
        have s1 := HX2.out.1.cell 1 rfl
        have s2 := HX2.out.1.cell 2 rfl
        have s3 := HX2.out.1.cell 3 rfl
        have sz := HX2.out.1.2
        have m0 := HX2.out.2.1.cell 0 rfl
        have m1 := HX2.out.2.1.cell 1 rfl
        have m2 := HX2.out.2.1.cell 2 rfl
        have m3 := HX2.out.2.1.cell 3 rfl
        have mz := HX2.out.2.1.2
        by_cases hjl : j < x2.length
        case neg =>
          have hje : j = x2.length := by omega
          have hjn : ¬ (j : Int) < (x2.length : Int) := by omega
          by_cases hae : x1 ≤ x3
          · have had : decide (x1 ≤ x3) = true := decide_eq_true hae
            have HN : Hid (¬ goodF ep du ms en) := Hid.intro (HBAD.out 0 hlt (fun q => by have h1 := q.1.2.2.2.2.2; rw [yH.out] at h1; have h1 : x3 < x1 := h1; omega))
            clear hje
            go_wp2
            go_ret
            exact ⟨goodF_no HN.out, HX2.out.2.2⟩
          · have hae' : x3 < x1 := by omega
            have had : decide (x1 ≤ x3) = false := decide_eq_false hae
            have HM : Hid (memsP ep du ms (0 + 1)) := Hid.intro (mems_step HA.out hlt yH.out ⟨HR6.out.1, HR6.out.2.1, HR6.out.2.2.1, HR6.out.2.2.2, (hje ▸ HRU.out), hae'⟩ HPV.out)
            clear hje
            go_wp2
            go_roundw
            case rel => exact ⟨0 + 1, by omega, by first | rfl | go_num, HM.out, HX2.out.1, HX2.out.2.2⟩
            case measure => simp [intOf]; omega
        have hjl' : (j : Int) < (x2.length : Int) := by omega
        obtain ⟨gr, org, hgr, cr, hgz⟩ := lies_at (HRL.out.next HB2.out) hjl
        obtain ⟨e, he⟩ : ∃ y, y = atI x2 j := ⟨_, rfl⟩
        rw [← he] at cr
        have HEQ := Hid.intro he
        clear he
        subst hgr
        cases c9 : inR e (x3 + 1) x1
        case false =>
          have HN : Hid (¬ goodF ep du ms en) := Hid.intro (HBAD.out 0 hlt (fun q => by have h1 := (q.1.2.2.2.2.1 j (by rw [yH.out]; exact hjl)).1; rw [yH.out] at h1; have h1 : x3 + 1 ≤ atI x2 j ∧ atI x2 j ≤ x1 := h1; rw [← HEQ.out] at h1; rw [inR_iff.2 h1] at c9; cases c9))
          have HC9 : Hid (inR e (x3 + 1) x1 = false) := c9
          clear c9
          go_wp2_with (go_at_call 46; refine (HC9.out ▸ l1In_any e (x3 + 1) x1 _).mono ?_; rintro r w' ⟨rfl, hw'⟩; have hw' := hw'.symm; subst hw')
          go_ret
          exact ⟨goodF_no HN.out, HX2.out.2.2⟩
        have hb9 := inR_iff.1 c9
        have HC9 : Hid (inR e (x3 + 1) x1 = true) := c9
        clear c9
        by_cases hj0 : j = 0
        · subst hj0
          have hj0' : ¬ (0 : Int) < ((0 : Nat) : Int) := by simp
          rw [Nat.add_zero] at cr
          have HRN : Hid (runP x3 x1 x2 (0 + 1)) := Hid.intro (run_step HRU.out (by rw [← HEQ.out]; exact hb9) (fun h => absurd h (by omega)))
          go_wp2_with (go_at_call 46; refine (HC9.out ▸ l1In_any e (x3 + 1) x1 _).mono ?_; rintro r w' ⟨rfl, hw'⟩; have hw' := hw'.symm; subst hw')
          go_roundw
          case rel => exact ⟨0 + 1, by omega, by first | rfl | go_num, HRN.out, HB2.out⟩
          case measure => simp [intOf]; omega
        obtain ⟨jp, rfl⟩ : ∃ jp, j = jp + 1 := ⟨j - 1, by omega⟩
        have hj0' : (0 : Int) < ((jp + 1 : Nat) : Int) := by omega
        have hjs : ((jp + 1 : Nat) : Int) - 1 = (jp : Int) := by omega
        have hjw : IntKind.i64.wrap (((jp + 1 : Nat) : Int) - 1) = (jp : Int) := (w64f (by omega) (by omega)).trans (by omega)
        have hjw2 : IntKind.i64.wrap (jp : Int) = (jp : Int) := w64f (by omega) (by omega)
        have hjpl : (jp : Int) < (x2.length : Int) := by omega
        obtain ⟨gp, op, hgp, cp, hgz2⟩ := lies_at (HRL.out.next HB2.out) (show jp < x2.length by omega)
        simp only [Option.some.injEq, Addr.mk.injEq, and_true] at hgp
        obtain ⟨rfl, rfl⟩ := hgp
        obtain ⟨ev, hev⟩ : ∃ y, y = atI x2 jp := ⟨_, rfl⟩
        rw [← hev] at cp
        have HEV := Hid.intro hev
        clear hev hgz2
        by_cases hle : ev ≤ e
        · have hle' : ¬ e < ev := by omega
          have HRN : Hid (runP x3 x1 x2 (jp + 1 + 1)) := Hid.intro (run_step HRU.out (by rw [← HEQ.out]; exact hb9) (fun _ => by rw [← HEQ.out, show jp + 1 - 1 = jp by omega, ← HEV.out]; exact hle))
          go_wp2_with (go_at_call 46; refine (HC9.out ▸ l1In_any e (x3 + 1) x1 _).mono ?_; rintro r w' ⟨rfl, hw'⟩; have hw' := hw'.symm; subst hw')
          go_roundw
          case rel => exact ⟨jp + 1 + 1, by omega, by go_num, HRN.out, HB2.out⟩
          case measure => simp [intOf]; omega
        · have hle' : e < ev := by omega
          have HN : Hid (¬ goodF ep du ms en) := Hid.intro (HBAD.out 0 hlt (fun q => by have h1 := (q.1.2.2.2.2.1 (jp + 1) (by rw [yH.out]; exact hjl)).2 (by omega); rw [yH.out] at h1; have h1 : atI x2 (jp + 1 - 1) ≤ atI x2 (jp + 1) := h1; rw [show jp + 1 - 1 = jp by omega, ← HEQ.out, ← HEV.out] at h1; omega))
          go_wp2_with (go_at_call 46; refine (HC9.out ▸ l1In_any e (x3 + 1) x1 _).mono ?_; rintro r w' ⟨rfl, hw'⟩; have hw' := hw'.symm; subst hw')
          go_ret
          exact ⟨goodF_no HN.out, HX2.out.2.2⟩

    obtain ⟨kp, hkp⟩ : ∃ kp, kk = kp + 1 := ⟨kk - 1, by omega⟩
    subst hkp
    have hg0 : decide ((0 : Int) < ((kp + 1 : Nat) : Int)) = true := decide_eq_true (by omega)
    have hg0' : (0 : Int) < ((kp + 1 : Nat) : Int) := by omega
    have hks : ((kp + 1 : Nat) : Int) - 1 = (kp : Int) := by omega
    have hkw : IntKind.i64.wrap (((kp + 1 : Nat) : Int) - 1) = (kp : Int) := (w64f (by omega) (by omega)).trans (by omega)
    have hkw2 : IntKind.i64.wrap (kp : Int) = (kp : Int) := w64f (by omega) (by omega)
    have hkpl : (kp : Int) < (ms.length : Int) := by omega
    obtain ⟨pv, hpv⟩ : ∃ y : Int, y = mid (ms[kp]'(by omega)) := ⟨_, rfl⟩
    have HX : Hid (Bx X0 w.heap.size [.int .i64 ep, .int .i64 du, .slice (some ⟨yg, yoff, none⟩) ms.length k1, .slice a2 en.length k2] ∧ Bx X0 b4 [.int .i64 x0, .int .i64 x1, .slice ya1 x2.length yk1, .int .i64 x3] ∧ Below w.heap.size w X0 ∧ (X0.cell? ⟨yg, yoff + kp * 4, none⟩ = some (.int .i64 pv) ∧ yg < X0.heap.size)) := Hid.intro (by
      have h1 := mem_cell HX0.out.2.2.2.1 (show kp < ms.length by omega)
      rw [← hpv] at h1
      exact ⟨HX0.out.1, HX0.out.2.1, HX0.out.2.2.1, h1⟩)
    have HPE := Hid.intro hpv
    clear hpv HX0 hk0
    by_cases hcmp : x0 ≤ pv
    case pos =>
      have hcm : decide (x0 ≤ pv) = true := decide_eq_true hcmp
      have HN : Hid (¬ goodF ep du ms en) := Hid.intro (HBAD.out (kp + 1) hlt (fun q => by have h1 := q.2 (by omega) (by omega); rw [yH.out] at h1; have h2 := HPE.out; have h1 : mid (ms[kp]'(by omega)) < x0 := h1; rw [← h2] at h1; omega))
      refine wp_region_noPanic ?_
      refine wp_region_held_drew (S := fun W => Bx W w.heap.size [.int .i64 ep, .int .i64 du, .slice (some ⟨yg, yoff, none⟩) ms.length k1, .slice a2 en.length k2] ∧ Bx W b4 [.int .i64 x0, .int .i64 x1, .slice ya1 x2.length yk1, .int .i64 x3] ∧ (W.cell? ⟨yg, yoff + kp * 4, none⟩ = some (.int .i64 pv) ∧ yg < W.heap.size)) (by kernel_rfl) (hX0 ▸ ⟨HX.out.1, HX.out.2.1, HX.out.2.2.2⟩) (fun hHeld => ?_)
      rw [← hX0] at hHeld ⊢
      clear hX0
      refine take_v (v := ?_) 0 ⟨some 42, Op.fieldAddr 37 (Operand.tmp 4) 0, _, _, _, none⟩ rfl (fun _ _ _ h => h) ?_ hHeld ?_
      rotate_left
      · (intro W _; go_simp <;> (try with_reducible rfl))
      refine take_v (v := ?_) 1 ⟨some 43, Op.load 3 (Operand.tmp 42), _, _, _, none⟩ rfl (fun _ _ _ h => h) ?_ hHeld ?_
      rotate_left
      · (intro W hSW; (have s0 := hSW.1.cell 0 rfl; have s1 := hSW.1.cell 1 rfl; have s2 := hSW.1.cell 2 rfl; have s3 := hSW.1.cell 3 rfl; have sz := hSW.1.2; have m0 := hSW.2.1.cell 0 rfl; have m1 := hSW.2.1.cell 1 rfl; have m2 := hSW.2.1.cell 2 rfl; have m3 := hSW.2.1.cell 3 rfl; have mz := hSW.2.1.2; have pc := hSW.2.2.1; have pz := hSW.2.2.2); go_simp <;> (try with_reducible rfl))
      refine ready_call 2 ⟨some 44, Op.call { callee := Callee.value (Operand.func 46), args := #[Operand.tmp 43, Operand.const (Value.int IntKind.i64 0), Operand.const (Value.int IntKind.i64 99)], argTypes := #[3, 3, 3] }, _, _, _, none⟩ (by kernel_rfl) rfl (by kernel_rfl) (fun KC hK => ?_)
      go_wp2_with fail
      refine (HI.out ▸ l1In_any x0 0 99 _).mono ?_
      rintro r w' ⟨rfl, hw'⟩
      have hw' := hw'.symm
      subst hw'
      refine hK.out _ _ hHeld (fun hHeld => ?_)
      clear hK KC
      refine take_v (v := ?_) 3 ⟨some 45, Op.unOp UnOp.not 4 (Operand.tmp 44), _, _, _, none⟩ rfl (fun _ _ _ h => h) ?_ hHeld ?_
      rotate_left
      · (intro W _; go_simp <;> (try with_reducible rfl))
      refine take_v (v := ?_) 4 ⟨some 46, Op.move (Operand.tmp 45), _, _, _, none⟩ rfl (fun _ _ _ h => h) ?_ hHeld ?_
      rotate_left
      · (intro W _; go_simp <;> (try with_reducible rfl))
      refine take_v (v := ?_) 5 ⟨some 47, Op.move (Operand.tmp 3), _, _, _, some (4, false)⟩ rfl (fun _ _ _ h => h) ?_ hHeld ?_
      rotate_left
      · (intro W _; go_simp <;> (try with_reducible rfl))
      refine take_v (v := ?_) 6 ⟨some 48, Op.binOp BinOp.gtr 3 (Operand.tmp 47) (Operand.const (Value.int IntKind.i64 0)) 3, _, _, _, some (4, false)⟩ rfl (fun _ _ _ h => h) ?_ hHeld ?_
      rotate_left
      · (intro W _; go_simp <;> (try with_reducible rfl))
      refine take_v (v := ?_) 7 ⟨some 49, Op.move (Operand.tmp 48), _, _, _, some (4, false)⟩ rfl (fun _ _ _ h => h) ?_ hHeld ?_
      rotate_left
      · (intro W _; go_simp <;> (try with_reducible rfl))
      refine take_v (v := ?_) 8 ⟨some 50, Op.fieldAddr 29 (Operand.tmp 1) 2, _, _, _, some (7, true)⟩ rfl (fun _ _ _ h => h) ?_ hHeld ?_
      rotate_left
      · (intro W _; go_simp <;> (try with_reducible rfl))
      refine take_v (v := ?_) 9 ⟨some 51, Op.load 26 (Operand.tmp 50), _, _, _, some (7, true)⟩ rfl (fun _ _ _ h => h) ?_ hHeld ?_
      rotate_left
      · (intro W hSW; (have s0 := hSW.1.cell 0 rfl; have s1 := hSW.1.cell 1 rfl; have s2 := hSW.1.cell 2 rfl; have s3 := hSW.1.cell 3 rfl; have sz := hSW.1.2; have m0 := hSW.2.1.cell 0 rfl; have m1 := hSW.2.1.cell 1 rfl; have m2 := hSW.2.1.cell 2 rfl; have m3 := hSW.2.1.cell 3 rfl; have mz := hSW.2.1.2; have pc := hSW.2.2.1; have pz := hSW.2.2.2); go_simp <;> (try with_reducible rfl))
      refine take_v (v := ?_) 10 ⟨some 52, Op.move (Operand.tmp 3), _, _, _, some (7, true)⟩ rfl (fun _ _ _ h => h) ?_ hHeld ?_
      rotate_left
      · (intro W _; go_simp <;> (try with_reducible rfl))
      refine take_v (v := ?_) 11 ⟨some 53, Op.binOp BinOp.sub 3 (Operand.tmp 52) (Operand.const (Value.int IntKind.i64 1)) 3, _, _, _, some (7, true)⟩ rfl (fun _ _ _ h => h) ?_ hHeld ?_
      rotate_left
      · (intro W _; go_simp <;> (try with_reducible rfl))
      refine take_v (v := ?_) 12 ⟨some 54, Op.indexAddr 26 (Operand.tmp 51) (Operand.tmp 53), _, _, _, some (7, true)⟩ rfl (fun _ _ _ h => h) ?_ hHeld ?_
      rotate_left
      · (intro W _; go_simp <;> (try with_reducible rfl))
      refine take_v (v := ?_) 13 ⟨some 55, Op.fieldAddr 37 (Operand.tmp 54) 0, _, _, _, some (7, true)⟩ rfl (fun _ _ _ h => h) ?_ hHeld ?_
      rotate_left
      · (intro W _; go_simp <;> (try with_reducible rfl))
      refine take_v (v := ?_) 14 ⟨some 56, Op.load 3 (Operand.tmp 55), _, _, _, some (7, true)⟩ rfl (fun _ _ _ h => h) ?_ hHeld ?_
      rotate_left
      · (intro W hSW; (have s0 := hSW.1.cell 0 rfl; have s1 := hSW.1.cell 1 rfl; have s2 := hSW.1.cell 2 rfl; have s3 := hSW.1.cell 3 rfl; have sz := hSW.1.2; have m0 := hSW.2.1.cell 0 rfl; have m1 := hSW.2.1.cell 1 rfl; have m2 := hSW.2.1.cell 2 rfl; have m3 := hSW.2.1.cell 3 rfl; have mz := hSW.2.1.2; have pc := hSW.2.2.1; have pz := hSW.2.2.2); go_simp <;> (try with_reducible rfl))
      refine take_v (v := ?_) 15 ⟨some 57, Op.fieldAddr 37 (Operand.tmp 4) 0, _, _, _, some (7, true)⟩ rfl (fun _ _ _ h => h) ?_ hHeld ?_
      rotate_left
      · (intro W _; go_simp <;> (try with_reducible rfl))
      refine take_v (v := ?_) 16 ⟨some 58, Op.load 3 (Operand.tmp 57), _, _, _, some (7, true)⟩ rfl (fun _ _ _ h => h) ?_ hHeld ?_
      rotate_left
      · (intro W hSW; (have s0 := hSW.1.cell 0 rfl; have s1 := hSW.1.cell 1 rfl; have s2 := hSW.1.cell 2 rfl; have s3 := hSW.1.cell 3 rfl; have sz := hSW.1.2; have m0 := hSW.2.1.cell 0 rfl; have m1 := hSW.2.1.cell 1 rfl; have m2 := hSW.2.1.cell 2 rfl; have m3 := hSW.2.1.cell 3 rfl; have mz := hSW.2.1.2; have pc := hSW.2.2.1; have pz := hSW.2.2.2); go_simp <;> (try with_reducible rfl))
      refine take_v (v := ?_) 17 ⟨some 59, Op.binOp BinOp.geq 3 (Operand.tmp 56) (Operand.tmp 58) 3, _, _, _, some (7, true)⟩ rfl (fun _ _ _ h => h) ?_ hHeld ?_
      rotate_left
      · (intro W _; go_simp <;> (try with_reducible rfl))
      refine take_v (v := ?_) 18 ⟨some 60, Op.pick (Operand.tmp 49) (Operand.tmp 59) (Operand.const (Value.bool false)), _, _, _, some (4, false)⟩ rfl (fun _ _ _ h => h) ?_ hHeld ?_
      rotate_left
      · (intro W _; go_simp <;> (try with_reducible rfl))
      refine take_v (v := ?_) 19 ⟨some 61, Op.pick (Operand.tmp 46) (Operand.const (Value.bool true)) (Operand.tmp 60), _, _, _, none⟩ rfl (fun _ _ _ h => h) ?_ hHeld ?_
      rotate_left
      · (intro W _; go_simp <;> (try with_reducible rfl))
      refine take_v (v := ?_) 20 ⟨some 62, Op.move (Operand.tmp 61), _, _, _, none⟩ rfl (fun _ _ _ h => h) ?_ hHeld ?_
      rotate_left
      · (intro W _; go_simp <;> (try with_reducible rfl))
      refine take_n 21 ⟨some 63, Op.fieldAddr 37 (Operand.tmp 4) 1, _, _, _, some (20, false)⟩ rfl (fun _ _ _ h => h) hHeld ?_
      refine take_n 22 ⟨some 64, Op.load 3 (Operand.tmp 63), _, _, _, some (20, false)⟩ rfl (fun _ _ _ h => h) hHeld ?_
      refine take_n 23 ⟨some 65, Op.fieldAddr 29 (Operand.tmp 1) 1, _, _, _, some (20, false)⟩ rfl (fun _ _ _ h => h) hHeld ?_
      refine take_n 24 ⟨some 66, Op.load 3 (Operand.tmp 65), _, _, _, some (20, false)⟩ rfl (fun _ _ _ h => h) hHeld ?_
      refine take_n 25 ⟨some 67, Op.binOp BinOp.add 3 (Operand.tmp 66) (Operand.const (Value.int IntKind.i64 1)) 3, _, _, _, some (20, false)⟩ rfl (fun _ _ _ h => h) hHeld ?_
      refine take_n 26 ⟨some 68, Op.fieldAddr 29 (Operand.tmp 1) 0, _, _, _, some (20, false)⟩ rfl (fun _ _ _ h => h) hHeld ?_
      refine take_n 27 ⟨some 69, Op.load 3 (Operand.tmp 68), _, _, _, some (20, false)⟩ rfl (fun _ _ _ h => h) hHeld ?_
      refine take_n 28 ⟨some 70, Op.call { callee := Callee.value (Operand.func 46), args := #[Operand.tmp 64, Operand.tmp 67, Operand.tmp 69], argTypes := #[3, 3, 3] }, _, _, _, some (20, false)⟩ rfl (fun _ _ _ h => h) hHeld ?_
      refine take_n 29 ⟨some 71, Op.unOp UnOp.not 4 (Operand.tmp 70), _, _, _, some (20, false)⟩ rfl (fun _ _ _ h => h) hHeld ?_
      refine take_v (v := ?_) 30 ⟨some 72, Op.pick (Operand.tmp 62) (Operand.const (Value.bool true)) (Operand.tmp 71), _, _, _, none⟩ rfl (fun _ _ _ h => h) ?_ hHeld ?_
      rotate_left
      · (intro W _; go_simp <;> (try with_reducible rfl))
      refine take_v (v := ?_) 31 ⟨some 73, Op.move (Operand.tmp 72), _, _, _, none⟩ rfl (fun _ _ _ h => h) ?_ hHeld ?_
      rotate_left
      · (intro W _; go_simp <;> (try with_reducible rfl))
      refine take_n 32 ⟨some 74, Op.fieldAddr 37 (Operand.tmp 4) 2, _, _, _, some (31, false)⟩ rfl (fun _ _ _ h => h) hHeld ?_
      refine take_n 33 ⟨some 75, Op.load 27 (Operand.tmp 74), _, _, _, some (31, false)⟩ rfl (fun _ _ _ h => h) hHeld ?_
      refine take_n 34 ⟨some 76, Op.call { callee := Callee.builtin Builtin.len, args := #[Operand.tmp 75], argTypes := #[27] }, _, _, _, some (31, false)⟩ rfl (fun _ _ _ h => h) hHeld ?_
      refine take_n 35 ⟨some 77, Op.binOp BinOp.gtr 3 (Operand.tmp 76) (Operand.const (Value.int IntKind.i64 20)) 3, _, _, _, some (31, false)⟩ rfl (fun _ _ _ h => h) hHeld ?_
      refine take_v (v := ?_) 36 ⟨some 78, Op.pick (Operand.tmp 73) (Operand.const (Value.bool true)) (Operand.tmp 77), _, _, _, none⟩ rfl (fun _ _ _ h => h) ?_ hHeld ?_
      rotate_left
      · (intro W _; go_simp <;> (try with_reducible rfl))
      refine take_v (v := ?_) 37 ⟨some 79, Op.move (Operand.tmp 78), _, _, _, none⟩ rfl (fun _ _ _ h => h) ?_ hHeld ?_
      rotate_left
      · (intro W _; go_simp <;> (try with_reducible rfl))
      refine take_n 38 ⟨some 80, Op.fieldAddr 37 (Operand.tmp 4) 3, _, _, _, some (37, false)⟩ rfl (fun _ _ _ h => h) hHeld ?_
      refine take_n 39 ⟨some 81, Op.load 3 (Operand.tmp 80), _, _, _, some (37, false)⟩ rfl (fun _ _ _ h => h) hHeld ?_
      refine take_n 40 ⟨some 82, Op.fieldAddr 29 (Operand.tmp 1) 1, _, _, _, some (37, false)⟩ rfl (fun _ _ _ h => h) hHeld ?_
      refine take_n 41 ⟨some 83, Op.load 3 (Operand.tmp 82), _, _, _, some (37, false)⟩ rfl (fun _ _ _ h => h) hHeld ?_
      refine take_n 42 ⟨some 84, Op.fieldAddr 29 (Operand.tmp 1) 0, _, _, _, some (37, false)⟩ rfl (fun _ _ _ h => h) hHeld ?_
      refine take_n 43 ⟨some 85, Op.load 3 (Operand.tmp 84), _, _, _, some (37, false)⟩ rfl (fun _ _ _ h => h) hHeld ?_
      refine take_n 44 ⟨some 86, Op.binOp BinOp.sub 3 (Operand.tmp 85) (Operand.const (Value.int IntKind.i64 1)) 3, _, _, _, some (37, false)⟩ rfl (fun _ _ _ h => h) hHeld ?_
      refine take_n 45 ⟨some 87, Op.call { callee := Callee.value (Operand.func 46), args := #[Operand.tmp 81, Operand.tmp 83, Operand.tmp 86], argTypes := #[3, 3, 3] }, _, _, _, some (37, false)⟩ rfl (fun _ _ _ h => h) hHeld ?_
      refine take_n 46 ⟨some 88, Op.unOp UnOp.not 4 (Operand.tmp 87), _, _, _, some (37, false)⟩ rfl (fun _ _ _ h => h) hHeld ?_
      refine take_v (v := ?_) 47 ⟨some 89, Op.pick (Operand.tmp 79) (Operand.const (Value.bool true)) (Operand.tmp 88), _, _, _, none⟩ rfl (fun _ _ _ h => h) ?_ hHeld ?_
      rotate_left
      · (intro W _; go_simp <;> (try with_reducible rfl))
      refine wpAnyH_done (by kernel_rfl) ?_ _
      refine NoPanic.normal ?_
      clear hHeld
      go_wp2
      go_ret
      exact ⟨goodF_no HN.out, HX.out.2.2.1⟩
    have hcm : decide (x0 ≤ pv) = false := decide_eq_false hcmp
    have hcm' : pv < x0 := by omega
    have HPV : Hid (prevP ms (kp + 1) x0) := Hid.intro (fun h _ => by have h1 := HPE.out; have e : mid (ms[kp + 1 - 1]'h) = pv := h1.symm; rw [e]; exact hcm')
    cases c5 : inR x1 (du + 1) ep
    case false =>
      have HE : Hid (inR x1 (du + 1) ep = false) := c5
      have HN : Hid (¬ goodF ep du ms en) := Hid.intro (HBAD.out (kp + 1) hlt (fun q => by have h1 := q.1.2.1; rw [yH.out] at h1; rw [inR_iff.2 (show du + 1 ≤ x1 ∧ x1 ≤ ep from h1)] at c5; cases c5))
      clear c5
      refine wp_region_noPanic ?_
      refine wp_region_held_drew (S := fun W => Bx W w.heap.size [.int .i64 ep, .int .i64 du, .slice (some ⟨yg, yoff, none⟩) ms.length k1, .slice a2 en.length k2] ∧ Bx W b4 [.int .i64 x0, .int .i64 x1, .slice ya1 x2.length yk1, .int .i64 x3] ∧ (W.cell? ⟨yg, yoff + kp * 4, none⟩ = some (.int .i64 pv) ∧ yg < W.heap.size)) (by kernel_rfl) (hX0 ▸ ⟨HX.out.1, HX.out.2.1, HX.out.2.2.2⟩) (fun hHeld => ?_)
      rw [← hX0] at hHeld ⊢
      clear hX0
      refine take_v (v := ?_) 0 ⟨some 42, Op.fieldAddr 37 (Operand.tmp 4) 0, _, _, _, none⟩ rfl (fun _ _ _ h => h) ?_ hHeld ?_
      rotate_left
      · (intro W _; go_simp <;> (try with_reducible rfl))
      refine take_v (v := ?_) 1 ⟨some 43, Op.load 3 (Operand.tmp 42), _, _, _, none⟩ rfl (fun _ _ _ h => h) ?_ hHeld ?_
      rotate_left
      · (intro W hSW; (have s0 := hSW.1.cell 0 rfl; have s1 := hSW.1.cell 1 rfl; have s2 := hSW.1.cell 2 rfl; have s3 := hSW.1.cell 3 rfl; have sz := hSW.1.2; have m0 := hSW.2.1.cell 0 rfl; have m1 := hSW.2.1.cell 1 rfl; have m2 := hSW.2.1.cell 2 rfl; have m3 := hSW.2.1.cell 3 rfl; have mz := hSW.2.1.2; have pc := hSW.2.2.1; have pz := hSW.2.2.2); go_simp <;> (try with_reducible rfl))
      refine ready_call 2 ⟨some 44, Op.call { callee := Callee.value (Operand.func 46), args := #[Operand.tmp 43, Operand.const (Value.int IntKind.i64 0), Operand.const (Value.int IntKind.i64 99)], argTypes := #[3, 3, 3] }, _, _, _, none⟩ (by kernel_rfl) rfl (by kernel_rfl) (fun KC hK => ?_)
      go_wp2_with fail
      refine (HI.out ▸ l1In_any x0 0 99 _).mono ?_
      rintro r w' ⟨rfl, hw'⟩
      have hw' := hw'.symm
      subst hw'
      refine hK.out _ _ hHeld (fun hHeld => ?_)
      clear hK KC
      refine take_v (v := ?_) 3 ⟨some 45, Op.unOp UnOp.not 4 (Operand.tmp 44), _, _, _, none⟩ rfl (fun _ _ _ h => h) ?_ hHeld ?_
      rotate_left
      · (intro W _; go_simp <;> (try with_reducible rfl))
      refine take_v (v := ?_) 4 ⟨some 46, Op.move (Operand.tmp 45), _, _, _, none⟩ rfl (fun _ _ _ h => h) ?_ hHeld ?_
      rotate_left
      · (intro W _; go_simp <;> (try with_reducible rfl))
      refine take_v (v := ?_) 5 ⟨some 47, Op.move (Operand.tmp 3), _, _, _, some (4, false)⟩ rfl (fun _ _ _ h => h) ?_ hHeld ?_
      rotate_left
      · (intro W _; go_simp <;> (try with_reducible rfl))
      refine take_v (v := ?_) 6 ⟨some 48, Op.binOp BinOp.gtr 3 (Operand.tmp 47) (Operand.const (Value.int IntKind.i64 0)) 3, _, _, _, some (4, false)⟩ rfl (fun _ _ _ h => h) ?_ hHeld ?_
      rotate_left
      · (intro W _; go_simp <;> (try with_reducible rfl))
      refine take_v (v := ?_) 7 ⟨some 49, Op.move (Operand.tmp 48), _, _, _, some (4, false)⟩ rfl (fun _ _ _ h => h) ?_ hHeld ?_
      rotate_left
      · (intro W _; go_simp <;> (try with_reducible rfl))
      refine take_v (v := ?_) 8 ⟨some 50, Op.fieldAddr 29 (Operand.tmp 1) 2, _, _, _, some (7, true)⟩ rfl (fun _ _ _ h => h) ?_ hHeld ?_
      rotate_left
      · (intro W _; go_simp <;> (try with_reducible rfl))
      refine take_v (v := ?_) 9 ⟨some 51, Op.load 26 (Operand.tmp 50), _, _, _, some (7, true)⟩ rfl (fun _ _ _ h => h) ?_ hHeld ?_
      rotate_left
      · (intro W hSW; (have s0 := hSW.1.cell 0 rfl; have s1 := hSW.1.cell 1 rfl; have s2 := hSW.1.cell 2 rfl; have s3 := hSW.1.cell 3 rfl; have sz := hSW.1.2; have m0 := hSW.2.1.cell 0 rfl; have m1 := hSW.2.1.cell 1 rfl; have m2 := hSW.2.1.cell 2 rfl; have m3 := hSW.2.1.cell 3 rfl; have mz := hSW.2.1.2; have pc := hSW.2.2.1; have pz := hSW.2.2.2); go_simp <;> (try with_reducible rfl))
      refine take_v (v := ?_) 10 ⟨some 52, Op.move (Operand.tmp 3), _, _, _, some (7, true)⟩ rfl (fun _ _ _ h => h) ?_ hHeld ?_
      rotate_left
      · (intro W _; go_simp <;> (try with_reducible rfl))
      refine take_v (v := ?_) 11 ⟨some 53, Op.binOp BinOp.sub 3 (Operand.tmp 52) (Operand.const (Value.int IntKind.i64 1)) 3, _, _, _, some (7, true)⟩ rfl (fun _ _ _ h => h) ?_ hHeld ?_
      rotate_left
      · (intro W _; go_simp <;> (try with_reducible rfl))
      refine take_v (v := ?_) 12 ⟨some 54, Op.indexAddr 26 (Operand.tmp 51) (Operand.tmp 53), _, _, _, some (7, true)⟩ rfl (fun _ _ _ h => h) ?_ hHeld ?_
      rotate_left
      · (intro W _; go_simp <;> (try with_reducible rfl))
      refine take_v (v := ?_) 13 ⟨some 55, Op.fieldAddr 37 (Operand.tmp 54) 0, _, _, _, some (7, true)⟩ rfl (fun _ _ _ h => h) ?_ hHeld ?_
      rotate_left
      · (intro W _; go_simp <;> (try with_reducible rfl))
      refine take_v (v := ?_) 14 ⟨some 56, Op.load 3 (Operand.tmp 55), _, _, _, some (7, true)⟩ rfl (fun _ _ _ h => h) ?_ hHeld ?_
      rotate_left
      · (intro W hSW; (have s0 := hSW.1.cell 0 rfl; have s1 := hSW.1.cell 1 rfl; have s2 := hSW.1.cell 2 rfl; have s3 := hSW.1.cell 3 rfl; have sz := hSW.1.2; have m0 := hSW.2.1.cell 0 rfl; have m1 := hSW.2.1.cell 1 rfl; have m2 := hSW.2.1.cell 2 rfl; have m3 := hSW.2.1.cell 3 rfl; have mz := hSW.2.1.2; have pc := hSW.2.2.1; have pz := hSW.2.2.2); go_simp <;> (try with_reducible rfl))
      refine take_v (v := ?_) 15 ⟨some 57, Op.fieldAddr 37 (Operand.tmp 4) 0, _, _, _, some (7, true)⟩ rfl (fun _ _ _ h => h) ?_ hHeld ?_
      rotate_left
      · (intro W _; go_simp <;> (try with_reducible rfl))
      refine take_v (v := ?_) 16 ⟨some 58, Op.load 3 (Operand.tmp 57), _, _, _, some (7, true)⟩ rfl (fun _ _ _ h => h) ?_ hHeld ?_
      rotate_left
      · (intro W hSW; (have s0 := hSW.1.cell 0 rfl; have s1 := hSW.1.cell 1 rfl; have s2 := hSW.1.cell 2 rfl; have s3 := hSW.1.cell 3 rfl; have sz := hSW.1.2; have m0 := hSW.2.1.cell 0 rfl; have m1 := hSW.2.1.cell 1 rfl; have m2 := hSW.2.1.cell 2 rfl; have m3 := hSW.2.1.cell 3 rfl; have mz := hSW.2.1.2; have pc := hSW.2.2.1; have pz := hSW.2.2.2); go_simp <;> (try with_reducible rfl))
      refine take_v (v := ?_) 17 ⟨some 59, Op.binOp BinOp.geq 3 (Operand.tmp 56) (Operand.tmp 58) 3, _, _, _, some (7, true)⟩ rfl (fun _ _ _ h => h) ?_ hHeld ?_
      rotate_left
      · (intro W _; go_simp <;> (try with_reducible rfl))
      refine take_v (v := ?_) 18 ⟨some 60, Op.pick (Operand.tmp 49) (Operand.tmp 59) (Operand.const (Value.bool false)), _, _, _, some (4, false)⟩ rfl (fun _ _ _ h => h) ?_ hHeld ?_
      rotate_left
      · (intro W _; go_simp <;> (try with_reducible rfl))
      refine take_v (v := ?_) 19 ⟨some 61, Op.pick (Operand.tmp 46) (Operand.const (Value.bool true)) (Operand.tmp 60), _, _, _, none⟩ rfl (fun _ _ _ h => h) ?_ hHeld ?_
      rotate_left
      · (intro W _; go_simp <;> (try with_reducible rfl))
      refine take_v (v := ?_) 20 ⟨some 62, Op.move (Operand.tmp 61), _, _, _, none⟩ rfl (fun _ _ _ h => h) ?_ hHeld ?_
      rotate_left
      · (intro W _; go_simp <;> (try with_reducible rfl))
      refine take_v (v := ?_) 21 ⟨some 63, Op.fieldAddr 37 (Operand.tmp 4) 1, _, _, _, some (20, false)⟩ rfl (fun _ _ _ h => h) ?_ hHeld ?_
      rotate_left
      · (intro W _; go_simp <;> (try with_reducible rfl))
      refine take_v (v := ?_) 22 ⟨some 64, Op.load 3 (Operand.tmp 63), _, _, _, some (20, false)⟩ rfl (fun _ _ _ h => h) ?_ hHeld ?_
      rotate_left
      · (intro W hSW; (have s0 := hSW.1.cell 0 rfl; have s1 := hSW.1.cell 1 rfl; have s2 := hSW.1.cell 2 rfl; have s3 := hSW.1.cell 3 rfl; have sz := hSW.1.2; have m0 := hSW.2.1.cell 0 rfl; have m1 := hSW.2.1.cell 1 rfl; have m2 := hSW.2.1.cell 2 rfl; have m3 := hSW.2.1.cell 3 rfl; have mz := hSW.2.1.2; have pc := hSW.2.2.1; have pz := hSW.2.2.2); go_simp <;> (try with_reducible rfl))
      refine take_v (v := ?_) 23 ⟨some 65, Op.fieldAddr 29 (Operand.tmp 1) 1, _, _, _, some (20, false)⟩ rfl (fun _ _ _ h => h) ?_ hHeld ?_
      rotate_left
      · (intro W _; go_simp <;> (try with_reducible rfl))
      refine take_v (v := ?_) 24 ⟨some 66, Op.load 3 (Operand.tmp 65), _, _, _, some (20, false)⟩ rfl (fun _ _ _ h => h) ?_ hHeld ?_
      rotate_left
      · (intro W hSW; (have s0 := hSW.1.cell 0 rfl; have s1 := hSW.1.cell 1 rfl; have s2 := hSW.1.cell 2 rfl; have s3 := hSW.1.cell 3 rfl; have sz := hSW.1.2; have m0 := hSW.2.1.cell 0 rfl; have m1 := hSW.2.1.cell 1 rfl; have m2 := hSW.2.1.cell 2 rfl; have m3 := hSW.2.1.cell 3 rfl; have mz := hSW.2.1.2; have pc := hSW.2.2.1; have pz := hSW.2.2.2); go_simp <;> (try with_reducible rfl))
      refine take_v (v := ?_) 25 ⟨some 67, Op.binOp BinOp.add 3 (Operand.tmp 66) (Operand.const (Value.int IntKind.i64 1)) 3, _, _, _, some (20, false)⟩ rfl (fun _ _ _ h => h) ?_ hHeld ?_
      rotate_left
      · (intro W _; go_simp <;> (try with_reducible rfl))
      refine take_v (v := ?_) 26 ⟨some 68, Op.fieldAddr 29 (Operand.tmp 1) 0, _, _, _, some (20, false)⟩ rfl (fun _ _ _ h => h) ?_ hHeld ?_
      rotate_left
      · (intro W _; go_simp <;> (try with_reducible rfl))
      refine take_v (v := ?_) 27 ⟨some 69, Op.load 3 (Operand.tmp 68), _, _, _, some (20, false)⟩ rfl (fun _ _ _ h => h) ?_ hHeld ?_
      rotate_left
      · (intro W hSW; (have s0 := hSW.1.cell 0 rfl; have s1 := hSW.1.cell 1 rfl; have s2 := hSW.1.cell 2 rfl; have s3 := hSW.1.cell 3 rfl; have sz := hSW.1.2; have m0 := hSW.2.1.cell 0 rfl; have m1 := hSW.2.1.cell 1 rfl; have m2 := hSW.2.1.cell 2 rfl; have m3 := hSW.2.1.cell 3 rfl; have mz := hSW.2.1.2; have pc := hSW.2.2.1; have pz := hSW.2.2.2); go_simp <;> (try with_reducible rfl))
      refine ready_call 28 ⟨some 70, Op.call { callee := Callee.value (Operand.func 46), args := #[Operand.tmp 64, Operand.tmp 67, Operand.tmp 69], argTypes := #[3, 3, 3] }, _, _, _, some (20, false)⟩ (by kernel_rfl) rfl (by kernel_rfl) (fun KC hK => ?_)
      go_wp2_with fail
      refine (HE.out ▸ l1In_any x1 (du + 1) ep _).mono ?_
      rintro r w' ⟨rfl, hw'⟩
      have hw' := hw'.symm
      subst hw'
      refine hK.out _ _ hHeld (fun hHeld => ?_)
      clear hK KC
      refine take_v (v := ?_) 29 ⟨some 71, Op.unOp UnOp.not 4 (Operand.tmp 70), _, _, _, some (20, false)⟩ rfl (fun _ _ _ h => h) ?_ hHeld ?_
      rotate_left
      · (intro W _; go_simp <;> (try with_reducible rfl))
      refine take_v (v := ?_) 30 ⟨some 72, Op.pick (Operand.tmp 62) (Operand.const (Value.bool true)) (Operand.tmp 71), _, _, _, none⟩ rfl (fun _ _ _ h => h) ?_ hHeld ?_
      rotate_left
      · (intro W _; go_simp <;> (try with_reducible rfl))
      refine take_v (v := ?_) 31 ⟨some 73, Op.move (Operand.tmp 72), _, _, _, none⟩ rfl (fun _ _ _ h => h) ?_ hHeld ?_
      rotate_left
      · (intro W _; go_simp <;> (try with_reducible rfl))
      refine take_n 32 ⟨some 74, Op.fieldAddr 37 (Operand.tmp 4) 2, _, _, _, some (31, false)⟩ rfl (fun _ _ _ h => h) hHeld ?_
      refine take_n 33 ⟨some 75, Op.load 27 (Operand.tmp 74), _, _, _, some (31, false)⟩ rfl (fun _ _ _ h => h) hHeld ?_
      refine take_n 34 ⟨some 76, Op.call { callee := Callee.builtin Builtin.len, args := #[Operand.tmp 75], argTypes := #[27] }, _, _, _, some (31, false)⟩ rfl (fun _ _ _ h => h) hHeld ?_
      refine take_n 35 ⟨some 77, Op.binOp BinOp.gtr 3 (Operand.tmp 76) (Operand.const (Value.int IntKind.i64 20)) 3, _, _, _, some (31, false)⟩ rfl (fun _ _ _ h => h) hHeld ?_
      refine take_v (v := ?_) 36 ⟨some 78, Op.pick (Operand.tmp 73) (Operand.const (Value.bool true)) (Operand.tmp 77), _, _, _, none⟩ rfl (fun _ _ _ h => h) ?_ hHeld ?_
      rotate_left
      · (intro W _; go_simp <;> (try with_reducible rfl))
      refine take_v (v := ?_) 37 ⟨some 79, Op.move (Operand.tmp 78), _, _, _, none⟩ rfl (fun _ _ _ h => h) ?_ hHeld ?_
      rotate_left
      · (intro W _; go_simp <;> (try with_reducible rfl))
      refine take_n 38 ⟨some 80, Op.fieldAddr 37 (Operand.tmp 4) 3, _, _, _, some (37, false)⟩ rfl (fun _ _ _ h => h) hHeld ?_
      refine take_n 39 ⟨some 81, Op.load 3 (Operand.tmp 80), _, _, _, some (37, false)⟩ rfl (fun _ _ _ h => h) hHeld ?_
      refine take_n 40 ⟨some 82, Op.fieldAddr 29 (Operand.tmp 1) 1, _, _, _, some (37, false)⟩ rfl (fun _ _ _ h => h) hHeld ?_
      refine take_n 41 ⟨some 83, Op.load 3 (Operand.tmp 82), _, _, _, some (37, false)⟩ rfl (fun _ _ _ h => h) hHeld ?_
      refine take_n 42 ⟨some 84, Op.fieldAddr 29 (Operand.tmp 1) 0, _, _, _, some (37, false)⟩ rfl (fun _ _ _ h => h) hHeld ?_
      refine take_n 43 ⟨some 85, Op.load 3 (Operand.tmp 84), _, _, _, some (37, false)⟩ rfl (fun _ _ _ h => h) hHeld ?_
      refine take_n 44 ⟨some 86, Op.binOp BinOp.sub 3 (Operand.tmp 85) (Operand.const (Value.int IntKind.i64 1)) 3, _, _, _, some (37, false)⟩ rfl (fun _ _ _ h => h) hHeld ?_
      refine take_n 45 ⟨some 87, Op.call { callee := Callee.value (Operand.func 46), args := #[Operand.tmp 81, Operand.tmp 83, Operand.tmp 86], argTypes := #[3, 3, 3] }, _, _, _, some (37, false)⟩ rfl (fun _ _ _ h => h) hHeld ?_
      refine take_n 46 ⟨some 88, Op.unOp UnOp.not 4 (Operand.tmp 87), _, _, _, some (37, false)⟩ rfl (fun _ _ _ h => h) hHeld ?_
      refine take_v (v := ?_) 47 ⟨some 89, Op.pick (Operand.tmp 79) (Operand.const (Value.bool true)) (Operand.tmp 88), _, _, _, none⟩ rfl (fun _ _ _ h => h) ?_ hHeld ?_
      rotate_left
      · (intro W _; go_simp <;> (try with_reducible rfl))
      refine wpAnyH_done (by kernel_rfl) ?_ _
      refine NoPanic.normal ?_
      clear hHeld
      go_wp2
      go_ret
      exact ⟨goodF_no HN.out, HX.out.2.2.1⟩
    have HE : Hid (inR x1 (du + 1) ep = true) := c5
    have hb5 := inR_iff.1 c5
    clear c5
    by_cases hl20 : (20 : Int) < (x2.length : Int)
    case pos =>
      have HN : Hid (¬ goodF ep du ms en) := Hid.intro (HBAD.out (kp + 1) hlt (fun q => by have h1 := q.1.2.2.1; rw [yH.out] at h1; have h1 : x2.length ≤ 20 := h1; omega))
      have hl20' : decide ((20 : Int) < (x2.length : Int)) = true := decide_eq_true hl20
      refine wp_region_noPanic ?_
      refine wp_region_held_drew (S := fun W => Bx W w.heap.size [.int .i64 ep, .int .i64 du, .slice (some ⟨yg, yoff, none⟩) ms.length k1, .slice a2 en.length k2] ∧ Bx W b4 [.int .i64 x0, .int .i64 x1, .slice ya1 x2.length yk1, .int .i64 x3] ∧ (W.cell? ⟨yg, yoff + kp * 4, none⟩ = some (.int .i64 pv) ∧ yg < W.heap.size)) (by kernel_rfl) (hX0 ▸ ⟨HX.out.1, HX.out.2.1, HX.out.2.2.2⟩) (fun hHeld => ?_)
      rw [← hX0] at hHeld ⊢
      clear hX0
      refine take_v (v := ?_) 0 ⟨some 42, Op.fieldAddr 37 (Operand.tmp 4) 0, _, _, _, none⟩ rfl (fun _ _ _ h => h) ?_ hHeld ?_
      rotate_left
      · (intro W _; go_simp <;> (try with_reducible rfl))
      refine take_v (v := ?_) 1 ⟨some 43, Op.load 3 (Operand.tmp 42), _, _, _, none⟩ rfl (fun _ _ _ h => h) ?_ hHeld ?_
      rotate_left
      · (intro W hSW; (have s0 := hSW.1.cell 0 rfl; have s1 := hSW.1.cell 1 rfl; have s2 := hSW.1.cell 2 rfl; have s3 := hSW.1.cell 3 rfl; have sz := hSW.1.2; have m0 := hSW.2.1.cell 0 rfl; have m1 := hSW.2.1.cell 1 rfl; have m2 := hSW.2.1.cell 2 rfl; have m3 := hSW.2.1.cell 3 rfl; have mz := hSW.2.1.2; have pc := hSW.2.2.1; have pz := hSW.2.2.2); go_simp <;> (try with_reducible rfl))
      refine ready_call 2 ⟨some 44, Op.call { callee := Callee.value (Operand.func 46), args := #[Operand.tmp 43, Operand.const (Value.int IntKind.i64 0), Operand.const (Value.int IntKind.i64 99)], argTypes := #[3, 3, 3] }, _, _, _, none⟩ (by kernel_rfl) rfl (by kernel_rfl) (fun KC hK => ?_)
      go_wp2_with fail
      refine (HI.out ▸ l1In_any x0 0 99 _).mono ?_
      rintro r w' ⟨rfl, hw'⟩
      have hw' := hw'.symm
      subst hw'
      refine hK.out _ _ hHeld (fun hHeld => ?_)
      clear hK KC
      refine take_v (v := ?_) 3 ⟨some 45, Op.unOp UnOp.not 4 (Operand.tmp 44), _, _, _, none⟩ rfl (fun _ _ _ h => h) ?_ hHeld ?_
      rotate_left
      · (intro W _; go_simp <;> (try with_reducible rfl))
      refine take_v (v := ?_) 4 ⟨some 46, Op.move (Operand.tmp 45), _, _, _, none⟩ rfl (fun _ _ _ h => h) ?_ hHeld ?_
      rotate_left
      · (intro W _; go_simp <;> (try with_reducible rfl))
      refine take_v (v := ?_) 5 ⟨some 47, Op.move (Operand.tmp 3), _, _, _, some (4, false)⟩ rfl (fun _ _ _ h => h) ?_ hHeld ?_
      rotate_left
      · (intro W _; go_simp <;> (try with_reducible rfl))
      refine take_v (v := ?_) 6 ⟨some 48, Op.binOp BinOp.gtr 3 (Operand.tmp 47) (Operand.const (Value.int IntKind.i64 0)) 3, _, _, _, some (4, false)⟩ rfl (fun _ _ _ h => h) ?_ hHeld ?_
      rotate_left
      · (intro W _; go_simp <;> (try with_reducible rfl))
      refine take_v (v := ?_) 7 ⟨some 49, Op.move (Operand.tmp 48), _, _, _, some (4, false)⟩ rfl (fun _ _ _ h => h) ?_ hHeld ?_
      rotate_left
      · (intro W _; go_simp <;> (try with_reducible rfl))
      refine take_v (v := ?_) 8 ⟨some 50, Op.fieldAddr 29 (Operand.tmp 1) 2, _, _, _, some (7, true)⟩ rfl (fun _ _ _ h => h) ?_ hHeld ?_
      rotate_left
      · (intro W _; go_simp <;> (try with_reducible rfl))
      refine take_v (v := ?_) 9 ⟨some 51, Op.load 26 (Operand.tmp 50), _, _, _, some (7, true)⟩ rfl (fun _ _ _ h => h) ?_ hHeld ?_
      rotate_left
      · (intro W hSW; (have s0 := hSW.1.cell 0 rfl; have s1 := hSW.1.cell 1 rfl; have s2 := hSW.1.cell 2 rfl; have s3 := hSW.1.cell 3 rfl; have sz := hSW.1.2; have m0 := hSW.2.1.cell 0 rfl; have m1 := hSW.2.1.cell 1 rfl; have m2 := hSW.2.1.cell 2 rfl; have m3 := hSW.2.1.cell 3 rfl; have mz := hSW.2.1.2; have pc := hSW.2.2.1; have pz := hSW.2.2.2); go_simp <;> (try with_reducible rfl))
      refine take_v (v := ?_) 10 ⟨some 52, Op.move (Operand.tmp 3), _, _, _, some (7, true)⟩ rfl (fun _ _ _ h => h) ?_ hHeld ?_
      rotate_left
      · (intro W _; go_simp <;> (try with_reducible rfl))
      refine take_v (v := ?_) 11 ⟨some 53, Op.binOp BinOp.sub 3 (Operand.tmp 52) (Operand.const (Value.int IntKind.i64 1)) 3, _, _, _, some (7, true)⟩ rfl (fun _ _ _ h => h) ?_ hHeld ?_
      rotate_left
      · (intro W _; go_simp <;> (try with_reducible rfl))
      refine take_v (v := ?_) 12 ⟨some 54, Op.indexAddr 26 (Operand.tmp 51) (Operand.tmp 53), _, _, _, some (7, true)⟩ rfl (fun _ _ _ h => h) ?_ hHeld ?_
      rotate_left
      · (intro W _; go_simp <;> (try with_reducible rfl))
      refine take_v (v := ?_) 13 ⟨some 55, Op.fieldAddr 37 (Operand.tmp 54) 0, _, _, _, some (7, true)⟩ rfl (fun _ _ _ h => h) ?_ hHeld ?_
      rotate_left
      · (intro W _; go_simp <;> (try with_reducible rfl))
      refine take_v (v := ?_) 14 ⟨some 56, Op.load 3 (Operand.tmp 55), _, _, _, some (7, true)⟩ rfl (fun _ _ _ h => h) ?_ hHeld ?_
      rotate_left
      · (intro W hSW; (have s0 := hSW.1.cell 0 rfl; have s1 := hSW.1.cell 1 rfl; have s2 := hSW.1.cell 2 rfl; have s3 := hSW.1.cell 3 rfl; have sz := hSW.1.2; have m0 := hSW.2.1.cell 0 rfl; have m1 := hSW.2.1.cell 1 rfl; have m2 := hSW.2.1.cell 2 rfl; have m3 := hSW.2.1.cell 3 rfl; have mz := hSW.2.1.2; have pc := hSW.2.2.1; have pz := hSW.2.2.2); go_simp <;> (try with_reducible rfl))
      refine take_v (v := ?_) 15 ⟨some 57, Op.fieldAddr 37 (Operand.tmp 4) 0, _, _, _, some (7, true)⟩ rfl (fun _ _ _ h => h) ?_ hHeld ?_
      rotate_left
      · (intro W _; go_simp <;> (try with_reducible rfl))
      refine take_v (v := ?_) 16 ⟨some 58, Op.load 3 (Operand.tmp 57), _, _, _, some (7, true)⟩ rfl (fun _ _ _ h => h) ?_ hHeld ?_
      rotate_left
      · (intro W hSW; (have s0 := hSW.1.cell 0 rfl; have s1 := hSW.1.cell 1 rfl; have s2 := hSW.1.cell 2 rfl; have s3 := hSW.1.cell 3 rfl; have sz := hSW.1.2; have m0 := hSW.2.1.cell 0 rfl; have m1 := hSW.2.1.cell 1 rfl; have m2 := hSW.2.1.cell 2 rfl; have m3 := hSW.2.1.cell 3 rfl; have mz := hSW.2.1.2; have pc := hSW.2.2.1; have pz := hSW.2.2.2); go_simp <;> (try with_reducible rfl))
      refine take_v (v := ?_) 17 ⟨some 59, Op.binOp BinOp.geq 3 (Operand.tmp 56) (Operand.tmp 58) 3, _, _, _, some (7, true)⟩ rfl (fun _ _ _ h => h) ?_ hHeld ?_
      rotate_left
      · (intro W _; go_simp <;> (try with_reducible rfl))
      refine take_v (v := ?_) 18 ⟨some 60, Op.pick (Operand.tmp 49) (Operand.tmp 59) (Operand.const (Value.bool false)), _, _, _, some (4, false)⟩ rfl (fun _ _ _ h => h) ?_ hHeld ?_
      rotate_left
      · (intro W _; go_simp <;> (try with_reducible rfl))
      refine take_v (v := ?_) 19 ⟨some 61, Op.pick (Operand.tmp 46) (Operand.const (Value.bool true)) (Operand.tmp 60), _, _, _, none⟩ rfl (fun _ _ _ h => h) ?_ hHeld ?_
      rotate_left
      · (intro W _; go_simp <;> (try with_reducible rfl))
      refine take_v (v := ?_) 20 ⟨some 62, Op.move (Operand.tmp 61), _, _, _, none⟩ rfl (fun _ _ _ h => h) ?_ hHeld ?_
      rotate_left
      · (intro W _; go_simp <;> (try with_reducible rfl))
      refine take_v (v := ?_) 21 ⟨some 63, Op.fieldAddr 37 (Operand.tmp 4) 1, _, _, _, some (20, false)⟩ rfl (fun _ _ _ h => h) ?_ hHeld ?_
      rotate_left
      · (intro W _; go_simp <;> (try with_reducible rfl))
      refine take_v (v := ?_) 22 ⟨some 64, Op.load 3 (Operand.tmp 63), _, _, _, some (20, false)⟩ rfl (fun _ _ _ h => h) ?_ hHeld ?_
      rotate_left
      · (intro W hSW; (have s0 := hSW.1.cell 0 rfl; have s1 := hSW.1.cell 1 rfl; have s2 := hSW.1.cell 2 rfl; have s3 := hSW.1.cell 3 rfl; have sz := hSW.1.2; have m0 := hSW.2.1.cell 0 rfl; have m1 := hSW.2.1.cell 1 rfl; have m2 := hSW.2.1.cell 2 rfl; have m3 := hSW.2.1.cell 3 rfl; have mz := hSW.2.1.2; have pc := hSW.2.2.1; have pz := hSW.2.2.2); go_simp <;> (try with_reducible rfl))
      refine take_v (v := ?_) 23 ⟨some 65, Op.fieldAddr 29 (Operand.tmp 1) 1, _, _, _, some (20, false)⟩ rfl (fun _ _ _ h => h) ?_ hHeld ?_
      rotate_left
      · (intro W _; go_simp <;> (try with_reducible rfl))
      refine take_v (v := ?_) 24 ⟨some 66, Op.load 3 (Operand.tmp 65), _, _, _, some (20, false)⟩ rfl (fun _ _ _ h => h) ?_ hHeld ?_
      rotate_left
      · (intro W hSW; (have s0 := hSW.1.cell 0 rfl; have s1 := hSW.1.cell 1 rfl; have s2 := hSW.1.cell 2 rfl; have s3 := hSW.1.cell 3 rfl; have sz := hSW.1.2; have m0 := hSW.2.1.cell 0 rfl; have m1 := hSW.2.1.cell 1 rfl; have m2 := hSW.2.1.cell 2 rfl; have m3 := hSW.2.1.cell 3 rfl; have mz := hSW.2.1.2; have pc := hSW.2.2.1; have pz := hSW.2.2.2); go_simp <;> (try with_reducible rfl))
      refine take_v (v := ?_) 25 ⟨some 67, Op.binOp BinOp.add 3 (Operand.tmp 66) (Operand.const (Value.int IntKind.i64 1)) 3, _, _, _, some (20, false)⟩ rfl (fun _ _ _ h => h) ?_ hHeld ?_
      rotate_left
      · (intro W _; go_simp <;> (try with_reducible rfl))
      refine take_v (v := ?_) 26 ⟨some 68, Op.fieldAddr 29 (Operand.tmp 1) 0, _, _, _, some (20, false)⟩ rfl (fun _ _ _ h => h) ?_ hHeld ?_
      rotate_left
      · (intro W _; go_simp <;> (try with_reducible rfl))
      refine take_v (v := ?_) 27 ⟨some 69, Op.load 3 (Operand.tmp 68), _, _, _, some (20, false)⟩ rfl (fun _ _ _ h => h) ?_ hHeld ?_
      rotate_left
      · (intro W hSW; (have s0 := hSW.1.cell 0 rfl; have s1 := hSW.1.cell 1 rfl; have s2 := hSW.1.cell 2 rfl; have s3 := hSW.1.cell 3 rfl; have sz := hSW.1.2; have m0 := hSW.2.1.cell 0 rfl; have m1 := hSW.2.1.cell 1 rfl; have m2 := hSW.2.1.cell 2 rfl; have m3 := hSW.2.1.cell 3 rfl; have mz := hSW.2.1.2; have pc := hSW.2.2.1; have pz := hSW.2.2.2); go_simp <;> (try with_reducible rfl))
      refine ready_call 28 ⟨some 70, Op.call { callee := Callee.value (Operand.func 46), args := #[Operand.tmp 64, Operand.tmp 67, Operand.tmp 69], argTypes := #[3, 3, 3] }, _, _, _, some (20, false)⟩ (by kernel_rfl) rfl (by kernel_rfl) (fun KC hK => ?_)
      go_wp2_with fail
      refine (HE.out ▸ l1In_any x1 (du + 1) ep _).mono ?_
      rintro r w' ⟨rfl, hw'⟩
      have hw' := hw'.symm
      subst hw'
      refine hK.out _ _ hHeld (fun hHeld => ?_)
      clear hK KC
      refine take_v (v := ?_) 29 ⟨some 71, Op.unOp UnOp.not 4 (Operand.tmp 70), _, _, _, some (20, false)⟩ rfl (fun _ _ _ h => h) ?_ hHeld ?_
      rotate_left
      · (intro W _; go_simp <;> (try with_reducible rfl))
      refine take_v (v := ?_) 30 ⟨some 72, Op.pick (Operand.tmp 62) (Operand.const (Value.bool true)) (Operand.tmp 71), _, _, _, none⟩ rfl (fun _ _ _ h => h) ?_ hHeld ?_
      rotate_left
      · (intro W _; go_simp <;> (try with_reducible rfl))
      refine take_v (v := ?_) 31 ⟨some 73, Op.move (Operand.tmp 72), _, _, _, none⟩ rfl (fun _ _ _ h => h) ?_ hHeld ?_
      rotate_left
      · (intro W _; go_simp <;> (try with_reducible rfl))
      refine take_v (v := ?_) 32 ⟨some 74, Op.fieldAddr 37 (Operand.tmp 4) 2, _, _, _, some (31, false)⟩ rfl (fun _ _ _ h => h) ?_ hHeld ?_
      rotate_left
      · (intro W _; go_simp <;> (try with_reducible rfl))
      refine take_v (v := ?_) 33 ⟨some 75, Op.load 27 (Operand.tmp 74), _, _, _, some (31, false)⟩ rfl (fun _ _ _ h => h) ?_ hHeld ?_
      rotate_left
      · (intro W hSW; (have s0 := hSW.1.cell 0 rfl; have s1 := hSW.1.cell 1 rfl; have s2 := hSW.1.cell 2 rfl; have s3 := hSW.1.cell 3 rfl; have sz := hSW.1.2; have m0 := hSW.2.1.cell 0 rfl; have m1 := hSW.2.1.cell 1 rfl; have m2 := hSW.2.1.cell 2 rfl; have m3 := hSW.2.1.cell 3 rfl; have mz := hSW.2.1.2; have pc := hSW.2.2.1; have pz := hSW.2.2.2); go_simp <;> (try with_reducible rfl))
      refine take_v (v := ?_) 34 ⟨some 76, Op.call { callee := Callee.builtin Builtin.len, args := #[Operand.tmp 75], argTypes := #[27] }, _, _, _, some (31, false)⟩ rfl (fun _ _ _ h => h) ?_ hHeld ?_
      rotate_left
      · (intro W _; go_simp <;> (try with_reducible rfl))
      refine take_v (v := ?_) 35 ⟨some 77, Op.binOp BinOp.gtr 3 (Operand.tmp 76) (Operand.const (Value.int IntKind.i64 20)) 3, _, _, _, some (31, false)⟩ rfl (fun _ _ _ h => h) ?_ hHeld ?_
      rotate_left
      · (intro W _; go_simp <;> (try with_reducible rfl))
      refine take_v (v := ?_) 36 ⟨some 78, Op.pick (Operand.tmp 73) (Operand.const (Value.bool true)) (Operand.tmp 77), _, _, _, none⟩ rfl (fun _ _ _ h => h) ?_ hHeld ?_
      rotate_left
      · (intro W _; go_simp <;> (try with_reducible rfl))
      refine take_v (v := ?_) 37 ⟨some 79, Op.move (Operand.tmp 78), _, _, _, none⟩ rfl (fun _ _ _ h => h) ?_ hHeld ?_
      rotate_left
      · (intro W _; go_simp <;> (try with_reducible rfl))
      refine take_n 38 ⟨some 80, Op.fieldAddr 37 (Operand.tmp 4) 3, _, _, _, some (37, false)⟩ rfl (fun _ _ _ h => h) hHeld ?_
      refine take_n 39 ⟨some 81, Op.load 3 (Operand.tmp 80), _, _, _, some (37, false)⟩ rfl (fun _ _ _ h => h) hHeld ?_
      refine take_n 40 ⟨some 82, Op.fieldAddr 29 (Operand.tmp 1) 1, _, _, _, some (37, false)⟩ rfl (fun _ _ _ h => h) hHeld ?_
      refine take_n 41 ⟨some 83, Op.load 3 (Operand.tmp 82), _, _, _, some (37, false)⟩ rfl (fun _ _ _ h => h) hHeld ?_
      refine take_n 42 ⟨some 84, Op.fieldAddr 29 (Operand.tmp 1) 0, _, _, _, some (37, false)⟩ rfl (fun _ _ _ h => h) hHeld ?_
      refine take_n 43 ⟨some 85, Op.load 3 (Operand.tmp 84), _, _, _, some (37, false)⟩ rfl (fun _ _ _ h => h) hHeld ?_
      refine take_n 44 ⟨some 86, Op.binOp BinOp.sub 3 (Operand.tmp 85) (Operand.const (Value.int IntKind.i64 1)) 3, _, _, _, some (37, false)⟩ rfl (fun _ _ _ h => h) hHeld ?_
      refine take_n 45 ⟨some 87, Op.call { callee := Callee.value (Operand.func 46), args := #[Operand.tmp 81, Operand.tmp 83, Operand.tmp 86], argTypes := #[3, 3, 3] }, _, _, _, some (37, false)⟩ rfl (fun _ _ _ h => h) hHeld ?_
      refine take_n 46 ⟨some 88, Op.unOp UnOp.not 4 (Operand.tmp 87), _, _, _, some (37, false)⟩ rfl (fun _ _ _ h => h) hHeld ?_
      refine take_v (v := ?_) 47 ⟨some 89, Op.pick (Operand.tmp 79) (Operand.const (Value.bool true)) (Operand.tmp 88), _, _, _, none⟩ rfl (fun _ _ _ h => h) ?_ hHeld ?_
      rotate_left
      · (intro W _; go_simp <;> (try with_reducible rfl))
      refine wpAnyH_done (by kernel_rfl) ?_ _
      refine NoPanic.normal ?_
      clear hHeld
      go_wp2
      go_ret
      exact ⟨goodF_no HN.out, HX.out.2.2.1⟩
    have hl20' : decide ((20 : Int) < (x2.length : Int)) = false := decide_eq_false hl20
    cases c6 : inR x3 du (ep - 1)
    case false =>
      have HK : Hid (inR x3 du (ep - 1) = false) := c6
      have HN : Hid (¬ goodF ep du ms en) := Hid.intro (HBAD.out (kp + 1) hlt (fun q => by have h1 := q.1.2.2.2.1; rw [yH.out] at h1; rw [inR_iff.2 (show du ≤ x3 ∧ x3 ≤ ep - 1 from h1)] at c6; cases c6))
      clear c6
      refine wp_region_noPanic ?_
      refine wp_region_held_drew (S := fun W => Bx W w.heap.size [.int .i64 ep, .int .i64 du, .slice (some ⟨yg, yoff, none⟩) ms.length k1, .slice a2 en.length k2] ∧ Bx W b4 [.int .i64 x0, .int .i64 x1, .slice ya1 x2.length yk1, .int .i64 x3] ∧ (W.cell? ⟨yg, yoff + kp * 4, none⟩ = some (.int .i64 pv) ∧ yg < W.heap.size)) (by kernel_rfl) (hX0 ▸ ⟨HX.out.1, HX.out.2.1, HX.out.2.2.2⟩) (fun hHeld => ?_)
      rw [← hX0] at hHeld ⊢
      clear hX0
      refine take_v (v := ?_) 0 ⟨some 42, Op.fieldAddr 37 (Operand.tmp 4) 0, _, _, _, none⟩ rfl (fun _ _ _ h => h) ?_ hHeld ?_
      rotate_left
      · (intro W _; go_simp <;> (try with_reducible rfl))
      refine take_v (v := ?_) 1 ⟨some 43, Op.load 3 (Operand.tmp 42), _, _, _, none⟩ rfl (fun _ _ _ h => h) ?_ hHeld ?_
      rotate_left
      · (intro W hSW; (have s0 := hSW.1.cell 0 rfl; have s1 := hSW.1.cell 1 rfl; have s2 := hSW.1.cell 2 rfl; have s3 := hSW.1.cell 3 rfl; have sz := hSW.1.2; have m0 := hSW.2.1.cell 0 rfl; have m1 := hSW.2.1.cell 1 rfl; have m2 := hSW.2.1.cell 2 rfl; have m3 := hSW.2.1.cell 3 rfl; have mz := hSW.2.1.2; have pc := hSW.2.2.1; have pz := hSW.2.2.2); go_simp <;> (try with_reducible rfl))
      refine ready_call 2 ⟨some 44, Op.call { callee := Callee.value (Operand.func 46), args := #[Operand.tmp 43, Operand.const (Value.int IntKind.i64 0), Operand.const (Value.int IntKind.i64 99)], argTypes := #[3, 3, 3] }, _, _, _, none⟩ (by kernel_rfl) rfl (by kernel_rfl) (fun KC hK => ?_)
      go_wp2_with fail
      refine (HI.out ▸ l1In_any x0 0 99 _).mono ?_
      rintro r w' ⟨rfl, hw'⟩
      have hw' := hw'.symm
      subst hw'
      refine hK.out _ _ hHeld (fun hHeld => ?_)
      clear hK KC
      refine take_v (v := ?_) 3 ⟨some 45, Op.unOp UnOp.not 4 (Operand.tmp 44), _, _, _, none⟩ rfl (fun _ _ _ h => h) ?_ hHeld ?_
      rotate_left
      · (intro W _; go_simp <;> (try with_reducible rfl))
      refine take_v (v := ?_) 4 ⟨some 46, Op.move (Operand.tmp 45), _, _, _, none⟩ rfl (fun _ _ _ h => h) ?_ hHeld ?_
      rotate_left
      · (intro W _; go_simp <;> (try with_reducible rfl))
      refine take_v (v := ?_) 5 ⟨some 47, Op.move (Operand.tmp 3), _, _, _, some (4, false)⟩ rfl (fun _ _ _ h => h) ?_ hHeld ?_
      rotate_left
      · (intro W _; go_simp <;> (try with_reducible rfl))
      refine take_v (v := ?_) 6 ⟨some 48, Op.binOp BinOp.gtr 3 (Operand.tmp 47) (Operand.const (Value.int IntKind.i64 0)) 3, _, _, _, some (4, false)⟩ rfl (fun _ _ _ h => h) ?_ hHeld ?_
      rotate_left
      · (intro W _; go_simp <;> (try with_reducible rfl))
      refine take_v (v := ?_) 7 ⟨some 49, Op.move (Operand.tmp 48), _, _, _, some (4, false)⟩ rfl (fun _ _ _ h => h) ?_ hHeld ?_
      rotate_left
      · (intro W _; go_simp <;> (try with_reducible rfl))
      refine take_v (v := ?_) 8 ⟨some 50, Op.fieldAddr 29 (Operand.tmp 1) 2, _, _, _, some (7, true)⟩ rfl (fun _ _ _ h => h) ?_ hHeld ?_
      rotate_left
      · (intro W _; go_simp <;> (try with_reducible rfl))
      refine take_v (v := ?_) 9 ⟨some 51, Op.load 26 (Operand.tmp 50), _, _, _, some (7, true)⟩ rfl (fun _ _ _ h => h) ?_ hHeld ?_
      rotate_left
      · (intro W hSW; (have s0 := hSW.1.cell 0 rfl; have s1 := hSW.1.cell 1 rfl; have s2 := hSW.1.cell 2 rfl; have s3 := hSW.1.cell 3 rfl; have sz := hSW.1.2; have m0 := hSW.2.1.cell 0 rfl; have m1 := hSW.2.1.cell 1 rfl; have m2 := hSW.2.1.cell 2 rfl; have m3 := hSW.2.1.cell 3 rfl; have mz := hSW.2.1.2; have pc := hSW.2.2.1; have pz := hSW.2.2.2); go_simp <;> (try with_reducible rfl))
      refine take_v (v := ?_) 10 ⟨some 52, Op.move (Operand.tmp 3), _, _, _, some (7, true)⟩ rfl (fun _ _ _ h => h) ?_ hHeld ?_
      rotate_left
      · (intro W _; go_simp <;> (try with_reducible rfl))
      refine take_v (v := ?_) 11 ⟨some 53, Op.binOp BinOp.sub 3 (Operand.tmp 52) (Operand.const (Value.int IntKind.i64 1)) 3, _, _, _, some (7, true)⟩ rfl (fun _ _ _ h => h) ?_ hHeld ?_
      rotate_left
      · (intro W _; go_simp <;> (try with_reducible rfl))
      refine take_v (v := ?_) 12 ⟨some 54, Op.indexAddr 26 (Operand.tmp 51) (Operand.tmp 53), _, _, _, some (7, true)⟩ rfl (fun _ _ _ h => h) ?_ hHeld ?_
      rotate_left
      · (intro W _; go_simp <;> (try with_reducible rfl))
      refine take_v (v := ?_) 13 ⟨some 55, Op.fieldAddr 37 (Operand.tmp 54) 0, _, _, _, some (7, true)⟩ rfl (fun _ _ _ h => h) ?_ hHeld ?_
      rotate_left
      · (intro W _; go_simp <;> (try with_reducible rfl))
      refine take_v (v := ?_) 14 ⟨some 56, Op.load 3 (Operand.tmp 55), _, _, _, some (7, true)⟩ rfl (fun _ _ _ h => h) ?_ hHeld ?_
      rotate_left
      · (intro W hSW; (have s0 := hSW.1.cell 0 rfl; have s1 := hSW.1.cell 1 rfl; have s2 := hSW.1.cell 2 rfl; have s3 := hSW.1.cell 3 rfl; have sz := hSW.1.2; have m0 := hSW.2.1.cell 0 rfl; have m1 := hSW.2.1.cell 1 rfl; have m2 := hSW.2.1.cell 2 rfl; have m3 := hSW.2.1.cell 3 rfl; have mz := hSW.2.1.2; have pc := hSW.2.2.1; have pz := hSW.2.2.2); go_simp <;> (try with_reducible rfl))
      refine take_v (v := ?_) 15 ⟨some 57, Op.fieldAddr 37 (Operand.tmp 4) 0, _, _, _, some (7, true)⟩ rfl (fun _ _ _ h => h) ?_ hHeld ?_
      rotate_left
      · (intro W _; go_simp <;> (try with_reducible rfl))
      refine take_v (v := ?_) 16 ⟨some 58, Op.load 3 (Operand.tmp 57), _, _, _, some (7, true)⟩ rfl (fun _ _ _ h => h) ?_ hHeld ?_
      rotate_left
      · (intro W hSW; (have s0 := hSW.1.cell 0 rfl; have s1 := hSW.1.cell 1 rfl; have s2 := hSW.1.cell 2 rfl; have s3 := hSW.1.cell 3 rfl; have sz := hSW.1.2; have m0 := hSW.2.1.cell 0 rfl; have m1 := hSW.2.1.cell 1 rfl; have m2 := hSW.2.1.cell 2 rfl; have m3 := hSW.2.1.cell 3 rfl; have mz := hSW.2.1.2; have pc := hSW.2.2.1; have pz := hSW.2.2.2); go_simp <;> (try with_reducible rfl))
      refine take_v (v := ?_) 17 ⟨some 59, Op.binOp BinOp.geq 3 (Operand.tmp 56) (Operand.tmp 58) 3, _, _, _, some (7, true)⟩ rfl (fun _ _ _ h => h) ?_ hHeld ?_
      rotate_left
      · (intro W _; go_simp <;> (try with_reducible rfl))
      refine take_v (v := ?_) 18 ⟨some 60, Op.pick (Operand.tmp 49) (Operand.tmp 59) (Operand.const (Value.bool false)), _, _, _, some (4, false)⟩ rfl (fun _ _ _ h => h) ?_ hHeld ?_
      rotate_left
      · (intro W _; go_simp <;> (try with_reducible rfl))
      refine take_v (v := ?_) 19 ⟨some 61, Op.pick (Operand.tmp 46) (Operand.const (Value.bool true)) (Operand.tmp 60), _, _, _, none⟩ rfl (fun _ _ _ h => h) ?_ hHeld ?_
      rotate_left
      · (intro W _; go_simp <;> (try with_reducible rfl))
      refine take_v (v := ?_) 20 ⟨some 62, Op.move (Operand.tmp 61), _, _, _, none⟩ rfl (fun _ _ _ h => h) ?_ hHeld ?_
      rotate_left
      · (intro W _; go_simp <;> (try with_reducible rfl))
      refine take_v (v := ?_) 21 ⟨some 63, Op.fieldAddr 37 (Operand.tmp 4) 1, _, _, _, some (20, false)⟩ rfl (fun _ _ _ h => h) ?_ hHeld ?_
      rotate_left
      · (intro W _; go_simp <;> (try with_reducible rfl))
      refine take_v (v := ?_) 22 ⟨some 64, Op.load 3 (Operand.tmp 63), _, _, _, some (20, false)⟩ rfl (fun _ _ _ h => h) ?_ hHeld ?_
      rotate_left
      · (intro W hSW; (have s0 := hSW.1.cell 0 rfl; have s1 := hSW.1.cell 1 rfl; have s2 := hSW.1.cell 2 rfl; have s3 := hSW.1.cell 3 rfl; have sz := hSW.1.2; have m0 := hSW.2.1.cell 0 rfl; have m1 := hSW.2.1.cell 1 rfl; have m2 := hSW.2.1.cell 2 rfl; have m3 := hSW.2.1.cell 3 rfl; have mz := hSW.2.1.2; have pc := hSW.2.2.1; have pz := hSW.2.2.2); go_simp <;> (try with_reducible rfl))
      refine take_v (v := ?_) 23 ⟨some 65, Op.fieldAddr 29 (Operand.tmp 1) 1, _, _, _, some (20, false)⟩ rfl (fun _ _ _ h => h) ?_ hHeld ?_
      rotate_left
      · (intro W _; go_simp <;> (try with_reducible rfl))
      refine take_v (v := ?_) 24 ⟨some 66, Op.load 3 (Operand.tmp 65), _, _, _, some (20, false)⟩ rfl (fun _ _ _ h => h) ?_ hHeld ?_
      rotate_left
      · (intro W hSW; (have s0 := hSW.1.cell 0 rfl; have s1 := hSW.1.cell 1 rfl; have s2 := hSW.1.cell 2 rfl; have s3 := hSW.1.cell 3 rfl; have sz := hSW.1.2; have m0 := hSW.2.1.cell 0 rfl; have m1 := hSW.2.1.cell 1 rfl; have m2 := hSW.2.1.cell 2 rfl; have m3 := hSW.2.1.cell 3 rfl; have mz := hSW.2.1.2; have pc := hSW.2.2.1; have pz := hSW.2.2.2); go_simp <;> (try with_reducible rfl))
      refine take_v (v := ?_) 25 ⟨some 67, Op.binOp BinOp.add 3 (Operand.tmp 66) (Operand.const (Value.int IntKind.i64 1)) 3, _, _, _, some (20, false)⟩ rfl (fun _ _ _ h => h) ?_ hHeld ?_
      rotate_left
      · (intro W _; go_simp <;> (try with_reducible rfl))
      refine take_v (v := ?_) 26 ⟨some 68, Op.fieldAddr 29 (Operand.tmp 1) 0, _, _, _, some (20, false)⟩ rfl (fun _ _ _ h => h) ?_ hHeld ?_
      rotate_left
      · (intro W _; go_simp <;> (try with_reducible rfl))
      refine take_v (v := ?_) 27 ⟨some 69, Op.load 3 (Operand.tmp 68), _, _, _, some (20, false)⟩ rfl (fun _ _ _ h => h) ?_ hHeld ?_
      rotate_left
      · (intro W hSW; (have s0 := hSW.1.cell 0 rfl; have s1 := hSW.1.cell 1 rfl; have s2 := hSW.1.cell 2 rfl; have s3 := hSW.1.cell 3 rfl; have sz := hSW.1.2; have m0 := hSW.2.1.cell 0 rfl; have m1 := hSW.2.1.cell 1 rfl; have m2 := hSW.2.1.cell 2 rfl; have m3 := hSW.2.1.cell 3 rfl; have mz := hSW.2.1.2; have pc := hSW.2.2.1; have pz := hSW.2.2.2); go_simp <;> (try with_reducible rfl))
      refine ready_call 28 ⟨some 70, Op.call { callee := Callee.value (Operand.func 46), args := #[Operand.tmp 64, Operand.tmp 67, Operand.tmp 69], argTypes := #[3, 3, 3] }, _, _, _, some (20, false)⟩ (by kernel_rfl) rfl (by kernel_rfl) (fun KC hK => ?_)
      go_wp2_with fail
      refine (HE.out ▸ l1In_any x1 (du + 1) ep _).mono ?_
      rintro r w' ⟨rfl, hw'⟩
      have hw' := hw'.symm
      subst hw'
      refine hK.out _ _ hHeld (fun hHeld => ?_)
      clear hK KC
      refine take_v (v := ?_) 29 ⟨some 71, Op.unOp UnOp.not 4 (Operand.tmp 70), _, _, _, some (20, false)⟩ rfl (fun _ _ _ h => h) ?_ hHeld ?_
      rotate_left
      · (intro W _; go_simp <;> (try with_reducible rfl))
      refine take_v (v := ?_) 30 ⟨some 72, Op.pick (Operand.tmp 62) (Operand.const (Value.bool true)) (Operand.tmp 71), _, _, _, none⟩ rfl (fun _ _ _ h => h) ?_ hHeld ?_
      rotate_left
      · (intro W _; go_simp <;> (try with_reducible rfl))
      refine take_v (v := ?_) 31 ⟨some 73, Op.move (Operand.tmp 72), _, _, _, none⟩ rfl (fun _ _ _ h => h) ?_ hHeld ?_
      rotate_left
      · (intro W _; go_simp <;> (try with_reducible rfl))
      refine take_v (v := ?_) 32 ⟨some 74, Op.fieldAddr 37 (Operand.tmp 4) 2, _, _, _, some (31, false)⟩ rfl (fun _ _ _ h => h) ?_ hHeld ?_
      rotate_left
      · (intro W _; go_simp <;> (try with_reducible rfl))
      refine take_v (v := ?_) 33 ⟨some 75, Op.load 27 (Operand.tmp 74), _, _, _, some (31, false)⟩ rfl (fun _ _ _ h => h) ?_ hHeld ?_
      rotate_left
      · (intro W hSW; (have s0 := hSW.1.cell 0 rfl; have s1 := hSW.1.cell 1 rfl; have s2 := hSW.1.cell 2 rfl; have s3 := hSW.1.cell 3 rfl; have sz := hSW.1.2; have m0 := hSW.2.1.cell 0 rfl; have m1 := hSW.2.1.cell 1 rfl; have m2 := hSW.2.1.cell 2 rfl; have m3 := hSW.2.1.cell 3 rfl; have mz := hSW.2.1.2; have pc := hSW.2.2.1; have pz := hSW.2.2.2); go_simp <;> (try with_reducible rfl))
      refine take_v (v := ?_) 34 ⟨some 76, Op.call { callee := Callee.builtin Builtin.len, args := #[Operand.tmp 75], argTypes := #[27] }, _, _, _, some (31, false)⟩ rfl (fun _ _ _ h => h) ?_ hHeld ?_
      rotate_left
      · (intro W _; go_simp <;> (try with_reducible rfl))
      refine take_v (v := ?_) 35 ⟨some 77, Op.binOp BinOp.gtr 3 (Operand.tmp 76) (Operand.const (Value.int IntKind.i64 20)) 3, _, _, _, some (31, false)⟩ rfl (fun _ _ _ h => h) ?_ hHeld ?_
      rotate_left
      · (intro W _; go_simp <;> (try with_reducible rfl))
      refine take_v (v := ?_) 36 ⟨some 78, Op.pick (Operand.tmp 73) (Operand.const (Value.bool true)) (Operand.tmp 77), _, _, _, none⟩ rfl (fun _ _ _ h => h) ?_ hHeld ?_
      rotate_left
      · (intro W _; go_simp <;> (try with_reducible rfl))
      refine take_v (v := ?_) 37 ⟨some 79, Op.move (Operand.tmp 78), _, _, _, none⟩ rfl (fun _ _ _ h => h) ?_ hHeld ?_
      rotate_left
      · (intro W _; go_simp <;> (try with_reducible rfl))
      refine take_v (v := ?_) 38 ⟨some 80, Op.fieldAddr 37 (Operand.tmp 4) 3, _, _, _, some (37, false)⟩ rfl (fun _ _ _ h => h) ?_ hHeld ?_
      rotate_left
      · (intro W _; go_simp <;> (try with_reducible rfl))
      refine take_v (v := ?_) 39 ⟨some 81, Op.load 3 (Operand.tmp 80), _, _, _, some (37, false)⟩ rfl (fun _ _ _ h => h) ?_ hHeld ?_
      rotate_left
      · (intro W hSW; (have s0 := hSW.1.cell 0 rfl; have s1 := hSW.1.cell 1 rfl; have s2 := hSW.1.cell 2 rfl; have s3 := hSW.1.cell 3 rfl; have sz := hSW.1.2; have m0 := hSW.2.1.cell 0 rfl; have m1 := hSW.2.1.cell 1 rfl; have m2 := hSW.2.1.cell 2 rfl; have m3 := hSW.2.1.cell 3 rfl; have mz := hSW.2.1.2; have pc := hSW.2.2.1; have pz := hSW.2.2.2); go_simp <;> (try with_reducible rfl))
      refine take_v (v := ?_) 40 ⟨some 82, Op.fieldAddr 29 (Operand.tmp 1) 1, _, _, _, some (37, false)⟩ rfl (fun _ _ _ h => h) ?_ hHeld ?_
      rotate_left
      · (intro W _; go_simp <;> (try with_reducible rfl))
      refine take_v (v := ?_) 41 ⟨some 83, Op.load 3 (Operand.tmp 82), _, _, _, some (37, false)⟩ rfl (fun _ _ _ h => h) ?_ hHeld ?_
      rotate_left
      · (intro W hSW; (have s0 := hSW.1.cell 0 rfl; have s1 := hSW.1.cell 1 rfl; have s2 := hSW.1.cell 2 rfl; have s3 := hSW.1.cell 3 rfl; have sz := hSW.1.2; have m0 := hSW.2.1.cell 0 rfl; have m1 := hSW.2.1.cell 1 rfl; have m2 := hSW.2.1.cell 2 rfl; have m3 := hSW.2.1.cell 3 rfl; have mz := hSW.2.1.2; have pc := hSW.2.2.1; have pz := hSW.2.2.2); go_simp <;> (try with_reducible rfl))
      refine take_v (v := ?_) 42 ⟨some 84, Op.fieldAddr 29 (Operand.tmp 1) 0, _, _, _, some (37, false)⟩ rfl (fun _ _ _ h => h) ?_ hHeld ?_
      rotate_left
      · (intro W _; go_simp <;> (try with_reducible rfl))
      refine take_v (v := ?_) 43 ⟨some 85, Op.load 3 (Operand.tmp 84), _, _, _, some (37, false)⟩ rfl (fun _ _ _ h => h) ?_ hHeld ?_
      rotate_left
      · (intro W hSW; (have s0 := hSW.1.cell 0 rfl; have s1 := hSW.1.cell 1 rfl; have s2 := hSW.1.cell 2 rfl; have s3 := hSW.1.cell 3 rfl; have sz := hSW.1.2; have m0 := hSW.2.1.cell 0 rfl; have m1 := hSW.2.1.cell 1 rfl; have m2 := hSW.2.1.cell 2 rfl; have m3 := hSW.2.1.cell 3 rfl; have mz := hSW.2.1.2; have pc := hSW.2.2.1; have pz := hSW.2.2.2); go_simp <;> (try with_reducible rfl))
      refine take_v (v := ?_) 44 ⟨some 86, Op.binOp BinOp.sub 3 (Operand.tmp 85) (Operand.const (Value.int IntKind.i64 1)) 3, _, _, _, some (37, false)⟩ rfl (fun _ _ _ h => h) ?_ hHeld ?_
      rotate_left
      · (intro W _; go_simp <;> (try with_reducible rfl))
      refine ready_call 45 ⟨some 87, Op.call { callee := Callee.value (Operand.func 46), args := #[Operand.tmp 81, Operand.tmp 83, Operand.tmp 86], argTypes := #[3, 3, 3] }, _, _, _, some (37, false)⟩ (by kernel_rfl) rfl (by kernel_rfl) (fun KC hK => ?_)
      go_wp2_with fail
      refine (HK.out ▸ l1In_any x3 du (ep - 1) _).mono ?_
      rintro r w' ⟨rfl, hw'⟩
      have hw' := hw'.symm
      subst hw'
      refine hK.out _ _ hHeld (fun hHeld => ?_)
      clear hK KC
      refine take_v (v := ?_) 46 ⟨some 88, Op.unOp UnOp.not 4 (Operand.tmp 87), _, _, _, some (37, false)⟩ rfl (fun _ _ _ h => h) ?_ hHeld ?_
      rotate_left
      · (intro W _; go_simp <;> (try with_reducible rfl))
      refine take_v (v := ?_) 47 ⟨some 89, Op.pick (Operand.tmp 79) (Operand.const (Value.bool true)) (Operand.tmp 88), _, _, _, none⟩ rfl (fun _ _ _ h => h) ?_ hHeld ?_
      rotate_left
      · (intro W _; go_simp <;> (try with_reducible rfl))
      refine wpAnyH_done (by kernel_rfl) ?_ _
      refine NoPanic.normal ?_
      clear hHeld
      go_wp2
      go_ret
      exact ⟨goodF_no HN.out, HX.out.2.2.1⟩
    have HK : Hid (inR x3 du (ep - 1) = true) := c6
    have hb6 := inR_iff.1 c6
    have HR6 : Hid ((0 ≤ x0 ∧ x0 ≤ 99) ∧ (du + 1 ≤ x1 ∧ x1 ≤ ep) ∧ x2.length ≤ 20 ∧ (du ≤ x3 ∧ x3 ≤ ep - 1)) := ⟨hb4, hb5, by omega, hb6⟩
    have hx3a : 0 ≤ x3 := by omega
    have hx3b : x3 ≤ 1000 := by omega
    clear c6 hb4 hb5 hb6
    refine wp_region_noPanic ?_
    refine wp_region_held_drew (S := fun W => Bx W w.heap.size [.int .i64 ep, .int .i64 du, .slice (some ⟨yg, yoff, none⟩) ms.length k1, .slice a2 en.length k2] ∧ Bx W b4 [.int .i64 x0, .int .i64 x1, .slice ya1 x2.length yk1, .int .i64 x3] ∧ (W.cell? ⟨yg, yoff + kp * 4, none⟩ = some (.int .i64 pv) ∧ yg < W.heap.size)) (by kernel_rfl) (hX0 ▸ ⟨HX.out.1, HX.out.2.1, HX.out.2.2.2⟩) (fun hHeld => ?_)
    rw [← hX0] at hHeld ⊢
    clear hX0
    refine take_v (v := ?_) 0 ⟨some 42, Op.fieldAddr 37 (Operand.tmp 4) 0, _, _, _, none⟩ rfl (fun _ _ _ h => h) ?_ hHeld ?_
    rotate_left
    · (intro W _; go_simp <;> (try with_reducible rfl))
    refine take_v (v := ?_) 1 ⟨some 43, Op.load 3 (Operand.tmp 42), _, _, _, none⟩ rfl (fun _ _ _ h => h) ?_ hHeld ?_
    rotate_left
    · (intro W hSW; (have s0 := hSW.1.cell 0 rfl; have s1 := hSW.1.cell 1 rfl; have s2 := hSW.1.cell 2 rfl; have s3 := hSW.1.cell 3 rfl; have sz := hSW.1.2; have m0 := hSW.2.1.cell 0 rfl; have m1 := hSW.2.1.cell 1 rfl; have m2 := hSW.2.1.cell 2 rfl; have m3 := hSW.2.1.cell 3 rfl; have mz := hSW.2.1.2; have pc := hSW.2.2.1; have pz := hSW.2.2.2); go_simp <;> (try with_reducible rfl))
    refine ready_call 2 ⟨some 44, Op.call { callee := Callee.value (Operand.func 46), args := #[Operand.tmp 43, Operand.const (Value.int IntKind.i64 0), Operand.const (Value.int IntKind.i64 99)], argTypes := #[3, 3, 3] }, _, _, _, none⟩ (by kernel_rfl) rfl (by kernel_rfl) (fun KC hK => ?_)
    go_wp2_with fail
    refine (HI.out ▸ l1In_any x0 0 99 _).mono ?_
    rintro r w' ⟨rfl, hw'⟩
    have hw' := hw'.symm
    subst hw'
    refine hK.out _ _ hHeld (fun hHeld => ?_)
    clear hK KC
    refine take_v (v := ?_) 3 ⟨some 45, Op.unOp UnOp.not 4 (Operand.tmp 44), _, _, _, none⟩ rfl (fun _ _ _ h => h) ?_ hHeld ?_
    rotate_left
    · (intro W _; go_simp <;> (try with_reducible rfl))
    refine take_v (v := ?_) 4 ⟨some 46, Op.move (Operand.tmp 45), _, _, _, none⟩ rfl (fun _ _ _ h => h) ?_ hHeld ?_
    rotate_left
    · (intro W _; go_simp <;> (try with_reducible rfl))
    refine take_v (v := ?_) 5 ⟨some 47, Op.move (Operand.tmp 3), _, _, _, some (4, false)⟩ rfl (fun _ _ _ h => h) ?_ hHeld ?_
    rotate_left
    · (intro W _; go_simp <;> (try with_reducible rfl))
    refine take_v (v := ?_) 6 ⟨some 48, Op.binOp BinOp.gtr 3 (Operand.tmp 47) (Operand.const (Value.int IntKind.i64 0)) 3, _, _, _, some (4, false)⟩ rfl (fun _ _ _ h => h) ?_ hHeld ?_
    rotate_left
    · (intro W _; go_simp <;> (try with_reducible rfl))
    refine take_v (v := ?_) 7 ⟨some 49, Op.move (Operand.tmp 48), _, _, _, some (4, false)⟩ rfl (fun _ _ _ h => h) ?_ hHeld ?_
    rotate_left
    · (intro W _; go_simp <;> (try with_reducible rfl))
    refine take_v (v := ?_) 8 ⟨some 50, Op.fieldAddr 29 (Operand.tmp 1) 2, _, _, _, some (7, true)⟩ rfl (fun _ _ _ h => h) ?_ hHeld ?_
    rotate_left
    · (intro W _; go_simp <;> (try with_reducible rfl))
    refine take_v (v := ?_) 9 ⟨some 51, Op.load 26 (Operand.tmp 50), _, _, _, some (7, true)⟩ rfl (fun _ _ _ h => h) ?_ hHeld ?_
    rotate_left
    · (intro W hSW; (have s0 := hSW.1.cell 0 rfl; have s1 := hSW.1.cell 1 rfl; have s2 := hSW.1.cell 2 rfl; have s3 := hSW.1.cell 3 rfl; have sz := hSW.1.2; have m0 := hSW.2.1.cell 0 rfl; have m1 := hSW.2.1.cell 1 rfl; have m2 := hSW.2.1.cell 2 rfl; have m3 := hSW.2.1.cell 3 rfl; have mz := hSW.2.1.2; have pc := hSW.2.2.1; have pz := hSW.2.2.2); go_simp <;> (try with_reducible rfl))
    refine take_v (v := ?_) 10 ⟨some 52, Op.move (Operand.tmp 3), _, _, _, some (7, true)⟩ rfl (fun _ _ _ h => h) ?_ hHeld ?_
    rotate_left
    · (intro W _; go_simp <;> (try with_reducible rfl))
    refine take_v (v := ?_) 11 ⟨some 53, Op.binOp BinOp.sub 3 (Operand.tmp 52) (Operand.const (Value.int IntKind.i64 1)) 3, _, _, _, some (7, true)⟩ rfl (fun _ _ _ h => h) ?_ hHeld ?_
    rotate_left
    · (intro W _; go_simp <;> (try with_reducible rfl))
    refine take_v (v := ?_) 12 ⟨some 54, Op.indexAddr 26 (Operand.tmp 51) (Operand.tmp 53), _, _, _, some (7, true)⟩ rfl (fun _ _ _ h => h) ?_ hHeld ?_
    rotate_left
    · (intro W _; go_simp <;> (try with_reducible rfl))
    refine take_v (v := ?_) 13 ⟨some 55, Op.fieldAddr 37 (Operand.tmp 54) 0, _, _, _, some (7, true)⟩ rfl (fun _ _ _ h => h) ?_ hHeld ?_
    rotate_left
    · (intro W _; go_simp <;> (try with_reducible rfl))
    refine take_v (v := ?_) 14 ⟨some 56, Op.load 3 (Operand.tmp 55), _, _, _, some (7, true)⟩ rfl (fun _ _ _ h => h) ?_ hHeld ?_
    rotate_left
    · (intro W hSW; (have s0 := hSW.1.cell 0 rfl; have s1 := hSW.1.cell 1 rfl; have s2 := hSW.1.cell 2 rfl; have s3 := hSW.1.cell 3 rfl; have sz := hSW.1.2; have m0 := hSW.2.1.cell 0 rfl; have m1 := hSW.2.1.cell 1 rfl; have m2 := hSW.2.1.cell 2 rfl; have m3 := hSW.2.1.cell 3 rfl; have mz := hSW.2.1.2; have pc := hSW.2.2.1; have pz := hSW.2.2.2); go_simp <;> (try with_reducible rfl))
    refine take_v (v := ?_) 15 ⟨some 57, Op.fieldAddr 37 (Operand.tmp 4) 0, _, _, _, some (7, true)⟩ rfl (fun _ _ _ h => h) ?_ hHeld ?_
    rotate_left
    · (intro W _; go_simp <;> (try with_reducible rfl))
    refine take_v (v := ?_) 16 ⟨some 58, Op.load 3 (Operand.tmp 57), _, _, _, some (7, true)⟩ rfl (fun _ _ _ h => h) ?_ hHeld ?_
    rotate_left
    · (intro W hSW; (have s0 := hSW.1.cell 0 rfl; have s1 := hSW.1.cell 1 rfl; have s2 := hSW.1.cell 2 rfl; have s3 := hSW.1.cell 3 rfl; have sz := hSW.1.2; have m0 := hSW.2.1.cell 0 rfl; have m1 := hSW.2.1.cell 1 rfl; have m2 := hSW.2.1.cell 2 rfl; have m3 := hSW.2.1.cell 3 rfl; have mz := hSW.2.1.2; have pc := hSW.2.2.1; have pz := hSW.2.2.2); go_simp <;> (try with_reducible rfl))
    refine take_v (v := ?_) 17 ⟨some 59, Op.binOp BinOp.geq 3 (Operand.tmp 56) (Operand.tmp 58) 3, _, _, _, some (7, true)⟩ rfl (fun _ _ _ h => h) ?_ hHeld ?_
    rotate_left
    · (intro W _; go_simp <;> (try with_reducible rfl))
    refine take_v (v := ?_) 18 ⟨some 60, Op.pick (Operand.tmp 49) (Operand.tmp 59) (Operand.const (Value.bool false)), _, _, _, some (4, false)⟩ rfl (fun _ _ _ h => h) ?_ hHeld ?_
    rotate_left
    · (intro W _; go_simp <;> (try with_reducible rfl))
    refine take_v (v := ?_) 19 ⟨some 61, Op.pick (Operand.tmp 46) (Operand.const (Value.bool true)) (Operand.tmp 60), _, _, _, none⟩ rfl (fun _ _ _ h => h) ?_ hHeld ?_
    rotate_left
    · (intro W _; go_simp <;> (try with_reducible rfl))
    refine take_v (v := ?_) 20 ⟨some 62, Op.move (Operand.tmp 61), _, _, _, none⟩ rfl (fun _ _ _ h => h) ?_ hHeld ?_
    rotate_left
    · (intro W _; go_simp <;> (try with_reducible rfl))
    refine take_v (v := ?_) 21 ⟨some 63, Op.fieldAddr 37 (Operand.tmp 4) 1, _, _, _, some (20, false)⟩ rfl (fun _ _ _ h => h) ?_ hHeld ?_
    rotate_left
    · (intro W _; go_simp <;> (try with_reducible rfl))
    refine take_v (v := ?_) 22 ⟨some 64, Op.load 3 (Operand.tmp 63), _, _, _, some (20, false)⟩ rfl (fun _ _ _ h => h) ?_ hHeld ?_
    rotate_left
    · (intro W hSW; (have s0 := hSW.1.cell 0 rfl; have s1 := hSW.1.cell 1 rfl; have s2 := hSW.1.cell 2 rfl; have s3 := hSW.1.cell 3 rfl; have sz := hSW.1.2; have m0 := hSW.2.1.cell 0 rfl; have m1 := hSW.2.1.cell 1 rfl; have m2 := hSW.2.1.cell 2 rfl; have m3 := hSW.2.1.cell 3 rfl; have mz := hSW.2.1.2; have pc := hSW.2.2.1; have pz := hSW.2.2.2); go_simp <;> (try with_reducible rfl))
    refine take_v (v := ?_) 23 ⟨some 65, Op.fieldAddr 29 (Operand.tmp 1) 1, _, _, _, some (20, false)⟩ rfl (fun _ _ _ h => h) ?_ hHeld ?_
    rotate_left
    · (intro W _; go_simp <;> (try with_reducible rfl))
    refine take_v (v := ?_) 24 ⟨some 66, Op.load 3 (Operand.tmp 65), _, _, _, some (20, false)⟩ rfl (fun _ _ _ h => h) ?_ hHeld ?_
    rotate_left
    · (intro W hSW; (have s0 := hSW.1.cell 0 rfl; have s1 := hSW.1.cell 1 rfl; have s2 := hSW.1.cell 2 rfl; have s3 := hSW.1.cell 3 rfl; have sz := hSW.1.2; have m0 := hSW.2.1.cell 0 rfl; have m1 := hSW.2.1.cell 1 rfl; have m2 := hSW.2.1.cell 2 rfl; have m3 := hSW.2.1.cell 3 rfl; have mz := hSW.2.1.2; have pc := hSW.2.2.1; have pz := hSW.2.2.2); go_simp <;> (try with_reducible rfl))
    refine take_v (v := ?_) 25 ⟨some 67, Op.binOp BinOp.add 3 (Operand.tmp 66) (Operand.const (Value.int IntKind.i64 1)) 3, _, _, _, some (20, false)⟩ rfl (fun _ _ _ h => h) ?_ hHeld ?_
    rotate_left
    · (intro W _; go_simp <;> (try with_reducible rfl))
    refine take_v (v := ?_) 26 ⟨some 68, Op.fieldAddr 29 (Operand.tmp 1) 0, _, _, _, some (20, false)⟩ rfl (fun _ _ _ h => h) ?_ hHeld ?_
    rotate_left
    · (intro W _; go_simp <;> (try with_reducible rfl))
    refine take_v (v := ?_) 27 ⟨some 69, Op.load 3 (Operand.tmp 68), _, _, _, some (20, false)⟩ rfl (fun _ _ _ h => h) ?_ hHeld ?_
    rotate_left
    · (intro W hSW; (have s0 := hSW.1.cell 0 rfl; have s1 := hSW.1.cell 1 rfl; have s2 := hSW.1.cell 2 rfl; have s3 := hSW.1.cell 3 rfl; have sz := hSW.1.2; have m0 := hSW.2.1.cell 0 rfl; have m1 := hSW.2.1.cell 1 rfl; have m2 := hSW.2.1.cell 2 rfl; have m3 := hSW.2.1.cell 3 rfl; have mz := hSW.2.1.2; have pc := hSW.2.2.1; have pz := hSW.2.2.2); go_simp <;> (try with_reducible rfl))
    refine ready_call 28 ⟨some 70, Op.call { callee := Callee.value (Operand.func 46), args := #[Operand.tmp 64, Operand.tmp 67, Operand.tmp 69], argTypes := #[3, 3, 3] }, _, _, _, some (20, false)⟩ (by kernel_rfl) rfl (by kernel_rfl) (fun KC hK => ?_)
    go_wp2_with fail
    refine (HE.out ▸ l1In_any x1 (du + 1) ep _).mono ?_
    rintro r w' ⟨rfl, hw'⟩
    have hw' := hw'.symm
    subst hw'
    refine hK.out _ _ hHeld (fun hHeld => ?_)
    clear hK KC
    refine take_v (v := ?_) 29 ⟨some 71, Op.unOp UnOp.not 4 (Operand.tmp 70), _, _, _, some (20, false)⟩ rfl (fun _ _ _ h => h) ?_ hHeld ?_
    rotate_left
    · (intro W _; go_simp <;> (try with_reducible rfl))
    refine take_v (v := ?_) 30 ⟨some 72, Op.pick (Operand.tmp 62) (Operand.const (Value.bool true)) (Operand.tmp 71), _, _, _, none⟩ rfl (fun _ _ _ h => h) ?_ hHeld ?_
    rotate_left
    · (intro W _; go_simp <;> (try with_reducible rfl))
    refine take_v (v := ?_) 31 ⟨some 73, Op.move (Operand.tmp 72), _, _, _, none⟩ rfl (fun _ _ _ h => h) ?_ hHeld ?_
    rotate_left
    · (intro W _; go_simp <;> (try with_reducible rfl))
    refine take_v (v := ?_) 32 ⟨some 74, Op.fieldAddr 37 (Operand.tmp 4) 2, _, _, _, some (31, false)⟩ rfl (fun _ _ _ h => h) ?_ hHeld ?_
    rotate_left
    · (intro W _; go_simp <;> (try with_reducible rfl))
    refine take_v (v := ?_) 33 ⟨some 75, Op.load 27 (Operand.tmp 74), _, _, _, some (31, false)⟩ rfl (fun _ _ _ h => h) ?_ hHeld ?_
    rotate_left
    · (intro W hSW; (have s0 := hSW.1.cell 0 rfl; have s1 := hSW.1.cell 1 rfl; have s2 := hSW.1.cell 2 rfl; have s3 := hSW.1.cell 3 rfl; have sz := hSW.1.2; have m0 := hSW.2.1.cell 0 rfl; have m1 := hSW.2.1.cell 1 rfl; have m2 := hSW.2.1.cell 2 rfl; have m3 := hSW.2.1.cell 3 rfl; have mz := hSW.2.1.2; have pc := hSW.2.2.1; have pz := hSW.2.2.2); go_simp <;> (try with_reducible rfl))
    refine take_v (v := ?_) 34 ⟨some 76, Op.call { callee := Callee.builtin Builtin.len, args := #[Operand.tmp 75], argTypes := #[27] }, _, _, _, some (31, false)⟩ rfl (fun _ _ _ h => h) ?_ hHeld ?_
    rotate_left
    · (intro W _; go_simp <;> (try with_reducible rfl))
    refine take_v (v := ?_) 35 ⟨some 77, Op.binOp BinOp.gtr 3 (Operand.tmp 76) (Operand.const (Value.int IntKind.i64 20)) 3, _, _, _, some (31, false)⟩ rfl (fun _ _ _ h => h) ?_ hHeld ?_
    rotate_left
    · (intro W _; go_simp <;> (try with_reducible rfl))
    refine take_v (v := ?_) 36 ⟨some 78, Op.pick (Operand.tmp 73) (Operand.const (Value.bool true)) (Operand.tmp 77), _, _, _, none⟩ rfl (fun _ _ _ h => h) ?_ hHeld ?_
    rotate_left
    · (intro W _; go_simp <;> (try with_reducible rfl))
    refine take_v (v := ?_) 37 ⟨some 79, Op.move (Operand.tmp 78), _, _, _, none⟩ rfl (fun _ _ _ h => h) ?_ hHeld ?_
    rotate_left
    · (intro W _; go_simp <;> (try with_reducible rfl))
    refine take_v (v := ?_) 38 ⟨some 80, Op.fieldAddr 37 (Operand.tmp 4) 3, _, _, _, some (37, false)⟩ rfl (fun _ _ _ h => h) ?_ hHeld ?_
    rotate_left
    · (intro W _; go_simp <;> (try with_reducible rfl))
    refine take_v (v := ?_) 39 ⟨some 81, Op.load 3 (Operand.tmp 80), _, _, _, some (37, false)⟩ rfl (fun _ _ _ h => h) ?_ hHeld ?_
    rotate_left
    · (intro W hSW; (have s0 := hSW.1.cell 0 rfl; have s1 := hSW.1.cell 1 rfl; have s2 := hSW.1.cell 2 rfl; have s3 := hSW.1.cell 3 rfl; have sz := hSW.1.2; have m0 := hSW.2.1.cell 0 rfl; have m1 := hSW.2.1.cell 1 rfl; have m2 := hSW.2.1.cell 2 rfl; have m3 := hSW.2.1.cell 3 rfl; have mz := hSW.2.1.2; have pc := hSW.2.2.1; have pz := hSW.2.2.2); go_simp <;> (try with_reducible rfl))
    refine take_v (v := ?_) 40 ⟨some 82, Op.fieldAddr 29 (Operand.tmp 1) 1, _, _, _, some (37, false)⟩ rfl (fun _ _ _ h => h) ?_ hHeld ?_
    rotate_left
    · (intro W _; go_simp <;> (try with_reducible rfl))
    refine take_v (v := ?_) 41 ⟨some 83, Op.load 3 (Operand.tmp 82), _, _, _, some (37, false)⟩ rfl (fun _ _ _ h => h) ?_ hHeld ?_
    rotate_left
    · (intro W hSW; (have s0 := hSW.1.cell 0 rfl; have s1 := hSW.1.cell 1 rfl; have s2 := hSW.1.cell 2 rfl; have s3 := hSW.1.cell 3 rfl; have sz := hSW.1.2; have m0 := hSW.2.1.cell 0 rfl; have m1 := hSW.2.1.cell 1 rfl; have m2 := hSW.2.1.cell 2 rfl; have m3 := hSW.2.1.cell 3 rfl; have mz := hSW.2.1.2; have pc := hSW.2.2.1; have pz := hSW.2.2.2); go_simp <;> (try with_reducible rfl))
    refine take_v (v := ?_) 42 ⟨some 84, Op.fieldAddr 29 (Operand.tmp 1) 0, _, _, _, some (37, false)⟩ rfl (fun _ _ _ h => h) ?_ hHeld ?_
    rotate_left
    · (intro W _; go_simp <;> (try with_reducible rfl))
    refine take_v (v := ?_) 43 ⟨some 85, Op.load 3 (Operand.tmp 84), _, _, _, some (37, false)⟩ rfl (fun _ _ _ h => h) ?_ hHeld ?_
    rotate_left
    · (intro W hSW; (have s0 := hSW.1.cell 0 rfl; have s1 := hSW.1.cell 1 rfl; have s2 := hSW.1.cell 2 rfl; have s3 := hSW.1.cell 3 rfl; have sz := hSW.1.2; have m0 := hSW.2.1.cell 0 rfl; have m1 := hSW.2.1.cell 1 rfl; have m2 := hSW.2.1.cell 2 rfl; have m3 := hSW.2.1.cell 3 rfl; have mz := hSW.2.1.2; have pc := hSW.2.2.1; have pz := hSW.2.2.2); go_simp <;> (try with_reducible rfl))
    refine take_v (v := ?_) 44 ⟨some 86, Op.binOp BinOp.sub 3 (Operand.tmp 85) (Operand.const (Value.int IntKind.i64 1)) 3, _, _, _, some (37, false)⟩ rfl (fun _ _ _ h => h) ?_ hHeld ?_
    rotate_left
    · (intro W _; go_simp <;> (try with_reducible rfl))
    refine ready_call 45 ⟨some 87, Op.call { callee := Callee.value (Operand.func 46), args := #[Operand.tmp 81, Operand.tmp 83, Operand.tmp 86], argTypes := #[3, 3, 3] }, _, _, _, some (37, false)⟩ (by kernel_rfl) rfl (by kernel_rfl) (fun KC hK => ?_)
    go_wp2_with fail
    refine (HK.out ▸ l1In_any x3 du (ep - 1) _).mono ?_
    rintro r w' ⟨rfl, hw'⟩
    have hw' := hw'.symm
    subst hw'
    refine hK.out _ _ hHeld (fun hHeld => ?_)
    clear hK KC
    refine take_v (v := ?_) 46 ⟨some 88, Op.unOp UnOp.not 4 (Operand.tmp 87), _, _, _, some (37, false)⟩ rfl (fun _ _ _ h => h) ?_ hHeld ?_
    rotate_left
    · (intro W _; go_simp <;> (try with_reducible rfl))
    refine take_v (v := ?_) 47 ⟨some 89, Op.pick (Operand.tmp 79) (Operand.const (Value.bool true)) (Operand.tmp 88), _, _, _, none⟩ rfl (fun _ _ _ h => h) ?_ hHeld ?_
    rotate_left
    · (intro W _; go_simp <;> (try with_reducible rfl))
    refine wpAnyH_done (by kernel_rfl) ?_ _
    refine NoPanic.normal ?_
    clear hHeld
    have s0 := HX.out.1.cell 0 rfl
    have s1 := HX.out.1.cell 1 rfl
    have s2 := HX.out.1.cell 2 rfl
    have s3 := HX.out.1.cell 3 rfl
    have sz := HX.out.1.2
    have m0 := HX.out.2.1.cell 0 rfl
    have m1 := HX.out.2.1.cell 1 rfl
    have m2 := HX.out.2.1.cell 2 rfl
    have m3 := HX.out.2.1.cell 3 rfl
    have mz := HX.out.2.1.2
    go_wp2
    clear s0 s1 s2 s3 sz m0 m1 m2 m3 mz
    go_loopw [93] (fun i wr2 => ∃ j : Nat, j ≤ x2.length ∧ i = .int .i64 j ∧ runP x3 x1 x2 j ∧ Below X0.heap.size X0 wr2) (fun i _ => x2.length - (intOf i).toNat)
    case atStart => exact ⟨0, Nat.zero_le _, rfl, fun j hj => absurd hj (by omega), Below.refl _ _⟩
    case round =>
      obtain ⟨j, hj, rfl, hrun, hB2⟩ := hrel
      have HX2 : Hid (Bx wr w.heap.size [.int .i64 ep, .int .i64 du, .slice (some ⟨yg, yoff, none⟩) ms.length k1, .slice a2 en.length k2] ∧ Bx wr b4 [.int .i64 x0, .int .i64 x1, .slice ya1 x2.length yk1, .int .i64 x3] ∧ Below w.heap.size w wr) := ⟨HX.out.1.next hB2, HX.out.2.1.next hB2, below_next HX.out.2.2.1 hB2⟩
      have HB2 := Hid.intro hB2
      have HRU := Hid.intro hrun
      clear hB2 hrun
      have s0 := HX2.out.1.cell 0 rfl
      have s1 := HX2.out.1.cell 1 rfl
      have s2 := HX2.out.1.cell 2 rfl
      have s3 := HX2.out.1.cell 3 rfl
      have sz := HX2.out.1.2
      have m0 := HX2.out.2.1.cell 0 rfl
      have m1 := HX2.out.2.1.cell 1 rfl
      have m2 := HX2.out.2.1.cell 2 rfl
      have m3 := HX2.out.2.1.cell 3 rfl
      have mz := HX2.out.2.1.2
      by_cases hjl : j < x2.length
      case neg =>
        have hje : j = x2.length := by omega
        have hjn : ¬ (j : Int) < (x2.length : Int) := by omega
        by_cases hae : x1 ≤ x3
        · have had : decide (x1 ≤ x3) = true := decide_eq_true hae
          have HN : Hid (¬ goodF ep du ms en) := Hid.intro (HBAD.out (kp + 1) hlt (fun q => by have h1 := q.1.2.2.2.2.2; rw [yH.out] at h1; have h1 : x3 < x1 := h1; omega))
          clear hje
          go_wp2
          go_ret
          exact ⟨goodF_no HN.out, HX2.out.2.2⟩
        · have hae' : x3 < x1 := by omega
          have had : decide (x1 ≤ x3) = false := decide_eq_false hae
          have HM : Hid (memsP ep du ms (kp + 1 + 1)) := Hid.intro (mems_step HA.out hlt yH.out ⟨HR6.out.1, HR6.out.2.1, HR6.out.2.2.1, HR6.out.2.2.2, (hje ▸ HRU.out), hae'⟩ HPV.out)
          clear hje
          go_wp2
          go_roundw
          case rel => exact ⟨kp + 1 + 1, by omega, by go_num, HM.out, HX2.out.1, HX2.out.2.2⟩
          case measure => simp [intOf]; omega
      have hjl' : (j : Int) < (x2.length : Int) := by omega
      obtain ⟨gr, org, hgr, cr, hgz⟩ := lies_at (HRL.out.next HB2.out) hjl
      obtain ⟨e, he⟩ : ∃ y, y = atI x2 j := ⟨_, rfl⟩
      rw [← he] at cr
      have HEQ := Hid.intro he
      clear he
      subst hgr
      cases c9 : inR e (x3 + 1) x1
      case false =>
        have HN : Hid (¬ goodF ep du ms en) := Hid.intro (HBAD.out (kp + 1) hlt (fun q => by have h1 := (q.1.2.2.2.2.1 j (by rw [yH.out]; exact hjl)).1; rw [yH.out] at h1; have h1 : x3 + 1 ≤ atI x2 j ∧ atI x2 j ≤ x1 := h1; rw [← HEQ.out] at h1; rw [inR_iff.2 h1] at c9; cases c9))
        have HC9 : Hid (inR e (x3 + 1) x1 = false) := c9
        clear c9
        go_wp2_with (go_at_call 46; refine (HC9.out ▸ l1In_any e (x3 + 1) x1 _).mono ?_; rintro r w' ⟨rfl, hw'⟩; have hw' := hw'.symm; subst hw')
        go_ret
        exact ⟨goodF_no HN.out, HX2.out.2.2⟩
      have hb9 := inR_iff.1 c9
      have HC9 : Hid (inR e (x3 + 1) x1 = true) := c9
      clear c9
      by_cases hj0 : j = 0
      · subst hj0
        have hj0' : ¬ (0 : Int) < ((0 : Nat) : Int) := by simp
        rw [Nat.add_zero] at cr
        have HRN : Hid (runP x3 x1 x2 (0 + 1)) := Hid.intro (run_step HRU.out (by rw [← HEQ.out]; exact hb9) (fun h => absurd h (by omega)))
        go_wp2_with (go_at_call 46; refine (HC9.out ▸ l1In_any e (x3 + 1) x1 _).mono ?_; rintro r w' ⟨rfl, hw'⟩; have hw' := hw'.symm; subst hw')
        go_roundw
        case rel => exact ⟨0 + 1, by omega, by first | rfl | go_num, HRN.out, HB2.out⟩
        case measure => simp [intOf]; omega
      obtain ⟨jp, rfl⟩ : ∃ jp, j = jp + 1 := ⟨j - 1, by omega⟩
      have hj0' : (0 : Int) < ((jp + 1 : Nat) : Int) := by omega
      have hjs : ((jp + 1 : Nat) : Int) - 1 = (jp : Int) := by omega
      have hjw : IntKind.i64.wrap (((jp + 1 : Nat) : Int) - 1) = (jp : Int) := (w64f (by omega) (by omega)).trans (by omega)
      have hjw2 : IntKind.i64.wrap (jp : Int) = (jp : Int) := w64f (by omega) (by omega)
      have hjpl : (jp : Int) < (x2.length : Int) := by omega
      obtain ⟨gp, op, hgp, cp, hgz2⟩ := lies_at (HRL.out.next HB2.out) (show jp < x2.length by omega)
      simp only [Option.some.injEq, Addr.mk.injEq, and_true] at hgp
      obtain ⟨rfl, rfl⟩ := hgp
      obtain ⟨ev, hev⟩ : ∃ y, y = atI x2 jp := ⟨_, rfl⟩
      rw [← hev] at cp
      have HEV := Hid.intro hev
      clear hev hgz2
      by_cases hle : ev ≤ e
      · have hle' : ¬ e < ev := by omega
        have HRN : Hid (runP x3 x1 x2 (jp + 1 + 1)) := Hid.intro (run_step HRU.out (by rw [← HEQ.out]; exact hb9) (fun _ => by rw [← HEQ.out, show jp + 1 - 1 = jp by omega, ← HEV.out]; exact hle))
        go_wp2_with (go_at_call 46; refine (HC9.out ▸ l1In_any e (x3 + 1) x1 _).mono ?_; rintro r w' ⟨rfl, hw'⟩; have hw' := hw'.symm; subst hw')
        go_roundw
        case rel => exact ⟨jp + 1 + 1, by omega, by go_num, HRN.out, HB2.out⟩
        case measure => simp [intOf]; omega
      · have hle' : e < ev := by omega
        have HN : Hid (¬ goodF ep du ms en) := Hid.intro (HBAD.out (kp + 1) hlt (fun q => by have h1 := (q.1.2.2.2.2.1 (jp + 1) (by rw [yH.out]; exact hjl)).2 (by omega); rw [yH.out] at h1; have h1 : atI x2 (jp + 1 - 1) ≤ atI x2 (jp + 1) := h1; rw [show jp + 1 - 1 = jp by omega, ← HEQ.out, ← HEV.out] at h1; omega))
        go_wp2_with (go_at_call 46; refine (HC9.out ▸ l1In_any e (x3 + 1) x1 _).mono ?_; rintro r w' ⟨rfl, hw'⟩; have hw' := hw'.symm; subst hw')
        go_ret
        exact ⟨goodF_no HN.out, HX2.out.2.2⟩

end Go.Proofs.Ytcbdlalpnlahcaa
