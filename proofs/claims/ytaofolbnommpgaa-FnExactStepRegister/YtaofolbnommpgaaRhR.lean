/- Registers: impl.StepRegister. -/
import Derived.Test.YtaofolbnommpgaaRhQ
import Derived.Test.YtaofolbnommpgaaRgE
namespace Go.Proofs.Ytaofolbnommpgaa
open Go.RowKit
set_option linter.unusedVariables false
set_option linter.unusedSimpArgs false

abbrev stC (bg : Bool) (cl : Int) (wr : Bool) (vl : ByteArray) (oi ni : Int) : List Value := [.bool bg, .int .i64 cl, .bool wr, .string vl, .int .i64 oi, .int .i64 ni]
set_option maxRecDepth 100000 in
set_option maxHeartbeats 4000000 in
theorem takeRegStep_n (lo g : Nat) (ck : Int) (va vp : Value) (cp : List (Sh.T shCopy)) (os : List (Sh.T shRegOp)) (S : Nat → Prop) (bg : Bool) (cl : Int) (wr : Bool) (vl : ByteArray) (oi ni : Int) (W : World) (hv : vl.size ≤ 1073741824) (hg : goodR ck cp os) (hk : ck ≠ 1000) (h : RgX W lo g ck va vp cp os S) :
    Calls Try.prog 70 #[.pointer (some ⟨g, 0, none⟩), .agg #[.bool bg, .int .i64 cl, .bool wr, .string vl, .int .i64 oi, .int .i64 ni]] W (TkP (rsB ck cp os bg cl wr vl oi ni) W lo g ck S) := by
  obtain ⟨w1, hw1⟩ : ∃ x, x = W.alloc (.cells #[.bool bg, .int .i64 cl, .bool wr, .string vl, .int .i64 oi, .int .i64 ni] 42) := ⟨_, rfl⟩
  have hbw : Below W.heap.size W w1 := hw1 ▸ Go.Joins.below_alloc1 _ _
  have H1 : Hid (RgX w1 lo g ck va vp cp os S ∧ Bx w1 W.heap.size (stC bg cl wr vl oi ni) ∧ Below W.heap.size W w1) := ⟨h.next hbw, hw1 ▸ Bx.new W [_, _, _, _, _, _] _, hbw⟩
  have HG := Hid.intro (And.intro hv (And.intro hg hk))
  clear h hbw hv hg hk
  have t0 := (H1.out.2.1).cell 0 rfl; have t1 := (H1.out.2.1).cell 1 rfl; have t2 := (H1.out.2.1).cell 2 rfl; have t3 := (H1.out.2.1).cell 3 rfl; have t4 := (H1.out.2.1).cell 4 rfl; have t5 := (H1.out.2.1).cell 5 rfl; have tz := (H1.out.2.1).2
  cases bg
  · go_enter Try.func70, Try.ntmps70
    go_wp2_with fail
    rw [← hw1]
    clear hw1
    refine (go_t lo g ck va vp cp os S cl wr vl oi ni _ HG.out.2.1 HG.out.2.2 H1.out.1).mono ?_
    intro r w' hP
    have hP := hP.back H1.out.2.2
    obtain ⟨z, rfl⟩ : ∃ z, r = .returned (.bool z) := by
      cases e : rsB ck cp os false cl wr vl oi ni with
      | none => exact ⟨_, (hP.1 e).1⟩
      | some y => exact ⟨_, (hP.2 y e).1⟩
    have HP := Hid.intro hP
    clear hP t0 t1 t2 t3 t4 t5 tz
    go_wp2
    go_ret
    exact HP.out
  · go_enter Try.func70, Try.ntmps70
    go_wp2_with fail
    rw [← hw1]
    clear hw1
    refine (begin_t lo g ck va vp cp os S cl wr vl oi ni _ HG.out.1 HG.out.2.1 HG.out.2.2 H1.out.1).mono ?_
    intro r w' hP
    have hP := hP.back H1.out.2.2
    obtain ⟨z, rfl⟩ : ∃ z, r = .returned (.bool z) := by
      cases e : rsB ck cp os true cl wr vl oi ni with
      | none => exact ⟨_, (hP.1 e).1⟩
      | some y => exact ⟨_, (hP.2 y e).1⟩
    have HP := Hid.intro hP
    clear hP t0 t1 t2 t3 t4 t5 tz
    go_wp2
    go_ret
    exact HP.out

theorem RgX.own {W : World} {lo : Nat} {ck : Int} {va vp : Value} {cp : List (Sh.T shCopy)} {os : List (Sh.T shRegOp)} {S : Nat → Prop} (h : OwnX W lo tyRegister [.int .i64 ck, va, vp] (ck, cp, os, ()) S) (ck' : Int) : OwnX W lo tyRegister [.int .i64 ck', va, vp] (ck', cp, os, ()) S := by
  obtain ⟨va', S1, vp', S2, e0, o1, o2, s1, s2, hd⟩ := ownx_Register h
  cases e0
  exact mkownx_Register o1 o2 s1 s2 hd
def z0R : Sh.T shRegister := (0, [], [], ())
/-- What a step answers. -/
def RsP (A : Option (Sh.T shRegister)) (w : World) (r : Ending) (w' : World) : Prop := AnsP shRegister (A.getD z0R) A.isSome w r w'
theorem RsP.zero {A : Option (Sh.T shRegister)} {w w' : World} (h : A = none) (hb : Below w.heap.size w w') : RsP A w (.returned (.tuple #[.agg #[.int .i64 0, .slice none 0 0, .slice none 0 0], .bool false])) w' := by
  subst h
  exact ⟨[.int .i64 0, .slice none 0 0, .slice none 0 0], rfl, mkown_Register (Own.none (S := fun _ => False) (Nat.zero_le _)) (Own.none (S := fun _ => False) (Nat.zero_le _)) (fun k e => e.elim) (fun k e => e.elim) (fun k e => e.elim), hb⟩
theorem RsP.some {A : Option (Sh.T shRegister)} {w w' : World} {ck : Int} {va vp : Value} {cp : List (Sh.T shCopy)} {os : List (Sh.T shRegOp)} {lo : Nat} {S : Nat → Prop} (h : A = Option.some (ck, cp, os, ())) (hO : OwnX w' lo tyRegister [.int .i64 ck, va, vp] (ck, cp, os, ()) S) (hS : ∀ j, S j → Btw w.heap.size w'.heap.size j) (hb : Below w.heap.size w w') : RsP A w (.returned (.tuple #[.agg #[.int .i64 ck, va, vp], .bool true])) w' := by
  subst h
  exact ⟨[.int .i64 ck, va, vp], rfl, (hO.own).mono hS, hb⟩

set_option maxRecDepth 100000 in
set_option maxHeartbeats 8000000 in
theorem stepRegister_n (cs : List Value) (ck : Int) (cp : List (Sh.T shCopy)) (os : List (Sh.T shRegOp)) (bg : Bool) (cl : Int) (wr : Bool) (vl : ByteArray) (oi ni : Int) (w : World) (hz : szD shRegister (ck, cp, os, ()) ≤ 1073741824) (hv : vl.size ≤ 1073741824) (h : Lies w shRegister cs (ck, cp, os, ())) :
    Calls Try.prog 20 #[.agg cs.toArray, .agg #[.bool bg, .int .i64 cl, .bool wr, .string vl, .int .i64 oi, .int .i64 ni]] w (RsP (rsS ck cp os bg cl wr vl oi ni) w) := by
  obtain ⟨a1, k1, a2, k2, rfl, h1, h2⟩ := lies_Register h
  have HL : Hid (Lies w (.list shCopy) [.slice a1 cp.length k1] cp ∧ Lies w (.list shRegOp) [.slice a2 os.length k2] os) := ⟨h1, h2⟩
  have HZ : Hid (szD shRegister (ck, cp, os, ()) ≤ 1073741824 ∧ vl.size ≤ 1073741824) := ⟨hz, hv⟩
  clear h h1 h2 hz hv
  obtain ⟨w0, hw0⟩ : ∃ x, x = ((w.alloc (.cells #[.int .i64 ck, .slice a1 cp.length k1, .slice a2 os.length k2] 29)).alloc (.cells #[.bool bg, .int .i64 cl, .bool wr, .string vl, .int .i64 oi, .int .i64 ni] 42)).alloc (.cells #[.int .i64 0, .slice none 0 0, .slice none 0 0] 29) := ⟨_, rfl⟩
  have HB0 : Hid (Bx w0 w.heap.size [.int .i64 ck, .slice a1 cp.length k1, .slice a2 os.length k2] ∧ Bx w0 (w.heap.size + 1) (stC bg cl wr vl oi ni) ∧ Bx w0 (w.heap.size + 1 + 1) [.int .i64 0, .slice none 0 0, .slice none 0 0] ∧ Below w.heap.size w w0) :=
    ⟨hw0 ▸ ((Bx.new w [_, _, _] _).alloc _).alloc _, hw0 ▸ (Bx.newAt (by simp)).alloc _, hw0 ▸ Bx.newAt (by simp), hw0 ▸ (((Below.refl _ _).alloc (Nat.le_refl _) _).alloc (by simp) _).alloc (by simp <;> omega) _⟩
  go_enter Try.func20, Try.ntmps20
  go_wp2_with fail
  rw [← hw0]
  clear hw0
  refine (goodRegister_n [.int .i64 ck, .slice a1 cp.length k1, .slice a2 os.length k2] ck cp os _ HZ.out.1 (mk_Register (HL.out.1.next HB0.out.2.2.2) (HL.out.2.next HB0.out.2.2.2))).mono ?_
  rintro r w1 ⟨rfl, hb⟩
  have HB1 : Hid (Bx w1 w.heap.size [.int .i64 ck, .slice a1 cp.length k1, .slice a2 os.length k2] ∧ Bx w1 (w.heap.size + 1) (stC bg cl wr vl oi ni) ∧ Bx w1 (w.heap.size + 1 + 1) [.int .i64 0, .slice none 0 0, .slice none 0 0] ∧ Below w.heap.size w w1) := ⟨HB0.out.1.next hb, HB0.out.2.1.next hb, HB0.out.2.2.1.next hb, below_next HB0.out.2.2.2 hb⟩
  clear hb HB0
  have s0 := (HB1.out.1).cell 0 rfl; have s1 := (HB1.out.1).cell 1 rfl; have s2 := (HB1.out.1).cell 2 rfl; have sz := (HB1.out.1).2
  have t0 := (HB1.out.2.1).cell 0 rfl; have t1 := (HB1.out.2.1).cell 1 rfl; have t2 := (HB1.out.2.1).cell 2 rfl; have t3 := (HB1.out.2.1).cell 3 rfl; have t4 := (HB1.out.2.1).cell 4 rfl; have t5 := (HB1.out.2.1).cell 5 rfl; have tz := (HB1.out.2.1).2
  have r0 := (HB1.out.2.2.1).cell 0 rfl; have r1 := (HB1.out.2.2.1).cell 1 rfl; have r2 := (HB1.out.2.2.1).cell 2 rfl; have rz := (HB1.out.2.2.1).2
  have rf0 := HB1.out.2.2.1.frz 0 (by simp)
  have rf1 := HB1.out.2.2.1.frz 1 (by simp)
  have rf2 := HB1.out.2.2.1.frz 2 (by simp)
  have hset : Hid (∀ u0 u1 u2, Below w.heap.size w (((w1.setCell ⟨w.heap.size + 1 + 1, 0, none⟩ u0).setCell ⟨w.heap.size + 1 + 1, 1, none⟩ u1).setCell ⟨w.heap.size + 1 + 1, 2, none⟩ u2)) := Hid.intro (fun u0 u1 u2 => HB1.out.2.2.2.trans ((set3 w1 (w.heap.size + 1 + 1) u0 u1 u2).below (fun k e => by have e : k = w.heap.size + 1 + 1 := e; omega) HB1.out.2.2.2.size))
  by_cases c0 : goodR ck cp os
  case neg =>
    rw [tf_no c0]
    have HN : Hid (rsS ck cp os bg cl wr vl oi ni = none) := Hid.intro (rsS_bad c0)
    clear c0
    go_wp2_with fail
    exact bodyPost_ret (v := .tuple #[.agg #[.int .i64 0, .slice none 0 0, .slice none 0 0], .bool false]) (by simp [results, Try.results20, go_sem, *]) rfl (RsP.zero HN.out (hset.out _ _ _))
  rw [tf_yes c0]
  have HG : Hid (goodR ck cp os) := c0
  have hck := c0.1
  clear c0
  by_cases c1 : ck = 1000
  · have HN : Hid (rsS ck cp os bg cl wr vl oi ni = none) := Hid.intro (rsS_end c1)
    have c1' : (ck == 1000) = true := by simpa using c1
    go_wp2_with fail
    exact bodyPost_ret (v := .tuple #[.agg #[.int .i64 0, .slice none 0 0, .slice none 0 0], .bool false]) (by simp [results, Try.results20, go_sem, *]) rfl (RsP.zero HN.out (hset.out _ _ _))
  have c1' : (ck == 1000) = false := by simpa using c1
  have HK : Hid (ck ≠ 1000) := c1
  clear hset c1
  go_wp2_with fail
  refine (cloneRegister_n [.int .i64 ck, .slice a1 cp.length k1, .slice a2 os.length k2] ck cp os _ (good_sml HG.out) (mk_Register (HL.out.1.next HB1.out.2.2.2) (HL.out.2.next HB1.out.2.2.2))).mono ?_
  rintro r w2 ⟨cs2, rfl, hO, hb⟩
  obtain ⟨va, _, vp, _, hcs, _⟩ := ownx_Register hO
  subst hcs
  have HT2 : Hid (Bx w2 (w.heap.size + 1) (stC bg cl wr vl oi ni) ∧ Bx w2 (w.heap.size + 1 + 1) [.int .i64 0, .slice none 0 0, .slice none 0 0] ∧ Below w.heap.size w w2 ∧ w.heap.size + 1 + 1 < w1.heap.size ∧ w1.heap.size ≤ w2.heap.size) := ⟨HB1.out.2.1.next hb, HB1.out.2.2.1.next hb, below_next HB1.out.2.2.2 hb, HB1.out.2.2.1.2, hb.size⟩
  obtain ⟨b6, hb6⟩ : ∃ x, x = w2.heap.size := ⟨_, rfl⟩
  obtain ⟨w3, hw3⟩ : ∃ x, x = w2.alloc (.cells #[.int .i64 ck, va, vp] 29) := ⟨_, rfl⟩
  have hb3 : Below w2.heap.size w2 w3 := hw3 ▸ Go.Joins.below_alloc1 _ _
  have HX : Hid (RgX w3 w1.heap.size b6 ck va vp cp os (Btw w1.heap.size b6) ∧ Bx w3 (w.heap.size + 1 + 1) [.int .i64 0, .slice none 0 0, .slice none 0 0] ∧ Below w.heap.size w w3 ∧ w.heap.size + 1 + 1 < w1.heap.size ∧ w1.heap.size ≤ b6) := by
    refine ⟨⟨hb6 ▸ hw3 ▸ Bx.new w2 [_, _, _] _, hb6 ▸ hO.next hb3, fun b q => ?_, ?_⟩, HT2.out.2.1.next hb3, below_next HT2.out.2.2.1 hb3, HT2.out.2.2.2.1, hb6 ▸ HT2.out.2.2.2.2⟩
    · have h1 := hb3.size; simp only [Btw] at q; omega
    · have h1 := hb3.size; have h2 := HT2.out.2.2.2.2; omega
  obtain ⟨_, _, _, _, hva, hvp⟩ := HX.out.1.vform
  clear hb hO hb3 HB1 HL s0 s1 s2 sz t0 t1 t2 t3 t4 t5 tz r0 r1 r2 rz rf0 rf1 rf2
  subst hva hvp
  have t0 := (HT2.out.1).cell 0 rfl; have t1 := (HT2.out.1).cell 1 rfl; have t2 := (HT2.out.1).cell 2 rfl; have t3 := (HT2.out.1).cell 3 rfl; have t4 := (HT2.out.1).cell 4 rfl; have t5 := (HT2.out.1).cell 5 rfl; have tz := (HT2.out.1).2
  go_wp2_with fail
  rw [← hw3, ← hb6]
  clear hw3 hb6 HT2 t0 t1 t2 t3 t4 t5 tz
  refine (takeRegStep_n w1.heap.size b6 ck _ _ cp os _ bg cl wr vl oi ni w3 HZ.out.2 HG.out HK.out HX.out.1).mono ?_
  intro r w4 hT
  have HT := Hid.intro hT
  have H12 := Hid.intro HX.out.2.2.2
  cases hE : rsB ck cp os bg cl wr vl oi ni with
  | none =>
    have HN : Hid (rsS ck cp os bg cl wr vl oi ni = none) := Hid.intro (rsS_none hE)
    obtain ⟨rfl, hb⟩ := hT.1 hE
    have HR := Hid.intro (HX.out.2.1.next hb)
    have HB := Hid.intro (below_next HX.out.2.2.1 hb)
    clear hT HT HX hE hb
    have r0 := (HR.out).cell 0 rfl; have r1 := (HR.out).cell 1 rfl; have r2 := (HR.out).cell 2 rfl; have rz := (HR.out).2
    have rf0 := HR.out.frz 0 (by simp)
    have rf1 := HR.out.frz 1 (by simp)
    have rf2 := HR.out.frz 2 (by simp)
    go_wp2_with fail
    exact bodyPost_ret (v := .tuple #[.agg #[.int .i64 0, .slice none 0 0, .slice none 0 0], .bool false]) (by simp [results, Try.results20, go_sem, *]) rfl (RsP.zero HN.out (HB.out.trans ((set3 w4 (w.heap.size + 1 + 1) _ _ _).below (fun k e => by have e : k = w.heap.size + 1 + 1 := e; omega) HB.out.size)))
  | some y =>
    obtain ⟨rfl, va', vp', S', hx, hs, ht⟩ := hT.2 y hE
    have HYE := Hid.intro hE
    have h12 := HX.out.2.2.2
    have hsz := HX.out.2.2.1.size
    have hnb : ∀ b, b < w1.heap.size → ¬ (Btw w1.heap.size b6 b ∨ b = b6) := fun b hb q => by simp only [Btw] at q; omega
    have HR := Hid.intro (HX.out.2.1.turnS ht (hnb _ h12.1))
    have HB := Hid.intro (HX.out.2.2.1.trans (ht.below (B := w.heap.size) (fun k e => by have e : Btw w1.heap.size b6 k ∨ k = b6 := e; simp only [Btw] at e; omega) hsz))
    have HSS : Hid (∀ b, S' b → Btw w.heap.size w4.heap.size b) := Hid.intro (fun b hb => by
      have h1 := (hx.2.2.1 b hb).1
      rcases hs b hb with q | q
      · simp only [Btw] at q ⊢; omega
      · simp only [Btw]; omega)
    have HS0 : Hid (∀ b, S' b → w1.heap.size ≤ b) := Hid.intro (fun b hb => by
      rcases hs b hb with q | q
      · simp only [Btw] at q; omega
      · have h1 := HX.out.1.1.2; omega)
    obtain ⟨pa, ka, pb, kb, hva, hvp⟩ := hx.vform
    subst hva hvp
    have HX4 := Hid.intro hx
    clear hT HT HX hE hs ht hsz hnb hx
    have r0 := (HR.out).cell 0 rfl; have r1 := (HR.out).cell 1 rfl; have r2 := (HR.out).cell 2 rfl; have rz := (HR.out).2
    have rf0 := HR.out.frz 0 (by simp)
    have rf1 := HR.out.frz 1 (by simp)
    have rf2 := HR.out.frz 2 (by simp)
    obtain ⟨z, hzE⟩ : ∃ z, z = tf (goodR (ck + 1) y.1 y.2) := ⟨_, rfl⟩
    rw [← hzE]
    have HZE := Hid.intro hzE
    clear hzE
    cases z with
    | false =>
      have HN : Hid (rsS ck cp os bg cl wr vl oi ni = none) := Hid.intro (rsS_no HYE.out (fun q => by have := HZE.out; rw [tf_yes q] at this; cases this))
      go_wp2_with fail
      exact bodyPost_ret (v := .tuple #[.agg #[.int .i64 0, .slice none 0 0, .slice none 0 0], .bool false]) (by simp [results, Try.results20, go_sem, *]) rfl (RsP.zero HN.out (HB.out.trans ((set3 w4 (w.heap.size + 1 + 1) _ _ _).below (fun k e => by have e : k = w.heap.size + 1 + 1 := e; omega) HB.out.size)))
    | true =>
      have HN : Hid (rsS ck cp os bg cl wr vl oi ni = some (ck + 1, y.1, y.2, ())) := Hid.intro (rsS_yes HG.out HK.out HYE.out (tf_iff.1 HZE.out.symm))
      have hw : IntKind.i64.wrap (ck + 1) = ck + 1 := w64 (by omega) (by omega)
      have s0 := (HX4.out.1).cell 0 rfl; have s1 := (HX4.out.1).cell 1 rfl; have s2 := (HX4.out.1).cell 2 rfl; have sz := (HX4.out.1).2
      have sf0 := HX4.out.1.frz 0 (by simp)
      have hne : b6 ≠ w.heap.size + 1 + 1 := by have := H12.out; omega
      go_wp2_with fail
      have hO := (((RgX.own HX4.out.2.1 (ck + 1)).set (p := ⟨b6, 0, none⟩) (fun q => (HX4.out.2.2.1 _ q).2 rfl) (.int .i64 (ck + 1))).turn (set3 (w4.setCell ⟨b6, 0, none⟩ (.int .i64 (ck + 1))) (w.heap.size + 1 + 1) (.int .i64 (ck + 1)) (.slice pa (List.length (α := Sh.T shCopy) y.1) ka) (.slice pb (List.length (α := Sh.T shRegOp) y.2) kb)) (fun k hk e => by have e : k = w.heap.size + 1 + 1 := e; have h1 := HS0.out k hk; have h2 := H12.out; omega))
      have hBB := (HB.out.setCell (p := ⟨b6, 0, none⟩) (by have h2 := H12.out; show w.heap.size ≤ b6; omega) (.int .i64 (ck + 1))).trans ((set3 (w4.setCell ⟨b6, 0, none⟩ (.int .i64 (ck + 1))) (w.heap.size + 1 + 1) (.int .i64 (ck + 1)) (.slice pa (List.length (α := Sh.T shCopy) y.1) ka) (.slice pb (List.length (α := Sh.T shRegOp) y.2) kb)).below (fun k e => by have e : k = w.heap.size + 1 + 1 := e; omega) (by have := HB.out.size; simpa using this))
      exact bodyPost_ret (v := .tuple #[.agg #[.int .i64 (ck + 1), .slice pa (List.length (α := Sh.T shCopy) y.1) ka, .slice pb (List.length (α := Sh.T shRegOp) y.2) kb], .bool true]) (by simp [results, Try.results20, go_sem, *]) rfl (RsP.some HN.out hO (fun b hb => by have := HSS.out b hb; simpa [Btw] using this) hBB)
end Go.Proofs.Ytaofolbnommpgaa
