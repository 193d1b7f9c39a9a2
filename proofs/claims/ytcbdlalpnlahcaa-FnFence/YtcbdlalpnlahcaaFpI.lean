/- Fences: the program's PlayFence. Written by tools/mkFpI.py. -/
import Derived.Test.YtcbdlalpnlahcaaFoM
import Derived.Test.YtcbdlalpnlahcaaFpG
namespace Go.Proofs.Ytcbdlalpnlahcaa
open Go.RowKit
set_option linter.unusedVariables false
set_option linter.unusedSimpArgs false

theorem flat_zerosF (n : Nat) : List.flatMap (valC .int) (List.replicate n (0 : Int)) = List.replicate n (.int .i64 0) := by
  induction n with
  | zero => rfl
  | succ n ih => rw [List.replicate_succ, List.replicate_succ]; show valC .int (0 : Int) ++ List.flatMap (valC .int) (List.replicate n (0 : Int)) = _; rw [ih]; rfl
theorem wp_make_intF {P : Program} {w : World} {o : Oper} {a : Act} {K : Act → World → Prop} {Q : Exit → Act → World → Prop} (l c : Operand) (t e : TypeId) (hop : o.op = Op.makeSlice t l c) (i : TypeInfo) (h1 : P.underlying t = some (.slice e)) (h2 : P.info? e = some i) (h3 : i.zero = some (.int .i64 0)) (h4 : i.size = 1)
    (n : Nat) (hl : a.eval l = .int .i64 (n : Int)) (hc : a.eval c = .int .i64 (n : Int)) (b2 : i.bytes * n ≤ 281474976710656) (b3 : n ≤ maxLen)
    (hK : ∀ w', ApS .int e w w' (.slice (some ⟨w.heap.size, 0, none⟩) n n) (List.replicate n (0 : Int)) → K (a.put o.dst (.slice (some ⟨w.heap.size, 0, none⟩) n n)) w') : o.wp P a w K Q := by
  obtain ⟨w', hrun, r1, r2⟩ := run_make_full (P := P) w w.heap.size t e i (.int .i64 0) 1 h1 h2 h3 h4 .i64 .i64 n b2 b3 (Nat.le_refl _)
  unfold Oper.wp
  simp [execOp, hop, hl, hc, hrun, Result.andThen]
  refine hK w' ⟨OwnX.of_flat (e := .int) rfl ?_ (fun k hk => r1.lt k hk), ⟨r2.os, r2.tape, r2.output, r2.size, fun k hk => r2.block k hk (fun q => by cases q)⟩⟩
  have e1 : (madeCells (Value.int .i64 0).cells (n * 1)).toList = List.flatMap (valC .int) (List.replicate n (0 : Int)) := by
    rw [flat_zerosF, Nat.mul_one]; exact toList_madeCells_one _ _
  have r1' := r1
  rw [e1] at r1'
  rw [List.length_replicate]
  exact r1'
theorem sfp_some {y : Sh.T shFence} {w w' : World} {r : Ending} (h : SfP (some y) w r w') : ∃ cs : List Value, r = .returned (.tuple #[.agg cs.toArray, .bool true]) ∧ Own w' shFence cs y (Btw w.heap.size w'.heap.size) ∧ Below w.heap.size w w' := h
theorem fp_set {D : List (Sh.T .int)} {k n : Nat} {u : Int} (hD : D.length = k) (h : k < n) : (D ++ List.replicate (n - k) (0 : Int)).set k u = (D ++ [u]) ++ List.replicate (n - (k + 1)) (0 : Int) := by
  have e : n - k = (n - (k + 1)) + 1 := by omega
  rw [e, List.replicate_succ, List.set_append_right _ _ (by omega), hD, Nat.sub_self, List.append_assoc]; rfl

set_option maxRecDepth 100000 in
set_option maxHeartbeats 8000000 in
theorem playFence_n (mm : Int) (a2 : Option Addr) (c2 : Nat) (l : List (Sh.T shFenceStep)) (w : World) (hn : l.length ≤ 1073741824) (h2 : Lies w (.list shFenceStep) [.slice a2 l.length c2] l) :
    Calls Try.prog 12 #[.int .i64 mm, .slice a2 l.length c2] w (FpR mm l w) := by
  have HL := Hid.intro h2
  clear h2
  obtain ⟨i0, hi0, hz0, hz1, hz2⟩ := info_parts inf_int
  obtain ⟨w0, hw0⟩ : ∃ x, x = w.alloc (.cells #[.int .i64 0, .int .i64 0, .slice none 0 0, .slice none 0 0] 29) := ⟨_, rfl⟩
  have HB0 : Hid (Bx w0 w.heap.size [.int .i64 0, .int .i64 0, .slice none 0 0, .slice none 0 0] ∧ Below w.heap.size w w0 ∧ w0.heap.size = w.heap.size + 1) := ⟨hw0 ▸ Bx.new w [_, _, _, _] _, hw0 ▸ Go.Joins.below_alloc1 _ _, by rw [hw0]; simp⟩
  go_enter Try.func12, Try.ntmps12
  go_wp2_with fail
  rw [← hw0]
  clear hw0
  refine (newFence_n mm _).mono ?_
  by_cases c0 : 1 ≤ mm ∧ mm ≤ 8
  case neg =>
    obtain ⟨e1, e2, e3⟩ := nf_none c0
    rw [e1, e2, e3]
    rintro r w1 ⟨cs, rfl, ho, hb⟩
    obtain ⟨p1, n1, q1, p2, n2, q2, hev⟩ := own_cellsF ho
    subst hev
    have HB1 : Hid (Bx w1 w.heap.size [.int .i64 0, .int .i64 0, .slice none 0 0, .slice none 0 0] ∧ Below w.heap.size w w1) := ⟨HB0.out.1.next hb, below_next HB0.out.2.1 hb⟩
    have HN : Hid (¬ fpOk mm l) := Hid.intro (fun q => c0 q.1)
    clear ho hb HB0 c0 e1 e2 e3
    have r0 := HB1.out.1.cell 0 rfl
    have r1 := HB1.out.1.cell 1 rfl
    have r2 := HB1.out.1.cell 2 rfl
    have r3 := HB1.out.1.cell 3 rfl
    have rz := HB1.out.1.2
    have rf0 := HB1.out.1.frz 0 (by simp)
    have rf1 := HB1.out.1.frz 1 (by simp)
    have rf2 := HB1.out.1.frz 2 (by simp)
    have rf3 := HB1.out.1.frz 3 (by simp)
    go_wp2_with fail
    refine bodyPost_ret (v := .tuple #[.agg #[.int .i64 0, .int .i64 0, .slice none 0 0, .slice none 0 0], .slice none 0 0, .bool false]) (by simp [results, Try.results12, go_sem, *]) rfl (FpR.no HN.out ?_)
    exact (HB1.out.2.trans ((set4 w1 w.heap.size _ _ _ _).below (fun k e => by have e : k = w.heap.size := e; omega) HB1.out.2.size)).alloc (by have := HB1.out.2.size; simp; omega) _
  have HG0 : Hid (goodT (fp0 mm) ∧ playP (fp0 mm).1 (fp0 mm).2.1 ∧ totF (fp0 mm) = 0) := Hid.intro (fp0_good c0)
  obtain ⟨e1, e2, e3⟩ := nf_some c0
  rw [e1, e2, e3]
  rintro r w1 ⟨cs, rfl, ho, hb⟩
  obtain ⟨S0, hS0⟩ : ∃ S, fp0 mm = S := ⟨_, rfl⟩
  have ho : Own w1 shFence cs S0 (Btw w0.heap.size w1.heap.size) := hS0 ▸ ho
  rw [hS0] at HG0
  obtain ⟨ep, du, ms, en, ⟨⟩⟩ := S0
  obtain ⟨p3, n3, q3, p4, n4, q4, hcs⟩ := own_cellsF ho
  subst hcs
  have HB1 : Hid (Bx w1 w.heap.size [.int .i64 0, .int .i64 0, .slice none 0 0, .slice none 0 0] ∧ Below w.heap.size w w1) := ⟨HB0.out.1.next hb, below_next HB0.out.2.1 hb⟩
  have HO : Hid (Own w1 shFence [.int .i64 ep, .int .i64 du, .slice p3 n3 q3, .slice p4 n4 q4] (ep, du, ms, en, ()) (Btw w0.heap.size w1.heap.size) ∧ w0.heap.size = w.heap.size + 1) := ⟨ho, HB0.out.2.2⟩
  clear ho hb HB0 e1 e2 e3
  have r0 := HB1.out.1.cell 0 rfl
  have r1 := HB1.out.1.cell 1 rfl
  have r2 := HB1.out.1.cell 2 rfl
  have r3 := HB1.out.1.cell 3 rfl
  have rz := HB1.out.1.2
  have rf0 := HB1.out.1.frz 0 (by simp)
  have rf1 := HB1.out.1.frz 1 (by simp)
  have rf2 := HB1.out.1.frz 2 (by simp)
  have rf3 := HB1.out.1.frz 3 (by simp)
  by_cases c1 : l.length ≤ 120
  case neg =>
    have HN : Hid (¬ fpOk mm l) := Hid.intro (fun q => c1 q.2)
    have c1' : (120 : Int) < (l.length : Int) := by omega
    clear c0 c1
    go_wp2_with fail
    refine bodyPost_ret (v := .tuple #[.agg #[.int .i64 0, .int .i64 0, .slice none 0 0, .slice none 0 0], .slice none 0 0, .bool false]) (by simp [results, Try.results12, go_sem, *]) rfl (FpR.no HN.out ?_)
    exact (HB1.out.2.trans ((set4 w1 w.heap.size _ _ _ _).below (fun k e => by have e : k = w.heap.size := e; omega) HB1.out.2.size)).alloc (by have := HB1.out.2.size; simp; omega) _
  have c1' : (l.length : Int) ≤ 120 := by omega
  have HY : Hid (fpA mm l = fpF (ep, du, ms, en, ()) l ∧ tf (fpOk mm l) = true) := Hid.intro (by rw [← hS0]; exact fp_yes ⟨c0, c1⟩)
  clear c0 hS0
  obtain ⟨w2, hw2⟩ : ∃ x, x = w1.alloc (.cells #[.int .i64 ep, .int .i64 du, .slice p3 n3 q3, .slice p4 n4 q4] 29) := ⟨_, rfl⟩
  have HI0 : Hid (PyS shFence .int 3 [.int .i64 0, .int .i64 0, .slice none 0 0, .slice none 0 0] w w1.heap.size w2 [.int .i64 ep, .int .i64 du, .slice p3 n3 q3, .slice p4 n4 q4] (ep, du, ms, en, ()) (.slice none 0 0) []) := Hid.intro (hw2 ▸ PyS.start0 (cs := [.int .i64 ep, .int .i64 du, .slice p3 n3 q3, .slice p4 n4 q4]) (t2 := 29) HB1.out.1 HO.out.1 (fun k hk => by have := HO.out.2; simp only [Btw] at hk; omega) HB1.out.2)
  go_wp2_with (at_make; rw [← hw2]; refine wpList_plain rfl fun K9 hK9 => ?_; refine wp_make_intF (.tmp 28) (.tmp 28) 27 3 rfl i0 Try.underlying27 hi0 hz0 hz1 l.length rfl rfl (by rw [hz2]; omega) (by unfold maxLen; omega) ?_; intro w3 hA3; refine hK9 _ _ ?_; obtain ⟨g, hgE⟩ : ∃ y, y = w2.heap.size := ⟨_, rfl⟩; rw [← hgE] at hA3 ⊢; have HI : Hid (FqS w w1.heap.size w3 (ep, du, ms, en, ()) (.slice (some ⟨g, 0, none⟩) l.length l.length) ([] ++ List.replicate (l.length - 0) 0)) := Hid.intro ⟨_, _, _, _, _, _, HI0.out.list hA3⟩; clear hA3 hgE hw2)
  obtain ⟨b, hbE⟩ : ∃ b, b = w1.heap.size := ⟨_, rfl⟩
  rw [← hbE] at HI ⊢
  clear hbE HI0 HO HB1 r0 r1 r2 r3 rz rf0 rf1 rf2 rf3
  obtain ⟨S0, hS0⟩ : ∃ S : Sh.T shFence, S = (ep, du, ms, en, ()) := ⟨_, rfl⟩
  rw [← hS0] at HI HY
  have HG0 : Hid (goodT S0 ∧ playP S0.1 S0.2.1 ∧ totF S0 = 0) := by rw [hS0]; exact HG0
  clear hS0
  go_loopw [32] (fun i wr => ∃ (k : Nat), k ≤ l.length ∧ i = .int .i64 k ∧ FqS w b wr (fpF S0 (l.take k)).1 (.slice (some ⟨g, 0, none⟩) l.length l.length) ((fpF S0 (l.take k)).2 ++ List.replicate (l.length - k) 0)) (fun i _ => l.length - (intOf i).toNat)
  case atStart => exact ⟨0, Nat.zero_le _, rfl, HI.out⟩
  case round =>
    obtain ⟨k, hk, rfl, hC⟩ := hrel
    clear HI
    have HG : Hid (goodT (fpF S0 (l.take k)).1 ∧ playP (fpF S0 (l.take k)).1.1 (fpF S0 (l.take k)).1.2.1 ∧ totF (fpF S0 (l.take k)).1 < 200) := Hid.intro ⟨fp_good HG0.out.1 hk, fp_play HG0.out.2.1 hk, by have := fp_tot (l := l) HG0.out.2.2 hk; omega⟩
    have HDL : Hid ((fpF S0 (l.take k)).2.length = k) := Hid.intro (fp_len hk)
    by_cases hlt : k < l.length
    · have hlt' : (k : Int) < (l.length : Int) := by omega
      have HLE : Hid (Lies wr (.list shFenceStep) [.slice a2 l.length c2] l) := Hid.intro (by obtain ⟨_, _, _, _, _, _, q⟩ := hC; exact HL.out.next q.2.2.2.1)
      obtain ⟨xg, xoff, xgo, xgs, xec, xel, xhec, xle⟩ := Lies.elem (HLE.out) hlt
      subst xgo
      rcases xX : l[k] with ⟨x0, x1, x2, ⟨⟩⟩
      rw [xX] at xle
      have xH : Hid (l[k] = (x0, x1, x2, ())) := xX
      clear xX
      obtain xev := lies_FenceStep xle
      subst xev
      have xc0 : wr.cell? ⟨xg, xoff + k * 3, none⟩ = some (.int .i64 x0) := xhec 0 (by simp)
      have xc1 : wr.cell? ⟨xg, xoff + k * 3 + 1, none⟩ = some (.int .i64 x1) := xhec 1 (by simp)
      have xc2 : wr.cell? ⟨xg, xoff + k * 3 + 2, none⟩ = some (.int .i64 x2) := xhec 2 (by simp)
      clear xhec xel xle
      have HPD := Hid.intro (fp_take (s := S0) hlt)
      rw [xH.out] at HPD
      clear HLE
      generalize fpF S0 (l.take k) = F at hC HG HDL HPD
      obtain ⟨⟨ep, du, ms, en, ⟨⟩⟩, D⟩ := F
      obtain ⟨p3, n3, q3, p4, n4, q4, hC⟩ := hC
      have HC : Hid (PyS shFence .int 3 [.int .i64 0, .int .i64 0, .slice none 0 0, .slice none 0 0] w b wr [.int .i64 ep, .int .i64 du, .slice p3 n3 q3, .slice p4 n4 q4] (ep, du, ms, en, ()) (.slice (some ⟨g, 0, none⟩) l.length l.length) (D ++ List.replicate (l.length - k) 0)) := hC
      have HG : Hid (goodF ep du ms en ∧ playP ep du ∧ en.length + runT ms < 200) := HG
      have HDL : Hid (D.length = k) := HDL
      obtain ⟨E, hE⟩ : ∃ E, stF ep du ms en x0 x1 x2 = E := ⟨_, rfl⟩
      have HEE : Hid (stF ep du ms en x0 x1 x2 = E) := hE
      have HPD : Hid (fpF S0 (l.take (k + 1)) = (E.getD (ep, du, ms, en, ()), D ++ [(E.getD (ep, du, ms, en, ())).2.1])) := Hid.intro (by rw [← hE]; exact HPD.out)
      have s0 := hC.2.1.cell 0 rfl
      have s1 := hC.2.1.cell 1 rfl
      have s2 := hC.2.1.cell 2 rfl
      have s3 := hC.2.1.cell 3 rfl
      have sz := hC.2.1.2
      clear hC hE
      obtain ⟨W1, hW1⟩ : ∃ x, x = wr.alloc (.cells #[.int .i64 x0, .int .i64 x1, .int .i64 x2] 40) := ⟨_, rfl⟩
      have HW1 : Hid (Below wr.heap.size wr W1) := hW1 ▸ Go.Joins.below_alloc1 _ _
      go_wp2_with fail
      rw [← hW1]
      clear hW1 xc0 xc1 xc2
      cases E with
      | none =>
        refine (stepFence_g [.int .i64 ep, .int .i64 du, .slice p3 n3 q3, .slice p4 n4 q4] ep du ms en x0 x1 x2 _ none HEE.out HG.out.1 HG.out.2.1 HG.out.2.2 (HC.out.lies.next HW1.out)).mono ?_
        rintro r W2 ⟨cs2, rfl, ho9, hb⟩
        have ho9 : Own W2 shFence cs2 (0, 0, [], [], ()) _ := ho9
        obtain ⟨p5, n5, q5, p6, n6, q6, hev⟩ := own_cellsF ho9
        subst hev
        have HC2 := Hid.intro (HC.out.next (below_next HW1.out hb))
        have HPD : Hid (fpF S0 (l.take (k + 1)) = ((ep, du, ms, en, ()), D ++ [du])) := HPD
        clear ho9 hb s0 s1 s2 s3 sz
        have s0 := HC2.out.2.1.cell 0 rfl
        have s1 := HC2.out.2.1.cell 1 rfl
        have s2 := HC2.out.2.1.cell 2 rfl
        have s3 := HC2.out.2.1.cell 3 rfl
        have sz := HC2.out.2.1.2
        simp only [Option.isSome_none]
        obtain ⟨Y, hY⟩ : ∃ x, x = W2.alloc (.cells #[.int .i64 0, .int .i64 0, .slice p5 n5 q5, .slice p6 n6 q6] 29) := ⟨_, rfl⟩
        have HQ : Hid (PyS shFence .int 3 [.int .i64 0, .int .i64 0, .slice none 0 0, .slice none 0 0] w b Y [.int .i64 ep, .int .i64 du, .slice p3 n3 q3, .slice p4 n4 q4] (ep, du, ms, en, ()) (.slice (some ⟨g, 0, none⟩) l.length l.length) (D ++ List.replicate (l.length - k) 0)) := Hid.intro (hY ▸ HC2.out.next (Go.Joins.below_alloc1 _ _))
        go_upto_region 11 with fail
        rw [← hY]
        clear hY s0 s1 s2 s3 sz HC2
        have hDD := HQ.out.did (k := k) (by rw [List.length_append, List.length_replicate, HDL.out]; omega) hlt (du)
        obtain ⟨⟨x9, hx9⟩, hf9, hg9, hgb, hPP⟩ := hDD
        have HPP := Hid.intro hPP
        clear hPP
        have s0 := HQ.out.2.1.cell 0 rfl
        have s1 := HQ.out.2.1.cell 1 rfl
        have s2 := HQ.out.2.1.cell 2 rfl
        have s3 := HQ.out.2.1.cell 3 rfl
        have sz := HQ.out.2.1.2
        go_wp2_with fail
        go_roundw
        case rel => exact ⟨k + 1, by omega, by go_num, by rw [HPD.out]; exact ⟨_, _, _, _, _, _, by rw [← fp_set HDL.out hlt]; exact HPP.out⟩⟩
        case measure => simp [intOf]; omega
      | some y =>
        refine (stepFence_g [.int .i64 ep, .int .i64 du, .slice p3 n3 q3, .slice p4 n4 q4] ep du ms en x0 x1 x2 _ (some y) HEE.out HG.out.1 HG.out.2.1 HG.out.2.2 (HC.out.lies.next HW1.out)).mono ?_
        intro r W2 h9
        obtain ⟨cs2, rfl, ho9, hb⟩ := sfp_some h9
        clear h9
        obtain ⟨ep2, du2, ms2, en2, ⟨⟩⟩ := y
        have ho9 : Own W2 shFence cs2 (ep2, du2, ms2, en2, ()) _ := ho9
        obtain ⟨p5, n5, q5, p6, n6, q6, hev⟩ := own_cellsF ho9
        subst hev
        have hb2 := below_next HW1.out hb
        have HC2 := Hid.intro (HC.out.next hb2)
        have HP2 : Hid (PyS shFence .int 3 [.int .i64 0, .int .i64 0, .slice none 0 0, .slice none 0 0] w b ((((W2.setCell ⟨b, 0, none⟩ (.int .i64 ep2)).setCell ⟨b, 1, none⟩ (.int .i64 du2)).setCell ⟨b, 2, none⟩ (.slice p5 n5 q5)).setCell ⟨b, 3, none⟩ (.slice p6 n6 q6)) [.int .i64 ep2, .int .i64 du2, .slice p5 n5 q5, .slice p6 n6 q6] (ep2, du2, ms2, en2, ()) (.slice (some ⟨g, 0, none⟩) l.length l.length) (D ++ List.replicate (l.length - k) 0)) := Hid.intro (HC.out.put hb2 ho9 (fun k hk => ⟨Nat.le_trans HW1.out.size hk.1, hk.2⟩) (set4 W2 b _ _ _ _) (HC2.out.2.1.set4 _ _ _ _))
        have HPD : Hid (fpF S0 (l.take (k + 1)) = ((ep2, du2, ms2, en2, ()), D ++ [du2])) := HPD
        clear ho9 hb hb2 s0 s1 s2 s3 sz
        have s0 := HC2.out.2.1.cell 0 rfl
        have s1 := HC2.out.2.1.cell 1 rfl
        have s2 := HC2.out.2.1.cell 2 rfl
        have s3 := HC2.out.2.1.cell 3 rfl
        have sz := HC2.out.2.1.2
        have sf0 := HC2.out.2.1.frz 0 (by simp)
        have sf1 := HC2.out.2.1.frz 1 (by simp)
        have sf2 := HC2.out.2.1.frz 2 (by simp)
        have sf3 := HC2.out.2.1.frz 3 (by simp)
        obtain ⟨Y, hY⟩ : ∃ x, x = ((((W2.setCell ⟨b, 0, none⟩ (.int .i64 ep2)).setCell ⟨b, 1, none⟩ (.int .i64 du2)).setCell ⟨b, 2, none⟩ (.slice p5 n5 q5)).setCell ⟨b, 3, none⟩ (.slice p6 n6 q6)).alloc (.cells #[.int .i64 ep2, .int .i64 du2, .slice p5 n5 q5, .slice p6 n6 q6] 29) := ⟨_, rfl⟩
        have HQ : Hid (PyS shFence .int 3 [.int .i64 0, .int .i64 0, .slice none 0 0, .slice none 0 0] w b Y [.int .i64 ep2, .int .i64 du2, .slice p5 n5 q5, .slice p6 n6 q6] (ep2, du2, ms2, en2, ()) (.slice (some ⟨g, 0, none⟩) l.length l.length) (D ++ List.replicate (l.length - k) 0)) := Hid.intro (hY ▸ HP2.out.next (Go.Joins.below_alloc1 _ _))
        go_upto_region 11 with fail
        rw [← hY]
        clear hY s0 s1 s2 s3 sz sf0 sf1 sf2 sf3 HC2 HP2
        have hDD := HQ.out.did (k := k) (by rw [List.length_append, List.length_replicate, HDL.out]; omega) hlt (du2)
        obtain ⟨⟨x9, hx9⟩, hf9, hg9, hgb, hPP⟩ := hDD
        have HPP := Hid.intro hPP
        clear hPP
        have s0 := HQ.out.2.1.cell 0 rfl
        have s1 := HQ.out.2.1.cell 1 rfl
        have s2 := HQ.out.2.1.cell 2 rfl
        have s3 := HQ.out.2.1.cell 3 rfl
        have sz := HQ.out.2.1.2
        go_wp2_with fail
        go_roundw
        case rel => exact ⟨k + 1, by omega, by go_num, by rw [HPD.out]; exact ⟨_, _, _, _, _, _, by rw [← fp_set HDL.out hlt]; exact HPP.out⟩⟩
        case measure => simp [intOf]; omega
    · have hkn : k = l.length := by omega
      have hC2 : FqS w b wr (fpF S0 l).1 (.slice (some ⟨g, 0, none⟩) l.length l.length) (fpF S0 l).2 := by
        have := hC
        rw [hkn, List.take_length, Nat.sub_self, List.replicate_zero, List.append_nil] at this
        exact this
      clear hC HG HDL hkn
      generalize fpF S0 l = F at hC2 HY
      obtain ⟨⟨ep, du, ms, en, ⟨⟩⟩, D⟩ := F
      obtain ⟨p3, n3, q3, p4, n4, q4, hC2⟩ := hC2
      have HC : Hid (PyS shFence .int 3 [.int .i64 0, .int .i64 0, .slice none 0 0, .slice none 0 0] w b wr [.int .i64 ep, .int .i64 du, .slice p3 n3 q3, .slice p4 n4 q4] (ep, du, ms, en, ()) (.slice (some ⟨g, 0, none⟩) l.length l.length) D) := hC2
      clear hC2
      have HP : Hid (FpR mm l w (.returned (.tuple #[.agg #[.int .i64 ep, .int .i64 du, .slice p3 n3 q3, .slice p4 n4 q4], (.slice (some ⟨g, 0, none⟩) l.length l.length), .bool true])) ((((wr.setCell ⟨w.heap.size, 0, none⟩ (.int .i64 ep)).setCell ⟨w.heap.size, 1, none⟩ (.int .i64 du)).setCell ⟨w.heap.size, 2, none⟩ (.slice p3 n3 q3)).setCell ⟨w.heap.size, 3, none⟩ (.slice p4 n4 q4))) := Hid.intro (by
        unfold FpR; rw [HY.out.1, HY.out.2]; exact HC.out.done (set4 wr w.heap.size _ _ _ _))
      have s0 := HC.out.2.1.cell 0 rfl
      have s1 := HC.out.2.1.cell 1 rfl
      have s2 := HC.out.2.1.cell 2 rfl
      have s3 := HC.out.2.1.cell 3 rfl
      have sz := HC.out.2.1.2
      have r0 := HC.out.1.cell 0 rfl
      have r1 := HC.out.1.cell 1 rfl
      have r2 := HC.out.1.cell 2 rfl
      have r3 := HC.out.1.cell 3 rfl
      have rz := HC.out.1.2
      have rf0 := HC.out.1.frz 0 (by simp)
      have rf1 := HC.out.1.frz 1 (by simp)
      have rf2 := HC.out.1.frz 2 (by simp)
      have rf3 := HC.out.1.frz 3 (by simp)
      go_wp2_with fail
      exact bodyPost_ret (v := .tuple #[.agg #[.int .i64 ep, .int .i64 du, .slice p3 n3 q3, .slice p4 n4 q4], (.slice (some ⟨g, 0, none⟩) l.length l.length), .bool true]) (by simp [results, Try.results12, go_sem, *]) rfl HP.out
end Go.Proofs.Ytcbdlalpnlahcaa
