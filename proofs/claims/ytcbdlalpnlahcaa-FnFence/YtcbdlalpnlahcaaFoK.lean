/- Fences: (*impl.openFence).closed. -/
import Derived.Test.YtcbdlalpnlahcaaFoH
import Derived.OwnWalk
namespace Go.Proofs.Ytcbdlalpnlahcaa
open Go.RowKit
set_option linter.unusedVariables false
set_option linter.unusedSimpArgs false

theorem erase_perm {α : Type} : ∀ (l : List α) (i : Nat) (h : i < l.length), (l[i] :: l.eraseIdx i).Perm l
  | [], i, h => by simp at h
  | x :: t, 0, h => by simp
  | x :: t, i + 1, h => by
    have ih := erase_perm t i (by simpa using h)
    simp only [List.getElem_cons_succ, List.eraseIdx_cons_succ]
    exact (List.Perm.swap x _ _).trans (ih.cons x)

set_option maxRecDepth 100000 in
set_option maxHeartbeats 8000000 in
theorem closed_n (lo p b : Nat) (ep du : Int) (ms : List (Sh.T shMember)) (en : List (Sh.T .int)) (L : List MbV) (B : Nat → Nat → Prop) (ve : Value) (W : World) (hX : OpX lo p b W ep du ms en L B ve) (hlo : lo ≤ W.heap.size) (hG : goodF ep du ms en) :
    Calls Try.prog 51 #[.pointer (some ⟨p, 0, none⟩)] W (ClP lo (mkFe ep du ms en) W) := by
  obtain ⟨va, vc, hv⟩ := hX.2.2.2.1.vform
  have hv : ve = .slice va (List.length (α := Sh.T .int) en) vc := hv
  subst hv
  have hm8 := hG.2.2.1
  have hLl := hX.2.2.1.1
  have hL1 : 1 ≤ L.length := by omega
  have hL8 : L.length ≤ 8 := by omega
  have HPW : Hid (L.Pairwise (fun x y => x.1 < y.1)) := Hid.intro (by
    rw [List.pairwise_iff_getElem]
    intro i j hi hj hij
    rw [hX.ids hi (by omega), hX.ids hj (by omega)]
    exact mid_mono hG.2.2.2.2.1 j i (by omega) (by omega) hij)
  have HLL := Hid.intro hLl
  have HX := Hid.intro hX
  clear hX hG
  obtain ⟨W1, hW1⟩ : ∃ x, x = W.alloc (.cells #[.int .i64 0, .int .i64 0, .slice none 0 0, .slice none 0 0] 29) := ⟨_, rfl⟩
  have HB1 : Hid (Bx W1 W.heap.size [.int .i64 0, .int .i64 0, .slice none 0 0, .slice none 0 0] ∧ Below W.heap.size W W1 ∧ W1.heap.size = W.heap.size + 1) := ⟨hW1 ▸ Bx.new W [_, _, _, _] _, hW1 ▸ Go.Joins.below_alloc1 _ _, by rw [hW1]; simp⟩
  have HX1 : Hid (OpX lo p b W1 ep du ms en L B (.slice va en.length vc)) := Hid.intro (HX.out.next HB1.out.2.1)
  have s0 := (HX1.out.1).cell 0 rfl; have s1 := (HX1.out.1).cell 1 rfl; have s2 := (HX1.out.1).cell 2 rfl; have s3 := (HX1.out.1).cell 3 rfl; have sz := (HX1.out.1).2
  have hlm : (L.map mbV).length = L.length := by simp
  obtain ⟨i2, hi2, hx0, hx1, hx2⟩ := info_parts inf_Member
  obtain ⟨N, hN⟩ : ∃ N, N = L.length := ⟨_, rfl⟩
  have HN := Hid.intro hN
  have HMN : Hid ((L.map mbV).length = N) := Hid.intro (hlm.trans hN.symm)
  have hN8 : N ≤ 8 := by omega
  clear hlm hN
  go_enter Try.func51, Try.ntmps51
  go_upto_region 1 with fail
  rw [← hW1]
  clear hW1
  go_upto_region 2 with (first | (at_len; refine wpList_len_x rfl (.tmp 9) rfl Try.underlying89 HX1.out.2.1 rfl ?_; rw [HMN.out]) | (at_make; refine wpList_make_own _ rfl (.const (.int .i64 0)) (.tmp 10) 26 rfl (W.heap.size + 1) 37 i2 (.agg #[.int .i64 0, .int .i64 0, .slice none 0 0, .int .i64 0]) 4 Try.underlying26 hi2 hx0 hx1 .i64 .i64 _ N rfl rfl rfl (by rw [hx2]; omega) (by unfold maxLen; omega) (by have := HB1.out.2.2; omega) ?_; intro W2 hown2 hg2))
  have hb2 : Below W1.heap.size W1 W2 := ⟨hg2.os, hg2.tape, hg2.output, hg2.size, fun k hk => hg2.block k hk (fun q => by cases q)⟩
  have HW2 : Hid (Bx W2 W.heap.size [.int .i64 0, .int .i64 0, .slice none 0 0, .slice none 0 0] ∧ Below W.heap.size W W2 ∧ OpX lo p b W2 ep du ms en L B (.slice va en.length vc) ∧ W2.ownsRow (W.heap.size + 1) 37 4 (.slice (some ⟨W1.heap.size, 0, none⟩) 0 N) 0 []) := ⟨HB1.out.1.next hb2, below_next HB1.out.2.1 hb2, HX1.out.next hb2, hown2⟩
  clear hg2 hb2 hown2 s0 s1 s2 s3 sz
  have s0 := (HW2.out.2.2.1.1).cell 0 rfl; have s1 := (HW2.out.2.2.1.1).cell 1 rfl; have s2 := (HW2.out.2.2.1.1).cell 2 rfl; have s3 := (HW2.out.2.2.1.1).cell 3 rfl; have sz := (HW2.out.2.2.1.1).2
  go_wp2_with (first | (at_range; refine wpList_range_x rfl (.tmp 15) rfl Try.underlying89 rfl HW2.out.2.2.1.2.1 ?_; intro w0 hrg0 hb0 hs0) | go_in)
  obtain ⟨r, hr⟩ : ∃ r, r = W2.heap.size := ⟨_, rfl⟩
  rw [← hr] at hrg0 ⊢
  have HI : Hid (ClS lo p b W w0 r L [] L (.slice (some ⟨W1.heap.size, 0, none⟩) 0 N)) := Hid.intro (by
    have h1 := HB1.out.2.2
    have h2 := HW2.out.1.2
    have h3 := HX.out.sizes.2.1
    have h4 : W1.heap.size < W2.heap.size := (HW2.out.2.2.2.lt W1.heap.size rfl).2
    exact ⟨hrg0, by rw [List.nil_append], ownsRow_next HW2.out.2.2.2 hb0, below_next HW2.out.2.1 hb0, HW2.out.1.next hb0, fun k q => by cases q; show W1.heap.size ≠ r; omega, h3, by omega⟩)
  clear hrg0 hb0 hs0 hr s0 s1 s2 s3 sz HW2 HX1
  go_frame
  go_loopw [3] (fun vl wr => ∃ R Lf v, vl = v ∧ ClS lo p b W wr r L R Lf v) (fun _ wr => wr.rangeLeft b r)
  case atStart => exact ⟨_, _, _, rfl, HI.out⟩
  case round =>
    obtain ⟨R, Lf, v, hvl, hA⟩ := hrel
    have hvl := hvl.symm
    subst hvl
    have HA := Hid.intro hA
    clear hA HI
    have hRl : R.length + Lf.length = L.length := by have := HA.out.2.1.length_eq; rw [List.length_append] at this; exact this
    go_wp2_with (first | (at_next; refine wpList_next_x rfl (.tmp 16) rfl rfl HA.out.1 ?_ ?_) | go_in)
    · intro hl0
      have hLf : Lf = [] := by cases Lf with
        | nil => rfl
        | cons x t => cases hl0
      have HP : Hid (R.Perm L ∧ R.length = L.length) := Hid.intro (by
        have h := HA.out.2.1
        rw [hLf, List.append_nil] at h
        exact ⟨h, h.length_eq⟩)
      have hR1 : 1 ≤ R.length := by have := HP.out.2; omega
      obtain ⟨g, cap, hv⟩ : ∃ g cap, v = .slice (some ⟨g, 0, none⟩) R.length cap := by
        rcases Go.Joins.ownsRow_forms HA.out.2.2.1 with ⟨_, h0⟩ | ⟨g, cap, hv⟩
        · omega
        · exact ⟨g, cap, hv⟩
      subst hv
      have HG : Hid (W.heap.size + 1 ≤ g ∧ g < wr.heap.size) := Hid.intro (HA.out.2.2.1.lt g rfl)
      have hcap : R.length ≤ cap ∧ cap ≤ maxLen := by
        obtain ⟨⟨cur, _, q1, q2, _⟩, _⟩ := XRow.of HA.out.2.2.1
        exact ⟨q1, q2⟩
      have HCAP := Hid.intro hcap
      clear hl0 hLf hcap
      go_upto_region 7 with (go_at_call 71; refine (sort_rowM (M := L) (by omega) HG.out.2 HA.out.2.2.1 HP.out.1 HPW.out).mono ?_; rintro e w5 ⟨rfl, hc5, hr5, ht5⟩; have H5 : Hid ((∀ i (hi : i < L.length), Cells w5 g (i * 4) (Try.encMb L[i])) ∧ Room w5 g (L.length * 4) ∧ Below W.heap.size W w5 ∧ Bx w5 W.heap.size [.int .i64 0, .int .i64 0, .slice none 0 0, .slice none 0 0] ∧ g < w5.heap.size) := Hid.intro ⟨hc5, hr5, HA.out.2.2.2.1.trans (ht5.below (fun k q => by have q : k = g := q; have := HG.out.1; omega) HA.out.2.2.2.1.size), HA.out.2.2.2.2.1.turnS ht5 (fun q => by have q : W.heap.size = g := q; have := HG.out.1; omega), Nat.lt_of_lt_of_le HG.out.2 ht5.size⟩; clear hc5 hr5 ht5)
      have HD : Hid (Bx w5.drew p [.int .i64 ep, .int .i64 du, .map (some b), .slice va en.length vc] ∧ Bx w5.drew W.heap.size [.int .i64 0, .int .i64 0, .slice none 0 0, .slice none 0 0]) := Hid.intro ⟨((HX.out.next H5.out.2.2.1).1).next (below_drew _), H5.out.2.2.2.1.next (below_drew _)⟩
      have HF : Hid (ClP lo (mkFe ep du ms en) W (.returned (.agg #[.int .i64 ep, .int .i64 du, .slice (some ⟨g, 0, none⟩) R.length cap, .slice va en.length vc])) ((((w5.drew.setCell ⟨W.heap.size, 0, none⟩ (.int .i64 ep)).setCell ⟨W.heap.size, 1, none⟩ (.int .i64 du)).setCell ⟨W.heap.size, 2, none⟩ (.slice (some ⟨g, 0, none⟩) R.length cap)).setCell ⟨W.heap.size, 3, none⟩ (.slice va en.length vc))) := Hid.intro (by
        have hs := set4 w5.drew W.heap.size (.int .i64 ep) (.int .i64 du) (.slice (some ⟨g, 0, none⟩) R.length cap) (.slice va en.length vc)
        have hbd : Below W.heap.size W w5.drew := below_next H5.out.2.2.1 (below_drew _)
        have hbf : Below W.heap.size W ((((w5.drew.setCell ⟨W.heap.size, 0, none⟩ (.int .i64 ep)).setCell ⟨W.heap.size, 1, none⟩ (.int .i64 du)).setCell ⟨W.heap.size, 2, none⟩ (.slice (some ⟨g, 0, none⟩) R.length cap)).setCell ⟨W.heap.size, 3, none⟩ (.slice va en.length vc)) := hbd.trans (hs.below (fun k q => Nat.le_of_eq q.symm) hbd.size)
        have hgg := HG.out.1
        have hgw : g < w5.drew.heap.size := H5.out.2.2.2.2
        have eg := hs.block hgw (fun q => by have q : g = W.heap.size := q; omega)
        have hRL : R.length = ms.length := HP.out.2.trans HLL.out
        refine ⟨[.int .i64 ep, .int .i64 du, .slice (some ⟨g, 0, none⟩) R.length cap, .slice va en.length vc], rfl, ?_, hbf.mono hlo⟩
        rw [hRL]
        rw [hRL] at hbf eg hs
        refine own_closed (cap := cap) HX.out hbf (by omega) (Nat.lt_of_lt_of_le hgw hs.size) hlo (by have := HCAP.out.1; omega) HCAP.out.2 (fun i hi => Cells.same (H5.out.1 i hi) eg) (fun q hq => ?_)
        have h0 := H5.out.2.1 q hq
        exact ⟨by obtain ⟨z, hz⟩ := h0.1; exact ⟨z, (World.cell?_of_block (a := ⟨g, q, none⟩) eg).trans hz⟩, (World.frozen?_of_block (a := ⟨g, q, none⟩) eg).trans h0.2⟩)
      refine wp_region_noPanic ?_
      refine wp_region_held_drew (S := fun W9 => Bx W9 p [.int .i64 ep, .int .i64 du, .map (some b), .slice va en.length vc]) (by kernel_rfl) HD.out.1 (fun hHeld => ?_)
      obtain ⟨Y0, hWE⟩ : ∃ x, x = w5.drew := ⟨_, rfl⟩
      rw [← hWE] at HD HF hHeld ⊢
      clear hWE
      refine take_v (v := ?_) 0 ⟨some 27, Op.move (Operand.tmp 0), _, _, _, none⟩ rfl (fun _ _ _ h => h) ?_ hHeld ?_
      rotate_left
      · (intro W _; go_simp <;> (try with_reducible rfl))
      refine take_v (v := ?_) 1 ⟨some 28, Op.nilCheck (Operand.tmp 27), _, _, _, none⟩ rfl (fun _ _ _ h => h) ?_ hHeld ?_
      rotate_left
      · (intro W _; go_simp <;> (try with_reducible rfl))
      refine take_v (v := ?_) 2 ⟨some 29, Op.fieldAddr 91 (Operand.tmp 28) 0, _, _, _, none⟩ rfl (fun _ _ _ h => h) ?_ hHeld ?_
      rotate_left
      · (intro W _; go_simp <;> (try with_reducible rfl))
      refine take_v (v := ?_) 3 ⟨some 30, Op.load 3 (Operand.tmp 29), _, _, _, none⟩ rfl (fun _ _ _ h => h) ?_ hHeld ?_
      rotate_left
      · (intro W hSW; (have s0 := hSW.cell 0 rfl; have s1 := hSW.cell 1 rfl; have s3 := hSW.cell 3 rfl; have sz := hSW.2); go_simp <;> (try with_reducible rfl))
      refine take_v (v := ?_) 4 ⟨some 31, Op.move (Operand.tmp 0), _, _, _, none⟩ rfl (fun _ _ _ h => h) ?_ hHeld ?_
      rotate_left
      · (intro W _; go_simp <;> (try with_reducible rfl))
      refine take_v (v := ?_) 5 ⟨some 32, Op.nilCheck (Operand.tmp 31), _, _, _, none⟩ rfl (fun _ _ _ h => h) ?_ hHeld ?_
      rotate_left
      · (intro W _; go_simp <;> (try with_reducible rfl))
      refine take_v (v := ?_) 6 ⟨some 33, Op.fieldAddr 91 (Operand.tmp 32) 1, _, _, _, none⟩ rfl (fun _ _ _ h => h) ?_ hHeld ?_
      rotate_left
      · (intro W _; go_simp <;> (try with_reducible rfl))
      refine take_v (v := ?_) 7 ⟨some 34, Op.load 3 (Operand.tmp 33), _, _, _, none⟩ rfl (fun _ _ _ h => h) ?_ hHeld ?_
      rotate_left
      · (intro W hSW; (have s0 := hSW.cell 0 rfl; have s1 := hSW.cell 1 rfl; have s3 := hSW.cell 3 rfl; have sz := hSW.2); go_simp <;> (try with_reducible rfl))
      refine take_v (v := ?_) 8 ⟨some 35, Op.move (Operand.tmp 3), _, _, _, none⟩ rfl (fun _ _ _ h => h) ?_ hHeld ?_
      rotate_left
      · (intro W _; go_simp <;> (try with_reducible rfl))
      refine take_v (v := ?_) 9 ⟨some 36, Op.move (Operand.tmp 0), _, _, _, none⟩ rfl (fun _ _ _ h => h) ?_ hHeld ?_
      rotate_left
      · (intro W _; go_simp <;> (try with_reducible rfl))
      refine take_v (v := ?_) 10 ⟨some 37, Op.nilCheck (Operand.tmp 36), _, _, _, none⟩ rfl (fun _ _ _ h => h) ?_ hHeld ?_
      rotate_left
      · (intro W _; go_simp <;> (try with_reducible rfl))
      refine take_v (v := ?_) 11 ⟨some 38, Op.fieldAddr 91 (Operand.tmp 37) 3, _, _, _, none⟩ rfl (fun _ _ _ h => h) ?_ hHeld ?_
      rotate_left
      · (intro W _; go_simp <;> (try with_reducible rfl))
      refine take_v (v := ?_) 12 ⟨some 39, Op.load 27 (Operand.tmp 38), _, _, _, none⟩ rfl (fun _ _ _ h => h) ?_ hHeld ?_
      rotate_left
      · (intro W hSW; (have s0 := hSW.cell 0 rfl; have s1 := hSW.cell 1 rfl; have s3 := hSW.cell 3 rfl; have sz := hSW.2); go_simp <;> (try with_reducible rfl))
      refine take_v (v := ?_) 13 ⟨some 40, Op.build 29 #[(0, Operand.tmp 30), (1, Operand.tmp 34), (2, Operand.tmp 35), (3, Operand.tmp 39)], _, _, _, none⟩ rfl (fun _ _ _ h => h) ?_ hHeld ?_
      rotate_left
      · (intro W _; go_simp <;> (try with_reducible rfl))
      refine ready_call 14 ⟨none, Op.store 29 (Operand.tmp 2) (Operand.tmp 40), _, _, _, none⟩ (by kernel_rfl) rfl (by kernel_rfl) (fun KC hK => ?_)
      have d0 := HD.out.2.cell 0 rfl
      have d1 := HD.out.2.cell 1 rfl
      have d2 := HD.out.2.cell 2 rfl
      have d3 := HD.out.2.cell 3 rfl
      have dz := HD.out.2.2
      have df0 := HD.out.2.frz 0 (by simp)
      have df1 := HD.out.2.frz 1 (by simp)
      have df2 := HD.out.2.frz 2 (by simp)
      have df3 := HD.out.2.frz 3 (by simp)
      go_wp2_with fail
      have hpW := HX.out.sizes.1
      refine hK.out _ _ (HD.out.1.turnS (set4 Y0 W.heap.size _ _ _ _) (fun q => by have q : p = W.heap.size := q; omega)) (fun hHeld => ?_)
      clear hK KC
      refine wpAnyH_done (by kernel_rfl) ?_ _
      refine NoPanic.normal ?_
      clear hHeld
      go_wp2_with fail
      exact bodyPost_ret (v := .agg #[.int .i64 ep, .int .i64 du, .slice (some ⟨g, 0, none⟩) R.length cap, .slice va en.length vc]) (by simp [results, Try.results51, go_sem, *]) rfl HF.out
    · intro i hi w1 hrg hg hsz hen0
      have hiL : i < Lf.length := by simpa using hi
      obtain ⟨x0, x1, ⟨xa, xn, xc⟩, x3, hx⟩ : ∃ (x0 x1 : Int) (s : Option Addr × Nat × Nat) (x3 : Int), Lf[i]'hiL = (x0, x1, s, x3) := ⟨_, _, _, _, rfl⟩
      have HW : Hid (RgX w1 b r ((Lf.eraseIdx i).map mbV) ∧ Below W.heap.size W w1 ∧ w1.ownsRow (W.heap.size + 1) 37 4 v R.length (rowM R) ∧ Bx w1 W.heap.size [.int .i64 0, .int .i64 0, .slice none 0 0, .slice none 0 0]) := Hid.intro (by
        have hrW := HA.out.2.2.2.2.2.2.2
        have hq1 : Below W.heap.size W w1 := HA.out.2.2.2.1.grown hg HA.out.2.2.2.1.size (fun k q => by
          have q : r = k := by simpa using q
          omega)
        have hq2 := HA.out.2.2.2.2.1.grow hg (fun q => by
          have q : W.heap.size = r := by simpa using q
          omega)
        refine ⟨by rw [← map_erase]; exact hrg, hq1, ?_, hq2⟩
        have ht : TurnS (fun k => k = r) wr w1 := ⟨hg.os, hg.tape, hg.output, hg.size, fun j hj hs => hg.block j hj (fun q => hs (by simpa using q))⟩
        exact ownsRow_turn HA.out.2.2.1 ht (fun k q z => HA.out.2.2.2.2.2.1 k q z))
      have HPE : Hid ((R ++ [(x0, x1, (xa, xn, xc), x3)] ++ Lf.eraseIdx i).Perm L ∧ (Lf.eraseIdx i).length < Lf.length) := Hid.intro (by
        refine ⟨?_, by rw [List.length_eraseIdx_of_lt hiL]; omega⟩
        have h1 : (Lf[i]'hiL :: Lf.eraseIdx i).Perm Lf := erase_perm Lf i hiL
        rw [hx] at h1
        rw [List.append_assoc]
        exact (List.Perm.append_left R h1).trans HA.out.2.1)
      have hen : (Instr.entry (.pointer (some ⟨r, 0, none⟩))).run Try.prog w1 = .ok (.tuple #[.int .i64 x0, .agg #[.int .i64 x0, .int .i64 x1, .slice xa xn xc, .int .i64 x3]]) w1 := by rw [hx] at hen0; exact hen0
      clear hen0
      rw [hx]
      simp only [mbV]
      clear hx hrg hg hsz
      obtain ⟨W2, hW2⟩ : ∃ q, q = w1.alloc (.cells #[.int .i64 x0, .int .i64 x1, .slice xa xn xc, .int .i64 x3] 37) := ⟨_, rfl⟩
      have H2 : Hid (Bx W2 w1.heap.size [.int .i64 x0, .int .i64 x1, .slice xa xn xc, .int .i64 x3] ∧ Below w1.heap.size w1 W2) := ⟨hW2 ▸ Bx.new w1 [_, _, _, _] _, hW2 ▸ Go.Joins.below_alloc1 _ _⟩
      go_upto_region 5 with fail
      rw [← hW2]
      clear hW2 hen hi hiL
      have m0 := (H2.out.1).cell 0 rfl; have m1 := (H2.out.1).cell 1 rfl; have m2 := (H2.out.1).cell 2 rfl; have m3 := (H2.out.1).cell 3 rfl; have mz := (H2.out.1).2
      have HNW := Hid.intro (cells_new W2 [.int .i64 x0, .int .i64 x1, .slice xa xn xc, .int .i64 x3] 37)
      have HB2 : Hid (Below w1.heap.size w1 (W2.alloc (.cells #[.int .i64 x0, .int .i64 x1, .slice xa xn xc, .int .i64 x3] 37))) := Hid.intro (below_next H2.out.2 (Go.Joins.below_alloc1 _ _))
      have hbs : W.heap.size + 1 ≤ (W2.alloc (.cells #[.int .i64 x0, .int .i64 x1, .slice xa xn xc, .int .i64 x3] 37)).heap.size := by have h1 := HW.out.2.2.2.2; have h2 := HB2.out.size; omega
      have hrl := HW.out.1.lt
      go_wp2_with (first | (at_builtin; refine wpList_append_own_at _ rfl (.tmp 21) (.tmp 23) 26 rfl (W.heap.size + 1) 37 i2 (.agg #[.int .i64 0, .int .i64 0, .slice none 0 0, .int .i64 0]) 4 48 Try.underlying26 hi2 hx0 hx1 hx2 rfl (by decide) v R.length (rowM R) rfl (ownsRow_next HW.out.2.2.1 HB2.out) ⟨W2.heap.size, 0, none⟩ 1 1 [.int .i64 x0, .int .i64 x1, .slice xa xn xc, .int .i64 x3] rfl rfl HNW.out (by intro u hu; simp at hu; rcases hu with rfl | rfl | rfl | rfl <;> rfl) (by unfold maxLen; omega) (by omega) hbs ?_; intro v9 w9 hown9 hgrow9 hnil9 hwh9) | go_in)
      have HF : Hid (ClS lo p b W w9 r L (R ++ [(x0, x1, (xa, xn, xc), x3)]) (Lf.eraseIdx i) v9) := Hid.intro (by
        have hrow := HW.out.2.2.1.lt
        have hz := HB2.out.size
        have hgz := hgrow9.size
        have hrW := HA.out.2.2.2.2.2.2.2
        have hbW := HA.out.2.2.2.2.2.2.1
        have hvr := HA.out.2.2.2.2.2.1
        have hbb : Below W.heap.size W (W2.alloc (.cells #[.int .i64 x0, .int .i64 x1, .slice xa xn xc, .int .i64 x3] 37)) := below_next HW.out.2.1 HB2.out
        refine ⟨(HW.out.1.keep (HB2.out.block b hrl.1) (HB2.out.block r hrl.2.1)).keep (hgrow9.block b (by omega) (fun q => by have := (hrow b q.symm).1; omega)) (hgrow9.block r (by omega) (fun q => hvr r q.symm rfl)), HPE.out.1, ?_, hbb.grown hgrow9 hbb.size (fun k q => by have := (hrow k q).1; omega), (HW.out.2.2.2.next HB2.out).grow hgrow9 (fun q => by have := (hrow _ q.symm).1; omega), fun k q => ?_, hbW, hrW⟩
        · have e : rowM (R ++ [(x0, x1, (xa, xn, xc), x3)]) = rowM R ++ [.int .i64 x0, .int .i64 x1, .slice xa xn xc, .int .i64 x3] := by unfold rowM; rw [List.flatMap_append]; rfl
          rw [e, List.length_append]
          exact hown9
        · rcases hwh9 with q2 | q2
          · rw [q2] at q; exact hvr k q
          · rw [q2] at q
            have q : (W2.alloc (.cells #[.int .i64 x0, .int .i64 x1, .slice xa xn xc, .int .i64 x3] 37)).heap.size = k := by simpa using q
            omega)
      clear hown9 hgrow9 hnil9 hwh9 m0 m1 m2 m3 mz
      go_roundw
      case rel => exact ⟨_, _, _, rfl, HF.out⟩
      case measure =>
        have h1 := HF.out.1.left
        have h2 := HA.out.1.left
        have h3 := HPE.out.2
        rw [h1, h2, List.length_map, List.length_map]; exact h3
end Go.Proofs.Ytcbdlalpnlahcaa
