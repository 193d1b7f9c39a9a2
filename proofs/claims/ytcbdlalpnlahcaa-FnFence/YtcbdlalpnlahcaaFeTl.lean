/- Fences: a step on the specification's side: a member goes. Written by tools/mkFeT.py. -/
import Derived.Test.YtcbdlalpnlahcaaFeR
import Derived.Deep.QuietTactic
import Derived.BigQuiet
namespace Go.Proofs.Ytcbdlalpnlahcaa
open Go.RowKit
set_option linter.unusedVariables false
set_option linter.unusedSimpArgs false

set_option maxRecDepth 100000 in
set_option maxHeartbeats 8000000 in
theorem l12Step_l (lo : Nat) (S : Nat → Prop) (cs : List Value) (ep du : Int) (ms : List (Sh.T shMember)) (en : List (Sh.T .int)) (b n : Int) (i : Nat) (w : World) (hG : goodF ep du ms en) (hO : OwnX w lo tyFence cs (ep, du, ms, en, ()) S) (hS : ∀ k, S k → k < w.heap.size) (hlo : lo ≤ w.heap.size) (hf : ms.findIdx? (fun m => decide (mid m = b)) = some i) (hi : i < ms.length) :
    Calls Try.prog 41 #[.agg cs.toArray, .agg #[.int .i64 (5), .int .i64 b, .int .i64 n]] w (StX lo S (memF ep du ms en (5) n i ms[i]) w) := by
  obtain ⟨v1, S1, v2, S2, rfl, o1, o2, e1, e2, d12⟩ := ownx_Fence hO
  obtain ⟨g, k1, vr, Bk, hv1, hgl, hSg, hBk, ⟨c0, c1, c2, c3⟩, ⟨f0, f1, f2, f3⟩, orr, hput⟩ := fe_lens o1 hi
  subst hv1
  obtain ⟨x0, x1, x2, x3, hX⟩ : ∃ (x0 x1 : Int) (x2 : List (Sh.T .int)) (x3 : Int), ms[i] = mkMb x0 x1 x2 x3 := ⟨_, _, _, _, rfl⟩
  have hm := (hG.2.2.2.2.1 i hi hi).1
  rw [hX] at c0 c1 c3 orr hm ⊢
  have c0 : w.cell? ⟨g, i * 4, none⟩ = some (.int .i64 x0) := c0
  have c1 : w.cell? ⟨g, i * 4 + 1, none⟩ = some (.int .i64 x1) := c1
  have c3 : w.cell? ⟨g, i * 4 + 3, none⟩ = some (.int .i64 x3) := c3
  have orr : OwnX w lo (.list .int 3) [vr] x2 Bk := orr
  have hm : (0 ≤ x0 ∧ x0 ≤ 99) ∧ (du + 1 ≤ x1 ∧ x1 ≤ ep) ∧ x2.length ≤ 20 ∧ (du ≤ x3 ∧ x3 ≤ ep - 1) ∧ runP x3 x1 x2 x2.length ∧ x3 < x1 := hm
  obtain ⟨a2, k2, hv2⟩ := o2.vform
  have hv2 : v2 = .slice a2 (List.length (α := Sh.T .int) en) k2 := hv2
  subst hv2
  obtain ⟨ar, kr, hvr⟩ := orr.vform
  have hvr : vr = .slice ar (List.length (α := Sh.T .int) x2) kr := hvr
  subst hvr
  obtain ⟨hm1, hm2, hm3, hm4, hm5, hm6⟩ := hm
  have HRP := Hid.intro hm5
  have hep := hG.1
  have hdu := hG.2.1
  have hm8 := hG.2.2.1.2
  have htt := hG.2.2.2.1
  rw [runT_eq] at htt
  have hen : en.length ≤ 200 := by omega
  have HG := Hid.intro hG
  have HX := Hid.intro hX
  have HP := Hid.intro hput
  have HBK := Hid.intro hBk
  have HSG := Hid.intro hSg
  have HO : Hid (OwnX w lo (.list .int 3) [.slice a2 en.length k2] en S2 ∧ OwnX w lo (.list .int 3) [.slice ar x2.length kr] x2 Bk ∧ (∀ k, S1 k → S k) ∧ (∀ k, S2 k → S k) ∧ (∀ k, S1 k → ¬ S2 k) ∧ (∀ k, S k → k < w.heap.size)) := ⟨o2, orr, e1, e2, d12, hS⟩
  have HMS : Hid (OwnX w lo (.list tyMember 37) [.slice (some ⟨g, 0, none⟩) ms.length k1] ms S1) := o1
  have HLW : Hid (Lies w shFence [.int .i64 ep, .int .i64 du, .slice (some ⟨g, 0, none⟩) ms.length k1, .slice a2 en.length k2] (ep, du, ms, en, ())) := Hid.intro hO.lies
  have HZ : Hid (szD shFence (ep, du, ms, en, ()) ≤ 1073741824) := Hid.intro (Nat.le_trans (good_sz hG) (by decide))
  have HAT : Hid (atM ms b = (i : Int)) := Hid.intro (atM_some hf)
  clear hput hBk hSg o1 o2 orr e1 e2 d12 hS hO hG hm5 hX hf
  obtain ⟨w0, hw0⟩ : ∃ x, x = ((w.alloc (.cells #[.int .i64 ep, .int .i64 du, .slice (some ⟨g, 0, none⟩) ms.length k1, .slice a2 en.length k2] 29)).alloc (.cells #[.int .i64 (5), .int .i64 b, .int .i64 n] 40)).alloc (.cells #[.int .i64 0, .int .i64 0, .slice none 0 0, .slice none 0 0] 29) := ⟨_, rfl⟩
  have HB0 : Hid (Bx w0 w.heap.size [.int .i64 ep, .int .i64 du, .slice (some ⟨g, 0, none⟩) ms.length k1, .slice a2 en.length k2] ∧ Bx w0 (w.heap.size + 1) [.int .i64 (5), .int .i64 b, .int .i64 n] ∧ Bx w0 (w.heap.size + 1 + 1) [.int .i64 0, .int .i64 0, .slice none 0 0, .slice none 0 0] ∧ Below w.heap.size w w0) := ⟨hw0 ▸ ((Bx.new w [_, _, _, _] _).alloc _).alloc _, hw0 ▸ (Bx.newAt (by simp)).alloc _, hw0 ▸ Bx.newAt (by simp), hw0 ▸ (((Below.refl _ _).alloc (Nat.le_refl _) _).alloc (by simp) _).alloc (by simp; omega) _⟩
  have s0 := (HB0.out.1).cell 0 rfl; have s1 := (HB0.out.1).cell 1 rfl; have s2 := (HB0.out.1).cell 2 rfl; have s3 := (HB0.out.1).cell 3 rfl; have sz := (HB0.out.1).2
  have t0 := (HB0.out.2.1).cell 0 rfl; have t1 := (HB0.out.2.1).cell 1 rfl; have t2 := (HB0.out.2.1).cell 2 rfl; have tz := (HB0.out.2.1).2
  have hi4 : ¬ (i : Int) < 0 := by omega
  have hi5 : (i : Int) < (ms.length : Int) := by omega
  go_enter Try.func41, Try.ntmps41
  go_upto_region 1 with fail
  rw [← hw0]
  clear hw0
  go_wp2_with fail
  refine (l12At_n [.int .i64 ep, .int .i64 du, .slice (some ⟨g, 0, none⟩) ms.length k1, .slice a2 en.length k2] ep du ms en b _ HZ.out (HLW.out.next HB0.out.2.2.2)).mono ?_
  rintro r w1 ⟨rfl, hb1⟩
  rw [HAT.out]
  clear s0 s1 s2 s3 sz t0 t1 t2 tz
  have HB1 : Hid (Bx w1 w.heap.size [.int .i64 ep, .int .i64 du, .slice (some ⟨g, 0, none⟩) ms.length k1, .slice a2 en.length k2] ∧ Bx w1 (w.heap.size + 1) [.int .i64 (5), .int .i64 b, .int .i64 n] ∧ Bx w1 (w.heap.size + 1 + 1) [.int .i64 0, .int .i64 0, .slice none 0 0, .slice none 0 0] ∧ Below w.heap.size w w1) := ⟨HB0.out.1.next hb1, HB0.out.2.1.next hb1, HB0.out.2.2.1.next hb1, below_next HB0.out.2.2.2 hb1⟩
  clear hb1 HB0
  have c0 := (World.cell?_of_block (a := ⟨g, i * 4, none⟩) (HB1.out.2.2.2.block g hgl)).trans c0
  have c1 := (World.cell?_of_block (a := ⟨g, i * 4 + 1, none⟩) (HB1.out.2.2.2.block g hgl)).trans c1
  have c2 := (World.cell?_of_block (a := ⟨g, i * 4 + 2, none⟩) (HB1.out.2.2.2.block g hgl)).trans c2
  have c3 := (World.cell?_of_block (a := ⟨g, i * 4 + 3, none⟩) (HB1.out.2.2.2.block g hgl)).trans c3
  have hgl1 : g < w1.heap.size := Nat.lt_of_lt_of_le hgl HB1.out.2.2.2.size
  have s0 := (HB1.out.1).cell 0 rfl; have s1 := (HB1.out.1).cell 1 rfl; have s2 := (HB1.out.1).cell 2 rfl; have s3 := (HB1.out.1).cell 3 rfl; have sz := (HB1.out.1).2
  have t0 := (HB1.out.2.1).cell 0 rfl; have t1 := (HB1.out.2.1).cell 1 rfl; have t2 := (HB1.out.2.1).cell 2 rfl; have tz := (HB1.out.2.1).2
  go_upto_region 7 with fail
  obtain ⟨W2, hW2⟩ : ∃ x, x = w1.alloc (.cells #[.int .i64 x0, .int .i64 x1, .slice ar x2.length kr, .int .i64 x3] 37) := ⟨_, rfl⟩
  rw [← hW2]
  have HB : Hid (SpB w W2 [.int .i64 ep, .int .i64 du, .slice (some ⟨g, 0, none⟩) ms.length k1, .slice a2 en.length k2] [.int .i64 (5), .int .i64 b, .int .i64 n] [.int .i64 x0, .int .i64 x1, .slice ar x2.length kr, .int .i64 x3] w1.heap.size ∧ Below w.heap.size w W2 ∧ W2.heap.size = w1.heap.size + 1) := ⟨hW2 ▸ ⟨HB1.out.1.alloc _, HB1.out.2.1.alloc _, HB1.out.2.2.1.alloc _, Bx.new w1 [_, _, _, _] _, HB1.out.2.2.1.2⟩, hW2 ▸ HB1.out.2.2.2.alloc HB1.out.2.2.2.size _, by rw [hW2]; simp⟩
  clear hW2 HB1 c0 c1 c2 c3 s0 s1 s2 s3 sz t0 t1 t2 tz hgl1
  have s0 := (HB.out.1.1).cell 0 rfl; have s1 := (HB.out.1.1).cell 1 rfl; have s2 := (HB.out.1.1).cell 2 rfl; have s3 := (HB.out.1.1).cell 3 rfl; have sz := (HB.out.1.1).2
  have t0 := (HB.out.1.2.1).cell 0 rfl; have t1 := (HB.out.1.2.1).cell 1 rfl; have t2 := (HB.out.1.2.1).cell 2 rfl; have tz := (HB.out.1.2.1).2
  have r0 := (HB.out.1.2.2.1).cell 0 rfl; have r1 := (HB.out.1.2.2.1).cell 1 rfl; have r2 := (HB.out.1.2.2.1).cell 2 rfl; have r3 := (HB.out.1.2.2.1).cell 3 rfl; have rz := (HB.out.1.2.2.1).2
  have m0 := (HB.out.1.2.2.2.1).cell 0 rfl; have m1 := (HB.out.1.2.2.2.1).cell 1 rfl; have m2 := (HB.out.1.2.2.2.1).cell 2 rfl; have m3 := (HB.out.1.2.2.2.1).cell 3 rfl; have mz := (HB.out.1.2.2.2.1).2
  have rf0 := HB.out.1.2.2.1.frz 0 (by simp)
  have rf1 := HB.out.1.2.2.1.frz 1 (by simp)
  have rf2 := HB.out.1.2.2.1.frz 2 (by simp)
  have rf3 := HB.out.1.2.2.1.frz 3 (by simp)
  have hml : ms.length ≤ 8 := by omega
  by_cases hq : ms.length = 1
  · have HN : Hid (memF ep du ms en 5 n i (mkMb x0 x1 x2 x3) = none) := Hid.intro (memF5_no hq)
    have hqb : ((ms.length : Int) == 1) = true := by rw [hq]; rfl
    have hqc : (ms.length : Int) = 1 := by omega
    clear hq
    go_wp2
    exact bodyPost_ret (v := .tuple #[.agg #[.int .i64 ep, .int .i64 du, .slice (some ⟨g, 0, none⟩) ms.length k1, .slice a2 en.length k2], .bool false]) (by simp [results, Try.results41, go_sem, *]) rfl (StX.no (cs := [.int .i64 ep, .int .i64 du, .slice (some ⟨g, 0, none⟩) ms.length k1, .slice a2 en.length k2]) HN.out ((TurnS.of_below HB.out.2.1).new (set4 _ (w.heap.size + 1 + 1) _ _ _ _) (by omega)))
  have hqb : ((ms.length : Int) == 1) = false := beq_false_of_ne (by omega)
  have hqc : ¬ (ms.length : Int) = 1 := by omega
  have HN : Hid (memF ep du ms en 5 n i (mkMb x0 x1 x2 x3) = some (mkFe ep du (ms.eraseIdx i) en)) := Hid.intro (memF5_yes hq)
  obtain ⟨xs, hxl, hxc, hx1, hcap, hglw, hmk⟩ := fe_leave HMS.out hi
  have HXS : Hid (xs.length = ms.length * 4 ∧ (∀ j u, xs[j]? = some u → w.cell? ⟨g, j, none⟩ = some u) ∧ (∀ u ∈ xs, u.oneCell' = true)) := ⟨hxl, hxc, hx1⟩
  have HMK := Hid.intro hmk
  clear hxl hxc hx1 hmk hglw hq
  obtain ⟨ADD, hADD, hADc⟩ : ∃ ADD : Addr, some ADD = (if k1 = i + 1 then some ⟨g, 0, none⟩ else some ⟨g, (i + 1) * 4, none⟩) ∧ ∀ j u, (xs.drop ((i + 1) * 4))[j]? = some u → w.cell? (ADD.add j) = some u := by
    by_cases q : k1 = i + 1
    · refine ⟨⟨g, 0, none⟩, by rw [if_pos q], fun j u hu => ?_⟩
      rw [List.drop_eq_nil_of_le (by rw [HXS.out.1]; omega)] at hu
      cases hu
    · refine ⟨⟨g, (i + 1) * 4, none⟩, by rw [if_neg q], fun j u hu => ?_⟩
      rw [List.getElem?_drop] at hu
      rw [add0]
      exact HXS.out.2.1 _ _ hu
  have HAD := Hid.intro hADD
  have HAC := Hid.intro hADc
  clear hADD hADc
  have hin : (i : Int) ≤ (k1 : Int) := by omega
  have hip : (i : Int) + 1 ≤ (ms.length : Int) := by omega
  have hi0 : (0 : Int) ≤ (i : Int) := by omega
  have hi01 : (0 : Int) ≤ (i : Int) + 1 := by omega
  have hiw : IntKind.i64.wrap ((i : Int) + 1) = (i : Int) + 1 := w64f (by omega) (by omega)
  obtain ⟨i2, hi2, hx0, hx1, hx2⟩ := info_parts inf_Member
  go_upto_region 29 with fail
  have HBd : Hid (SpB w W2.drew [.int .i64 ep, .int .i64 du, .slice (some ⟨g, 0, none⟩) ms.length k1, .slice a2 en.length k2] [.int .i64 (5), .int .i64 b, .int .i64 n] [.int .i64 x0, .int .i64 x1, .slice ar x2.length kr, .int .i64 x3] w1.heap.size ∧ Below w.heap.size w W2.drew ∧ W2.drew.heap.size = w1.heap.size + 1) := ⟨HB.out.1.next (below_drew _), below_next HB.out.2.1 (below_drew _), HB.out.2.2⟩
  clear s0 s1 s2 s3 sz t0 t1 t2 tz r0 r1 r2 r3 rz m0 m1 m2 m3 mz rf0 rf1 rf2 rf3
  refine wp_region_noPanic ?_
  refine wp_region_held_drew (S := fun _ => True) (by kernel_rfl) trivial (fun hHeld => ?_)
  obtain ⟨Y0, hWE⟩ : ∃ x, x = W2.drew := ⟨_, rfl⟩
  rw [← hWE] at HBd ⊢
  clear hWE HB
  refine take_v (v := ?_) 1 ⟨some 141, Op.fieldAddr 29 (Operand.tmp 2) 2, _, _, _, none⟩ rfl (fun _ _ _ h => h) ?_ hHeld ?_
  rotate_left
  · (intro W _; go_simp <;> (try with_reducible rfl))
  refine take_v (v := ?_) 3 ⟨some 143, Op.move (Operand.tmp 6), _, _, _, none⟩ rfl (fun _ _ _ h => h) ?_ hHeld ?_
  rotate_left
  · (intro W _; go_simp <;> (try with_reducible rfl))
  refine take_v (v := ?_) 6 ⟨some 146, Op.fieldAddr 29 (Operand.tmp 2) 2, _, _, _, none⟩ rfl (fun _ _ _ h => h) ?_ hHeld ?_
  rotate_left
  · (intro W _; go_simp <;> (try with_reducible rfl))
  refine take_v (v := ?_) 8 ⟨some 148, Op.move (Operand.tmp 6), _, _, _, none⟩ rfl (fun _ _ _ h => h) ?_ hHeld ?_
  rotate_left
  · (intro W _; go_simp <;> (try with_reducible rfl))
  refine take_v (v := ?_) 9 ⟨some 149, Op.binOp BinOp.add 3 (Operand.tmp 148) (Operand.const (Value.int IntKind.i64 1)) 3, _, _, _, none⟩ rfl (fun _ _ _ h => h) ?_ hHeld ?_
  rotate_left
  · (intro W _; go_simp <;> (try with_reducible rfl))
  refine ready_three 0 2 7 ⟨some 140, Op.buildSlice 26 0 #[], _, _, _, none⟩ ⟨some 142, Op.load 26 (Operand.tmp 141), _, _, _, none⟩ ⟨some 147, Op.load 26 (Operand.tmp 146), _, _, _, none⟩ (by kernel_rfl) rfl rfl rfl (by kernel_rfl) (by kernel_rfl) (by kernel_rfl) (fun KC hK => ?_) (fun KC hK => ?_) (fun KC hK => ?_)
  ·
    try rw [← HAD.out]
    go_wp2_with fail
    obtain ⟨Y1, hY1⟩ : ∃ x, x = Y0.alloc (.cells #[] 37) := ⟨_, rfl⟩
    have HB1 : Hid (SpB w Y1 [.int .i64 ep, .int .i64 du, .slice (some ⟨g, 0, none⟩) ms.length k1, .slice a2 en.length k2] [.int .i64 (5), .int .i64 b, .int .i64 n] [.int .i64 x0, .int .i64 x1, .slice ar x2.length kr, .int .i64 x3] w1.heap.size ∧ Below w.heap.size w Y1 ∧ Y1.heap.size = Y0.heap.size + 1 ∧ Y1.ownsRow lo 37 4 (.slice (some ⟨Y0.heap.size, 0, none⟩) 0 0) 0 [] ∧ lo ≤ Y1.heap.size) := Hid.intro (by
      have hb := Go.Joins.below_alloc1 Y0 (.cells #[] 37)
      have hz : lo ≤ Y0.heap.size := Nat.le_trans hlo HBd.out.2.1.size
      have hx : (Y0.alloc (.cells #[] 37)).ownsRow lo 37 4 (.slice (some ⟨Y0.heap.size, 0, none⟩) 0 0) 0 [] := World.ownsRow_made Y0 #[] 0 hz (Nat.zero_le _) (by simp)
      exact hY1 ▸ ⟨HBd.out.1.next hb, below_next HBd.out.2.1 hb, by simp, hx, Nat.le_trans hz hb.size⟩)
    rw [← hY1]
    clear hY1
    refine hK.out _ _ trivial (fun hHeld => ?_)
    clear hK KC
    refine ready_two 2 7 ⟨some 142, Op.load 26 (Operand.tmp 141), _, _, _, none⟩ ⟨some 147, Op.load 26 (Operand.tmp 146), _, _, _, none⟩ (by kernel_rfl) rfl rfl (by kernel_rfl) (by kernel_rfl) (fun KC hK => ?_) (fun KC hK => ?_)
    ·
      try rw [← HAD.out]
      (first | (have d2 := HB5.out.1.1.cell 2 rfl; have dz := HB5.out.1.1.2) | (have d2 := HB1.out.1.1.cell 2 rfl; have dz := HB1.out.1.1.2) | (have d2 := HBd.out.1.1.cell 2 rfl; have dz := HBd.out.1.1.2))
      go_wp2_with fail
      clear d2 dz
      refine hK.out _ _ trivial (fun hHeld => ?_)
      clear hK KC
      refine take_v (v := ?_) 4 ⟨some 144, Op.slice 26 (Operand.tmp 142) none (some (Operand.tmp 143)) none, _, _, _, none⟩ rfl (fun _ _ _ h => h) ?_ hHeld ?_
      rotate_left
      · (intro W _; go_simp <;> (try with_reducible rfl))
      refine ready_two 5 7 ⟨some 145, Op.call { callee := Callee.builtin Builtin.append, args := #[Operand.tmp 140, Operand.tmp 144], argTypes := #[26, 26] }, _, _, _, none⟩ ⟨some 147, Op.load 26 (Operand.tmp 146), _, _, _, none⟩ (by kernel_rfl) rfl rfl (by kernel_rfl) (by kernel_rfl) (fun KC hK => ?_) (fun KC hK => ?_)
      ·
        try rw [← HAD.out]
        refine wp_append_at _ (.tmp 140) (.tmp 144) 26 (by rfl) lo 37 i2 (.agg #[.int .i64 0, .int .i64 0, .slice none 0 0, .int .i64 0]) 4 48 Try.underlying26 hi2 hx0 hx1 hx2 rfl (by decide) (.slice (some ⟨Y0.heap.size, 0, none⟩) 0 0) 0 [] (by rfl) HB1.out.2.2.2.1 ⟨g, 0, none⟩ i k1 (xs.take (i * 4)) (by rfl) (by rw [List.length_take, HXS.out.1]; omega) (fun j u hu => by
          have hj : j < i * 4 := by have := (List.getElem?_eq_some_iff.1 hu).1; rw [List.length_take] at this; omega
          rw [List.getElem?_take_of_lt hj] at hu
          have := (World.cell?_of_block (a := ⟨g, j, none⟩) (HB1.out.2.1.block g hgl)).trans (HXS.out.2.1 j u hu)
          rw [add0, Nat.zero_add]
          exact this) (fun u hu => HXS.out.2.2 u (List.mem_of_mem_take hu)) (by unfold maxLen; omega) (by omega) HB1.out.2.2.2.2 ?_
        intro v5 Y5 hr5 hg5 hwh5
        have HB5 : Hid (SpB w Y5 [.int .i64 ep, .int .i64 du, .slice (some ⟨g, 0, none⟩) ms.length k1, .slice a2 en.length k2] [.int .i64 (5), .int .i64 b, .int .i64 n] [.int .i64 x0, .int .i64 x1, .slice ar x2.length kr, .int .i64 x3] w1.heap.size ∧ Below w.heap.size w Y5 ∧ Y5.ownsRow lo 37 4 v5 (0 + i) ([] ++ xs.take (i * 4)) ∧ (∀ j, v5.ownBlock = some j → Y0.heap.size ≤ j) ∧ lo ≤ Y5.heap.size ∧ Y1.heap.size ≤ Y5.heap.size) := Hid.intro (by
          have hz1 := HBd.out.2.2
          have hz2 := HBd.out.1.2.2.2.2
          have hz3 := HB1.out.2.2.1
          have hrow : ∀ j, (Value.slice (some ⟨Y0.heap.size, 0, none⟩) 0 0).ownBlock = some j → j = Y0.heap.size := fun j q => by cases q; rfl
          refine ⟨HB1.out.1.grow hg5 (fun j q => Or.inr (by have := hrow j q; omega)), HB1.out.2.1.grown hg5 HB1.out.2.1.size (fun j q => by have := hrow j q; omega), hr5, fun j q => ?_, Nat.le_trans HB1.out.2.2.2.2 hg5.size, hg5.size⟩
          rcases hwh5 with r | r
          · rw [r] at q; have := hrow j q; omega
          · rw [r] at q; cases q; omega)
        clear hr5 hg5 hwh5
        refine hK.out _ _ trivial (fun hHeld => ?_)
        clear hK KC
        refine ready_call 7 ⟨some 147, Op.load 26 (Operand.tmp 146), _, _, _, none⟩ (by kernel_rfl) rfl (by kernel_rfl) (fun KC hK => ?_)
        try rw [← HAD.out]
        (first | (have d2 := HB5.out.1.1.cell 2 rfl; have dz := HB5.out.1.1.2) | (have d2 := HB1.out.1.1.cell 2 rfl; have dz := HB1.out.1.1.2) | (have d2 := HBd.out.1.1.cell 2 rfl; have dz := HBd.out.1.1.2))
        go_wp2_with fail
        clear d2 dz
        refine hK.out _ _ trivial (fun hHeld => ?_)
        clear hK KC
        refine take_v (v := ?_) 10 ⟨some 150, Op.slice 26 (Operand.tmp 147) (some (Operand.tmp 149)) none none, _, _, _, none⟩ rfl (fun _ _ _ h => h) ?_ hHeld ?_
        rotate_left
        · (intro W _; go_simp <;> (try with_reducible rfl))
        refine ready_call 11 ⟨some 151, Op.call { callee := Callee.builtin Builtin.append, args := #[Operand.tmp 145, Operand.tmp 150], argTypes := #[26, 26] }, _, _, _, none⟩ (by kernel_rfl) rfl (by kernel_rfl) (fun KC hK => ?_)
        try rw [← HAD.out]
        refine wp_append_at _ (.tmp 145) (.tmp 150) 26 (by rfl) lo 37 i2 (.agg #[.int .i64 0, .int .i64 0, .slice none 0 0, .int .i64 0]) 4 48 Try.underlying26 hi2 hx0 hx1 hx2 rfl (by decide) v5 (0 + i) ([] ++ xs.take (i * 4)) (by rfl) HB5.out.2.2.1 ADD (ms.length - (i + 1)) (k1 - (i + 1)) (xs.drop ((i + 1) * 4)) (by rfl) (by rw [List.length_drop, HXS.out.1]; omega) (fun j u hu => by
          have h := HAC.out j u hu
          by_cases q : k1 = i + 1
          · rw [List.drop_eq_nil_of_le (by rw [HXS.out.1]; omega)] at hu
            cases hu
          · have ha : ADD = ⟨g, (i + 1) * 4, none⟩ := by have := HAD.out; rw [if_neg q] at this; exact Option.some.inj this
            rw [ha, add0] at h ⊢
            exact (World.cell?_of_block (a := ⟨g, (i + 1) * 4 + j, none⟩) (HB5.out.2.1.block g hgl)).trans h) (fun u hu => HXS.out.2.2 u (List.mem_of_mem_drop hu)) (by unfold maxLen; omega) (by omega) HB5.out.2.2.2.2.1 ?_
        intro v11 Y11 hr11 hg11 hwh11
        have HB11 : Hid (SpB w Y11 [.int .i64 ep, .int .i64 du, .slice (some ⟨g, 0, none⟩) ms.length k1, .slice a2 en.length k2] [.int .i64 (5), .int .i64 b, .int .i64 n] [.int .i64 x0, .int .i64 x1, .slice ar x2.length kr, .int .i64 x3] w1.heap.size ∧ Below w.heap.size w Y11 ∧ Y11.ownsRow lo 37 4 v11 (ms.length - 1) (xs.take (i * 4) ++ xs.drop ((i + 1) * 4)) ∧ (∀ j, v11.ownBlock = some j → Y0.heap.size ≤ j ∧ j < Y11.heap.size)) := Hid.intro (by
          have hz1 := HBd.out.2.2
          have hz2 := HBd.out.1.2.2.2.2
          have hz3 := HB1.out.2.2.1
          have hz5 := HB5.out.2.2.2.2.2
          have he : 0 + i + (ms.length - (i + 1)) = ms.length - 1 := by omega
          rw [List.nil_append, he] at hr11
          refine ⟨HB5.out.1.grow hg11 (fun j q => Or.inr (by have := HB5.out.2.2.2.1 j q; omega)), HB5.out.2.1.grown hg11 HB5.out.2.1.size (fun j q => by have := HB5.out.2.2.2.1 j q; omega), hr11, fun j q => ⟨?_, (hr11.lt j q).2⟩⟩
          rcases hwh11 with r | r
          · rw [r] at q; exact HB5.out.2.2.2.1 j q
          · rw [r] at q; cases q; omega)
        clear hr11 hg11 hwh11
        refine hK.out _ _ trivial (fun hHeld => ?_)
        clear hK KC
        refine take_v (v := ?_) 12 ⟨some 152, Op.fieldAddr 29 (Operand.tmp 2) 2, _, _, _, none⟩ rfl (fun _ _ _ h => h) ?_ hHeld ?_
        rotate_left
        · (intro W _; go_simp <;> (try with_reducible rfl))
        refine ready_call 13 ⟨none, Op.store 26 (Operand.tmp 152) (Operand.tmp 151), _, _, _, none⟩ (by kernel_rfl) rfl (by kernel_rfl) (fun KC hK => ?_)
        try rw [← HAD.out]
        obtain ⟨a8, c8, hv8⟩ : ∃ a8 c8, v11 = .slice a8 (ms.length - 1) c8 := by
          rcases Go.Joins.ownsRow_forms HB11.out.2.2.1 with ⟨hv, h0⟩ | ⟨gq, cq, hv⟩
          · exact ⟨none, 0, by rw [hv, h0]⟩
          · exact ⟨_, cq, hv⟩
        subst hv8
        have d2 := HB11.out.1.1.cell 2 rfl
        have dz := HB11.out.1.1.2
        have df := HB11.out.1.1.frz 2 (by simp)
        go_wp2_with fail
        clear d2 dz df
        refine hK.out _ _ trivial (fun hHeld => ?_)
        clear hK KC
        refine wpAnyH_done (by kernel_rfl) ?_ _
        refine NoPanic.normal ?_
        clear hHeld
        obtain ⟨X, hXe⟩ : ∃ x, x = Y11.setCell ⟨w.heap.size, 2, none⟩ (.slice a8 (ms.length - 1) c8) := ⟨_, rfl⟩
        have HX : Hid (SpB w X [.int .i64 ep, .int .i64 du, .slice a8 (ms.length - 1) c8, .slice a2 en.length k2] [.int .i64 (5), .int .i64 b, .int .i64 n] [.int .i64 x0, .int .i64 x1, .slice ar x2.length kr, .int .i64 x3] w1.heap.size ∧ Below w.heap.size w X ∧ OwnX X lo (.list tyMember 37) [.slice a8 (ms.length - 1) c8] (ms.eraseIdx i) (fun k => S1 k ∨ (Value.slice a8 (ms.length - 1) c8).ownBlock = some k) ∧ (∀ j, (Value.slice a8 (ms.length - 1) c8).ownBlock = some j → w1.heap.size < j ∧ j < X.heap.size)) := Hid.intro (by
          have hz1 := HBd.out.2.2
          have hz2 := HBd.out.1.2.2.2.2
          have hB : Below w.heap.size w X := hXe ▸ HB11.out.2.1.setCell (p := ⟨w.heap.size, 2, none⟩) (Nat.le_refl _) _
          have hr : X.ownsRow lo 37 4 (.slice a8 (ms.length - 1) c8) (ms.length - 1) (xs.take (i * 4) ++ xs.drop ((i + 1) * 4)) := by
            rw [hXe]
            exact ownsRow_turn HB11.out.2.2.1 (turn_set _ ⟨w.heap.size, 2, none⟩ _) (fun j q z => by have h1 := (HB11.out.2.2.2 j q).1; have z : j = w.heap.size := z; omega)
          refine ⟨hXe ▸ HB11.out.1.setF (j := 2) (by simp) _, hB, HMK.out X _ (fun b hb _ => hB.block b hb) hr (fun j q z => ?_), fun j q => ?_⟩
          · have h1 := (HB11.out.2.2.2 j q).1; have h2 := HO.out.2.2.2.2.2 j (HO.out.2.2.1 j z); omega
          · have h1 := HB11.out.2.2.2 j q; rw [hXe, World.size_setCell]; omega)
        rw [← hXe]
        clear hXe
        have s0 := (HX.out.1.1).cell 0 rfl; have s1 := (HX.out.1.1).cell 1 rfl; have s2 := (HX.out.1.1).cell 2 rfl; have s3 := (HX.out.1.1).cell 3 rfl; have sz := (HX.out.1.1).2
        have r0 := (HX.out.1.2.2.1).cell 0 rfl; have r1 := (HX.out.1.2.2.1).cell 1 rfl; have r2 := (HX.out.1.2.2.1).cell 2 rfl; have r3 := (HX.out.1.2.2.1).cell 3 rfl; have rz := (HX.out.1.2.2.1).2
        have m0 := (HX.out.1.2.2.2.1).cell 0 rfl; have m1 := (HX.out.1.2.2.2.1).cell 1 rfl; have m2 := (HX.out.1.2.2.2.1).cell 2 rfl; have m3 := (HX.out.1.2.2.2.1).cell 3 rfl; have mz := (HX.out.1.2.2.2.1).2
        have rf0 := HX.out.1.2.2.1.frz 0 (by simp)
        have rf1 := HX.out.1.2.2.1.frz 1 (by simp)
        have rf2 := HX.out.1.2.2.1.frz 2 (by simp)
        have rf3 := HX.out.1.2.2.1.frz 3 (by simp)
        go_wp2
        exact bodyPost_ret (v := .tuple #[.agg #[.int .i64 ep, .int .i64 du, .slice a8 (ms.length - 1) c8, .slice a2 en.length k2], .bool true]) (by simp [results, Try.results41, go_sem, *]) rfl (StX.fin (T1 := fun k => S1 k ∨ (Value.slice a8 (ms.length - 1) c8).ownBlock = some k) (T2 := S2) HN.out (TurnS.of_below HX.out.2.1) HX.out.2.2.1 (HO.out.1.next HX.out.2.1) (fun j q => by
          have hz2 := HX.out.1.2.2.2.2
          rcases q with r | r
          · exact ⟨Or.inl (HO.out.2.2.1 j r), by have h2 := HO.out.2.2.2.2.2 j (HO.out.2.2.1 j r); omega⟩
          · have h3 := HX.out.2.2.2 j r; exact ⟨Or.inr (by simp only [Btw]; omega), by omega⟩) (fun j q => ⟨Or.inl (HO.out.2.2.2.1 j q), by have h2 := HO.out.2.2.2.2.2 j (HO.out.2.2.2.1 j q); omega⟩) (fun j q z => by
          rcases q with r | r
          · exact HO.out.2.2.2.2.1 j r z
          · have h3 := HX.out.2.2.2 j r; have h2 := HO.out.2.2.2.2.2 j (HO.out.2.2.2.1 j z); have hz2 := HX.out.1.2.2.2.2; omega))
      ·
        try rw [← HAD.out]
        (first | (have d2 := HB5.out.1.1.cell 2 rfl; have dz := HB5.out.1.1.2) | (have d2 := HB1.out.1.1.cell 2 rfl; have dz := HB1.out.1.1.2) | (have d2 := HBd.out.1.1.cell 2 rfl; have dz := HBd.out.1.1.2))
        go_wp2_with fail
        clear d2 dz
        refine hK.out _ _ trivial (fun hHeld => ?_)
        clear hK KC
        refine take_v (v := ?_) 10 ⟨some 150, Op.slice 26 (Operand.tmp 147) (some (Operand.tmp 149)) none none, _, _, _, none⟩ rfl (fun _ _ _ h => h) ?_ hHeld ?_
        rotate_left
        · (intro W _; go_simp <;> (try with_reducible rfl))
        refine ready_call 5 ⟨some 145, Op.call { callee := Callee.builtin Builtin.append, args := #[Operand.tmp 140, Operand.tmp 144], argTypes := #[26, 26] }, _, _, _, none⟩ (by kernel_rfl) rfl (by kernel_rfl) (fun KC hK => ?_)
        try rw [← HAD.out]
        refine wp_append_at _ (.tmp 140) (.tmp 144) 26 (by rfl) lo 37 i2 (.agg #[.int .i64 0, .int .i64 0, .slice none 0 0, .int .i64 0]) 4 48 Try.underlying26 hi2 hx0 hx1 hx2 rfl (by decide) (.slice (some ⟨Y0.heap.size, 0, none⟩) 0 0) 0 [] (by rfl) HB1.out.2.2.2.1 ⟨g, 0, none⟩ i k1 (xs.take (i * 4)) (by rfl) (by rw [List.length_take, HXS.out.1]; omega) (fun j u hu => by
          have hj : j < i * 4 := by have := (List.getElem?_eq_some_iff.1 hu).1; rw [List.length_take] at this; omega
          rw [List.getElem?_take_of_lt hj] at hu
          have := (World.cell?_of_block (a := ⟨g, j, none⟩) (HB1.out.2.1.block g hgl)).trans (HXS.out.2.1 j u hu)
          rw [add0, Nat.zero_add]
          exact this) (fun u hu => HXS.out.2.2 u (List.mem_of_mem_take hu)) (by unfold maxLen; omega) (by omega) HB1.out.2.2.2.2 ?_
        intro v5 Y5 hr5 hg5 hwh5
        have HB5 : Hid (SpB w Y5 [.int .i64 ep, .int .i64 du, .slice (some ⟨g, 0, none⟩) ms.length k1, .slice a2 en.length k2] [.int .i64 (5), .int .i64 b, .int .i64 n] [.int .i64 x0, .int .i64 x1, .slice ar x2.length kr, .int .i64 x3] w1.heap.size ∧ Below w.heap.size w Y5 ∧ Y5.ownsRow lo 37 4 v5 (0 + i) ([] ++ xs.take (i * 4)) ∧ (∀ j, v5.ownBlock = some j → Y0.heap.size ≤ j) ∧ lo ≤ Y5.heap.size ∧ Y1.heap.size ≤ Y5.heap.size) := Hid.intro (by
          have hz1 := HBd.out.2.2
          have hz2 := HBd.out.1.2.2.2.2
          have hz3 := HB1.out.2.2.1
          have hrow : ∀ j, (Value.slice (some ⟨Y0.heap.size, 0, none⟩) 0 0).ownBlock = some j → j = Y0.heap.size := fun j q => by cases q; rfl
          refine ⟨HB1.out.1.grow hg5 (fun j q => Or.inr (by have := hrow j q; omega)), HB1.out.2.1.grown hg5 HB1.out.2.1.size (fun j q => by have := hrow j q; omega), hr5, fun j q => ?_, Nat.le_trans HB1.out.2.2.2.2 hg5.size, hg5.size⟩
          rcases hwh5 with r | r
          · rw [r] at q; have := hrow j q; omega
          · rw [r] at q; cases q; omega)
        clear hr5 hg5 hwh5
        refine hK.out _ _ trivial (fun hHeld => ?_)
        clear hK KC
        refine ready_call 11 ⟨some 151, Op.call { callee := Callee.builtin Builtin.append, args := #[Operand.tmp 145, Operand.tmp 150], argTypes := #[26, 26] }, _, _, _, none⟩ (by kernel_rfl) rfl (by kernel_rfl) (fun KC hK => ?_)
        try rw [← HAD.out]
        refine wp_append_at _ (.tmp 145) (.tmp 150) 26 (by rfl) lo 37 i2 (.agg #[.int .i64 0, .int .i64 0, .slice none 0 0, .int .i64 0]) 4 48 Try.underlying26 hi2 hx0 hx1 hx2 rfl (by decide) v5 (0 + i) ([] ++ xs.take (i * 4)) (by rfl) HB5.out.2.2.1 ADD (ms.length - (i + 1)) (k1 - (i + 1)) (xs.drop ((i + 1) * 4)) (by rfl) (by rw [List.length_drop, HXS.out.1]; omega) (fun j u hu => by
          have h := HAC.out j u hu
          by_cases q : k1 = i + 1
          · rw [List.drop_eq_nil_of_le (by rw [HXS.out.1]; omega)] at hu
            cases hu
          · have ha : ADD = ⟨g, (i + 1) * 4, none⟩ := by have := HAD.out; rw [if_neg q] at this; exact Option.some.inj this
            rw [ha, add0] at h ⊢
            exact (World.cell?_of_block (a := ⟨g, (i + 1) * 4 + j, none⟩) (HB5.out.2.1.block g hgl)).trans h) (fun u hu => HXS.out.2.2 u (List.mem_of_mem_drop hu)) (by unfold maxLen; omega) (by omega) HB5.out.2.2.2.2.1 ?_
        intro v11 Y11 hr11 hg11 hwh11
        have HB11 : Hid (SpB w Y11 [.int .i64 ep, .int .i64 du, .slice (some ⟨g, 0, none⟩) ms.length k1, .slice a2 en.length k2] [.int .i64 (5), .int .i64 b, .int .i64 n] [.int .i64 x0, .int .i64 x1, .slice ar x2.length kr, .int .i64 x3] w1.heap.size ∧ Below w.heap.size w Y11 ∧ Y11.ownsRow lo 37 4 v11 (ms.length - 1) (xs.take (i * 4) ++ xs.drop ((i + 1) * 4)) ∧ (∀ j, v11.ownBlock = some j → Y0.heap.size ≤ j ∧ j < Y11.heap.size)) := Hid.intro (by
          have hz1 := HBd.out.2.2
          have hz2 := HBd.out.1.2.2.2.2
          have hz3 := HB1.out.2.2.1
          have hz5 := HB5.out.2.2.2.2.2
          have he : 0 + i + (ms.length - (i + 1)) = ms.length - 1 := by omega
          rw [List.nil_append, he] at hr11
          refine ⟨HB5.out.1.grow hg11 (fun j q => Or.inr (by have := HB5.out.2.2.2.1 j q; omega)), HB5.out.2.1.grown hg11 HB5.out.2.1.size (fun j q => by have := HB5.out.2.2.2.1 j q; omega), hr11, fun j q => ⟨?_, (hr11.lt j q).2⟩⟩
          rcases hwh11 with r | r
          · rw [r] at q; exact HB5.out.2.2.2.1 j q
          · rw [r] at q; cases q; omega)
        clear hr11 hg11 hwh11
        refine hK.out _ _ trivial (fun hHeld => ?_)
        clear hK KC
        refine take_v (v := ?_) 12 ⟨some 152, Op.fieldAddr 29 (Operand.tmp 2) 2, _, _, _, none⟩ rfl (fun _ _ _ h => h) ?_ hHeld ?_
        rotate_left
        · (intro W _; go_simp <;> (try with_reducible rfl))
        refine ready_call 13 ⟨none, Op.store 26 (Operand.tmp 152) (Operand.tmp 151), _, _, _, none⟩ (by kernel_rfl) rfl (by kernel_rfl) (fun KC hK => ?_)
        try rw [← HAD.out]
        obtain ⟨a8, c8, hv8⟩ : ∃ a8 c8, v11 = .slice a8 (ms.length - 1) c8 := by
          rcases Go.Joins.ownsRow_forms HB11.out.2.2.1 with ⟨hv, h0⟩ | ⟨gq, cq, hv⟩
          · exact ⟨none, 0, by rw [hv, h0]⟩
          · exact ⟨_, cq, hv⟩
        subst hv8
        have d2 := HB11.out.1.1.cell 2 rfl
        have dz := HB11.out.1.1.2
        have df := HB11.out.1.1.frz 2 (by simp)
        go_wp2_with fail
        clear d2 dz df
        refine hK.out _ _ trivial (fun hHeld => ?_)
        clear hK KC
        refine wpAnyH_done (by kernel_rfl) ?_ _
        refine NoPanic.normal ?_
        clear hHeld
        obtain ⟨X, hXe⟩ : ∃ x, x = Y11.setCell ⟨w.heap.size, 2, none⟩ (.slice a8 (ms.length - 1) c8) := ⟨_, rfl⟩
        have HX : Hid (SpB w X [.int .i64 ep, .int .i64 du, .slice a8 (ms.length - 1) c8, .slice a2 en.length k2] [.int .i64 (5), .int .i64 b, .int .i64 n] [.int .i64 x0, .int .i64 x1, .slice ar x2.length kr, .int .i64 x3] w1.heap.size ∧ Below w.heap.size w X ∧ OwnX X lo (.list tyMember 37) [.slice a8 (ms.length - 1) c8] (ms.eraseIdx i) (fun k => S1 k ∨ (Value.slice a8 (ms.length - 1) c8).ownBlock = some k) ∧ (∀ j, (Value.slice a8 (ms.length - 1) c8).ownBlock = some j → w1.heap.size < j ∧ j < X.heap.size)) := Hid.intro (by
          have hz1 := HBd.out.2.2
          have hz2 := HBd.out.1.2.2.2.2
          have hB : Below w.heap.size w X := hXe ▸ HB11.out.2.1.setCell (p := ⟨w.heap.size, 2, none⟩) (Nat.le_refl _) _
          have hr : X.ownsRow lo 37 4 (.slice a8 (ms.length - 1) c8) (ms.length - 1) (xs.take (i * 4) ++ xs.drop ((i + 1) * 4)) := by
            rw [hXe]
            exact ownsRow_turn HB11.out.2.2.1 (turn_set _ ⟨w.heap.size, 2, none⟩ _) (fun j q z => by have h1 := (HB11.out.2.2.2 j q).1; have z : j = w.heap.size := z; omega)
          refine ⟨hXe ▸ HB11.out.1.setF (j := 2) (by simp) _, hB, HMK.out X _ (fun b hb _ => hB.block b hb) hr (fun j q z => ?_), fun j q => ?_⟩
          · have h1 := (HB11.out.2.2.2 j q).1; have h2 := HO.out.2.2.2.2.2 j (HO.out.2.2.1 j z); omega
          · have h1 := HB11.out.2.2.2 j q; rw [hXe, World.size_setCell]; omega)
        rw [← hXe]
        clear hXe
        have s0 := (HX.out.1.1).cell 0 rfl; have s1 := (HX.out.1.1).cell 1 rfl; have s2 := (HX.out.1.1).cell 2 rfl; have s3 := (HX.out.1.1).cell 3 rfl; have sz := (HX.out.1.1).2
        have r0 := (HX.out.1.2.2.1).cell 0 rfl; have r1 := (HX.out.1.2.2.1).cell 1 rfl; have r2 := (HX.out.1.2.2.1).cell 2 rfl; have r3 := (HX.out.1.2.2.1).cell 3 rfl; have rz := (HX.out.1.2.2.1).2
        have m0 := (HX.out.1.2.2.2.1).cell 0 rfl; have m1 := (HX.out.1.2.2.2.1).cell 1 rfl; have m2 := (HX.out.1.2.2.2.1).cell 2 rfl; have m3 := (HX.out.1.2.2.2.1).cell 3 rfl; have mz := (HX.out.1.2.2.2.1).2
        have rf0 := HX.out.1.2.2.1.frz 0 (by simp)
        have rf1 := HX.out.1.2.2.1.frz 1 (by simp)
        have rf2 := HX.out.1.2.2.1.frz 2 (by simp)
        have rf3 := HX.out.1.2.2.1.frz 3 (by simp)
        go_wp2
        exact bodyPost_ret (v := .tuple #[.agg #[.int .i64 ep, .int .i64 du, .slice a8 (ms.length - 1) c8, .slice a2 en.length k2], .bool true]) (by simp [results, Try.results41, go_sem, *]) rfl (StX.fin (T1 := fun k => S1 k ∨ (Value.slice a8 (ms.length - 1) c8).ownBlock = some k) (T2 := S2) HN.out (TurnS.of_below HX.out.2.1) HX.out.2.2.1 (HO.out.1.next HX.out.2.1) (fun j q => by
          have hz2 := HX.out.1.2.2.2.2
          rcases q with r | r
          · exact ⟨Or.inl (HO.out.2.2.1 j r), by have h2 := HO.out.2.2.2.2.2 j (HO.out.2.2.1 j r); omega⟩
          · have h3 := HX.out.2.2.2 j r; exact ⟨Or.inr (by simp only [Btw]; omega), by omega⟩) (fun j q => ⟨Or.inl (HO.out.2.2.2.1 j q), by have h2 := HO.out.2.2.2.2.2 j (HO.out.2.2.2.1 j q); omega⟩) (fun j q z => by
          rcases q with r | r
          · exact HO.out.2.2.2.2.1 j r z
          · have h3 := HX.out.2.2.2 j r; have h2 := HO.out.2.2.2.2.2 j (HO.out.2.2.2.1 j z); have hz2 := HX.out.1.2.2.2.2; omega))
    ·
      try rw [← HAD.out]
      (first | (have d2 := HB5.out.1.1.cell 2 rfl; have dz := HB5.out.1.1.2) | (have d2 := HB1.out.1.1.cell 2 rfl; have dz := HB1.out.1.1.2) | (have d2 := HBd.out.1.1.cell 2 rfl; have dz := HBd.out.1.1.2))
      go_wp2_with fail
      clear d2 dz
      refine hK.out _ _ trivial (fun hHeld => ?_)
      clear hK KC
      refine take_v (v := ?_) 10 ⟨some 150, Op.slice 26 (Operand.tmp 147) (some (Operand.tmp 149)) none none, _, _, _, none⟩ rfl (fun _ _ _ h => h) ?_ hHeld ?_
      rotate_left
      · (intro W _; go_simp <;> (try with_reducible rfl))
      refine ready_call 2 ⟨some 142, Op.load 26 (Operand.tmp 141), _, _, _, none⟩ (by kernel_rfl) rfl (by kernel_rfl) (fun KC hK => ?_)
      try rw [← HAD.out]
      (first | (have d2 := HB5.out.1.1.cell 2 rfl; have dz := HB5.out.1.1.2) | (have d2 := HB1.out.1.1.cell 2 rfl; have dz := HB1.out.1.1.2) | (have d2 := HBd.out.1.1.cell 2 rfl; have dz := HBd.out.1.1.2))
      go_wp2_with fail
      clear d2 dz
      refine hK.out _ _ trivial (fun hHeld => ?_)
      clear hK KC
      refine take_v (v := ?_) 4 ⟨some 144, Op.slice 26 (Operand.tmp 142) none (some (Operand.tmp 143)) none, _, _, _, none⟩ rfl (fun _ _ _ h => h) ?_ hHeld ?_
      rotate_left
      · (intro W _; go_simp <;> (try with_reducible rfl))
      refine ready_call 5 ⟨some 145, Op.call { callee := Callee.builtin Builtin.append, args := #[Operand.tmp 140, Operand.tmp 144], argTypes := #[26, 26] }, _, _, _, none⟩ (by kernel_rfl) rfl (by kernel_rfl) (fun KC hK => ?_)
      try rw [← HAD.out]
      refine wp_append_at _ (.tmp 140) (.tmp 144) 26 (by rfl) lo 37 i2 (.agg #[.int .i64 0, .int .i64 0, .slice none 0 0, .int .i64 0]) 4 48 Try.underlying26 hi2 hx0 hx1 hx2 rfl (by decide) (.slice (some ⟨Y0.heap.size, 0, none⟩) 0 0) 0 [] (by rfl) HB1.out.2.2.2.1 ⟨g, 0, none⟩ i k1 (xs.take (i * 4)) (by rfl) (by rw [List.length_take, HXS.out.1]; omega) (fun j u hu => by
        have hj : j < i * 4 := by have := (List.getElem?_eq_some_iff.1 hu).1; rw [List.length_take] at this; omega
        rw [List.getElem?_take_of_lt hj] at hu
        have := (World.cell?_of_block (a := ⟨g, j, none⟩) (HB1.out.2.1.block g hgl)).trans (HXS.out.2.1 j u hu)
        rw [add0, Nat.zero_add]
        exact this) (fun u hu => HXS.out.2.2 u (List.mem_of_mem_take hu)) (by unfold maxLen; omega) (by omega) HB1.out.2.2.2.2 ?_
      intro v5 Y5 hr5 hg5 hwh5
      have HB5 : Hid (SpB w Y5 [.int .i64 ep, .int .i64 du, .slice (some ⟨g, 0, none⟩) ms.length k1, .slice a2 en.length k2] [.int .i64 (5), .int .i64 b, .int .i64 n] [.int .i64 x0, .int .i64 x1, .slice ar x2.length kr, .int .i64 x3] w1.heap.size ∧ Below w.heap.size w Y5 ∧ Y5.ownsRow lo 37 4 v5 (0 + i) ([] ++ xs.take (i * 4)) ∧ (∀ j, v5.ownBlock = some j → Y0.heap.size ≤ j) ∧ lo ≤ Y5.heap.size ∧ Y1.heap.size ≤ Y5.heap.size) := Hid.intro (by
        have hz1 := HBd.out.2.2
        have hz2 := HBd.out.1.2.2.2.2
        have hz3 := HB1.out.2.2.1
        have hrow : ∀ j, (Value.slice (some ⟨Y0.heap.size, 0, none⟩) 0 0).ownBlock = some j → j = Y0.heap.size := fun j q => by cases q; rfl
        refine ⟨HB1.out.1.grow hg5 (fun j q => Or.inr (by have := hrow j q; omega)), HB1.out.2.1.grown hg5 HB1.out.2.1.size (fun j q => by have := hrow j q; omega), hr5, fun j q => ?_, Nat.le_trans HB1.out.2.2.2.2 hg5.size, hg5.size⟩
        rcases hwh5 with r | r
        · rw [r] at q; have := hrow j q; omega
        · rw [r] at q; cases q; omega)
      clear hr5 hg5 hwh5
      refine hK.out _ _ trivial (fun hHeld => ?_)
      clear hK KC
      refine ready_call 11 ⟨some 151, Op.call { callee := Callee.builtin Builtin.append, args := #[Operand.tmp 145, Operand.tmp 150], argTypes := #[26, 26] }, _, _, _, none⟩ (by kernel_rfl) rfl (by kernel_rfl) (fun KC hK => ?_)
      try rw [← HAD.out]
      refine wp_append_at _ (.tmp 145) (.tmp 150) 26 (by rfl) lo 37 i2 (.agg #[.int .i64 0, .int .i64 0, .slice none 0 0, .int .i64 0]) 4 48 Try.underlying26 hi2 hx0 hx1 hx2 rfl (by decide) v5 (0 + i) ([] ++ xs.take (i * 4)) (by rfl) HB5.out.2.2.1 ADD (ms.length - (i + 1)) (k1 - (i + 1)) (xs.drop ((i + 1) * 4)) (by rfl) (by rw [List.length_drop, HXS.out.1]; omega) (fun j u hu => by
        have h := HAC.out j u hu
        by_cases q : k1 = i + 1
        · rw [List.drop_eq_nil_of_le (by rw [HXS.out.1]; omega)] at hu
          cases hu
        · have ha : ADD = ⟨g, (i + 1) * 4, none⟩ := by have := HAD.out; rw [if_neg q] at this; exact Option.some.inj this
          rw [ha, add0] at h ⊢
          exact (World.cell?_of_block (a := ⟨g, (i + 1) * 4 + j, none⟩) (HB5.out.2.1.block g hgl)).trans h) (fun u hu => HXS.out.2.2 u (List.mem_of_mem_drop hu)) (by unfold maxLen; omega) (by omega) HB5.out.2.2.2.2.1 ?_
      intro v11 Y11 hr11 hg11 hwh11
      have HB11 : Hid (SpB w Y11 [.int .i64 ep, .int .i64 du, .slice (some ⟨g, 0, none⟩) ms.length k1, .slice a2 en.length k2] [.int .i64 (5), .int .i64 b, .int .i64 n] [.int .i64 x0, .int .i64 x1, .slice ar x2.length kr, .int .i64 x3] w1.heap.size ∧ Below w.heap.size w Y11 ∧ Y11.ownsRow lo 37 4 v11 (ms.length - 1) (xs.take (i * 4) ++ xs.drop ((i + 1) * 4)) ∧ (∀ j, v11.ownBlock = some j → Y0.heap.size ≤ j ∧ j < Y11.heap.size)) := Hid.intro (by
        have hz1 := HBd.out.2.2
        have hz2 := HBd.out.1.2.2.2.2
        have hz3 := HB1.out.2.2.1
        have hz5 := HB5.out.2.2.2.2.2
        have he : 0 + i + (ms.length - (i + 1)) = ms.length - 1 := by omega
        rw [List.nil_append, he] at hr11
        refine ⟨HB5.out.1.grow hg11 (fun j q => Or.inr (by have := HB5.out.2.2.2.1 j q; omega)), HB5.out.2.1.grown hg11 HB5.out.2.1.size (fun j q => by have := HB5.out.2.2.2.1 j q; omega), hr11, fun j q => ⟨?_, (hr11.lt j q).2⟩⟩
        rcases hwh11 with r | r
        · rw [r] at q; exact HB5.out.2.2.2.1 j q
        · rw [r] at q; cases q; omega)
      clear hr11 hg11 hwh11
      refine hK.out _ _ trivial (fun hHeld => ?_)
      clear hK KC
      refine take_v (v := ?_) 12 ⟨some 152, Op.fieldAddr 29 (Operand.tmp 2) 2, _, _, _, none⟩ rfl (fun _ _ _ h => h) ?_ hHeld ?_
      rotate_left
      · (intro W _; go_simp <;> (try with_reducible rfl))
      refine ready_call 13 ⟨none, Op.store 26 (Operand.tmp 152) (Operand.tmp 151), _, _, _, none⟩ (by kernel_rfl) rfl (by kernel_rfl) (fun KC hK => ?_)
      try rw [← HAD.out]
      obtain ⟨a8, c8, hv8⟩ : ∃ a8 c8, v11 = .slice a8 (ms.length - 1) c8 := by
        rcases Go.Joins.ownsRow_forms HB11.out.2.2.1 with ⟨hv, h0⟩ | ⟨gq, cq, hv⟩
        · exact ⟨none, 0, by rw [hv, h0]⟩
        · exact ⟨_, cq, hv⟩
      subst hv8
      have d2 := HB11.out.1.1.cell 2 rfl
      have dz := HB11.out.1.1.2
      have df := HB11.out.1.1.frz 2 (by simp)
      go_wp2_with fail
      clear d2 dz df
      refine hK.out _ _ trivial (fun hHeld => ?_)
      clear hK KC
      refine wpAnyH_done (by kernel_rfl) ?_ _
      refine NoPanic.normal ?_
      clear hHeld
      obtain ⟨X, hXe⟩ : ∃ x, x = Y11.setCell ⟨w.heap.size, 2, none⟩ (.slice a8 (ms.length - 1) c8) := ⟨_, rfl⟩
      have HX : Hid (SpB w X [.int .i64 ep, .int .i64 du, .slice a8 (ms.length - 1) c8, .slice a2 en.length k2] [.int .i64 (5), .int .i64 b, .int .i64 n] [.int .i64 x0, .int .i64 x1, .slice ar x2.length kr, .int .i64 x3] w1.heap.size ∧ Below w.heap.size w X ∧ OwnX X lo (.list tyMember 37) [.slice a8 (ms.length - 1) c8] (ms.eraseIdx i) (fun k => S1 k ∨ (Value.slice a8 (ms.length - 1) c8).ownBlock = some k) ∧ (∀ j, (Value.slice a8 (ms.length - 1) c8).ownBlock = some j → w1.heap.size < j ∧ j < X.heap.size)) := Hid.intro (by
        have hz1 := HBd.out.2.2
        have hz2 := HBd.out.1.2.2.2.2
        have hB : Below w.heap.size w X := hXe ▸ HB11.out.2.1.setCell (p := ⟨w.heap.size, 2, none⟩) (Nat.le_refl _) _
        have hr : X.ownsRow lo 37 4 (.slice a8 (ms.length - 1) c8) (ms.length - 1) (xs.take (i * 4) ++ xs.drop ((i + 1) * 4)) := by
          rw [hXe]
          exact ownsRow_turn HB11.out.2.2.1 (turn_set _ ⟨w.heap.size, 2, none⟩ _) (fun j q z => by have h1 := (HB11.out.2.2.2 j q).1; have z : j = w.heap.size := z; omega)
        refine ⟨hXe ▸ HB11.out.1.setF (j := 2) (by simp) _, hB, HMK.out X _ (fun b hb _ => hB.block b hb) hr (fun j q z => ?_), fun j q => ?_⟩
        · have h1 := (HB11.out.2.2.2 j q).1; have h2 := HO.out.2.2.2.2.2 j (HO.out.2.2.1 j z); omega
        · have h1 := HB11.out.2.2.2 j q; rw [hXe, World.size_setCell]; omega)
      rw [← hXe]
      clear hXe
      have s0 := (HX.out.1.1).cell 0 rfl; have s1 := (HX.out.1.1).cell 1 rfl; have s2 := (HX.out.1.1).cell 2 rfl; have s3 := (HX.out.1.1).cell 3 rfl; have sz := (HX.out.1.1).2
      have r0 := (HX.out.1.2.2.1).cell 0 rfl; have r1 := (HX.out.1.2.2.1).cell 1 rfl; have r2 := (HX.out.1.2.2.1).cell 2 rfl; have r3 := (HX.out.1.2.2.1).cell 3 rfl; have rz := (HX.out.1.2.2.1).2
      have m0 := (HX.out.1.2.2.2.1).cell 0 rfl; have m1 := (HX.out.1.2.2.2.1).cell 1 rfl; have m2 := (HX.out.1.2.2.2.1).cell 2 rfl; have m3 := (HX.out.1.2.2.2.1).cell 3 rfl; have mz := (HX.out.1.2.2.2.1).2
      have rf0 := HX.out.1.2.2.1.frz 0 (by simp)
      have rf1 := HX.out.1.2.2.1.frz 1 (by simp)
      have rf2 := HX.out.1.2.2.1.frz 2 (by simp)
      have rf3 := HX.out.1.2.2.1.frz 3 (by simp)
      go_wp2
      exact bodyPost_ret (v := .tuple #[.agg #[.int .i64 ep, .int .i64 du, .slice a8 (ms.length - 1) c8, .slice a2 en.length k2], .bool true]) (by simp [results, Try.results41, go_sem, *]) rfl (StX.fin (T1 := fun k => S1 k ∨ (Value.slice a8 (ms.length - 1) c8).ownBlock = some k) (T2 := S2) HN.out (TurnS.of_below HX.out.2.1) HX.out.2.2.1 (HO.out.1.next HX.out.2.1) (fun j q => by
        have hz2 := HX.out.1.2.2.2.2
        rcases q with r | r
        · exact ⟨Or.inl (HO.out.2.2.1 j r), by have h2 := HO.out.2.2.2.2.2 j (HO.out.2.2.1 j r); omega⟩
        · have h3 := HX.out.2.2.2 j r; exact ⟨Or.inr (by simp only [Btw]; omega), by omega⟩) (fun j q => ⟨Or.inl (HO.out.2.2.2.1 j q), by have h2 := HO.out.2.2.2.2.2 j (HO.out.2.2.2.1 j q); omega⟩) (fun j q z => by
        rcases q with r | r
        · exact HO.out.2.2.2.2.1 j r z
        · have h3 := HX.out.2.2.2 j r; have h2 := HO.out.2.2.2.2.2 j (HO.out.2.2.2.1 j z); have hz2 := HX.out.1.2.2.2.2; omega))
  ·
    try rw [← HAD.out]
    (first | (have d2 := HB5.out.1.1.cell 2 rfl; have dz := HB5.out.1.1.2) | (have d2 := HB1.out.1.1.cell 2 rfl; have dz := HB1.out.1.1.2) | (have d2 := HBd.out.1.1.cell 2 rfl; have dz := HBd.out.1.1.2))
    go_wp2_with fail
    clear d2 dz
    refine hK.out _ _ trivial (fun hHeld => ?_)
    clear hK KC
    refine take_v (v := ?_) 4 ⟨some 144, Op.slice 26 (Operand.tmp 142) none (some (Operand.tmp 143)) none, _, _, _, none⟩ rfl (fun _ _ _ h => h) ?_ hHeld ?_
    rotate_left
    · (intro W _; go_simp <;> (try with_reducible rfl))
    refine ready_two 0 7 ⟨some 140, Op.buildSlice 26 0 #[], _, _, _, none⟩ ⟨some 147, Op.load 26 (Operand.tmp 146), _, _, _, none⟩ (by kernel_rfl) rfl rfl (by kernel_rfl) (by kernel_rfl) (fun KC hK => ?_) (fun KC hK => ?_)
    ·
      try rw [← HAD.out]
      go_wp2_with fail
      obtain ⟨Y1, hY1⟩ : ∃ x, x = Y0.alloc (.cells #[] 37) := ⟨_, rfl⟩
      have HB1 : Hid (SpB w Y1 [.int .i64 ep, .int .i64 du, .slice (some ⟨g, 0, none⟩) ms.length k1, .slice a2 en.length k2] [.int .i64 (5), .int .i64 b, .int .i64 n] [.int .i64 x0, .int .i64 x1, .slice ar x2.length kr, .int .i64 x3] w1.heap.size ∧ Below w.heap.size w Y1 ∧ Y1.heap.size = Y0.heap.size + 1 ∧ Y1.ownsRow lo 37 4 (.slice (some ⟨Y0.heap.size, 0, none⟩) 0 0) 0 [] ∧ lo ≤ Y1.heap.size) := Hid.intro (by
        have hb := Go.Joins.below_alloc1 Y0 (.cells #[] 37)
        have hz : lo ≤ Y0.heap.size := Nat.le_trans hlo HBd.out.2.1.size
        have hx : (Y0.alloc (.cells #[] 37)).ownsRow lo 37 4 (.slice (some ⟨Y0.heap.size, 0, none⟩) 0 0) 0 [] := World.ownsRow_made Y0 #[] 0 hz (Nat.zero_le _) (by simp)
        exact hY1 ▸ ⟨HBd.out.1.next hb, below_next HBd.out.2.1 hb, by simp, hx, Nat.le_trans hz hb.size⟩)
      rw [← hY1]
      clear hY1
      refine hK.out _ _ trivial (fun hHeld => ?_)
      clear hK KC
      refine ready_two 5 7 ⟨some 145, Op.call { callee := Callee.builtin Builtin.append, args := #[Operand.tmp 140, Operand.tmp 144], argTypes := #[26, 26] }, _, _, _, none⟩ ⟨some 147, Op.load 26 (Operand.tmp 146), _, _, _, none⟩ (by kernel_rfl) rfl rfl (by kernel_rfl) (by kernel_rfl) (fun KC hK => ?_) (fun KC hK => ?_)
      ·
        try rw [← HAD.out]
        refine wp_append_at _ (.tmp 140) (.tmp 144) 26 (by rfl) lo 37 i2 (.agg #[.int .i64 0, .int .i64 0, .slice none 0 0, .int .i64 0]) 4 48 Try.underlying26 hi2 hx0 hx1 hx2 rfl (by decide) (.slice (some ⟨Y0.heap.size, 0, none⟩) 0 0) 0 [] (by rfl) HB1.out.2.2.2.1 ⟨g, 0, none⟩ i k1 (xs.take (i * 4)) (by rfl) (by rw [List.length_take, HXS.out.1]; omega) (fun j u hu => by
          have hj : j < i * 4 := by have := (List.getElem?_eq_some_iff.1 hu).1; rw [List.length_take] at this; omega
          rw [List.getElem?_take_of_lt hj] at hu
          have := (World.cell?_of_block (a := ⟨g, j, none⟩) (HB1.out.2.1.block g hgl)).trans (HXS.out.2.1 j u hu)
          rw [add0, Nat.zero_add]
          exact this) (fun u hu => HXS.out.2.2 u (List.mem_of_mem_take hu)) (by unfold maxLen; omega) (by omega) HB1.out.2.2.2.2 ?_
        intro v5 Y5 hr5 hg5 hwh5
        have HB5 : Hid (SpB w Y5 [.int .i64 ep, .int .i64 du, .slice (some ⟨g, 0, none⟩) ms.length k1, .slice a2 en.length k2] [.int .i64 (5), .int .i64 b, .int .i64 n] [.int .i64 x0, .int .i64 x1, .slice ar x2.length kr, .int .i64 x3] w1.heap.size ∧ Below w.heap.size w Y5 ∧ Y5.ownsRow lo 37 4 v5 (0 + i) ([] ++ xs.take (i * 4)) ∧ (∀ j, v5.ownBlock = some j → Y0.heap.size ≤ j) ∧ lo ≤ Y5.heap.size ∧ Y1.heap.size ≤ Y5.heap.size) := Hid.intro (by
          have hz1 := HBd.out.2.2
          have hz2 := HBd.out.1.2.2.2.2
          have hz3 := HB1.out.2.2.1
          have hrow : ∀ j, (Value.slice (some ⟨Y0.heap.size, 0, none⟩) 0 0).ownBlock = some j → j = Y0.heap.size := fun j q => by cases q; rfl
          refine ⟨HB1.out.1.grow hg5 (fun j q => Or.inr (by have := hrow j q; omega)), HB1.out.2.1.grown hg5 HB1.out.2.1.size (fun j q => by have := hrow j q; omega), hr5, fun j q => ?_, Nat.le_trans HB1.out.2.2.2.2 hg5.size, hg5.size⟩
          rcases hwh5 with r | r
          · rw [r] at q; have := hrow j q; omega
          · rw [r] at q; cases q; omega)
        clear hr5 hg5 hwh5
        refine hK.out _ _ trivial (fun hHeld => ?_)
        clear hK KC
        refine ready_call 7 ⟨some 147, Op.load 26 (Operand.tmp 146), _, _, _, none⟩ (by kernel_rfl) rfl (by kernel_rfl) (fun KC hK => ?_)
        try rw [← HAD.out]
        (first | (have d2 := HB5.out.1.1.cell 2 rfl; have dz := HB5.out.1.1.2) | (have d2 := HB1.out.1.1.cell 2 rfl; have dz := HB1.out.1.1.2) | (have d2 := HBd.out.1.1.cell 2 rfl; have dz := HBd.out.1.1.2))
        go_wp2_with fail
        clear d2 dz
        refine hK.out _ _ trivial (fun hHeld => ?_)
        clear hK KC
        refine take_v (v := ?_) 10 ⟨some 150, Op.slice 26 (Operand.tmp 147) (some (Operand.tmp 149)) none none, _, _, _, none⟩ rfl (fun _ _ _ h => h) ?_ hHeld ?_
        rotate_left
        · (intro W _; go_simp <;> (try with_reducible rfl))
        refine ready_call 11 ⟨some 151, Op.call { callee := Callee.builtin Builtin.append, args := #[Operand.tmp 145, Operand.tmp 150], argTypes := #[26, 26] }, _, _, _, none⟩ (by kernel_rfl) rfl (by kernel_rfl) (fun KC hK => ?_)
        try rw [← HAD.out]
        refine wp_append_at _ (.tmp 145) (.tmp 150) 26 (by rfl) lo 37 i2 (.agg #[.int .i64 0, .int .i64 0, .slice none 0 0, .int .i64 0]) 4 48 Try.underlying26 hi2 hx0 hx1 hx2 rfl (by decide) v5 (0 + i) ([] ++ xs.take (i * 4)) (by rfl) HB5.out.2.2.1 ADD (ms.length - (i + 1)) (k1 - (i + 1)) (xs.drop ((i + 1) * 4)) (by rfl) (by rw [List.length_drop, HXS.out.1]; omega) (fun j u hu => by
          have h := HAC.out j u hu
          by_cases q : k1 = i + 1
          · rw [List.drop_eq_nil_of_le (by rw [HXS.out.1]; omega)] at hu
            cases hu
          · have ha : ADD = ⟨g, (i + 1) * 4, none⟩ := by have := HAD.out; rw [if_neg q] at this; exact Option.some.inj this
            rw [ha, add0] at h ⊢
            exact (World.cell?_of_block (a := ⟨g, (i + 1) * 4 + j, none⟩) (HB5.out.2.1.block g hgl)).trans h) (fun u hu => HXS.out.2.2 u (List.mem_of_mem_drop hu)) (by unfold maxLen; omega) (by omega) HB5.out.2.2.2.2.1 ?_
        intro v11 Y11 hr11 hg11 hwh11
        have HB11 : Hid (SpB w Y11 [.int .i64 ep, .int .i64 du, .slice (some ⟨g, 0, none⟩) ms.length k1, .slice a2 en.length k2] [.int .i64 (5), .int .i64 b, .int .i64 n] [.int .i64 x0, .int .i64 x1, .slice ar x2.length kr, .int .i64 x3] w1.heap.size ∧ Below w.heap.size w Y11 ∧ Y11.ownsRow lo 37 4 v11 (ms.length - 1) (xs.take (i * 4) ++ xs.drop ((i + 1) * 4)) ∧ (∀ j, v11.ownBlock = some j → Y0.heap.size ≤ j ∧ j < Y11.heap.size)) := Hid.intro (by
          have hz1 := HBd.out.2.2
          have hz2 := HBd.out.1.2.2.2.2
          have hz3 := HB1.out.2.2.1
          have hz5 := HB5.out.2.2.2.2.2
          have he : 0 + i + (ms.length - (i + 1)) = ms.length - 1 := by omega
          rw [List.nil_append, he] at hr11
          refine ⟨HB5.out.1.grow hg11 (fun j q => Or.inr (by have := HB5.out.2.2.2.1 j q; omega)), HB5.out.2.1.grown hg11 HB5.out.2.1.size (fun j q => by have := HB5.out.2.2.2.1 j q; omega), hr11, fun j q => ⟨?_, (hr11.lt j q).2⟩⟩
          rcases hwh11 with r | r
          · rw [r] at q; exact HB5.out.2.2.2.1 j q
          · rw [r] at q; cases q; omega)
        clear hr11 hg11 hwh11
        refine hK.out _ _ trivial (fun hHeld => ?_)
        clear hK KC
        refine take_v (v := ?_) 12 ⟨some 152, Op.fieldAddr 29 (Operand.tmp 2) 2, _, _, _, none⟩ rfl (fun _ _ _ h => h) ?_ hHeld ?_
        rotate_left
        · (intro W _; go_simp <;> (try with_reducible rfl))
        refine ready_call 13 ⟨none, Op.store 26 (Operand.tmp 152) (Operand.tmp 151), _, _, _, none⟩ (by kernel_rfl) rfl (by kernel_rfl) (fun KC hK => ?_)
        try rw [← HAD.out]
        obtain ⟨a8, c8, hv8⟩ : ∃ a8 c8, v11 = .slice a8 (ms.length - 1) c8 := by
          rcases Go.Joins.ownsRow_forms HB11.out.2.2.1 with ⟨hv, h0⟩ | ⟨gq, cq, hv⟩
          · exact ⟨none, 0, by rw [hv, h0]⟩
          · exact ⟨_, cq, hv⟩
        subst hv8
        have d2 := HB11.out.1.1.cell 2 rfl
        have dz := HB11.out.1.1.2
        have df := HB11.out.1.1.frz 2 (by simp)
        go_wp2_with fail
        clear d2 dz df
        refine hK.out _ _ trivial (fun hHeld => ?_)
        clear hK KC
        refine wpAnyH_done (by kernel_rfl) ?_ _
        refine NoPanic.normal ?_
        clear hHeld
        obtain ⟨X, hXe⟩ : ∃ x, x = Y11.setCell ⟨w.heap.size, 2, none⟩ (.slice a8 (ms.length - 1) c8) := ⟨_, rfl⟩
        have HX : Hid (SpB w X [.int .i64 ep, .int .i64 du, .slice a8 (ms.length - 1) c8, .slice a2 en.length k2] [.int .i64 (5), .int .i64 b, .int .i64 n] [.int .i64 x0, .int .i64 x1, .slice ar x2.length kr, .int .i64 x3] w1.heap.size ∧ Below w.heap.size w X ∧ OwnX X lo (.list tyMember 37) [.slice a8 (ms.length - 1) c8] (ms.eraseIdx i) (fun k => S1 k ∨ (Value.slice a8 (ms.length - 1) c8).ownBlock = some k) ∧ (∀ j, (Value.slice a8 (ms.length - 1) c8).ownBlock = some j → w1.heap.size < j ∧ j < X.heap.size)) := Hid.intro (by
          have hz1 := HBd.out.2.2
          have hz2 := HBd.out.1.2.2.2.2
          have hB : Below w.heap.size w X := hXe ▸ HB11.out.2.1.setCell (p := ⟨w.heap.size, 2, none⟩) (Nat.le_refl _) _
          have hr : X.ownsRow lo 37 4 (.slice a8 (ms.length - 1) c8) (ms.length - 1) (xs.take (i * 4) ++ xs.drop ((i + 1) * 4)) := by
            rw [hXe]
            exact ownsRow_turn HB11.out.2.2.1 (turn_set _ ⟨w.heap.size, 2, none⟩ _) (fun j q z => by have h1 := (HB11.out.2.2.2 j q).1; have z : j = w.heap.size := z; omega)
          refine ⟨hXe ▸ HB11.out.1.setF (j := 2) (by simp) _, hB, HMK.out X _ (fun b hb _ => hB.block b hb) hr (fun j q z => ?_), fun j q => ?_⟩
          · have h1 := (HB11.out.2.2.2 j q).1; have h2 := HO.out.2.2.2.2.2 j (HO.out.2.2.1 j z); omega
          · have h1 := HB11.out.2.2.2 j q; rw [hXe, World.size_setCell]; omega)
        rw [← hXe]
        clear hXe
        have s0 := (HX.out.1.1).cell 0 rfl; have s1 := (HX.out.1.1).cell 1 rfl; have s2 := (HX.out.1.1).cell 2 rfl; have s3 := (HX.out.1.1).cell 3 rfl; have sz := (HX.out.1.1).2
        have r0 := (HX.out.1.2.2.1).cell 0 rfl; have r1 := (HX.out.1.2.2.1).cell 1 rfl; have r2 := (HX.out.1.2.2.1).cell 2 rfl; have r3 := (HX.out.1.2.2.1).cell 3 rfl; have rz := (HX.out.1.2.2.1).2
        have m0 := (HX.out.1.2.2.2.1).cell 0 rfl; have m1 := (HX.out.1.2.2.2.1).cell 1 rfl; have m2 := (HX.out.1.2.2.2.1).cell 2 rfl; have m3 := (HX.out.1.2.2.2.1).cell 3 rfl; have mz := (HX.out.1.2.2.2.1).2
        have rf0 := HX.out.1.2.2.1.frz 0 (by simp)
        have rf1 := HX.out.1.2.2.1.frz 1 (by simp)
        have rf2 := HX.out.1.2.2.1.frz 2 (by simp)
        have rf3 := HX.out.1.2.2.1.frz 3 (by simp)
        go_wp2
        exact bodyPost_ret (v := .tuple #[.agg #[.int .i64 ep, .int .i64 du, .slice a8 (ms.length - 1) c8, .slice a2 en.length k2], .bool true]) (by simp [results, Try.results41, go_sem, *]) rfl (StX.fin (T1 := fun k => S1 k ∨ (Value.slice a8 (ms.length - 1) c8).ownBlock = some k) (T2 := S2) HN.out (TurnS.of_below HX.out.2.1) HX.out.2.2.1 (HO.out.1.next HX.out.2.1) (fun j q => by
          have hz2 := HX.out.1.2.2.2.2
          rcases q with r | r
          · exact ⟨Or.inl (HO.out.2.2.1 j r), by have h2 := HO.out.2.2.2.2.2 j (HO.out.2.2.1 j r); omega⟩
          · have h3 := HX.out.2.2.2 j r; exact ⟨Or.inr (by simp only [Btw]; omega), by omega⟩) (fun j q => ⟨Or.inl (HO.out.2.2.2.1 j q), by have h2 := HO.out.2.2.2.2.2 j (HO.out.2.2.2.1 j q); omega⟩) (fun j q z => by
          rcases q with r | r
          · exact HO.out.2.2.2.2.1 j r z
          · have h3 := HX.out.2.2.2 j r; have h2 := HO.out.2.2.2.2.2 j (HO.out.2.2.2.1 j z); have hz2 := HX.out.1.2.2.2.2; omega))
      ·
        try rw [← HAD.out]
        (first | (have d2 := HB5.out.1.1.cell 2 rfl; have dz := HB5.out.1.1.2) | (have d2 := HB1.out.1.1.cell 2 rfl; have dz := HB1.out.1.1.2) | (have d2 := HBd.out.1.1.cell 2 rfl; have dz := HBd.out.1.1.2))
        go_wp2_with fail
        clear d2 dz
        refine hK.out _ _ trivial (fun hHeld => ?_)
        clear hK KC
        refine take_v (v := ?_) 10 ⟨some 150, Op.slice 26 (Operand.tmp 147) (some (Operand.tmp 149)) none none, _, _, _, none⟩ rfl (fun _ _ _ h => h) ?_ hHeld ?_
        rotate_left
        · (intro W _; go_simp <;> (try with_reducible rfl))
        refine ready_call 5 ⟨some 145, Op.call { callee := Callee.builtin Builtin.append, args := #[Operand.tmp 140, Operand.tmp 144], argTypes := #[26, 26] }, _, _, _, none⟩ (by kernel_rfl) rfl (by kernel_rfl) (fun KC hK => ?_)
        try rw [← HAD.out]
        refine wp_append_at _ (.tmp 140) (.tmp 144) 26 (by rfl) lo 37 i2 (.agg #[.int .i64 0, .int .i64 0, .slice none 0 0, .int .i64 0]) 4 48 Try.underlying26 hi2 hx0 hx1 hx2 rfl (by decide) (.slice (some ⟨Y0.heap.size, 0, none⟩) 0 0) 0 [] (by rfl) HB1.out.2.2.2.1 ⟨g, 0, none⟩ i k1 (xs.take (i * 4)) (by rfl) (by rw [List.length_take, HXS.out.1]; omega) (fun j u hu => by
          have hj : j < i * 4 := by have := (List.getElem?_eq_some_iff.1 hu).1; rw [List.length_take] at this; omega
          rw [List.getElem?_take_of_lt hj] at hu
          have := (World.cell?_of_block (a := ⟨g, j, none⟩) (HB1.out.2.1.block g hgl)).trans (HXS.out.2.1 j u hu)
          rw [add0, Nat.zero_add]
          exact this) (fun u hu => HXS.out.2.2 u (List.mem_of_mem_take hu)) (by unfold maxLen; omega) (by omega) HB1.out.2.2.2.2 ?_
        intro v5 Y5 hr5 hg5 hwh5
        have HB5 : Hid (SpB w Y5 [.int .i64 ep, .int .i64 du, .slice (some ⟨g, 0, none⟩) ms.length k1, .slice a2 en.length k2] [.int .i64 (5), .int .i64 b, .int .i64 n] [.int .i64 x0, .int .i64 x1, .slice ar x2.length kr, .int .i64 x3] w1.heap.size ∧ Below w.heap.size w Y5 ∧ Y5.ownsRow lo 37 4 v5 (0 + i) ([] ++ xs.take (i * 4)) ∧ (∀ j, v5.ownBlock = some j → Y0.heap.size ≤ j) ∧ lo ≤ Y5.heap.size ∧ Y1.heap.size ≤ Y5.heap.size) := Hid.intro (by
          have hz1 := HBd.out.2.2
          have hz2 := HBd.out.1.2.2.2.2
          have hz3 := HB1.out.2.2.1
          have hrow : ∀ j, (Value.slice (some ⟨Y0.heap.size, 0, none⟩) 0 0).ownBlock = some j → j = Y0.heap.size := fun j q => by cases q; rfl
          refine ⟨HB1.out.1.grow hg5 (fun j q => Or.inr (by have := hrow j q; omega)), HB1.out.2.1.grown hg5 HB1.out.2.1.size (fun j q => by have := hrow j q; omega), hr5, fun j q => ?_, Nat.le_trans HB1.out.2.2.2.2 hg5.size, hg5.size⟩
          rcases hwh5 with r | r
          · rw [r] at q; have := hrow j q; omega
          · rw [r] at q; cases q; omega)
        clear hr5 hg5 hwh5
        refine hK.out _ _ trivial (fun hHeld => ?_)
        clear hK KC
        refine ready_call 11 ⟨some 151, Op.call { callee := Callee.builtin Builtin.append, args := #[Operand.tmp 145, Operand.tmp 150], argTypes := #[26, 26] }, _, _, _, none⟩ (by kernel_rfl) rfl (by kernel_rfl) (fun KC hK => ?_)
        try rw [← HAD.out]
        refine wp_append_at _ (.tmp 145) (.tmp 150) 26 (by rfl) lo 37 i2 (.agg #[.int .i64 0, .int .i64 0, .slice none 0 0, .int .i64 0]) 4 48 Try.underlying26 hi2 hx0 hx1 hx2 rfl (by decide) v5 (0 + i) ([] ++ xs.take (i * 4)) (by rfl) HB5.out.2.2.1 ADD (ms.length - (i + 1)) (k1 - (i + 1)) (xs.drop ((i + 1) * 4)) (by rfl) (by rw [List.length_drop, HXS.out.1]; omega) (fun j u hu => by
          have h := HAC.out j u hu
          by_cases q : k1 = i + 1
          · rw [List.drop_eq_nil_of_le (by rw [HXS.out.1]; omega)] at hu
            cases hu
          · have ha : ADD = ⟨g, (i + 1) * 4, none⟩ := by have := HAD.out; rw [if_neg q] at this; exact Option.some.inj this
            rw [ha, add0] at h ⊢
            exact (World.cell?_of_block (a := ⟨g, (i + 1) * 4 + j, none⟩) (HB5.out.2.1.block g hgl)).trans h) (fun u hu => HXS.out.2.2 u (List.mem_of_mem_drop hu)) (by unfold maxLen; omega) (by omega) HB5.out.2.2.2.2.1 ?_
        intro v11 Y11 hr11 hg11 hwh11
        have HB11 : Hid (SpB w Y11 [.int .i64 ep, .int .i64 du, .slice (some ⟨g, 0, none⟩) ms.length k1, .slice a2 en.length k2] [.int .i64 (5), .int .i64 b, .int .i64 n] [.int .i64 x0, .int .i64 x1, .slice ar x2.length kr, .int .i64 x3] w1.heap.size ∧ Below w.heap.size w Y11 ∧ Y11.ownsRow lo 37 4 v11 (ms.length - 1) (xs.take (i * 4) ++ xs.drop ((i + 1) * 4)) ∧ (∀ j, v11.ownBlock = some j → Y0.heap.size ≤ j ∧ j < Y11.heap.size)) := Hid.intro (by
          have hz1 := HBd.out.2.2
          have hz2 := HBd.out.1.2.2.2.2
          have hz3 := HB1.out.2.2.1
          have hz5 := HB5.out.2.2.2.2.2
          have he : 0 + i + (ms.length - (i + 1)) = ms.length - 1 := by omega
          rw [List.nil_append, he] at hr11
          refine ⟨HB5.out.1.grow hg11 (fun j q => Or.inr (by have := HB5.out.2.2.2.1 j q; omega)), HB5.out.2.1.grown hg11 HB5.out.2.1.size (fun j q => by have := HB5.out.2.2.2.1 j q; omega), hr11, fun j q => ⟨?_, (hr11.lt j q).2⟩⟩
          rcases hwh11 with r | r
          · rw [r] at q; exact HB5.out.2.2.2.1 j q
          · rw [r] at q; cases q; omega)
        clear hr11 hg11 hwh11
        refine hK.out _ _ trivial (fun hHeld => ?_)
        clear hK KC
        refine take_v (v := ?_) 12 ⟨some 152, Op.fieldAddr 29 (Operand.tmp 2) 2, _, _, _, none⟩ rfl (fun _ _ _ h => h) ?_ hHeld ?_
        rotate_left
        · (intro W _; go_simp <;> (try with_reducible rfl))
        refine ready_call 13 ⟨none, Op.store 26 (Operand.tmp 152) (Operand.tmp 151), _, _, _, none⟩ (by kernel_rfl) rfl (by kernel_rfl) (fun KC hK => ?_)
        try rw [← HAD.out]
        obtain ⟨a8, c8, hv8⟩ : ∃ a8 c8, v11 = .slice a8 (ms.length - 1) c8 := by
          rcases Go.Joins.ownsRow_forms HB11.out.2.2.1 with ⟨hv, h0⟩ | ⟨gq, cq, hv⟩
          · exact ⟨none, 0, by rw [hv, h0]⟩
          · exact ⟨_, cq, hv⟩
        subst hv8
        have d2 := HB11.out.1.1.cell 2 rfl
        have dz := HB11.out.1.1.2
        have df := HB11.out.1.1.frz 2 (by simp)
        go_wp2_with fail
        clear d2 dz df
        refine hK.out _ _ trivial (fun hHeld => ?_)
        clear hK KC
        refine wpAnyH_done (by kernel_rfl) ?_ _
        refine NoPanic.normal ?_
        clear hHeld
        obtain ⟨X, hXe⟩ : ∃ x, x = Y11.setCell ⟨w.heap.size, 2, none⟩ (.slice a8 (ms.length - 1) c8) := ⟨_, rfl⟩
        have HX : Hid (SpB w X [.int .i64 ep, .int .i64 du, .slice a8 (ms.length - 1) c8, .slice a2 en.length k2] [.int .i64 (5), .int .i64 b, .int .i64 n] [.int .i64 x0, .int .i64 x1, .slice ar x2.length kr, .int .i64 x3] w1.heap.size ∧ Below w.heap.size w X ∧ OwnX X lo (.list tyMember 37) [.slice a8 (ms.length - 1) c8] (ms.eraseIdx i) (fun k => S1 k ∨ (Value.slice a8 (ms.length - 1) c8).ownBlock = some k) ∧ (∀ j, (Value.slice a8 (ms.length - 1) c8).ownBlock = some j → w1.heap.size < j ∧ j < X.heap.size)) := Hid.intro (by
          have hz1 := HBd.out.2.2
          have hz2 := HBd.out.1.2.2.2.2
          have hB : Below w.heap.size w X := hXe ▸ HB11.out.2.1.setCell (p := ⟨w.heap.size, 2, none⟩) (Nat.le_refl _) _
          have hr : X.ownsRow lo 37 4 (.slice a8 (ms.length - 1) c8) (ms.length - 1) (xs.take (i * 4) ++ xs.drop ((i + 1) * 4)) := by
            rw [hXe]
            exact ownsRow_turn HB11.out.2.2.1 (turn_set _ ⟨w.heap.size, 2, none⟩ _) (fun j q z => by have h1 := (HB11.out.2.2.2 j q).1; have z : j = w.heap.size := z; omega)
          refine ⟨hXe ▸ HB11.out.1.setF (j := 2) (by simp) _, hB, HMK.out X _ (fun b hb _ => hB.block b hb) hr (fun j q z => ?_), fun j q => ?_⟩
          · have h1 := (HB11.out.2.2.2 j q).1; have h2 := HO.out.2.2.2.2.2 j (HO.out.2.2.1 j z); omega
          · have h1 := HB11.out.2.2.2 j q; rw [hXe, World.size_setCell]; omega)
        rw [← hXe]
        clear hXe
        have s0 := (HX.out.1.1).cell 0 rfl; have s1 := (HX.out.1.1).cell 1 rfl; have s2 := (HX.out.1.1).cell 2 rfl; have s3 := (HX.out.1.1).cell 3 rfl; have sz := (HX.out.1.1).2
        have r0 := (HX.out.1.2.2.1).cell 0 rfl; have r1 := (HX.out.1.2.2.1).cell 1 rfl; have r2 := (HX.out.1.2.2.1).cell 2 rfl; have r3 := (HX.out.1.2.2.1).cell 3 rfl; have rz := (HX.out.1.2.2.1).2
        have m0 := (HX.out.1.2.2.2.1).cell 0 rfl; have m1 := (HX.out.1.2.2.2.1).cell 1 rfl; have m2 := (HX.out.1.2.2.2.1).cell 2 rfl; have m3 := (HX.out.1.2.2.2.1).cell 3 rfl; have mz := (HX.out.1.2.2.2.1).2
        have rf0 := HX.out.1.2.2.1.frz 0 (by simp)
        have rf1 := HX.out.1.2.2.1.frz 1 (by simp)
        have rf2 := HX.out.1.2.2.1.frz 2 (by simp)
        have rf3 := HX.out.1.2.2.1.frz 3 (by simp)
        go_wp2
        exact bodyPost_ret (v := .tuple #[.agg #[.int .i64 ep, .int .i64 du, .slice a8 (ms.length - 1) c8, .slice a2 en.length k2], .bool true]) (by simp [results, Try.results41, go_sem, *]) rfl (StX.fin (T1 := fun k => S1 k ∨ (Value.slice a8 (ms.length - 1) c8).ownBlock = some k) (T2 := S2) HN.out (TurnS.of_below HX.out.2.1) HX.out.2.2.1 (HO.out.1.next HX.out.2.1) (fun j q => by
          have hz2 := HX.out.1.2.2.2.2
          rcases q with r | r
          · exact ⟨Or.inl (HO.out.2.2.1 j r), by have h2 := HO.out.2.2.2.2.2 j (HO.out.2.2.1 j r); omega⟩
          · have h3 := HX.out.2.2.2 j r; exact ⟨Or.inr (by simp only [Btw]; omega), by omega⟩) (fun j q => ⟨Or.inl (HO.out.2.2.2.1 j q), by have h2 := HO.out.2.2.2.2.2 j (HO.out.2.2.2.1 j q); omega⟩) (fun j q z => by
          rcases q with r | r
          · exact HO.out.2.2.2.2.1 j r z
          · have h3 := HX.out.2.2.2 j r; have h2 := HO.out.2.2.2.2.2 j (HO.out.2.2.2.1 j z); have hz2 := HX.out.1.2.2.2.2; omega))
    ·
      try rw [← HAD.out]
      (first | (have d2 := HB5.out.1.1.cell 2 rfl; have dz := HB5.out.1.1.2) | (have d2 := HB1.out.1.1.cell 2 rfl; have dz := HB1.out.1.1.2) | (have d2 := HBd.out.1.1.cell 2 rfl; have dz := HBd.out.1.1.2))
      go_wp2_with fail
      clear d2 dz
      refine hK.out _ _ trivial (fun hHeld => ?_)
      clear hK KC
      refine take_v (v := ?_) 10 ⟨some 150, Op.slice 26 (Operand.tmp 147) (some (Operand.tmp 149)) none none, _, _, _, none⟩ rfl (fun _ _ _ h => h) ?_ hHeld ?_
      rotate_left
      · (intro W _; go_simp <;> (try with_reducible rfl))
      refine ready_call 0 ⟨some 140, Op.buildSlice 26 0 #[], _, _, _, none⟩ (by kernel_rfl) rfl (by kernel_rfl) (fun KC hK => ?_)
      try rw [← HAD.out]
      go_wp2_with fail
      obtain ⟨Y1, hY1⟩ : ∃ x, x = Y0.alloc (.cells #[] 37) := ⟨_, rfl⟩
      have HB1 : Hid (SpB w Y1 [.int .i64 ep, .int .i64 du, .slice (some ⟨g, 0, none⟩) ms.length k1, .slice a2 en.length k2] [.int .i64 (5), .int .i64 b, .int .i64 n] [.int .i64 x0, .int .i64 x1, .slice ar x2.length kr, .int .i64 x3] w1.heap.size ∧ Below w.heap.size w Y1 ∧ Y1.heap.size = Y0.heap.size + 1 ∧ Y1.ownsRow lo 37 4 (.slice (some ⟨Y0.heap.size, 0, none⟩) 0 0) 0 [] ∧ lo ≤ Y1.heap.size) := Hid.intro (by
        have hb := Go.Joins.below_alloc1 Y0 (.cells #[] 37)
        have hz : lo ≤ Y0.heap.size := Nat.le_trans hlo HBd.out.2.1.size
        have hx : (Y0.alloc (.cells #[] 37)).ownsRow lo 37 4 (.slice (some ⟨Y0.heap.size, 0, none⟩) 0 0) 0 [] := World.ownsRow_made Y0 #[] 0 hz (Nat.zero_le _) (by simp)
        exact hY1 ▸ ⟨HBd.out.1.next hb, below_next HBd.out.2.1 hb, by simp, hx, Nat.le_trans hz hb.size⟩)
      rw [← hY1]
      clear hY1
      refine hK.out _ _ trivial (fun hHeld => ?_)
      clear hK KC
      refine ready_call 5 ⟨some 145, Op.call { callee := Callee.builtin Builtin.append, args := #[Operand.tmp 140, Operand.tmp 144], argTypes := #[26, 26] }, _, _, _, none⟩ (by kernel_rfl) rfl (by kernel_rfl) (fun KC hK => ?_)
      try rw [← HAD.out]
      refine wp_append_at _ (.tmp 140) (.tmp 144) 26 (by rfl) lo 37 i2 (.agg #[.int .i64 0, .int .i64 0, .slice none 0 0, .int .i64 0]) 4 48 Try.underlying26 hi2 hx0 hx1 hx2 rfl (by decide) (.slice (some ⟨Y0.heap.size, 0, none⟩) 0 0) 0 [] (by rfl) HB1.out.2.2.2.1 ⟨g, 0, none⟩ i k1 (xs.take (i * 4)) (by rfl) (by rw [List.length_take, HXS.out.1]; omega) (fun j u hu => by
        have hj : j < i * 4 := by have := (List.getElem?_eq_some_iff.1 hu).1; rw [List.length_take] at this; omega
        rw [List.getElem?_take_of_lt hj] at hu
        have := (World.cell?_of_block (a := ⟨g, j, none⟩) (HB1.out.2.1.block g hgl)).trans (HXS.out.2.1 j u hu)
        rw [add0, Nat.zero_add]
        exact this) (fun u hu => HXS.out.2.2 u (List.mem_of_mem_take hu)) (by unfold maxLen; omega) (by omega) HB1.out.2.2.2.2 ?_
      intro v5 Y5 hr5 hg5 hwh5
      have HB5 : Hid (SpB w Y5 [.int .i64 ep, .int .i64 du, .slice (some ⟨g, 0, none⟩) ms.length k1, .slice a2 en.length k2] [.int .i64 (5), .int .i64 b, .int .i64 n] [.int .i64 x0, .int .i64 x1, .slice ar x2.length kr, .int .i64 x3] w1.heap.size ∧ Below w.heap.size w Y5 ∧ Y5.ownsRow lo 37 4 v5 (0 + i) ([] ++ xs.take (i * 4)) ∧ (∀ j, v5.ownBlock = some j → Y0.heap.size ≤ j) ∧ lo ≤ Y5.heap.size ∧ Y1.heap.size ≤ Y5.heap.size) := Hid.intro (by
        have hz1 := HBd.out.2.2
        have hz2 := HBd.out.1.2.2.2.2
        have hz3 := HB1.out.2.2.1
        have hrow : ∀ j, (Value.slice (some ⟨Y0.heap.size, 0, none⟩) 0 0).ownBlock = some j → j = Y0.heap.size := fun j q => by cases q; rfl
        refine ⟨HB1.out.1.grow hg5 (fun j q => Or.inr (by have := hrow j q; omega)), HB1.out.2.1.grown hg5 HB1.out.2.1.size (fun j q => by have := hrow j q; omega), hr5, fun j q => ?_, Nat.le_trans HB1.out.2.2.2.2 hg5.size, hg5.size⟩
        rcases hwh5 with r | r
        · rw [r] at q; have := hrow j q; omega
        · rw [r] at q; cases q; omega)
      clear hr5 hg5 hwh5
      refine hK.out _ _ trivial (fun hHeld => ?_)
      clear hK KC
      refine ready_call 11 ⟨some 151, Op.call { callee := Callee.builtin Builtin.append, args := #[Operand.tmp 145, Operand.tmp 150], argTypes := #[26, 26] }, _, _, _, none⟩ (by kernel_rfl) rfl (by kernel_rfl) (fun KC hK => ?_)
      try rw [← HAD.out]
      refine wp_append_at _ (.tmp 145) (.tmp 150) 26 (by rfl) lo 37 i2 (.agg #[.int .i64 0, .int .i64 0, .slice none 0 0, .int .i64 0]) 4 48 Try.underlying26 hi2 hx0 hx1 hx2 rfl (by decide) v5 (0 + i) ([] ++ xs.take (i * 4)) (by rfl) HB5.out.2.2.1 ADD (ms.length - (i + 1)) (k1 - (i + 1)) (xs.drop ((i + 1) * 4)) (by rfl) (by rw [List.length_drop, HXS.out.1]; omega) (fun j u hu => by
        have h := HAC.out j u hu
        by_cases q : k1 = i + 1
        · rw [List.drop_eq_nil_of_le (by rw [HXS.out.1]; omega)] at hu
          cases hu
        · have ha : ADD = ⟨g, (i + 1) * 4, none⟩ := by have := HAD.out; rw [if_neg q] at this; exact Option.some.inj this
          rw [ha, add0] at h ⊢
          exact (World.cell?_of_block (a := ⟨g, (i + 1) * 4 + j, none⟩) (HB5.out.2.1.block g hgl)).trans h) (fun u hu => HXS.out.2.2 u (List.mem_of_mem_drop hu)) (by unfold maxLen; omega) (by omega) HB5.out.2.2.2.2.1 ?_
      intro v11 Y11 hr11 hg11 hwh11
      have HB11 : Hid (SpB w Y11 [.int .i64 ep, .int .i64 du, .slice (some ⟨g, 0, none⟩) ms.length k1, .slice a2 en.length k2] [.int .i64 (5), .int .i64 b, .int .i64 n] [.int .i64 x0, .int .i64 x1, .slice ar x2.length kr, .int .i64 x3] w1.heap.size ∧ Below w.heap.size w Y11 ∧ Y11.ownsRow lo 37 4 v11 (ms.length - 1) (xs.take (i * 4) ++ xs.drop ((i + 1) * 4)) ∧ (∀ j, v11.ownBlock = some j → Y0.heap.size ≤ j ∧ j < Y11.heap.size)) := Hid.intro (by
        have hz1 := HBd.out.2.2
        have hz2 := HBd.out.1.2.2.2.2
        have hz3 := HB1.out.2.2.1
        have hz5 := HB5.out.2.2.2.2.2
        have he : 0 + i + (ms.length - (i + 1)) = ms.length - 1 := by omega
        rw [List.nil_append, he] at hr11
        refine ⟨HB5.out.1.grow hg11 (fun j q => Or.inr (by have := HB5.out.2.2.2.1 j q; omega)), HB5.out.2.1.grown hg11 HB5.out.2.1.size (fun j q => by have := HB5.out.2.2.2.1 j q; omega), hr11, fun j q => ⟨?_, (hr11.lt j q).2⟩⟩
        rcases hwh11 with r | r
        · rw [r] at q; exact HB5.out.2.2.2.1 j q
        · rw [r] at q; cases q; omega)
      clear hr11 hg11 hwh11
      refine hK.out _ _ trivial (fun hHeld => ?_)
      clear hK KC
      refine take_v (v := ?_) 12 ⟨some 152, Op.fieldAddr 29 (Operand.tmp 2) 2, _, _, _, none⟩ rfl (fun _ _ _ h => h) ?_ hHeld ?_
      rotate_left
      · (intro W _; go_simp <;> (try with_reducible rfl))
      refine ready_call 13 ⟨none, Op.store 26 (Operand.tmp 152) (Operand.tmp 151), _, _, _, none⟩ (by kernel_rfl) rfl (by kernel_rfl) (fun KC hK => ?_)
      try rw [← HAD.out]
      obtain ⟨a8, c8, hv8⟩ : ∃ a8 c8, v11 = .slice a8 (ms.length - 1) c8 := by
        rcases Go.Joins.ownsRow_forms HB11.out.2.2.1 with ⟨hv, h0⟩ | ⟨gq, cq, hv⟩
        · exact ⟨none, 0, by rw [hv, h0]⟩
        · exact ⟨_, cq, hv⟩
      subst hv8
      have d2 := HB11.out.1.1.cell 2 rfl
      have dz := HB11.out.1.1.2
      have df := HB11.out.1.1.frz 2 (by simp)
      go_wp2_with fail
      clear d2 dz df
      refine hK.out _ _ trivial (fun hHeld => ?_)
      clear hK KC
      refine wpAnyH_done (by kernel_rfl) ?_ _
      refine NoPanic.normal ?_
      clear hHeld
      obtain ⟨X, hXe⟩ : ∃ x, x = Y11.setCell ⟨w.heap.size, 2, none⟩ (.slice a8 (ms.length - 1) c8) := ⟨_, rfl⟩
      have HX : Hid (SpB w X [.int .i64 ep, .int .i64 du, .slice a8 (ms.length - 1) c8, .slice a2 en.length k2] [.int .i64 (5), .int .i64 b, .int .i64 n] [.int .i64 x0, .int .i64 x1, .slice ar x2.length kr, .int .i64 x3] w1.heap.size ∧ Below w.heap.size w X ∧ OwnX X lo (.list tyMember 37) [.slice a8 (ms.length - 1) c8] (ms.eraseIdx i) (fun k => S1 k ∨ (Value.slice a8 (ms.length - 1) c8).ownBlock = some k) ∧ (∀ j, (Value.slice a8 (ms.length - 1) c8).ownBlock = some j → w1.heap.size < j ∧ j < X.heap.size)) := Hid.intro (by
        have hz1 := HBd.out.2.2
        have hz2 := HBd.out.1.2.2.2.2
        have hB : Below w.heap.size w X := hXe ▸ HB11.out.2.1.setCell (p := ⟨w.heap.size, 2, none⟩) (Nat.le_refl _) _
        have hr : X.ownsRow lo 37 4 (.slice a8 (ms.length - 1) c8) (ms.length - 1) (xs.take (i * 4) ++ xs.drop ((i + 1) * 4)) := by
          rw [hXe]
          exact ownsRow_turn HB11.out.2.2.1 (turn_set _ ⟨w.heap.size, 2, none⟩ _) (fun j q z => by have h1 := (HB11.out.2.2.2 j q).1; have z : j = w.heap.size := z; omega)
        refine ⟨hXe ▸ HB11.out.1.setF (j := 2) (by simp) _, hB, HMK.out X _ (fun b hb _ => hB.block b hb) hr (fun j q z => ?_), fun j q => ?_⟩
        · have h1 := (HB11.out.2.2.2 j q).1; have h2 := HO.out.2.2.2.2.2 j (HO.out.2.2.1 j z); omega
        · have h1 := HB11.out.2.2.2 j q; rw [hXe, World.size_setCell]; omega)
      rw [← hXe]
      clear hXe
      have s0 := (HX.out.1.1).cell 0 rfl; have s1 := (HX.out.1.1).cell 1 rfl; have s2 := (HX.out.1.1).cell 2 rfl; have s3 := (HX.out.1.1).cell 3 rfl; have sz := (HX.out.1.1).2
      have r0 := (HX.out.1.2.2.1).cell 0 rfl; have r1 := (HX.out.1.2.2.1).cell 1 rfl; have r2 := (HX.out.1.2.2.1).cell 2 rfl; have r3 := (HX.out.1.2.2.1).cell 3 rfl; have rz := (HX.out.1.2.2.1).2
      have m0 := (HX.out.1.2.2.2.1).cell 0 rfl; have m1 := (HX.out.1.2.2.2.1).cell 1 rfl; have m2 := (HX.out.1.2.2.2.1).cell 2 rfl; have m3 := (HX.out.1.2.2.2.1).cell 3 rfl; have mz := (HX.out.1.2.2.2.1).2
      have rf0 := HX.out.1.2.2.1.frz 0 (by simp)
      have rf1 := HX.out.1.2.2.1.frz 1 (by simp)
      have rf2 := HX.out.1.2.2.1.frz 2 (by simp)
      have rf3 := HX.out.1.2.2.1.frz 3 (by simp)
      go_wp2
      exact bodyPost_ret (v := .tuple #[.agg #[.int .i64 ep, .int .i64 du, .slice a8 (ms.length - 1) c8, .slice a2 en.length k2], .bool true]) (by simp [results, Try.results41, go_sem, *]) rfl (StX.fin (T1 := fun k => S1 k ∨ (Value.slice a8 (ms.length - 1) c8).ownBlock = some k) (T2 := S2) HN.out (TurnS.of_below HX.out.2.1) HX.out.2.2.1 (HO.out.1.next HX.out.2.1) (fun j q => by
        have hz2 := HX.out.1.2.2.2.2
        rcases q with r | r
        · exact ⟨Or.inl (HO.out.2.2.1 j r), by have h2 := HO.out.2.2.2.2.2 j (HO.out.2.2.1 j r); omega⟩
        · have h3 := HX.out.2.2.2 j r; exact ⟨Or.inr (by simp only [Btw]; omega), by omega⟩) (fun j q => ⟨Or.inl (HO.out.2.2.2.1 j q), by have h2 := HO.out.2.2.2.2.2 j (HO.out.2.2.2.1 j q); omega⟩) (fun j q z => by
        rcases q with r | r
        · exact HO.out.2.2.2.2.1 j r z
        · have h3 := HX.out.2.2.2 j r; have h2 := HO.out.2.2.2.2.2 j (HO.out.2.2.2.1 j z); have hz2 := HX.out.1.2.2.2.2; omega))
  ·
    try rw [← HAD.out]
    (first | (have d2 := HB5.out.1.1.cell 2 rfl; have dz := HB5.out.1.1.2) | (have d2 := HB1.out.1.1.cell 2 rfl; have dz := HB1.out.1.1.2) | (have d2 := HBd.out.1.1.cell 2 rfl; have dz := HBd.out.1.1.2))
    go_wp2_with fail
    clear d2 dz
    refine hK.out _ _ trivial (fun hHeld => ?_)
    clear hK KC
    refine take_v (v := ?_) 10 ⟨some 150, Op.slice 26 (Operand.tmp 147) (some (Operand.tmp 149)) none none, _, _, _, none⟩ rfl (fun _ _ _ h => h) ?_ hHeld ?_
    rotate_left
    · (intro W _; go_simp <;> (try with_reducible rfl))
    refine ready_two 0 2 ⟨some 140, Op.buildSlice 26 0 #[], _, _, _, none⟩ ⟨some 142, Op.load 26 (Operand.tmp 141), _, _, _, none⟩ (by kernel_rfl) rfl rfl (by kernel_rfl) (by kernel_rfl) (fun KC hK => ?_) (fun KC hK => ?_)
    ·
      try rw [← HAD.out]
      go_wp2_with fail
      obtain ⟨Y1, hY1⟩ : ∃ x, x = Y0.alloc (.cells #[] 37) := ⟨_, rfl⟩
      have HB1 : Hid (SpB w Y1 [.int .i64 ep, .int .i64 du, .slice (some ⟨g, 0, none⟩) ms.length k1, .slice a2 en.length k2] [.int .i64 (5), .int .i64 b, .int .i64 n] [.int .i64 x0, .int .i64 x1, .slice ar x2.length kr, .int .i64 x3] w1.heap.size ∧ Below w.heap.size w Y1 ∧ Y1.heap.size = Y0.heap.size + 1 ∧ Y1.ownsRow lo 37 4 (.slice (some ⟨Y0.heap.size, 0, none⟩) 0 0) 0 [] ∧ lo ≤ Y1.heap.size) := Hid.intro (by
        have hb := Go.Joins.below_alloc1 Y0 (.cells #[] 37)
        have hz : lo ≤ Y0.heap.size := Nat.le_trans hlo HBd.out.2.1.size
        have hx : (Y0.alloc (.cells #[] 37)).ownsRow lo 37 4 (.slice (some ⟨Y0.heap.size, 0, none⟩) 0 0) 0 [] := World.ownsRow_made Y0 #[] 0 hz (Nat.zero_le _) (by simp)
        exact hY1 ▸ ⟨HBd.out.1.next hb, below_next HBd.out.2.1 hb, by simp, hx, Nat.le_trans hz hb.size⟩)
      rw [← hY1]
      clear hY1
      refine hK.out _ _ trivial (fun hHeld => ?_)
      clear hK KC
      refine ready_call 2 ⟨some 142, Op.load 26 (Operand.tmp 141), _, _, _, none⟩ (by kernel_rfl) rfl (by kernel_rfl) (fun KC hK => ?_)
      try rw [← HAD.out]
      (first | (have d2 := HB5.out.1.1.cell 2 rfl; have dz := HB5.out.1.1.2) | (have d2 := HB1.out.1.1.cell 2 rfl; have dz := HB1.out.1.1.2) | (have d2 := HBd.out.1.1.cell 2 rfl; have dz := HBd.out.1.1.2))
      go_wp2_with fail
      clear d2 dz
      refine hK.out _ _ trivial (fun hHeld => ?_)
      clear hK KC
      refine take_v (v := ?_) 4 ⟨some 144, Op.slice 26 (Operand.tmp 142) none (some (Operand.tmp 143)) none, _, _, _, none⟩ rfl (fun _ _ _ h => h) ?_ hHeld ?_
      rotate_left
      · (intro W _; go_simp <;> (try with_reducible rfl))
      refine ready_call 5 ⟨some 145, Op.call { callee := Callee.builtin Builtin.append, args := #[Operand.tmp 140, Operand.tmp 144], argTypes := #[26, 26] }, _, _, _, none⟩ (by kernel_rfl) rfl (by kernel_rfl) (fun KC hK => ?_)
      try rw [← HAD.out]
      refine wp_append_at _ (.tmp 140) (.tmp 144) 26 (by rfl) lo 37 i2 (.agg #[.int .i64 0, .int .i64 0, .slice none 0 0, .int .i64 0]) 4 48 Try.underlying26 hi2 hx0 hx1 hx2 rfl (by decide) (.slice (some ⟨Y0.heap.size, 0, none⟩) 0 0) 0 [] (by rfl) HB1.out.2.2.2.1 ⟨g, 0, none⟩ i k1 (xs.take (i * 4)) (by rfl) (by rw [List.length_take, HXS.out.1]; omega) (fun j u hu => by
        have hj : j < i * 4 := by have := (List.getElem?_eq_some_iff.1 hu).1; rw [List.length_take] at this; omega
        rw [List.getElem?_take_of_lt hj] at hu
        have := (World.cell?_of_block (a := ⟨g, j, none⟩) (HB1.out.2.1.block g hgl)).trans (HXS.out.2.1 j u hu)
        rw [add0, Nat.zero_add]
        exact this) (fun u hu => HXS.out.2.2 u (List.mem_of_mem_take hu)) (by unfold maxLen; omega) (by omega) HB1.out.2.2.2.2 ?_
      intro v5 Y5 hr5 hg5 hwh5
      have HB5 : Hid (SpB w Y5 [.int .i64 ep, .int .i64 du, .slice (some ⟨g, 0, none⟩) ms.length k1, .slice a2 en.length k2] [.int .i64 (5), .int .i64 b, .int .i64 n] [.int .i64 x0, .int .i64 x1, .slice ar x2.length kr, .int .i64 x3] w1.heap.size ∧ Below w.heap.size w Y5 ∧ Y5.ownsRow lo 37 4 v5 (0 + i) ([] ++ xs.take (i * 4)) ∧ (∀ j, v5.ownBlock = some j → Y0.heap.size ≤ j) ∧ lo ≤ Y5.heap.size ∧ Y1.heap.size ≤ Y5.heap.size) := Hid.intro (by
        have hz1 := HBd.out.2.2
        have hz2 := HBd.out.1.2.2.2.2
        have hz3 := HB1.out.2.2.1
        have hrow : ∀ j, (Value.slice (some ⟨Y0.heap.size, 0, none⟩) 0 0).ownBlock = some j → j = Y0.heap.size := fun j q => by cases q; rfl
        refine ⟨HB1.out.1.grow hg5 (fun j q => Or.inr (by have := hrow j q; omega)), HB1.out.2.1.grown hg5 HB1.out.2.1.size (fun j q => by have := hrow j q; omega), hr5, fun j q => ?_, Nat.le_trans HB1.out.2.2.2.2 hg5.size, hg5.size⟩
        rcases hwh5 with r | r
        · rw [r] at q; have := hrow j q; omega
        · rw [r] at q; cases q; omega)
      clear hr5 hg5 hwh5
      refine hK.out _ _ trivial (fun hHeld => ?_)
      clear hK KC
      refine ready_call 11 ⟨some 151, Op.call { callee := Callee.builtin Builtin.append, args := #[Operand.tmp 145, Operand.tmp 150], argTypes := #[26, 26] }, _, _, _, none⟩ (by kernel_rfl) rfl (by kernel_rfl) (fun KC hK => ?_)
      try rw [← HAD.out]
      refine wp_append_at _ (.tmp 145) (.tmp 150) 26 (by rfl) lo 37 i2 (.agg #[.int .i64 0, .int .i64 0, .slice none 0 0, .int .i64 0]) 4 48 Try.underlying26 hi2 hx0 hx1 hx2 rfl (by decide) v5 (0 + i) ([] ++ xs.take (i * 4)) (by rfl) HB5.out.2.2.1 ADD (ms.length - (i + 1)) (k1 - (i + 1)) (xs.drop ((i + 1) * 4)) (by rfl) (by rw [List.length_drop, HXS.out.1]; omega) (fun j u hu => by
        have h := HAC.out j u hu
        by_cases q : k1 = i + 1
        · rw [List.drop_eq_nil_of_le (by rw [HXS.out.1]; omega)] at hu
          cases hu
        · have ha : ADD = ⟨g, (i + 1) * 4, none⟩ := by have := HAD.out; rw [if_neg q] at this; exact Option.some.inj this
          rw [ha, add0] at h ⊢
          exact (World.cell?_of_block (a := ⟨g, (i + 1) * 4 + j, none⟩) (HB5.out.2.1.block g hgl)).trans h) (fun u hu => HXS.out.2.2 u (List.mem_of_mem_drop hu)) (by unfold maxLen; omega) (by omega) HB5.out.2.2.2.2.1 ?_
      intro v11 Y11 hr11 hg11 hwh11
      have HB11 : Hid (SpB w Y11 [.int .i64 ep, .int .i64 du, .slice (some ⟨g, 0, none⟩) ms.length k1, .slice a2 en.length k2] [.int .i64 (5), .int .i64 b, .int .i64 n] [.int .i64 x0, .int .i64 x1, .slice ar x2.length kr, .int .i64 x3] w1.heap.size ∧ Below w.heap.size w Y11 ∧ Y11.ownsRow lo 37 4 v11 (ms.length - 1) (xs.take (i * 4) ++ xs.drop ((i + 1) * 4)) ∧ (∀ j, v11.ownBlock = some j → Y0.heap.size ≤ j ∧ j < Y11.heap.size)) := Hid.intro (by
        have hz1 := HBd.out.2.2
        have hz2 := HBd.out.1.2.2.2.2
        have hz3 := HB1.out.2.2.1
        have hz5 := HB5.out.2.2.2.2.2
        have he : 0 + i + (ms.length - (i + 1)) = ms.length - 1 := by omega
        rw [List.nil_append, he] at hr11
        refine ⟨HB5.out.1.grow hg11 (fun j q => Or.inr (by have := HB5.out.2.2.2.1 j q; omega)), HB5.out.2.1.grown hg11 HB5.out.2.1.size (fun j q => by have := HB5.out.2.2.2.1 j q; omega), hr11, fun j q => ⟨?_, (hr11.lt j q).2⟩⟩
        rcases hwh11 with r | r
        · rw [r] at q; exact HB5.out.2.2.2.1 j q
        · rw [r] at q; cases q; omega)
      clear hr11 hg11 hwh11
      refine hK.out _ _ trivial (fun hHeld => ?_)
      clear hK KC
      refine take_v (v := ?_) 12 ⟨some 152, Op.fieldAddr 29 (Operand.tmp 2) 2, _, _, _, none⟩ rfl (fun _ _ _ h => h) ?_ hHeld ?_
      rotate_left
      · (intro W _; go_simp <;> (try with_reducible rfl))
      refine ready_call 13 ⟨none, Op.store 26 (Operand.tmp 152) (Operand.tmp 151), _, _, _, none⟩ (by kernel_rfl) rfl (by kernel_rfl) (fun KC hK => ?_)
      try rw [← HAD.out]
      obtain ⟨a8, c8, hv8⟩ : ∃ a8 c8, v11 = .slice a8 (ms.length - 1) c8 := by
        rcases Go.Joins.ownsRow_forms HB11.out.2.2.1 with ⟨hv, h0⟩ | ⟨gq, cq, hv⟩
        · exact ⟨none, 0, by rw [hv, h0]⟩
        · exact ⟨_, cq, hv⟩
      subst hv8
      have d2 := HB11.out.1.1.cell 2 rfl
      have dz := HB11.out.1.1.2
      have df := HB11.out.1.1.frz 2 (by simp)
      go_wp2_with fail
      clear d2 dz df
      refine hK.out _ _ trivial (fun hHeld => ?_)
      clear hK KC
      refine wpAnyH_done (by kernel_rfl) ?_ _
      refine NoPanic.normal ?_
      clear hHeld
      obtain ⟨X, hXe⟩ : ∃ x, x = Y11.setCell ⟨w.heap.size, 2, none⟩ (.slice a8 (ms.length - 1) c8) := ⟨_, rfl⟩
      have HX : Hid (SpB w X [.int .i64 ep, .int .i64 du, .slice a8 (ms.length - 1) c8, .slice a2 en.length k2] [.int .i64 (5), .int .i64 b, .int .i64 n] [.int .i64 x0, .int .i64 x1, .slice ar x2.length kr, .int .i64 x3] w1.heap.size ∧ Below w.heap.size w X ∧ OwnX X lo (.list tyMember 37) [.slice a8 (ms.length - 1) c8] (ms.eraseIdx i) (fun k => S1 k ∨ (Value.slice a8 (ms.length - 1) c8).ownBlock = some k) ∧ (∀ j, (Value.slice a8 (ms.length - 1) c8).ownBlock = some j → w1.heap.size < j ∧ j < X.heap.size)) := Hid.intro (by
        have hz1 := HBd.out.2.2
        have hz2 := HBd.out.1.2.2.2.2
        have hB : Below w.heap.size w X := hXe ▸ HB11.out.2.1.setCell (p := ⟨w.heap.size, 2, none⟩) (Nat.le_refl _) _
        have hr : X.ownsRow lo 37 4 (.slice a8 (ms.length - 1) c8) (ms.length - 1) (xs.take (i * 4) ++ xs.drop ((i + 1) * 4)) := by
          rw [hXe]
          exact ownsRow_turn HB11.out.2.2.1 (turn_set _ ⟨w.heap.size, 2, none⟩ _) (fun j q z => by have h1 := (HB11.out.2.2.2 j q).1; have z : j = w.heap.size := z; omega)
        refine ⟨hXe ▸ HB11.out.1.setF (j := 2) (by simp) _, hB, HMK.out X _ (fun b hb _ => hB.block b hb) hr (fun j q z => ?_), fun j q => ?_⟩
        · have h1 := (HB11.out.2.2.2 j q).1; have h2 := HO.out.2.2.2.2.2 j (HO.out.2.2.1 j z); omega
        · have h1 := HB11.out.2.2.2 j q; rw [hXe, World.size_setCell]; omega)
      rw [← hXe]
      clear hXe
      have s0 := (HX.out.1.1).cell 0 rfl; have s1 := (HX.out.1.1).cell 1 rfl; have s2 := (HX.out.1.1).cell 2 rfl; have s3 := (HX.out.1.1).cell 3 rfl; have sz := (HX.out.1.1).2
      have r0 := (HX.out.1.2.2.1).cell 0 rfl; have r1 := (HX.out.1.2.2.1).cell 1 rfl; have r2 := (HX.out.1.2.2.1).cell 2 rfl; have r3 := (HX.out.1.2.2.1).cell 3 rfl; have rz := (HX.out.1.2.2.1).2
      have m0 := (HX.out.1.2.2.2.1).cell 0 rfl; have m1 := (HX.out.1.2.2.2.1).cell 1 rfl; have m2 := (HX.out.1.2.2.2.1).cell 2 rfl; have m3 := (HX.out.1.2.2.2.1).cell 3 rfl; have mz := (HX.out.1.2.2.2.1).2
      have rf0 := HX.out.1.2.2.1.frz 0 (by simp)
      have rf1 := HX.out.1.2.2.1.frz 1 (by simp)
      have rf2 := HX.out.1.2.2.1.frz 2 (by simp)
      have rf3 := HX.out.1.2.2.1.frz 3 (by simp)
      go_wp2
      exact bodyPost_ret (v := .tuple #[.agg #[.int .i64 ep, .int .i64 du, .slice a8 (ms.length - 1) c8, .slice a2 en.length k2], .bool true]) (by simp [results, Try.results41, go_sem, *]) rfl (StX.fin (T1 := fun k => S1 k ∨ (Value.slice a8 (ms.length - 1) c8).ownBlock = some k) (T2 := S2) HN.out (TurnS.of_below HX.out.2.1) HX.out.2.2.1 (HO.out.1.next HX.out.2.1) (fun j q => by
        have hz2 := HX.out.1.2.2.2.2
        rcases q with r | r
        · exact ⟨Or.inl (HO.out.2.2.1 j r), by have h2 := HO.out.2.2.2.2.2 j (HO.out.2.2.1 j r); omega⟩
        · have h3 := HX.out.2.2.2 j r; exact ⟨Or.inr (by simp only [Btw]; omega), by omega⟩) (fun j q => ⟨Or.inl (HO.out.2.2.2.1 j q), by have h2 := HO.out.2.2.2.2.2 j (HO.out.2.2.2.1 j q); omega⟩) (fun j q z => by
        rcases q with r | r
        · exact HO.out.2.2.2.2.1 j r z
        · have h3 := HX.out.2.2.2 j r; have h2 := HO.out.2.2.2.2.2 j (HO.out.2.2.2.1 j z); have hz2 := HX.out.1.2.2.2.2; omega))
    ·
      try rw [← HAD.out]
      (first | (have d2 := HB5.out.1.1.cell 2 rfl; have dz := HB5.out.1.1.2) | (have d2 := HB1.out.1.1.cell 2 rfl; have dz := HB1.out.1.1.2) | (have d2 := HBd.out.1.1.cell 2 rfl; have dz := HBd.out.1.1.2))
      go_wp2_with fail
      clear d2 dz
      refine hK.out _ _ trivial (fun hHeld => ?_)
      clear hK KC
      refine take_v (v := ?_) 4 ⟨some 144, Op.slice 26 (Operand.tmp 142) none (some (Operand.tmp 143)) none, _, _, _, none⟩ rfl (fun _ _ _ h => h) ?_ hHeld ?_
      rotate_left
      · (intro W _; go_simp <;> (try with_reducible rfl))
      refine ready_call 0 ⟨some 140, Op.buildSlice 26 0 #[], _, _, _, none⟩ (by kernel_rfl) rfl (by kernel_rfl) (fun KC hK => ?_)
      try rw [← HAD.out]
      go_wp2_with fail
      obtain ⟨Y1, hY1⟩ : ∃ x, x = Y0.alloc (.cells #[] 37) := ⟨_, rfl⟩
      have HB1 : Hid (SpB w Y1 [.int .i64 ep, .int .i64 du, .slice (some ⟨g, 0, none⟩) ms.length k1, .slice a2 en.length k2] [.int .i64 (5), .int .i64 b, .int .i64 n] [.int .i64 x0, .int .i64 x1, .slice ar x2.length kr, .int .i64 x3] w1.heap.size ∧ Below w.heap.size w Y1 ∧ Y1.heap.size = Y0.heap.size + 1 ∧ Y1.ownsRow lo 37 4 (.slice (some ⟨Y0.heap.size, 0, none⟩) 0 0) 0 [] ∧ lo ≤ Y1.heap.size) := Hid.intro (by
        have hb := Go.Joins.below_alloc1 Y0 (.cells #[] 37)
        have hz : lo ≤ Y0.heap.size := Nat.le_trans hlo HBd.out.2.1.size
        have hx : (Y0.alloc (.cells #[] 37)).ownsRow lo 37 4 (.slice (some ⟨Y0.heap.size, 0, none⟩) 0 0) 0 [] := World.ownsRow_made Y0 #[] 0 hz (Nat.zero_le _) (by simp)
        exact hY1 ▸ ⟨HBd.out.1.next hb, below_next HBd.out.2.1 hb, by simp, hx, Nat.le_trans hz hb.size⟩)
      rw [← hY1]
      clear hY1
      refine hK.out _ _ trivial (fun hHeld => ?_)
      clear hK KC
      refine ready_call 5 ⟨some 145, Op.call { callee := Callee.builtin Builtin.append, args := #[Operand.tmp 140, Operand.tmp 144], argTypes := #[26, 26] }, _, _, _, none⟩ (by kernel_rfl) rfl (by kernel_rfl) (fun KC hK => ?_)
      try rw [← HAD.out]
      refine wp_append_at _ (.tmp 140) (.tmp 144) 26 (by rfl) lo 37 i2 (.agg #[.int .i64 0, .int .i64 0, .slice none 0 0, .int .i64 0]) 4 48 Try.underlying26 hi2 hx0 hx1 hx2 rfl (by decide) (.slice (some ⟨Y0.heap.size, 0, none⟩) 0 0) 0 [] (by rfl) HB1.out.2.2.2.1 ⟨g, 0, none⟩ i k1 (xs.take (i * 4)) (by rfl) (by rw [List.length_take, HXS.out.1]; omega) (fun j u hu => by
        have hj : j < i * 4 := by have := (List.getElem?_eq_some_iff.1 hu).1; rw [List.length_take] at this; omega
        rw [List.getElem?_take_of_lt hj] at hu
        have := (World.cell?_of_block (a := ⟨g, j, none⟩) (HB1.out.2.1.block g hgl)).trans (HXS.out.2.1 j u hu)
        rw [add0, Nat.zero_add]
        exact this) (fun u hu => HXS.out.2.2 u (List.mem_of_mem_take hu)) (by unfold maxLen; omega) (by omega) HB1.out.2.2.2.2 ?_
      intro v5 Y5 hr5 hg5 hwh5
      have HB5 : Hid (SpB w Y5 [.int .i64 ep, .int .i64 du, .slice (some ⟨g, 0, none⟩) ms.length k1, .slice a2 en.length k2] [.int .i64 (5), .int .i64 b, .int .i64 n] [.int .i64 x0, .int .i64 x1, .slice ar x2.length kr, .int .i64 x3] w1.heap.size ∧ Below w.heap.size w Y5 ∧ Y5.ownsRow lo 37 4 v5 (0 + i) ([] ++ xs.take (i * 4)) ∧ (∀ j, v5.ownBlock = some j → Y0.heap.size ≤ j) ∧ lo ≤ Y5.heap.size ∧ Y1.heap.size ≤ Y5.heap.size) := Hid.intro (by
        have hz1 := HBd.out.2.2
        have hz2 := HBd.out.1.2.2.2.2
        have hz3 := HB1.out.2.2.1
        have hrow : ∀ j, (Value.slice (some ⟨Y0.heap.size, 0, none⟩) 0 0).ownBlock = some j → j = Y0.heap.size := fun j q => by cases q; rfl
        refine ⟨HB1.out.1.grow hg5 (fun j q => Or.inr (by have := hrow j q; omega)), HB1.out.2.1.grown hg5 HB1.out.2.1.size (fun j q => by have := hrow j q; omega), hr5, fun j q => ?_, Nat.le_trans HB1.out.2.2.2.2 hg5.size, hg5.size⟩
        rcases hwh5 with r | r
        · rw [r] at q; have := hrow j q; omega
        · rw [r] at q; cases q; omega)
      clear hr5 hg5 hwh5
      refine hK.out _ _ trivial (fun hHeld => ?_)
      clear hK KC
      refine ready_call 11 ⟨some 151, Op.call { callee := Callee.builtin Builtin.append, args := #[Operand.tmp 145, Operand.tmp 150], argTypes := #[26, 26] }, _, _, _, none⟩ (by kernel_rfl) rfl (by kernel_rfl) (fun KC hK => ?_)
      try rw [← HAD.out]
      refine wp_append_at _ (.tmp 145) (.tmp 150) 26 (by rfl) lo 37 i2 (.agg #[.int .i64 0, .int .i64 0, .slice none 0 0, .int .i64 0]) 4 48 Try.underlying26 hi2 hx0 hx1 hx2 rfl (by decide) v5 (0 + i) ([] ++ xs.take (i * 4)) (by rfl) HB5.out.2.2.1 ADD (ms.length - (i + 1)) (k1 - (i + 1)) (xs.drop ((i + 1) * 4)) (by rfl) (by rw [List.length_drop, HXS.out.1]; omega) (fun j u hu => by
        have h := HAC.out j u hu
        by_cases q : k1 = i + 1
        · rw [List.drop_eq_nil_of_le (by rw [HXS.out.1]; omega)] at hu
          cases hu
        · have ha : ADD = ⟨g, (i + 1) * 4, none⟩ := by have := HAD.out; rw [if_neg q] at this; exact Option.some.inj this
          rw [ha, add0] at h ⊢
          exact (World.cell?_of_block (a := ⟨g, (i + 1) * 4 + j, none⟩) (HB5.out.2.1.block g hgl)).trans h) (fun u hu => HXS.out.2.2 u (List.mem_of_mem_drop hu)) (by unfold maxLen; omega) (by omega) HB5.out.2.2.2.2.1 ?_
      intro v11 Y11 hr11 hg11 hwh11
      have HB11 : Hid (SpB w Y11 [.int .i64 ep, .int .i64 du, .slice (some ⟨g, 0, none⟩) ms.length k1, .slice a2 en.length k2] [.int .i64 (5), .int .i64 b, .int .i64 n] [.int .i64 x0, .int .i64 x1, .slice ar x2.length kr, .int .i64 x3] w1.heap.size ∧ Below w.heap.size w Y11 ∧ Y11.ownsRow lo 37 4 v11 (ms.length - 1) (xs.take (i * 4) ++ xs.drop ((i + 1) * 4)) ∧ (∀ j, v11.ownBlock = some j → Y0.heap.size ≤ j ∧ j < Y11.heap.size)) := Hid.intro (by
        have hz1 := HBd.out.2.2
        have hz2 := HBd.out.1.2.2.2.2
        have hz3 := HB1.out.2.2.1
        have hz5 := HB5.out.2.2.2.2.2
        have he : 0 + i + (ms.length - (i + 1)) = ms.length - 1 := by omega
        rw [List.nil_append, he] at hr11
        refine ⟨HB5.out.1.grow hg11 (fun j q => Or.inr (by have := HB5.out.2.2.2.1 j q; omega)), HB5.out.2.1.grown hg11 HB5.out.2.1.size (fun j q => by have := HB5.out.2.2.2.1 j q; omega), hr11, fun j q => ⟨?_, (hr11.lt j q).2⟩⟩
        rcases hwh11 with r | r
        · rw [r] at q; exact HB5.out.2.2.2.1 j q
        · rw [r] at q; cases q; omega)
      clear hr11 hg11 hwh11
      refine hK.out _ _ trivial (fun hHeld => ?_)
      clear hK KC
      refine take_v (v := ?_) 12 ⟨some 152, Op.fieldAddr 29 (Operand.tmp 2) 2, _, _, _, none⟩ rfl (fun _ _ _ h => h) ?_ hHeld ?_
      rotate_left
      · (intro W _; go_simp <;> (try with_reducible rfl))
      refine ready_call 13 ⟨none, Op.store 26 (Operand.tmp 152) (Operand.tmp 151), _, _, _, none⟩ (by kernel_rfl) rfl (by kernel_rfl) (fun KC hK => ?_)
      try rw [← HAD.out]
      obtain ⟨a8, c8, hv8⟩ : ∃ a8 c8, v11 = .slice a8 (ms.length - 1) c8 := by
        rcases Go.Joins.ownsRow_forms HB11.out.2.2.1 with ⟨hv, h0⟩ | ⟨gq, cq, hv⟩
        · exact ⟨none, 0, by rw [hv, h0]⟩
        · exact ⟨_, cq, hv⟩
      subst hv8
      have d2 := HB11.out.1.1.cell 2 rfl
      have dz := HB11.out.1.1.2
      have df := HB11.out.1.1.frz 2 (by simp)
      go_wp2_with fail
      clear d2 dz df
      refine hK.out _ _ trivial (fun hHeld => ?_)
      clear hK KC
      refine wpAnyH_done (by kernel_rfl) ?_ _
      refine NoPanic.normal ?_
      clear hHeld
      obtain ⟨X, hXe⟩ : ∃ x, x = Y11.setCell ⟨w.heap.size, 2, none⟩ (.slice a8 (ms.length - 1) c8) := ⟨_, rfl⟩
      have HX : Hid (SpB w X [.int .i64 ep, .int .i64 du, .slice a8 (ms.length - 1) c8, .slice a2 en.length k2] [.int .i64 (5), .int .i64 b, .int .i64 n] [.int .i64 x0, .int .i64 x1, .slice ar x2.length kr, .int .i64 x3] w1.heap.size ∧ Below w.heap.size w X ∧ OwnX X lo (.list tyMember 37) [.slice a8 (ms.length - 1) c8] (ms.eraseIdx i) (fun k => S1 k ∨ (Value.slice a8 (ms.length - 1) c8).ownBlock = some k) ∧ (∀ j, (Value.slice a8 (ms.length - 1) c8).ownBlock = some j → w1.heap.size < j ∧ j < X.heap.size)) := Hid.intro (by
        have hz1 := HBd.out.2.2
        have hz2 := HBd.out.1.2.2.2.2
        have hB : Below w.heap.size w X := hXe ▸ HB11.out.2.1.setCell (p := ⟨w.heap.size, 2, none⟩) (Nat.le_refl _) _
        have hr : X.ownsRow lo 37 4 (.slice a8 (ms.length - 1) c8) (ms.length - 1) (xs.take (i * 4) ++ xs.drop ((i + 1) * 4)) := by
          rw [hXe]
          exact ownsRow_turn HB11.out.2.2.1 (turn_set _ ⟨w.heap.size, 2, none⟩ _) (fun j q z => by have h1 := (HB11.out.2.2.2 j q).1; have z : j = w.heap.size := z; omega)
        refine ⟨hXe ▸ HB11.out.1.setF (j := 2) (by simp) _, hB, HMK.out X _ (fun b hb _ => hB.block b hb) hr (fun j q z => ?_), fun j q => ?_⟩
        · have h1 := (HB11.out.2.2.2 j q).1; have h2 := HO.out.2.2.2.2.2 j (HO.out.2.2.1 j z); omega
        · have h1 := HB11.out.2.2.2 j q; rw [hXe, World.size_setCell]; omega)
      rw [← hXe]
      clear hXe
      have s0 := (HX.out.1.1).cell 0 rfl; have s1 := (HX.out.1.1).cell 1 rfl; have s2 := (HX.out.1.1).cell 2 rfl; have s3 := (HX.out.1.1).cell 3 rfl; have sz := (HX.out.1.1).2
      have r0 := (HX.out.1.2.2.1).cell 0 rfl; have r1 := (HX.out.1.2.2.1).cell 1 rfl; have r2 := (HX.out.1.2.2.1).cell 2 rfl; have r3 := (HX.out.1.2.2.1).cell 3 rfl; have rz := (HX.out.1.2.2.1).2
      have m0 := (HX.out.1.2.2.2.1).cell 0 rfl; have m1 := (HX.out.1.2.2.2.1).cell 1 rfl; have m2 := (HX.out.1.2.2.2.1).cell 2 rfl; have m3 := (HX.out.1.2.2.2.1).cell 3 rfl; have mz := (HX.out.1.2.2.2.1).2
      have rf0 := HX.out.1.2.2.1.frz 0 (by simp)
      have rf1 := HX.out.1.2.2.1.frz 1 (by simp)
      have rf2 := HX.out.1.2.2.1.frz 2 (by simp)
      have rf3 := HX.out.1.2.2.1.frz 3 (by simp)
      go_wp2
      exact bodyPost_ret (v := .tuple #[.agg #[.int .i64 ep, .int .i64 du, .slice a8 (ms.length - 1) c8, .slice a2 en.length k2], .bool true]) (by simp [results, Try.results41, go_sem, *]) rfl (StX.fin (T1 := fun k => S1 k ∨ (Value.slice a8 (ms.length - 1) c8).ownBlock = some k) (T2 := S2) HN.out (TurnS.of_below HX.out.2.1) HX.out.2.2.1 (HO.out.1.next HX.out.2.1) (fun j q => by
        have hz2 := HX.out.1.2.2.2.2
        rcases q with r | r
        · exact ⟨Or.inl (HO.out.2.2.1 j r), by have h2 := HO.out.2.2.2.2.2 j (HO.out.2.2.1 j r); omega⟩
        · have h3 := HX.out.2.2.2 j r; exact ⟨Or.inr (by simp only [Btw]; omega), by omega⟩) (fun j q => ⟨Or.inl (HO.out.2.2.2.1 j q), by have h2 := HO.out.2.2.2.2.2 j (HO.out.2.2.2.1 j q); omega⟩) (fun j q z => by
        rcases q with r | r
        · exact HO.out.2.2.2.2.1 j r z
        · have h3 := HX.out.2.2.2 j r; have h2 := HO.out.2.2.2.2.2 j (HO.out.2.2.2.1 j z); have hz2 := HX.out.1.2.2.2.2; omega))

end Go.Proofs.Ytcbdlalpnlahcaa
