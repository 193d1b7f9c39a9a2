/- Fences: a step on the specification's side: something ends. Written by tools/mkFeT.py. -/
import Derived.Test.YtcbdlalpnlahcaaFeQ
import Derived.Deep.QuietTactic
import Derived.BigQuiet
import Derived.Deep.DeepCutAuto
namespace Go.Proofs.Ytcbdlalpnlahcaa
open Go.RowKit
set_option linter.unusedVariables false
set_option linter.unusedSimpArgs false

set_option maxRecDepth 100000 in
set_option maxHeartbeats 8000000 in
theorem l12Step_e (lo : Nat) (S : Nat → Prop) (cs : List Value) (ep du : Int) (ms : List (Sh.T shMember)) (en : List (Sh.T .int)) (b n : Int) (i : Nat) (w : World) (hG : goodF ep du ms en) (hO : OwnX w lo tyFence cs (ep, du, ms, en, ()) S) (hS : ∀ k, S k → k < w.heap.size) (hlo : lo ≤ w.heap.size) (hf : ms.findIdx? (fun m => decide (mid m = b)) = some i) (hi : i < ms.length) :
    Calls Try.prog 41 #[.agg cs.toArray, .agg #[.int .i64 (2), .int .i64 b, .int .i64 n]] w (StX lo S (memF ep du ms en (2) n i ms[i]) w) := by
  obtain ⟨v1, S1, v2, S2, rfl, o1, o2, e1, e2, d12⟩ := ownx_Fence hO
  obtain ⟨g, k1, vr, Bk, hv1, hgl, hSg, hBk, ⟨c0, c1, c2, c3⟩, ⟨f0, f1, f2, f3⟩, orr, hput⟩ := fe_lens o1 hi
  subst hv1
  obtain ⟨x0, x1, x2, x3, hX⟩ : ∃ (x0 x1 : Int) (x2 : List (Sh.T .int)) (x3 : Int), ms[i] = mkMb x0 x1 x2 x3 := ⟨_, _, _, _, rfl⟩
  have hm := (hG.2.2.2.2.1 i hi hi).1
  rw [hX] at c0 c1 c3 orr hm ⊢
  have c0 : w.cell? ⟨g, i * 4, none⟩ = some (.int .i64 x0) := c0
  have c1 : w.cell? ⟨g, i * 4 + 1, none⟩ = some (.int .i64 x1) := c1
  have c3 : w.cell? ⟨g, i * 4 + 3, none⟩ = some (.int .i64 x3) := c3
  have orr : OwnX w lo (.list .int 3) [vr] x2 Bk := orr
  have hm : (0 ≤ x0 ∧ x0 ≤ 99) ∧ (du + 1 ≤ x1 ∧ x1 ≤ ep) ∧ x2.length ≤ 20 ∧ (du ≤ x3 ∧ x3 ≤ ep - 1) ∧ runP x3 x1 x2 x2.length ∧ x3 < x1 := hm
  obtain ⟨a2, k2, hv2⟩ := o2.vform
  have hv2 : v2 = .slice a2 (List.length (α := Sh.T .int) en) k2 := hv2
  subst hv2
  obtain ⟨ar, kr, hvr⟩ := orr.vform
  have hvr : vr = .slice ar (List.length (α := Sh.T .int) x2) kr := hvr
  subst hvr
  obtain ⟨hm1, hm2, hm3, hm4, hm5, hm6⟩ := hm
  have HRP := Hid.intro hm5
  have hep := hG.1
  have hdu := hG.2.1
  have hm8 := hG.2.2.1.2
  have htt := hG.2.2.2.1
  rw [runT_eq] at htt
  have hen : en.length ≤ 200 := by omega
  have HG := Hid.intro hG
  have HX := Hid.intro hX
  have HP := Hid.intro hput
  have HBK := Hid.intro hBk
  have HSG := Hid.intro hSg
  have HO : Hid (OwnX w lo (.list .int 3) [.slice a2 en.length k2] en S2 ∧ OwnX w lo (.list .int 3) [.slice ar x2.length kr] x2 Bk ∧ (∀ k, S1 k → S k) ∧ (∀ k, S2 k → S k) ∧ (∀ k, S1 k → ¬ S2 k) ∧ (∀ k, S k → k < w.heap.size)) := ⟨o2, orr, e1, e2, d12, hS⟩
  have HMS : Hid (OwnX w lo (.list tyMember 37) [.slice (some ⟨g, 0, none⟩) ms.length k1] ms S1) := o1
  have HLW : Hid (Lies w shFence [.int .i64 ep, .int .i64 du, .slice (some ⟨g, 0, none⟩) ms.length k1, .slice a2 en.length k2] (ep, du, ms, en, ())) := Hid.intro hO.lies
  have HZ : Hid (szD shFence (ep, du, ms, en, ()) ≤ 1073741824) := Hid.intro (Nat.le_trans (good_sz hG) (by decide))
  have HAT : Hid (atM ms b = (i : Int)) := Hid.intro (atM_some hf)
  clear hput hBk hSg o1 o2 orr e1 e2 d12 hS hO hG hm5 hX hf
  obtain ⟨w0, hw0⟩ : ∃ x, x = ((w.alloc (.cells #[.int .i64 ep, .int .i64 du, .slice (some ⟨g, 0, none⟩) ms.length k1, .slice a2 en.length k2] 29)).alloc (.cells #[.int .i64 (2), .int .i64 b, .int .i64 n] 40)).alloc (.cells #[.int .i64 0, .int .i64 0, .slice none 0 0, .slice none 0 0] 29) := ⟨_, rfl⟩
  have HB0 : Hid (Bx w0 w.heap.size [.int .i64 ep, .int .i64 du, .slice (some ⟨g, 0, none⟩) ms.length k1, .slice a2 en.length k2] ∧ Bx w0 (w.heap.size + 1) [.int .i64 (2), .int .i64 b, .int .i64 n] ∧ Bx w0 (w.heap.size + 1 + 1) [.int .i64 0, .int .i64 0, .slice none 0 0, .slice none 0 0] ∧ Below w.heap.size w w0) := ⟨hw0 ▸ ((Bx.new w [_, _, _, _] _).alloc _).alloc _, hw0 ▸ (Bx.newAt (by simp)).alloc _, hw0 ▸ Bx.newAt (by simp), hw0 ▸ (((Below.refl _ _).alloc (Nat.le_refl _) _).alloc (by simp) _).alloc (by simp; omega) _⟩
  have s0 := (HB0.out.1).cell 0 rfl; have s1 := (HB0.out.1).cell 1 rfl; have s2 := (HB0.out.1).cell 2 rfl; have s3 := (HB0.out.1).cell 3 rfl; have sz := (HB0.out.1).2
  have t0 := (HB0.out.2.1).cell 0 rfl; have t1 := (HB0.out.2.1).cell 1 rfl; have t2 := (HB0.out.2.1).cell 2 rfl; have tz := (HB0.out.2.1).2
  have hi4 : ¬ (i : Int) < 0 := by omega
  have hi5 : (i : Int) < (ms.length : Int) := by omega
  have HCW : Hid (w.cell? ⟨g, i * 4, none⟩ = some (.int .i64 x0) ∧ w.cell? ⟨g, i * 4 + 1, none⟩ = some (.int .i64 x1) ∧ w.cell? ⟨g, i * 4 + 2, none⟩ = some (.slice ar x2.length kr) ∧ w.cell? ⟨g, i * 4 + 3, none⟩ = some (.int .i64 x3)) := ⟨c0, c1, c2, c3⟩
  go_enter Try.func41, Try.ntmps41
  go_upto_region 1 with fail
  rw [← hw0]
  clear hw0
  go_wp2_with fail
  refine (l12At_n [.int .i64 ep, .int .i64 du, .slice (some ⟨g, 0, none⟩) ms.length k1, .slice a2 en.length k2] ep du ms en b _ HZ.out (HLW.out.next HB0.out.2.2.2)).mono ?_
  rintro r w1 ⟨rfl, hb1⟩
  rw [HAT.out]
  clear s0 s1 s2 s3 sz t0 t1 t2 tz
  have HB1 : Hid (Bx w1 w.heap.size [.int .i64 ep, .int .i64 du, .slice (some ⟨g, 0, none⟩) ms.length k1, .slice a2 en.length k2] ∧ Bx w1 (w.heap.size + 1) [.int .i64 (2), .int .i64 b, .int .i64 n] ∧ Bx w1 (w.heap.size + 1 + 1) [.int .i64 0, .int .i64 0, .slice none 0 0, .slice none 0 0] ∧ Below w.heap.size w w1) := ⟨HB0.out.1.next hb1, HB0.out.2.1.next hb1, HB0.out.2.2.1.next hb1, below_next HB0.out.2.2.2 hb1⟩
  clear hb1 HB0
  have c0 := (World.cell?_of_block (a := ⟨g, i * 4, none⟩) (HB1.out.2.2.2.block g hgl)).trans c0
  have c1 := (World.cell?_of_block (a := ⟨g, i * 4 + 1, none⟩) (HB1.out.2.2.2.block g hgl)).trans c1
  have c2 := (World.cell?_of_block (a := ⟨g, i * 4 + 2, none⟩) (HB1.out.2.2.2.block g hgl)).trans c2
  have c3 := (World.cell?_of_block (a := ⟨g, i * 4 + 3, none⟩) (HB1.out.2.2.2.block g hgl)).trans c3
  have hgl1 : g < w1.heap.size := Nat.lt_of_lt_of_le hgl HB1.out.2.2.2.size
  have s0 := (HB1.out.1).cell 0 rfl; have s1 := (HB1.out.1).cell 1 rfl; have s2 := (HB1.out.1).cell 2 rfl; have s3 := (HB1.out.1).cell 3 rfl; have sz := (HB1.out.1).2
  have t0 := (HB1.out.2.1).cell 0 rfl; have t1 := (HB1.out.2.1).cell 1 rfl; have t2 := (HB1.out.2.1).cell 2 rfl; have tz := (HB1.out.2.1).2
  go_upto_region 7 with fail
  obtain ⟨W2, hW2⟩ : ∃ x, x = w1.alloc (.cells #[.int .i64 x0, .int .i64 x1, .slice ar x2.length kr, .int .i64 x3] 37) := ⟨_, rfl⟩
  rw [← hW2]
  have HB : Hid (SpB w W2 [.int .i64 ep, .int .i64 du, .slice (some ⟨g, 0, none⟩) ms.length k1, .slice a2 en.length k2] [.int .i64 (2), .int .i64 b, .int .i64 n] [.int .i64 x0, .int .i64 x1, .slice ar x2.length kr, .int .i64 x3] w1.heap.size ∧ Below w.heap.size w W2 ∧ W2.heap.size = w1.heap.size + 1) := ⟨hW2 ▸ ⟨HB1.out.1.alloc _, HB1.out.2.1.alloc _, HB1.out.2.2.1.alloc _, Bx.new w1 [_, _, _, _] _, HB1.out.2.2.1.2⟩, hW2 ▸ HB1.out.2.2.2.alloc HB1.out.2.2.2.size _, by rw [hW2]; simp⟩
  clear hW2 HB1 c0 c1 c2 c3 s0 s1 s2 s3 sz t0 t1 t2 tz hgl1
  have s0 := (HB.out.1.1).cell 0 rfl; have s1 := (HB.out.1.1).cell 1 rfl; have s2 := (HB.out.1.1).cell 2 rfl; have s3 := (HB.out.1.1).cell 3 rfl; have sz := (HB.out.1.1).2
  have t0 := (HB.out.1.2.1).cell 0 rfl; have t1 := (HB.out.1.2.1).cell 1 rfl; have t2 := (HB.out.1.2.1).cell 2 rfl; have tz := (HB.out.1.2.1).2
  have r0 := (HB.out.1.2.2.1).cell 0 rfl; have r1 := (HB.out.1.2.2.1).cell 1 rfl; have r2 := (HB.out.1.2.2.1).cell 2 rfl; have r3 := (HB.out.1.2.2.1).cell 3 rfl; have rz := (HB.out.1.2.2.1).2
  have m0 := (HB.out.1.2.2.2.1).cell 0 rfl; have m1 := (HB.out.1.2.2.2.1).cell 1 rfl; have m2 := (HB.out.1.2.2.2.1).cell 2 rfl; have m3 := (HB.out.1.2.2.2.1).cell 3 rfl; have mz := (HB.out.1.2.2.2.1).2
  have rf0 := HB.out.1.2.2.1.frz 0 (by simp)
  have rf1 := HB.out.1.2.2.1.frz 1 (by simp)
  have rf2 := HB.out.1.2.2.1.frz 2 (by simp)
  have rf3 := HB.out.1.2.2.1.frz 3 (by simp)
  have hlw : IntKind.i64.wrap ((x2.length : Int) - 1) = (x2.length : Int) - 1 := w64f (by omega) (by omega)
  by_cases hq : 0 ≤ n ∧ n ≤ (x2.length : Int) - 1
  case neg =>
    have HN : Hid (memF ep du ms en 2 n i (mkMb x0 x1 x2 x3) = none) := Hid.intro (memF2_no hq)
    have c9 : inR n 0 ((x2.length : Int) - 1) = false := by
      cases h : inR n 0 ((x2.length : Int) - 1)
      · rfl
      · exact absurd (inR_iff.1 h) hq
    clear hq
    go_wp2_with (go_at_call 46; refine (l1In_any _ _ _ _).mono ?_; rintro e w' ⟨rfl, hw⟩; have hw := hw.symm; subst hw; rw [c9])
    exact bodyPost_ret (v := .tuple #[.agg #[.int .i64 ep, .int .i64 du, .slice (some ⟨g, 0, none⟩) ms.length k1, .slice a2 en.length k2], .bool false]) (by simp [results, Try.results41, go_sem, *]) rfl (StX.no (cs := [.int .i64 ep, .int .i64 du, .slice (some ⟨g, 0, none⟩) ms.length k1, .slice a2 en.length k2]) HN.out ((TurnS.of_below HB.out.2.1).new (set4 _ (w.heap.size + 1 + 1) _ _ _ _) (by omega)))
  have c9 : inR n 0 ((x2.length : Int) - 1) = true := inR_iff.2 hq
  obtain ⟨k, hkn⟩ : ∃ k : Nat, n = (k : Int) := ⟨n.toNat, by omega⟩
  subst hkn
  have hkl : k < x2.length := by omega
  have hkl' : (k : Int) < (x2.length : Int) := by omega
  have hk0 : ¬ (k : Int) < 0 := by omega
  have HN : Hid (memF ep du ms en 2 (k : Int) i (mkMb x0 x1 x2 x3) = some (mkFe ep du (ms.set i (mkMb x0 x1 (x2.eraseIdx k) x3)) (en ++ [atI x2 k]))) := Hid.intro (by have := memF2_yes (ep := ep) (du := du) (ms := ms) (en := en) (i := i) (x0 := x0) (x1 := x1) (x3 := x3) hq; rw [Int.toNat_natCast] at this; exact this)
  obtain ⟨gr, kr', hvr, hgrl⟩ : ∃ gr kr', Value.slice ar x2.length kr = .slice (some ⟨gr, 0, none⟩) x2.length kr' ∧ gr < w.heap.size := by
    rcases HO.out.2.1.form with ⟨q, _⟩ | ⟨gr, kr', q, q2⟩
    · rw [q] at hkl; exact absurd hkl (Nat.not_lt_zero k)
    · exact ⟨gr, kr', q, q2⟩
  obtain ⟨har, hkr⟩ : ar = some ⟨gr, 0, none⟩ ∧ kr = kr' := by injection hvr with q1 q2 q3; exact ⟨q1, q3⟩
  subst har hkr
  clear hvr
  have HBR : Hid (Bk gr) := Hid.intro ((HO.out.2.1.tight rfl).2.2 gr rfl)
  obtain ⟨e, he⟩ : ∃ e : Int, e = atI x2 k := ⟨_, rfl⟩
  have HE := Hid.intro he
  have hce : w.cell? ⟨gr, k, none⟩ = some (.int .i64 e) := by rw [he]; exact (OwnX.inti HO.out.2.1 hkl).1
  have HCE := Hid.intro hce
  clear he hce hq
  obtain ⟨i1, hi1, hy0, hy1, hy2⟩ := info_parts inf_int
  have hbE : en.length + [e].length ≤ maxLen := by unfold maxLen; simp; omega
  have hcE : (en.length + [e].length) * 8 ≤ 140737488355328 := by simp; omega
  go_upto_region 16 with (go_at_call 46; refine (l1In_any _ _ _ _).mono ?_; rintro e w' ⟨rfl, hw⟩; have hw := hw.symm; subst hw; rw [c9])
  go_cut [70] (fun s70 wx => ∃ a9 c9, SpB w wx [.int .i64 ep, .int .i64 du, .slice (some ⟨g, 0, none⟩) ms.length k1, .slice a9 (en.length + 1) c9] [.int .i64 (2), .int .i64 b, .int .i64 (k : Int)] [.int .i64 x0, .int .i64 x1, .slice (some ⟨gr, 0, none⟩) x2.length kr, .int .i64 x3] w1.heap.size ∧ TurnS S2 w wx ∧ OwnX wx lo (.list .int 3) [.slice a9 (en.length + 1) c9] (en ++ [e]) (fun k => (Value.slice a9 (en.length + 1) c9).ownBlock = some k) ∧ (∀ k, (Value.slice a9 (en.length + 1) c9).ownBlock = some k → S2 k ∨ (w1.heap.size < k ∧ k < wx.heap.size)))
  case first =>
    have HBd : Hid (SpB w W2.drew [.int .i64 ep, .int .i64 du, .slice (some ⟨g, 0, none⟩) ms.length k1, .slice a2 en.length k2] [.int .i64 (2), .int .i64 b, .int .i64 (k : Int)] [.int .i64 x0, .int .i64 x1, .slice (some ⟨gr, 0, none⟩) x2.length kr, .int .i64 x3] w1.heap.size ∧ Below w.heap.size w W2.drew) := ⟨HB.out.1.next (below_drew _), below_next HB.out.2.1 (below_drew _)⟩
    have hgc : W2.drew.cell? ⟨gr, k, none⟩ = some (.int .i64 e) := (World.cell?_of_block (a := ⟨gr, k, none⟩) (HBd.out.2.block gr hgrl)).trans HCE.out
    have HGC := Hid.intro hgc
    clear hgc
    clear s0 s1 s2 s3 sz t0 t1 t2 tz r0 r1 r2 r3 rz m0 m1 m2 m3 mz rf0 rf1 rf2 rf3
    refine wp_region_noPanic ?_
    refine wp_region_held_drew (S := fun W => Bx W (w.heap.size + 1) [.int .i64 (2), .int .i64 b, .int .i64 (k : Int)] ∧ Bx W w1.heap.size [.int .i64 x0, .int .i64 x1, .slice (some ⟨gr, 0, none⟩) x2.length kr, .int .i64 x3] ∧ W.cell? ⟨gr, k, none⟩ = some (.int .i64 e)) (by kernel_rfl) ⟨HBd.out.1.2.1, HBd.out.1.2.2.2.1, HGC.out⟩ (fun hHeld => ?_)
    obtain ⟨Y0, hWE⟩ : ∃ x, x = W2.drew := ⟨_, rfl⟩
    rw [← hWE] at HBd HGC hHeld ⊢
    clear hWE HB
    refine take_v (v := ?_) 0 ⟨some 60, Op.fieldAddr 29 (Operand.tmp 2) 3, _, _, _, none⟩ rfl (fun _ _ _ h => h) ?_ hHeld ?_
    rotate_left
    · (intro W _; go_simp <;> (try with_reducible rfl))
    refine take_v (v := ?_) 2 ⟨some 62, Op.fieldAddr 37 (Operand.tmp 7) 2, _, _, _, none⟩ rfl (fun _ _ _ h => h) ?_ hHeld ?_
    rotate_left
    · (intro W _; go_simp <;> (try with_reducible rfl))
    refine take_v (v := ?_) 3 ⟨some 63, Op.load 27 (Operand.tmp 62), _, _, _, none⟩ rfl (fun _ _ _ h => h) ?_ hHeld ?_
    rotate_left
    · (intro W hSW; (have t2 := hSW.1.cell 2 rfl; have tz := hSW.1.2; have m2 := hSW.2.1.cell 2 rfl; have mz := hSW.2.1.2; have e0 := hSW.2.2); go_simp <;> (try with_reducible rfl))
    refine take_v (v := ?_) 4 ⟨some 64, Op.fieldAddr 40 (Operand.tmp 3) 2, _, _, _, none⟩ rfl (fun _ _ _ h => h) ?_ hHeld ?_
    rotate_left
    · (intro W _; go_simp <;> (try with_reducible rfl))
    refine take_v (v := ?_) 5 ⟨some 65, Op.load 3 (Operand.tmp 64), _, _, _, none⟩ rfl (fun _ _ _ h => h) ?_ hHeld ?_
    rotate_left
    · (intro W hSW; (have t2 := hSW.1.cell 2 rfl; have tz := hSW.1.2; have m2 := hSW.2.1.cell 2 rfl; have mz := hSW.2.1.2; have e0 := hSW.2.2); go_simp <;> (try with_reducible rfl))
    refine take_v (v := ?_) 6 ⟨some 66, Op.indexAddr 27 (Operand.tmp 63) (Operand.tmp 65), _, _, _, none⟩ rfl (fun _ _ _ h => h) ?_ hHeld ?_
    rotate_left
    · (intro W _; go_simp <;> (try with_reducible rfl))
    refine take_v (v := ?_) 7 ⟨some 67, Op.load 3 (Operand.tmp 66), _, _, _, none⟩ rfl (fun _ _ _ h => h) ?_ hHeld ?_
    rotate_left
    · (intro W hSW; (have t2 := hSW.1.cell 2 rfl; have tz := hSW.1.2; have m2 := hSW.2.1.cell 2 rfl; have mz := hSW.2.1.2; have e0 := hSW.2.2); go_simp <;> (try with_reducible rfl))
    refine ready_two 1 8 ⟨some 61, Op.load 27 (Operand.tmp 60), _, _, _, none⟩ ⟨some 68, Op.buildSlice 27 1 #[(0, Operand.tmp 67)], _, _, _, none⟩ (by kernel_rfl) rfl rfl (by kernel_rfl) (by kernel_rfl) (fun KC hK => ?_) (fun KC hK => ?_)
    ·
      (first | (have d3 := HB1.out.1.1.cell 3 rfl; have dz := HB1.out.1.1.2) | (have d3 := HBd.out.1.1.cell 3 rfl; have dz := HBd.out.1.1.2))
      go_wp2_with fail
      clear d3 dz
      refine hK.out _ _ hHeld (fun hHeld => ?_)
      clear hK KC
      refine ready_call 8 ⟨some 68, Op.buildSlice 27 1 #[(0, Operand.tmp 67)], _, _, _, none⟩ (by kernel_rfl) rfl (by kernel_rfl) (fun KC hK => ?_)
      go_wp2_with fail
      obtain ⟨Y1, hY1⟩ : ∃ x, x = Y0.alloc (.cells #[.int .i64 e] 3) := ⟨_, rfl⟩
      have HB1 : Hid (SpB w Y1 [.int .i64 ep, .int .i64 du, .slice (some ⟨g, 0, none⟩) ms.length k1, .slice a2 en.length k2] [.int .i64 (2), .int .i64 b, .int .i64 (k : Int)] [.int .i64 x0, .int .i64 x1, .slice (some ⟨gr, 0, none⟩) x2.length kr, .int .i64 x3] w1.heap.size ∧ Below w.heap.size w Y1 ∧ Y1.cell? ⟨gr, k, none⟩ = some (.int .i64 e) ∧ Y1.heap.size = Y0.heap.size + 1 ∧ Lies Y1 (.list .int) [.slice (some ⟨Y0.heap.size, 0, none⟩) 1 1] [e] ∧ w1.heap.size < Y0.heap.size) := Hid.intro (by have hb := Go.Joins.below_alloc1 Y0 (.cells #[.int .i64 e] 3); exact hY1 ▸ ⟨HBd.out.1.next hb, below_next HBd.out.2 hb, (World.cell?_of_block (a := ⟨gr, k, none⟩) ((below_next HBd.out.2 hb).block gr hgrl)).trans HCE.out, by simp, lies_one (e := .int) (cs := [.int .i64 e]) 3 rfl rfl, HBd.out.1.2.2.2.1.2⟩)
      rw [← hY1]
      clear hY1
      refine hK.out _ _ ⟨HB1.out.1.2.1, HB1.out.1.2.2.2.1, HB1.out.2.2.1⟩ (fun hHeld => ?_)
      clear hK KC
      refine ready_call 9 ⟨some 69, Op.call { callee := Callee.builtin Builtin.append, args := #[Operand.tmp 61, Operand.tmp 68], argTypes := #[27, 27] }, _, _, _, none⟩ (by kernel_rfl) rfl (by kernel_rfl) (fun KC hK => ?_)
      refine wp_appx (.tmp 61) (.tmp 68) 27 3 (by rfl) i1 (.int .i64 0) 8 lo .int rfl Try.underlying27 hi1 hy0 hy1 hy2 rfl (by decide) (.slice a2 en.length k2) en [e] S2 (by rfl) (HO.out.1.next HB1.out.2.1) (some ⟨Y0.heap.size, 0, none⟩) 1 (by rfl) HB1.out.2.2.2.2.1 hbE hcE (Nat.le_trans hlo HB1.out.2.1.size) ?_
      intro v9 W3 hO9 hg9 hwh9
      obtain ⟨a9, c9, hv8⟩ := hO9.vform
      have hv9 : v9 = .slice a9 (en.length + 1) c9 := (by rw [hv8, List.length_append]; rfl)
      clear hv8
      subst hv9
      have HR9 : Hid (∀ k, (Value.slice a2 en.length k2).ownBlock = some k → S2 k ∧ k < w.heap.size) := Hid.intro (fun k q => ⟨(HO.out.1.tight rfl).2.2 k q, HO.out.2.2.2.2.2 k (HO.out.2.2.2.1 k ((HO.out.1.tight rfl).2.2 k q))⟩)
      have HB3 : Hid (SpB w W3 [.int .i64 ep, .int .i64 du, .slice (some ⟨g, 0, none⟩) ms.length k1, .slice a2 en.length k2] [.int .i64 (2), .int .i64 b, .int .i64 (k : Int)] [.int .i64 x0, .int .i64 x1, .slice (some ⟨gr, 0, none⟩) x2.length kr, .int .i64 x3] w1.heap.size ∧ TurnS S2 w W3 ∧ W3.cell? ⟨gr, k, none⟩ = some (.int .i64 e) ∧ OwnX W3 lo (.list .int 3) [.slice a9 (en.length + 1) c9] (en ++ [e]) (fun k => (Value.slice a9 (en.length + 1) c9).ownBlock = some k) ∧ (∀ k, (Value.slice a9 (en.length + 1) c9).ownBlock = some k → S2 k ∨ (w1.heap.size < k ∧ k < W3.heap.size))) := Hid.intro (by
        have ht : TurnS S2 w W3 := turn_grown HB1.out.2.1 hg9 (fun k q => (HR9.out k q).1)
        have h6 := hO9.tight rfl
        refine ⟨HB1.out.1.grow hg9 (fun k q => Or.inl (HR9.out k q).2), ht, (World.cell?_of_block (a := ⟨gr, k, none⟩) (ht.block hgrl (fun q => HO.out.2.2.2.2.1 gr (HBK.out gr HBR.out).1 q))).trans HCE.out, h6.1, fun k q => ?_⟩
        rcases h6.2.2 k q with r | r
        · exact Or.inl r
        · exact Or.inr ⟨by have h1 := HB1.out.2.2.2.1; have h2 := HB1.out.2.2.2.2.2; omega, (h6.2.1 k q).2⟩)
      clear hO9 hg9 hwh9
      refine hK.out _ _ ⟨HB3.out.1.2.1, HB3.out.1.2.2.2.1, HB3.out.2.2.1⟩ (fun hHeld => ?_)
      clear hK KC
      refine take_v (v := ?_) 10 ⟨some 70, Op.fieldAddr 29 (Operand.tmp 2) 3, _, _, _, none⟩ rfl (fun _ _ _ h => h) ?_ hHeld ?_
      rotate_left
      · (intro W _; go_simp <;> (try with_reducible rfl))
      refine ready_call 11 ⟨none, Op.store 27 (Operand.tmp 70) (Operand.tmp 69), _, _, _, none⟩ (by kernel_rfl) rfl (by kernel_rfl) (fun KC hK => ?_)
      have d3 := HB3.out.1.1.cell 3 rfl
      have dz := HB3.out.1.1.2
      have df := HB3.out.1.1.frz 3 (by simp)
      go_wp2_with fail
      clear d3 dz df
      have hs := HB3.out.1.setF (j := 3) (by simp) (.slice a9 (en.length + 1) c9)
      have HX : Hid (SpB w (W3.setCell ⟨w.heap.size, 3, none⟩ (.slice a9 (en.length + 1) c9)) [.int .i64 ep, .int .i64 du, .slice (some ⟨g, 0, none⟩) ms.length k1, .slice a9 (en.length + 1) c9] [.int .i64 (2), .int .i64 b, .int .i64 (k : Int)] [.int .i64 x0, .int .i64 x1, .slice (some ⟨gr, 0, none⟩) x2.length kr, .int .i64 x3] w1.heap.size ∧ TurnS S2 w (W3.setCell ⟨w.heap.size, 3, none⟩ (.slice a9 (en.length + 1) c9)) ∧ OwnX (W3.setCell ⟨w.heap.size, 3, none⟩ (.slice a9 (en.length + 1) c9)) lo (.list .int 3) [.slice a9 (en.length + 1) c9] (en ++ [e]) (fun k => (Value.slice a9 (en.length + 1) c9).ownBlock = some k) ∧ (∀ k, (Value.slice a9 (en.length + 1) c9).ownBlock = some k → S2 k ∨ (w1.heap.size < k ∧ k < (W3.setCell ⟨w.heap.size, 3, none⟩ (.slice a9 (en.length + 1) c9)).heap.size))) := Hid.intro ⟨hs, HB3.out.2.1.new (turn_set _ ⟨w.heap.size, 3, none⟩ _) (Nat.le_refl _), HB3.out.2.2.2.1.set (p := ⟨w.heap.size, 3, none⟩) (fun q => by
        have h9 := HB3.out.1.2.2.2.2
        rcases HB3.out.2.2.2.2 _ q with r | r
        · have h8 : w.heap.size < w.heap.size := HO.out.2.2.2.2.2 _ (HO.out.2.2.2.1 _ r); omega
        · have h8 : w1.heap.size < w.heap.size := r.1; omega) _, fun k q => by rw [World.size_setCell]; exact HB3.out.2.2.2.2 k q⟩
      clear hs
      refine hK.out _ _ ⟨HX.out.1.2.1, HX.out.1.2.2.2.1, (World.cell?_of_block (a := ⟨gr, k, none⟩) (HX.out.2.1.block hgrl (fun q => HO.out.2.2.2.2.1 gr (HBK.out gr HBR.out).1 q))).trans HCE.out⟩ (fun hHeld => ?_)
      clear hK KC
      refine wpAnyH_done (by kernel_rfl) ?_ _
      refine NoPanic.normal ?_
      clear hHeld
      go_wp2_with fail
      go_meet
      exact ⟨a9, c9, HX.out⟩
    ·
      go_wp2_with fail
      obtain ⟨Y1, hY1⟩ : ∃ x, x = Y0.alloc (.cells #[.int .i64 e] 3) := ⟨_, rfl⟩
      have HB1 : Hid (SpB w Y1 [.int .i64 ep, .int .i64 du, .slice (some ⟨g, 0, none⟩) ms.length k1, .slice a2 en.length k2] [.int .i64 (2), .int .i64 b, .int .i64 (k : Int)] [.int .i64 x0, .int .i64 x1, .slice (some ⟨gr, 0, none⟩) x2.length kr, .int .i64 x3] w1.heap.size ∧ Below w.heap.size w Y1 ∧ Y1.cell? ⟨gr, k, none⟩ = some (.int .i64 e) ∧ Y1.heap.size = Y0.heap.size + 1 ∧ Lies Y1 (.list .int) [.slice (some ⟨Y0.heap.size, 0, none⟩) 1 1] [e] ∧ w1.heap.size < Y0.heap.size) := Hid.intro (by have hb := Go.Joins.below_alloc1 Y0 (.cells #[.int .i64 e] 3); exact hY1 ▸ ⟨HBd.out.1.next hb, below_next HBd.out.2 hb, (World.cell?_of_block (a := ⟨gr, k, none⟩) ((below_next HBd.out.2 hb).block gr hgrl)).trans HCE.out, by simp, lies_one (e := .int) (cs := [.int .i64 e]) 3 rfl rfl, HBd.out.1.2.2.2.1.2⟩)
      rw [← hY1]
      clear hY1
      refine hK.out _ _ ⟨HB1.out.1.2.1, HB1.out.1.2.2.2.1, HB1.out.2.2.1⟩ (fun hHeld => ?_)
      clear hK KC
      refine ready_call 1 ⟨some 61, Op.load 27 (Operand.tmp 60), _, _, _, none⟩ (by kernel_rfl) rfl (by kernel_rfl) (fun KC hK => ?_)
      (first | (have d3 := HB1.out.1.1.cell 3 rfl; have dz := HB1.out.1.1.2) | (have d3 := HBd.out.1.1.cell 3 rfl; have dz := HBd.out.1.1.2))
      go_wp2_with fail
      clear d3 dz
      refine hK.out _ _ hHeld (fun hHeld => ?_)
      clear hK KC
      refine ready_call 9 ⟨some 69, Op.call { callee := Callee.builtin Builtin.append, args := #[Operand.tmp 61, Operand.tmp 68], argTypes := #[27, 27] }, _, _, _, none⟩ (by kernel_rfl) rfl (by kernel_rfl) (fun KC hK => ?_)
      refine wp_appx (.tmp 61) (.tmp 68) 27 3 (by rfl) i1 (.int .i64 0) 8 lo .int rfl Try.underlying27 hi1 hy0 hy1 hy2 rfl (by decide) (.slice a2 en.length k2) en [e] S2 (by rfl) (HO.out.1.next HB1.out.2.1) (some ⟨Y0.heap.size, 0, none⟩) 1 (by rfl) HB1.out.2.2.2.2.1 hbE hcE (Nat.le_trans hlo HB1.out.2.1.size) ?_
      intro v9 W3 hO9 hg9 hwh9
      obtain ⟨a9, c9, hv8⟩ := hO9.vform
      have hv9 : v9 = .slice a9 (en.length + 1) c9 := (by rw [hv8, List.length_append]; rfl)
      clear hv8
      subst hv9
      have HR9 : Hid (∀ k, (Value.slice a2 en.length k2).ownBlock = some k → S2 k ∧ k < w.heap.size) := Hid.intro (fun k q => ⟨(HO.out.1.tight rfl).2.2 k q, HO.out.2.2.2.2.2 k (HO.out.2.2.2.1 k ((HO.out.1.tight rfl).2.2 k q))⟩)
      have HB3 : Hid (SpB w W3 [.int .i64 ep, .int .i64 du, .slice (some ⟨g, 0, none⟩) ms.length k1, .slice a2 en.length k2] [.int .i64 (2), .int .i64 b, .int .i64 (k : Int)] [.int .i64 x0, .int .i64 x1, .slice (some ⟨gr, 0, none⟩) x2.length kr, .int .i64 x3] w1.heap.size ∧ TurnS S2 w W3 ∧ W3.cell? ⟨gr, k, none⟩ = some (.int .i64 e) ∧ OwnX W3 lo (.list .int 3) [.slice a9 (en.length + 1) c9] (en ++ [e]) (fun k => (Value.slice a9 (en.length + 1) c9).ownBlock = some k) ∧ (∀ k, (Value.slice a9 (en.length + 1) c9).ownBlock = some k → S2 k ∨ (w1.heap.size < k ∧ k < W3.heap.size))) := Hid.intro (by
        have ht : TurnS S2 w W3 := turn_grown HB1.out.2.1 hg9 (fun k q => (HR9.out k q).1)
        have h6 := hO9.tight rfl
        refine ⟨HB1.out.1.grow hg9 (fun k q => Or.inl (HR9.out k q).2), ht, (World.cell?_of_block (a := ⟨gr, k, none⟩) (ht.block hgrl (fun q => HO.out.2.2.2.2.1 gr (HBK.out gr HBR.out).1 q))).trans HCE.out, h6.1, fun k q => ?_⟩
        rcases h6.2.2 k q with r | r
        · exact Or.inl r
        · exact Or.inr ⟨by have h1 := HB1.out.2.2.2.1; have h2 := HB1.out.2.2.2.2.2; omega, (h6.2.1 k q).2⟩)
      clear hO9 hg9 hwh9
      refine hK.out _ _ ⟨HB3.out.1.2.1, HB3.out.1.2.2.2.1, HB3.out.2.2.1⟩ (fun hHeld => ?_)
      clear hK KC
      refine take_v (v := ?_) 10 ⟨some 70, Op.fieldAddr 29 (Operand.tmp 2) 3, _, _, _, none⟩ rfl (fun _ _ _ h => h) ?_ hHeld ?_
      rotate_left
      · (intro W _; go_simp <;> (try with_reducible rfl))
      refine ready_call 11 ⟨none, Op.store 27 (Operand.tmp 70) (Operand.tmp 69), _, _, _, none⟩ (by kernel_rfl) rfl (by kernel_rfl) (fun KC hK => ?_)
      have d3 := HB3.out.1.1.cell 3 rfl
      have dz := HB3.out.1.1.2
      have df := HB3.out.1.1.frz 3 (by simp)
      go_wp2_with fail
      clear d3 dz df
      have hs := HB3.out.1.setF (j := 3) (by simp) (.slice a9 (en.length + 1) c9)
      have HX : Hid (SpB w (W3.setCell ⟨w.heap.size, 3, none⟩ (.slice a9 (en.length + 1) c9)) [.int .i64 ep, .int .i64 du, .slice (some ⟨g, 0, none⟩) ms.length k1, .slice a9 (en.length + 1) c9] [.int .i64 (2), .int .i64 b, .int .i64 (k : Int)] [.int .i64 x0, .int .i64 x1, .slice (some ⟨gr, 0, none⟩) x2.length kr, .int .i64 x3] w1.heap.size ∧ TurnS S2 w (W3.setCell ⟨w.heap.size, 3, none⟩ (.slice a9 (en.length + 1) c9)) ∧ OwnX (W3.setCell ⟨w.heap.size, 3, none⟩ (.slice a9 (en.length + 1) c9)) lo (.list .int 3) [.slice a9 (en.length + 1) c9] (en ++ [e]) (fun k => (Value.slice a9 (en.length + 1) c9).ownBlock = some k) ∧ (∀ k, (Value.slice a9 (en.length + 1) c9).ownBlock = some k → S2 k ∨ (w1.heap.size < k ∧ k < (W3.setCell ⟨w.heap.size, 3, none⟩ (.slice a9 (en.length + 1) c9)).heap.size))) := Hid.intro ⟨hs, HB3.out.2.1.new (turn_set _ ⟨w.heap.size, 3, none⟩ _) (Nat.le_refl _), HB3.out.2.2.2.1.set (p := ⟨w.heap.size, 3, none⟩) (fun q => by
        have h9 := HB3.out.1.2.2.2.2
        rcases HB3.out.2.2.2.2 _ q with r | r
        · have h8 : w.heap.size < w.heap.size := HO.out.2.2.2.2.2 _ (HO.out.2.2.2.1 _ r); omega
        · have h8 : w1.heap.size < w.heap.size := r.1; omega) _, fun k q => by rw [World.size_setCell]; exact HB3.out.2.2.2.2 k q⟩
      clear hs
      refine hK.out _ _ ⟨HX.out.1.2.1, HX.out.1.2.2.2.1, (World.cell?_of_block (a := ⟨gr, k, none⟩) (HX.out.2.1.block hgrl (fun q => HO.out.2.2.2.2.1 gr (HBK.out gr HBR.out).1 q))).trans HCE.out⟩ (fun hHeld => ?_)
      clear hK KC
      refine wpAnyH_done (by kernel_rfl) ?_ _
      refine NoPanic.normal ?_
      clear hHeld
      go_wp2_with fail
      go_meet
      exact ⟨a9, c9, HX.out⟩
  case rest =>
    obtain ⟨a9, c9, hcut⟩ := hcut
    have HC := Hid.intro hcut
    clear hcut HB
    obtain ⟨L, hL⟩ : ∃ L, L = x2.eraseIdx k := ⟨_, rfl⟩
    have HLE := Hid.intro hL
    have HF : Hid ([] ++ x2.take k ++ x2.drop (k + 1) = L) := Hid.intro (by rw [hL, List.eraseIdx_eq_take_drop_succ]; rfl)
    clear hL
    have hlk : (x2.take k).length = k := by rw [List.length_take]; omega
    have hld : (x2.drop (k + 1)).length = x2.length - (k + 1) := by rw [List.length_drop]
    have HRW : Hid (OwnX wc lo (.list .int 3) [.slice (some ⟨gr, 0, none⟩) x2.length kr] x2 Bk) := Hid.intro (HO.out.2.1.turn HC.out.2.1 (fun j q z => HO.out.2.2.2.2.1 j (HBK.out j q).1 z))
    obtain ⟨hcap1, hcap2⟩ : x2.length ≤ kr ∧ kr ≤ maxLen := by
      obtain ⟨_, _, q, q1, q2, _⟩ := HRW.out.lies
      simp only [List.cons.injEq, Value.slice.injEq, and_true] at q
      obtain ⟨_, q3, q4⟩ := q
      subst q4
      exact ⟨by have := q1; omega, q2⟩
    have hcap3 : (k : Int) ≤ (kr : Int) := by omega
    have hcap5 : (0 : Int) ≤ (k : Int) + 1 := by omega
    have hcap4 : (k : Int) + 1 ≤ (x2.length : Int) := by omega
    have hkw : IntKind.i64.wrap ((k : Int) + 1) = (k : Int) + 1 := w64f (by omega) (by omega)
    have HCM := Hid.intro hcap2
    clear hcap2
    have hb6 : 0 + (x2.take k).length ≤ maxLen := by rw [hlk]; unfold maxLen; omega
    have hc6 : (0 + (x2.take k).length) * 8 ≤ 140737488355328 := by rw [hlk]; omega
    have hb13 : ([] ++ x2.take k).length + (x2.drop (k + 1)).length ≤ maxLen := by rw [List.nil_append, hlk, hld]; unfold maxLen; omega
    have hc13 : (([] ++ x2.take k).length + (x2.drop (k + 1)).length) * 8 ≤ 140737488355328 := by rw [List.nil_append, hlk, hld]; omega
    go_upto_region 17 with fail
    · obtain ⟨AD, hAD⟩ : ∃ AD : Option Addr, AD = (if kr = k + 1 then some ⟨gr, 0, none⟩ else some ⟨gr, k + 1, none⟩) := ⟨_, rfl⟩
      have HAD := Hid.intro hAD
      clear hAD
      have HBd : Hid (SpB w wc.drew [.int .i64 ep, .int .i64 du, .slice (some ⟨g, 0, none⟩) ms.length k1, .slice a9 (en.length + 1) c9] [.int .i64 (2), .int .i64 b, .int .i64 (k : Int)] [.int .i64 x0, .int .i64 x1, .slice (some ⟨gr, 0, none⟩) x2.length kr, .int .i64 x3] w1.heap.size ∧ TurnS S2 w wc.drew ∧ wc.drew.heap.size = wc.heap.size) := ⟨HC.out.1.next (below_drew _), HC.out.2.1.next (below_drew _), rfl⟩
      have HRd : Hid (OwnX wc.drew lo (.list .int 3) [.slice (some ⟨gr, 0, none⟩) x2.length kr] x2 Bk ∧ OwnX wc.drew lo (.list .int 3) [.slice a9 (en.length + 1) c9] (en ++ [e]) (fun k => (Value.slice a9 (en.length + 1) c9).ownBlock = some k)) := ⟨HRW.out.next (below_drew _), HC.out.2.2.1.next (below_drew _)⟩
      refine wp_region_noPanic ?_
      refine wp_region_held_drew (S := fun W => Bx W (w.heap.size + 1) [.int .i64 (2), .int .i64 b, .int .i64 (k : Int)]) (by kernel_rfl) HBd.out.1.2.1 (fun hHeld => ?_)
      obtain ⟨Y0, hWE⟩ : ∃ x, x = wc.drew := ⟨_, rfl⟩
      rw [← hWE] at HBd HRd hHeld ⊢
      clear hWE
      refine take_v (v := ?_) 1 ⟨some 72, Op.fieldAddr 37 (Operand.tmp 7) 2, _, _, _, none⟩ rfl (fun _ _ _ h => h) ?_ hHeld ?_
      rotate_left
      · (intro W _; go_simp <;> (try with_reducible rfl))
      refine take_v (v := ?_) 3 ⟨some 74, Op.fieldAddr 40 (Operand.tmp 3) 2, _, _, _, none⟩ rfl (fun _ _ _ h => h) ?_ hHeld ?_
      rotate_left
      · (intro W _; go_simp <;> (try with_reducible rfl))
      refine take_v (v := ?_) 4 ⟨some 75, Op.load 3 (Operand.tmp 74), _, _, _, none⟩ rfl (fun _ _ _ h => h) ?_ hHeld ?_
      rotate_left
      · (intro W hSW; (have t2 := hSW.cell 2 rfl; have tz := hSW.2); go_simp <;> (try with_reducible rfl))
      refine take_v (v := ?_) 7 ⟨some 78, Op.fieldAddr 37 (Operand.tmp 7) 2, _, _, _, none⟩ rfl (fun _ _ _ h => h) ?_ hHeld ?_
      rotate_left
      · (intro W _; go_simp <;> (try with_reducible rfl))
      refine take_v (v := ?_) 9 ⟨some 80, Op.fieldAddr 40 (Operand.tmp 3) 2, _, _, _, none⟩ rfl (fun _ _ _ h => h) ?_ hHeld ?_
      rotate_left
      · (intro W _; go_simp <;> (try with_reducible rfl))
      refine take_v (v := ?_) 10 ⟨some 81, Op.load 3 (Operand.tmp 80), _, _, _, none⟩ rfl (fun _ _ _ h => h) ?_ hHeld ?_
      rotate_left
      · (intro W hSW; (have t2 := hSW.cell 2 rfl; have tz := hSW.2); go_simp <;> (try with_reducible rfl))
      refine take_v (v := ?_) 11 ⟨some 82, Op.binOp BinOp.add 3 (Operand.tmp 81) (Operand.const (Value.int IntKind.i64 1)) 3, _, _, _, none⟩ rfl (fun _ _ _ h => h) ?_ hHeld ?_
      rotate_left
      · (intro W _; go_simp <;> (try with_reducible rfl))
      refine ready_three 0 2 8 ⟨some 71, Op.buildSlice 27 0 #[], _, _, _, none⟩ ⟨some 73, Op.load 27 (Operand.tmp 72), _, _, _, none⟩ ⟨some 79, Op.load 27 (Operand.tmp 78), _, _, _, none⟩ (by kernel_rfl) rfl rfl rfl (by kernel_rfl) (by kernel_rfl) (by kernel_rfl) (fun KC hK => ?_) (fun KC hK => ?_) (fun KC hK => ?_)
      ·
        try rw [← HAD.out]
        go_wp2_with fail
        obtain ⟨Y1, hY1⟩ : ∃ x, x = Y0.alloc (.cells #[] 3) := ⟨_, rfl⟩
        have HB1 : Hid (SpB w Y1 [.int .i64 ep, .int .i64 du, .slice (some ⟨g, 0, none⟩) ms.length k1, .slice a9 (en.length + 1) c9] [.int .i64 (2), .int .i64 b, .int .i64 (k : Int)] [.int .i64 x0, .int .i64 x1, .slice (some ⟨gr, 0, none⟩) x2.length kr, .int .i64 x3] w1.heap.size ∧ TurnS S2 w Y1 ∧ Y1.heap.size = Y0.heap.size + 1 ∧ OwnX Y1 lo (.list .int 3) [.slice (some ⟨Y0.heap.size, 0, none⟩) 0 0] [] (fun k => k = Y0.heap.size) ∧ OwnX Y1 lo (.list .int 3) [.slice (some ⟨gr, 0, none⟩) x2.length kr] x2 Bk ∧ OwnX Y1 lo (.list .int 3) [.slice a9 (en.length + 1) c9] (en ++ [e]) (fun k => (Value.slice a9 (en.length + 1) c9).ownBlock = some k) ∧ lo ≤ Y1.heap.size) := Hid.intro (by
          have hb := Go.Joins.below_alloc1 Y0 (.cells #[] 3)
          have hz : lo ≤ Y0.heap.size := Nat.le_trans hlo HBd.out.2.1.size
          exact hY1 ▸ ⟨HBd.out.1.next hb, HBd.out.2.1.next hb, by simp, ((ApS.made (e := .int) (t := 3) (w := Y0) rfl).1.lower hz).mono (fun k q => by simp only [Btw] at q; simp at q; omega), HRd.out.1.next hb, HRd.out.2.next hb, Nat.le_trans hz hb.size⟩)
        rw [← hY1]
        clear hY1
        refine hK.out _ _ HB1.out.1.2.1 (fun hHeld => ?_)
        clear hK KC
        refine ready_two 2 8 ⟨some 73, Op.load 27 (Operand.tmp 72), _, _, _, none⟩ ⟨some 79, Op.load 27 (Operand.tmp 78), _, _, _, none⟩ (by kernel_rfl) rfl rfl (by kernel_rfl) (by kernel_rfl) (fun KC hK => ?_) (fun KC hK => ?_)
        ·
          try rw [← HAD.out]
          (first | (have d2 := HB6.out.1.2.2.2.1.cell 2 rfl; have dz := HB6.out.1.2.2.2.1.2) | (have d2 := HB1.out.1.2.2.2.1.cell 2 rfl; have dz := HB1.out.1.2.2.2.1.2) | (have d2 := HBd.out.1.2.2.2.1.cell 2 rfl; have dz := HBd.out.1.2.2.2.1.2))
          go_wp2_with fail
          clear d2 dz
          refine hK.out _ _ hHeld (fun hHeld => ?_)
          clear hK KC
          refine take_v (v := ?_) 5 ⟨some 76, Op.slice 27 (Operand.tmp 73) none (some (Operand.tmp 75)) none, _, _, _, none⟩ rfl (fun _ _ _ h => h) ?_ hHeld ?_
          rotate_left
          · (intro W _; go_simp <;> (try with_reducible rfl))
          refine ready_two 6 8 ⟨some 77, Op.call { callee := Callee.builtin Builtin.append, args := #[Operand.tmp 71, Operand.tmp 76], argTypes := #[27, 27] }, _, _, _, none⟩ ⟨some 79, Op.load 27 (Operand.tmp 78), _, _, _, none⟩ (by kernel_rfl) rfl rfl (by kernel_rfl) (by kernel_rfl) (fun KC hK => ?_) (fun KC hK => ?_)
          ·
            try rw [← HAD.out]
            refine wp_appx (.tmp 71) (.tmp 76) 27 3 (by rfl) i1 (.int .i64 0) 8 lo .int rfl Try.underlying27 hi1 hy0 hy1 hy2 rfl (by decide) (.slice (some ⟨Y0.heap.size, 0, none⟩) 0 0) [] (x2.take k) (fun k => k = Y0.heap.size) (by rfl) HB1.out.2.2.2.1 (some ⟨gr, 0, none⟩) kr (by rw [hlk]; rfl) (by rw [hlk]; exact HB1.out.2.2.2.2.1.lies.take k (Nat.le_of_lt hkl)) hb6 hc6 HB1.out.2.2.2.2.2.2 ?_
            intro v6 Y6 hO6 hg6 hwh6
            have hrow : ∀ j, (Value.slice (some ⟨Y0.heap.size, 0, none⟩) 0 0).ownBlock = some j → j = Y0.heap.size := fun j q => (HB1.out.2.2.2.1.tight rfl).2.2 j q
            have HB6 : Hid (SpB w Y6 [.int .i64 ep, .int .i64 du, .slice (some ⟨g, 0, none⟩) ms.length k1, .slice a9 (en.length + 1) c9] [.int .i64 (2), .int .i64 b, .int .i64 (k : Int)] [.int .i64 x0, .int .i64 x1, .slice (some ⟨gr, 0, none⟩) x2.length kr, .int .i64 x3] w1.heap.size ∧ TurnS S2 w Y6 ∧ OwnX Y6 lo (.list .int 3) [v6] ([] ++ x2.take k) (fun j => v6.ownBlock = some j) ∧ (∀ j, v6.ownBlock = some j → Y0.heap.size ≤ j) ∧ OwnX Y6 lo (.list .int 3) [.slice (some ⟨gr, 0, none⟩) x2.length kr] x2 Bk ∧ OwnX Y6 lo (.list .int 3) [.slice a9 (en.length + 1) c9] (en ++ [e]) (fun k => (Value.slice a9 (en.length + 1) c9).ownBlock = some k) ∧ lo ≤ Y6.heap.size ∧ Y1.heap.size ≤ Y6.heap.size) := Hid.intro (by
              have hz0 : w1.heap.size < wc.heap.size := HC.out.1.2.2.2.1.2
              have hz1 : Y0.heap.size = wc.heap.size := HBd.out.2.2
              have hz2 : w.heap.size ≤ w1.heap.size := by have := HC.out.1.2.2.2.2; omega
              have h6 := hO6.tight rfl
              refine ⟨HB1.out.1.grow hg6 (fun j q => Or.inr (by have := hrow j q; omega)), HB1.out.2.1.grown hg6 (fun j q => Or.inr (by have := hrow j q; omega)), h6.1, fun j q => ?_, HB1.out.2.2.2.2.1.grow hg6 (fun j q z => ?_), HB1.out.2.2.2.2.2.1.grow hg6 (fun j q z => ?_), Nat.le_trans HB1.out.2.2.2.2.2.2 hg6.size, hg6.size⟩
              · rcases h6.2.2 j q with r | r
                · omega
                · have := HB1.out.2.2.1; omega
              · have h1 := HO.out.2.2.2.2.2 j (HO.out.2.2.1 j (HBK.out j z).1); have := hrow j q; omega
              · have h1 := (HC.out.2.2.1.tight rfl).2.1 j z; have := hrow j q; omega)
            clear hO6 hg6 hwh6 hrow
            refine hK.out _ _ HB6.out.1.2.1 (fun hHeld => ?_)
            clear hK KC
            refine ready_call 8 ⟨some 79, Op.load 27 (Operand.tmp 78), _, _, _, none⟩ (by kernel_rfl) rfl (by kernel_rfl) (fun KC hK => ?_)
            try rw [← HAD.out]
            (first | (have d2 := HB6.out.1.2.2.2.1.cell 2 rfl; have dz := HB6.out.1.2.2.2.1.2) | (have d2 := HB1.out.1.2.2.2.1.cell 2 rfl; have dz := HB1.out.1.2.2.2.1.2) | (have d2 := HBd.out.1.2.2.2.1.cell 2 rfl; have dz := HBd.out.1.2.2.2.1.2))
            go_wp2_with fail
            clear d2 dz
            refine hK.out _ _ hHeld (fun hHeld => ?_)
            clear hK KC
            refine take_v (v := ?_) 12 ⟨some 83, Op.slice 27 (Operand.tmp 79) (some (Operand.tmp 82)) none none, _, _, _, none⟩ rfl (fun _ _ _ h => h) ?_ hHeld ?_
            rotate_left
            · (intro W _; go_simp <;> (try with_reducible rfl))
            refine ready_call 13 ⟨some 84, Op.call { callee := Callee.builtin Builtin.append, args := #[Operand.tmp 77, Operand.tmp 83], argTypes := #[27, 27] }, _, _, _, none⟩ (by kernel_rfl) rfl (by kernel_rfl) (fun KC hK => ?_)
            try rw [← HAD.out]
            refine wp_appx (.tmp 77) (.tmp 83) 27 3 (by rfl) i1 (.int .i64 0) 8 lo .int rfl Try.underlying27 hi1 hy0 hy1 hy2 rfl (by decide) v6 ([] ++ x2.take k) (x2.drop (k + 1)) (fun j => v6.ownBlock = some j) (by rfl) HB6.out.2.2.1 AD (kr - (k + 1)) (by rw [hld]; rfl) (by rw [HAD.out]; exact drop_lies HB6.out.2.2.2.2.1.lies rfl hkl hcap1 HCM.out) hb13 hc13 HB6.out.2.2.2.2.2.2.1 ?_
            intro v13 Y13 hO13 hg13 hwh13
            have hO13' : OwnX Y13 lo (.list .int 3) [v13] L (fun j => v6.ownBlock = some j ∨ j = Y6.heap.size) := HF.out ▸ hO13
            obtain ⟨a8, c8, hv8⟩ := hO13'.vform
            have hv8 : v13 = .slice a8 (List.length (α := Sh.T .int) L) c8 := hv8
            subst hv8
            have HB13 : Hid (SpB w Y13 [.int .i64 ep, .int .i64 du, .slice (some ⟨g, 0, none⟩) ms.length k1, .slice a9 (en.length + 1) c9] [.int .i64 (2), .int .i64 b, .int .i64 (k : Int)] [.int .i64 x0, .int .i64 x1, .slice (some ⟨gr, 0, none⟩) x2.length kr, .int .i64 x3] w1.heap.size ∧ TurnS S2 w Y13 ∧ OwnX Y13 lo (.list .int 3) [.slice a8 L.length c8] L (fun j => (Value.slice a8 L.length c8).ownBlock = some j) ∧ (∀ j, (Value.slice a8 L.length c8).ownBlock = some j → wc.heap.size ≤ j ∧ j < Y13.heap.size) ∧ OwnX Y13 lo (.list .int 3) [.slice a9 (en.length + 1) c9] (en ++ [e]) (fun k => (Value.slice a9 (en.length + 1) c9).ownBlock = some k) ∧ wc.heap.size ≤ Y13.heap.size) := Hid.intro (by
              have hz0 : w1.heap.size < wc.heap.size := HC.out.1.2.2.2.1.2
              have hz1 : Y0.heap.size = wc.heap.size := HBd.out.2.2
              have hz2 : w.heap.size ≤ w1.heap.size := by have := HC.out.1.2.2.2.2; omega
              have hz3 := HB6.out.2.2.2.2.2.2.2
              have hz4 := HB1.out.2.2.1
              have h6 := hO13'.tight rfl
              refine ⟨HB6.out.1.grow hg13 (fun j q => Or.inr (by have := HB6.out.2.2.2.1 j q; omega)), HB6.out.2.1.grown hg13 (fun j q => Or.inr (by have := HB6.out.2.2.2.1 j q; omega)), h6.1, fun j q => ⟨?_, (h6.2.1 j q).2⟩, HB6.out.2.2.2.2.2.1.grow hg13 (fun j q z => ?_), by have := hg13.size; omega⟩
              · rcases h6.2.2 j q with r | r
                · have := HB6.out.2.2.2.1 j r; omega
                · omega
              · have h1 := (HC.out.2.2.1.tight rfl).2.1 j z; have := HB6.out.2.2.2.1 j q; omega)
            clear hO13 hO13' hg13 hwh13
            refine hK.out _ _ HB13.out.1.2.1 (fun hHeld => ?_)
            clear hK KC
            refine take_v (v := ?_) 14 ⟨some 85, Op.fieldAddr 37 (Operand.tmp 7) 2, _, _, _, none⟩ rfl (fun _ _ _ h => h) ?_ hHeld ?_
            rotate_left
            · (intro W _; go_simp <;> (try with_reducible rfl))
            refine ready_call 15 ⟨none, Op.store 27 (Operand.tmp 85) (Operand.tmp 84), _, _, _, none⟩ (by kernel_rfl) rfl (by kernel_rfl) (fun KC hK => ?_)
            try rw [← HAD.out]
            have d2 := HB13.out.1.2.2.2.1.cell 2 rfl
            have dz := HB13.out.1.2.2.2.1.2
            have df := HB13.out.1.2.2.2.1.frz 2 (by simp)
            go_wp2_with fail
            clear d2 dz df
            have HX : Hid (SpB w (Y13.setCell ⟨w1.heap.size, 2, none⟩ (.slice a8 L.length c8)) [.int .i64 ep, .int .i64 du, .slice (some ⟨g, 0, none⟩) ms.length k1, .slice a9 (en.length + 1) c9] [.int .i64 (2), .int .i64 b, .int .i64 (k : Int)] [.int .i64 x0, .int .i64 x1, .slice a8 L.length c8, .int .i64 x3] w1.heap.size ∧ TurnS S2 w (Y13.setCell ⟨w1.heap.size, 2, none⟩ (.slice a8 L.length c8)) ∧ OwnX (Y13.setCell ⟨w1.heap.size, 2, none⟩ (.slice a8 L.length c8)) lo (.list .int 3) [.slice a9 (en.length + 1) c9] (en ++ [e]) (fun k => (Value.slice a9 (en.length + 1) c9).ownBlock = some k) ∧ OwnX (Y13.setCell ⟨w1.heap.size, 2, none⟩ (.slice a8 L.length c8)) lo (.list .int 3) [.slice a8 L.length c8] L (fun j => (Value.slice a8 L.length c8).ownBlock = some j) ∧ (∀ j, (Value.slice a8 L.length c8).ownBlock = some j → wc.heap.size ≤ j ∧ j < (Y13.setCell ⟨w1.heap.size, 2, none⟩ (.slice a8 L.length c8)).heap.size) ∧ wc.heap.size ≤ (Y13.setCell ⟨w1.heap.size, 2, none⟩ (.slice a8 L.length c8)).heap.size) := Hid.intro (by
              have hz0 : w1.heap.size < wc.heap.size := HC.out.1.2.2.2.1.2
              have hz2 := HC.out.1.2.2.2.2
              refine ⟨HB13.out.1.setM (j := 2) (by simp) _, HB13.out.2.1.new (turn_set _ ⟨w1.heap.size, 2, none⟩ _) (by show w.heap.size ≤ w1.heap.size; omega), HB13.out.2.2.2.2.1.set (p := ⟨w1.heap.size, 2, none⟩) (fun q => ?_) _, HB13.out.2.2.1.set (p := ⟨w1.heap.size, 2, none⟩) (fun q => ?_) _, fun j q => by rw [World.size_setCell]; exact HB13.out.2.2.2.1 j q, by rw [World.size_setCell]; exact HB13.out.2.2.2.2.2⟩
              · rcases HC.out.2.2.2 _ q with r | r
                · have h8 : w1.heap.size < w.heap.size := HO.out.2.2.2.2.2 _ (HO.out.2.2.2.1 _ r); omega
                · have h8 : w1.heap.size < w1.heap.size := r.1; omega
              · have h8 : wc.heap.size ≤ w1.heap.size := (HB13.out.2.2.2.1 _ q).1; omega)
            refine hK.out _ _ HX.out.1.2.1 (fun hHeld => ?_)
            clear hK KC
            refine wpAnyH_done (by kernel_rfl) ?_ _
            refine NoPanic.normal ?_
            clear hHeld
            obtain ⟨X, hXe⟩ : ∃ x, x = Y13.setCell ⟨w1.heap.size, 2, none⟩ (.slice a8 L.length c8) := ⟨_, rfl⟩
            rw [← hXe] at HX ⊢
            clear hXe
            obtain ⟨c0, c1, c2, c3⟩ := HCW.out
            have hBg : ¬ S2 g := fun q => HO.out.2.2.2.2.1 g HSG.out q
            have HBG := Hid.intro hBg
            clear hBg
            have s0 := (HX.out.1.1).cell 0 rfl; have s1 := (HX.out.1.1).cell 1 rfl; have s2 := (HX.out.1.1).cell 2 rfl; have s3 := (HX.out.1.1).cell 3 rfl; have sz := (HX.out.1.1).2
            have r0 := (HX.out.1.2.2.1).cell 0 rfl; have r1 := (HX.out.1.2.2.1).cell 1 rfl; have r2 := (HX.out.1.2.2.1).cell 2 rfl; have r3 := (HX.out.1.2.2.1).cell 3 rfl; have rz := (HX.out.1.2.2.1).2
            have m0 := (HX.out.1.2.2.2.1).cell 0 rfl; have m1 := (HX.out.1.2.2.2.1).cell 1 rfl; have m2 := (HX.out.1.2.2.2.1).cell 2 rfl; have m3 := (HX.out.1.2.2.2.1).cell 3 rfl; have mz := (HX.out.1.2.2.2.1).2
            have rf0 := HX.out.1.2.2.1.frz 0 (by simp)
            have rf1 := HX.out.1.2.2.1.frz 1 (by simp)
            have rf2 := HX.out.1.2.2.1.frz 2 (by simp)
            have rf3 := HX.out.1.2.2.1.frz 3 (by simp)
            have gc0 := (World.cell?_of_block (a := ⟨g, i * 4, none⟩) (HX.out.2.1.block hgl HBG.out)).trans c0
            have gf0 := (World.frozen?_of_block (a := ⟨g, i * 4, none⟩) (HX.out.2.1.block hgl HBG.out)).trans f0
            have gc1 := (World.cell?_of_block (a := ⟨g, i * 4 + 1, none⟩) (HX.out.2.1.block hgl HBG.out)).trans c1
            have gf1 := (World.frozen?_of_block (a := ⟨g, i * 4 + 1, none⟩) (HX.out.2.1.block hgl HBG.out)).trans f1
            have gc2 := (World.cell?_of_block (a := ⟨g, i * 4 + 2, none⟩) (HX.out.2.1.block hgl HBG.out)).trans c2
            have gf2 := (World.frozen?_of_block (a := ⟨g, i * 4 + 2, none⟩) (HX.out.2.1.block hgl HBG.out)).trans f2
            have gc3 := (World.cell?_of_block (a := ⟨g, i * 4 + 3, none⟩) (HX.out.2.1.block hgl HBG.out)).trans c3
            have gf3 := (World.frozen?_of_block (a := ⟨g, i * 4 + 3, none⟩) (HX.out.2.1.block hgl HBG.out)).trans f3
            have hglX : g < X.heap.size := Nat.lt_of_lt_of_le hgl (HX.out.2.1).size
            go_wp2
            exact bodyPost_ret (v := .tuple #[.agg #[.int .i64 ep, .int .i64 du, .slice (some ⟨g, 0, none⟩) ms.length k1, .slice a9 (en.length + 1) c9], .bool true]) (by simp [results, Try.results41, go_sem, *]) rfl (fe_tail (T := S2) (B' := fun j => (Value.slice a8 L.length c8).ownBlock = some j) (E' := fun j => (Value.slice a9 (en.length + 1) c9).ownBlock = some j) HP.out HSG.out HBK.out HO.out.2.2 HX.out.2.1 (fun k q => Or.inr q) HX.out.2.2.2.1 HX.out.2.2.1 (fun j q => Or.inr ⟨by have h1 := (HX.out.2.2.2.2.1 j q).1; have h2 := HC.out.1.2.2.2.1.2; have h3 := HC.out.1.2.2.2.2; omega, (HX.out.2.2.2.2.1 j q).2, by have h1 := (HX.out.2.2.2.2.1 j q).1; have h2 := HC.out.1.2.2.2.1.2; have h3 := HC.out.1.2.2.2.2; omega⟩) (fun j q => by rcases HC.out.2.2.2 j q with r | r; exact Or.inl r; exact Or.inr ⟨by have h3 := HC.out.1.2.2.2.2; omega, by have h4 := HX.out.2.2.2.2.2; omega, by have h3 := HC.out.1.2.2.2.2; omega⟩) (fun j q z => by have h1 := (HX.out.2.2.2.2.1 j q).1; have h2 := ((HC.out.2.2.1.tight rfl).2.1 j z).2; omega) (HLE.out ▸ HE.out ▸ HN.out))
          ·
            try rw [← HAD.out]
            (first | (have d2 := HB6.out.1.2.2.2.1.cell 2 rfl; have dz := HB6.out.1.2.2.2.1.2) | (have d2 := HB1.out.1.2.2.2.1.cell 2 rfl; have dz := HB1.out.1.2.2.2.1.2) | (have d2 := HBd.out.1.2.2.2.1.cell 2 rfl; have dz := HBd.out.1.2.2.2.1.2))
            go_wp2_with fail
            clear d2 dz
            refine hK.out _ _ hHeld (fun hHeld => ?_)
            clear hK KC
            refine take_v (v := ?_) 12 ⟨some 83, Op.slice 27 (Operand.tmp 79) (some (Operand.tmp 82)) none none, _, _, _, none⟩ rfl (fun _ _ _ h => h) ?_ hHeld ?_
            rotate_left
            · (intro W _; go_simp <;> (try with_reducible rfl))
            refine ready_call 6 ⟨some 77, Op.call { callee := Callee.builtin Builtin.append, args := #[Operand.tmp 71, Operand.tmp 76], argTypes := #[27, 27] }, _, _, _, none⟩ (by kernel_rfl) rfl (by kernel_rfl) (fun KC hK => ?_)
            try rw [← HAD.out]
            refine wp_appx (.tmp 71) (.tmp 76) 27 3 (by rfl) i1 (.int .i64 0) 8 lo .int rfl Try.underlying27 hi1 hy0 hy1 hy2 rfl (by decide) (.slice (some ⟨Y0.heap.size, 0, none⟩) 0 0) [] (x2.take k) (fun k => k = Y0.heap.size) (by rfl) HB1.out.2.2.2.1 (some ⟨gr, 0, none⟩) kr (by rw [hlk]; rfl) (by rw [hlk]; exact HB1.out.2.2.2.2.1.lies.take k (Nat.le_of_lt hkl)) hb6 hc6 HB1.out.2.2.2.2.2.2 ?_
            intro v6 Y6 hO6 hg6 hwh6
            have hrow : ∀ j, (Value.slice (some ⟨Y0.heap.size, 0, none⟩) 0 0).ownBlock = some j → j = Y0.heap.size := fun j q => (HB1.out.2.2.2.1.tight rfl).2.2 j q
            have HB6 : Hid (SpB w Y6 [.int .i64 ep, .int .i64 du, .slice (some ⟨g, 0, none⟩) ms.length k1, .slice a9 (en.length + 1) c9] [.int .i64 (2), .int .i64 b, .int .i64 (k : Int)] [.int .i64 x0, .int .i64 x1, .slice (some ⟨gr, 0, none⟩) x2.length kr, .int .i64 x3] w1.heap.size ∧ TurnS S2 w Y6 ∧ OwnX Y6 lo (.list .int 3) [v6] ([] ++ x2.take k) (fun j => v6.ownBlock = some j) ∧ (∀ j, v6.ownBlock = some j → Y0.heap.size ≤ j) ∧ OwnX Y6 lo (.list .int 3) [.slice (some ⟨gr, 0, none⟩) x2.length kr] x2 Bk ∧ OwnX Y6 lo (.list .int 3) [.slice a9 (en.length + 1) c9] (en ++ [e]) (fun k => (Value.slice a9 (en.length + 1) c9).ownBlock = some k) ∧ lo ≤ Y6.heap.size ∧ Y1.heap.size ≤ Y6.heap.size) := Hid.intro (by
              have hz0 : w1.heap.size < wc.heap.size := HC.out.1.2.2.2.1.2
              have hz1 : Y0.heap.size = wc.heap.size := HBd.out.2.2
              have hz2 : w.heap.size ≤ w1.heap.size := by have := HC.out.1.2.2.2.2; omega
              have h6 := hO6.tight rfl
              refine ⟨HB1.out.1.grow hg6 (fun j q => Or.inr (by have := hrow j q; omega)), HB1.out.2.1.grown hg6 (fun j q => Or.inr (by have := hrow j q; omega)), h6.1, fun j q => ?_, HB1.out.2.2.2.2.1.grow hg6 (fun j q z => ?_), HB1.out.2.2.2.2.2.1.grow hg6 (fun j q z => ?_), Nat.le_trans HB1.out.2.2.2.2.2.2 hg6.size, hg6.size⟩
              · rcases h6.2.2 j q with r | r
                · omega
                · have := HB1.out.2.2.1; omega
              · have h1 := HO.out.2.2.2.2.2 j (HO.out.2.2.1 j (HBK.out j z).1); have := hrow j q; omega
              · have h1 := (HC.out.2.2.1.tight rfl).2.1 j z; have := hrow j q; omega)
            clear hO6 hg6 hwh6 hrow
            refine hK.out _ _ HB6.out.1.2.1 (fun hHeld => ?_)
            clear hK KC
            refine ready_call 13 ⟨some 84, Op.call { callee := Callee.builtin Builtin.append, args := #[Operand.tmp 77, Operand.tmp 83], argTypes := #[27, 27] }, _, _, _, none⟩ (by kernel_rfl) rfl (by kernel_rfl) (fun KC hK => ?_)
            try rw [← HAD.out]
            refine wp_appx (.tmp 77) (.tmp 83) 27 3 (by rfl) i1 (.int .i64 0) 8 lo .int rfl Try.underlying27 hi1 hy0 hy1 hy2 rfl (by decide) v6 ([] ++ x2.take k) (x2.drop (k + 1)) (fun j => v6.ownBlock = some j) (by rfl) HB6.out.2.2.1 AD (kr - (k + 1)) (by rw [hld]; rfl) (by rw [HAD.out]; exact drop_lies HB6.out.2.2.2.2.1.lies rfl hkl hcap1 HCM.out) hb13 hc13 HB6.out.2.2.2.2.2.2.1 ?_
            intro v13 Y13 hO13 hg13 hwh13
            have hO13' : OwnX Y13 lo (.list .int 3) [v13] L (fun j => v6.ownBlock = some j ∨ j = Y6.heap.size) := HF.out ▸ hO13
            obtain ⟨a8, c8, hv8⟩ := hO13'.vform
            have hv8 : v13 = .slice a8 (List.length (α := Sh.T .int) L) c8 := hv8
            subst hv8
            have HB13 : Hid (SpB w Y13 [.int .i64 ep, .int .i64 du, .slice (some ⟨g, 0, none⟩) ms.length k1, .slice a9 (en.length + 1) c9] [.int .i64 (2), .int .i64 b, .int .i64 (k : Int)] [.int .i64 x0, .int .i64 x1, .slice (some ⟨gr, 0, none⟩) x2.length kr, .int .i64 x3] w1.heap.size ∧ TurnS S2 w Y13 ∧ OwnX Y13 lo (.list .int 3) [.slice a8 L.length c8] L (fun j => (Value.slice a8 L.length c8).ownBlock = some j) ∧ (∀ j, (Value.slice a8 L.length c8).ownBlock = some j → wc.heap.size ≤ j ∧ j < Y13.heap.size) ∧ OwnX Y13 lo (.list .int 3) [.slice a9 (en.length + 1) c9] (en ++ [e]) (fun k => (Value.slice a9 (en.length + 1) c9).ownBlock = some k) ∧ wc.heap.size ≤ Y13.heap.size) := Hid.intro (by
              have hz0 : w1.heap.size < wc.heap.size := HC.out.1.2.2.2.1.2
              have hz1 : Y0.heap.size = wc.heap.size := HBd.out.2.2
              have hz2 : w.heap.size ≤ w1.heap.size := by have := HC.out.1.2.2.2.2; omega
              have hz3 := HB6.out.2.2.2.2.2.2.2
              have hz4 := HB1.out.2.2.1
              have h6 := hO13'.tight rfl
              refine ⟨HB6.out.1.grow hg13 (fun j q => Or.inr (by have := HB6.out.2.2.2.1 j q; omega)), HB6.out.2.1.grown hg13 (fun j q => Or.inr (by have := HB6.out.2.2.2.1 j q; omega)), h6.1, fun j q => ⟨?_, (h6.2.1 j q).2⟩, HB6.out.2.2.2.2.2.1.grow hg13 (fun j q z => ?_), by have := hg13.size; omega⟩
              · rcases h6.2.2 j q with r | r
                · have := HB6.out.2.2.2.1 j r; omega
                · omega
              · have h1 := (HC.out.2.2.1.tight rfl).2.1 j z; have := HB6.out.2.2.2.1 j q; omega)
            clear hO13 hO13' hg13 hwh13
            refine hK.out _ _ HB13.out.1.2.1 (fun hHeld => ?_)
            clear hK KC
            refine take_v (v := ?_) 14 ⟨some 85, Op.fieldAddr 37 (Operand.tmp 7) 2, _, _, _, none⟩ rfl (fun _ _ _ h => h) ?_ hHeld ?_
            rotate_left
            · (intro W _; go_simp <;> (try with_reducible rfl))
            refine ready_call 15 ⟨none, Op.store 27 (Operand.tmp 85) (Operand.tmp 84), _, _, _, none⟩ (by kernel_rfl) rfl (by kernel_rfl) (fun KC hK => ?_)
            try rw [← HAD.out]
            have d2 := HB13.out.1.2.2.2.1.cell 2 rfl
            have dz := HB13.out.1.2.2.2.1.2
            have df := HB13.out.1.2.2.2.1.frz 2 (by simp)
            go_wp2_with fail
            clear d2 dz df
            have HX : Hid (SpB w (Y13.setCell ⟨w1.heap.size, 2, none⟩ (.slice a8 L.length c8)) [.int .i64 ep, .int .i64 du, .slice (some ⟨g, 0, none⟩) ms.length k1, .slice a9 (en.length + 1) c9] [.int .i64 (2), .int .i64 b, .int .i64 (k : Int)] [.int .i64 x0, .int .i64 x1, .slice a8 L.length c8, .int .i64 x3] w1.heap.size ∧ TurnS S2 w (Y13.setCell ⟨w1.heap.size, 2, none⟩ (.slice a8 L.length c8)) ∧ OwnX (Y13.setCell ⟨w1.heap.size, 2, none⟩ (.slice a8 L.length c8)) lo (.list .int 3) [.slice a9 (en.length + 1) c9] (en ++ [e]) (fun k => (Value.slice a9 (en.length + 1) c9).ownBlock = some k) ∧ OwnX (Y13.setCell ⟨w1.heap.size, 2, none⟩ (.slice a8 L.length c8)) lo (.list .int 3) [.slice a8 L.length c8] L (fun j => (Value.slice a8 L.length c8).ownBlock = some j) ∧ (∀ j, (Value.slice a8 L.length c8).ownBlock = some j → wc.heap.size ≤ j ∧ j < (Y13.setCell ⟨w1.heap.size, 2, none⟩ (.slice a8 L.length c8)).heap.size) ∧ wc.heap.size ≤ (Y13.setCell ⟨w1.heap.size, 2, none⟩ (.slice a8 L.length c8)).heap.size) := Hid.intro (by
              have hz0 : w1.heap.size < wc.heap.size := HC.out.1.2.2.2.1.2
              have hz2 := HC.out.1.2.2.2.2
              refine ⟨HB13.out.1.setM (j := 2) (by simp) _, HB13.out.2.1.new (turn_set _ ⟨w1.heap.size, 2, none⟩ _) (by show w.heap.size ≤ w1.heap.size; omega), HB13.out.2.2.2.2.1.set (p := ⟨w1.heap.size, 2, none⟩) (fun q => ?_) _, HB13.out.2.2.1.set (p := ⟨w1.heap.size, 2, none⟩) (fun q => ?_) _, fun j q => by rw [World.size_setCell]; exact HB13.out.2.2.2.1 j q, by rw [World.size_setCell]; exact HB13.out.2.2.2.2.2⟩
              · rcases HC.out.2.2.2 _ q with r | r
                · have h8 : w1.heap.size < w.heap.size := HO.out.2.2.2.2.2 _ (HO.out.2.2.2.1 _ r); omega
                · have h8 : w1.heap.size < w1.heap.size := r.1; omega
              · have h8 : wc.heap.size ≤ w1.heap.size := (HB13.out.2.2.2.1 _ q).1; omega)
            refine hK.out _ _ HX.out.1.2.1 (fun hHeld => ?_)
            clear hK KC
            refine wpAnyH_done (by kernel_rfl) ?_ _
            refine NoPanic.normal ?_
            clear hHeld
            obtain ⟨X, hXe⟩ : ∃ x, x = Y13.setCell ⟨w1.heap.size, 2, none⟩ (.slice a8 L.length c8) := ⟨_, rfl⟩
            rw [← hXe] at HX ⊢
            clear hXe
            obtain ⟨c0, c1, c2, c3⟩ := HCW.out
            have hBg : ¬ S2 g := fun q => HO.out.2.2.2.2.1 g HSG.out q
            have HBG := Hid.intro hBg
            clear hBg
            have s0 := (HX.out.1.1).cell 0 rfl; have s1 := (HX.out.1.1).cell 1 rfl; have s2 := (HX.out.1.1).cell 2 rfl; have s3 := (HX.out.1.1).cell 3 rfl; have sz := (HX.out.1.1).2
            have r0 := (HX.out.1.2.2.1).cell 0 rfl; have r1 := (HX.out.1.2.2.1).cell 1 rfl; have r2 := (HX.out.1.2.2.1).cell 2 rfl; have r3 := (HX.out.1.2.2.1).cell 3 rfl; have rz := (HX.out.1.2.2.1).2
            have m0 := (HX.out.1.2.2.2.1).cell 0 rfl; have m1 := (HX.out.1.2.2.2.1).cell 1 rfl; have m2 := (HX.out.1.2.2.2.1).cell 2 rfl; have m3 := (HX.out.1.2.2.2.1).cell 3 rfl; have mz := (HX.out.1.2.2.2.1).2
            have rf0 := HX.out.1.2.2.1.frz 0 (by simp)
            have rf1 := HX.out.1.2.2.1.frz 1 (by simp)
            have rf2 := HX.out.1.2.2.1.frz 2 (by simp)
            have rf3 := HX.out.1.2.2.1.frz 3 (by simp)
            have gc0 := (World.cell?_of_block (a := ⟨g, i * 4, none⟩) (HX.out.2.1.block hgl HBG.out)).trans c0
            have gf0 := (World.frozen?_of_block (a := ⟨g, i * 4, none⟩) (HX.out.2.1.block hgl HBG.out)).trans f0
            have gc1 := (World.cell?_of_block (a := ⟨g, i * 4 + 1, none⟩) (HX.out.2.1.block hgl HBG.out)).trans c1
            have gf1 := (World.frozen?_of_block (a := ⟨g, i * 4 + 1, none⟩) (HX.out.2.1.block hgl HBG.out)).trans f1
            have gc2 := (World.cell?_of_block (a := ⟨g, i * 4 + 2, none⟩) (HX.out.2.1.block hgl HBG.out)).trans c2
            have gf2 := (World.frozen?_of_block (a := ⟨g, i * 4 + 2, none⟩) (HX.out.2.1.block hgl HBG.out)).trans f2
            have gc3 := (World.cell?_of_block (a := ⟨g, i * 4 + 3, none⟩) (HX.out.2.1.block hgl HBG.out)).trans c3
            have gf3 := (World.frozen?_of_block (a := ⟨g, i * 4 + 3, none⟩) (HX.out.2.1.block hgl HBG.out)).trans f3
            have hglX : g < X.heap.size := Nat.lt_of_lt_of_le hgl (HX.out.2.1).size
            go_wp2
            exact bodyPost_ret (v := .tuple #[.agg #[.int .i64 ep, .int .i64 du, .slice (some ⟨g, 0, none⟩) ms.length k1, .slice a9 (en.length + 1) c9], .bool true]) (by simp [results, Try.results41, go_sem, *]) rfl (fe_tail (T := S2) (B' := fun j => (Value.slice a8 L.length c8).ownBlock = some j) (E' := fun j => (Value.slice a9 (en.length + 1) c9).ownBlock = some j) HP.out HSG.out HBK.out HO.out.2.2 HX.out.2.1 (fun k q => Or.inr q) HX.out.2.2.2.1 HX.out.2.2.1 (fun j q => Or.inr ⟨by have h1 := (HX.out.2.2.2.2.1 j q).1; have h2 := HC.out.1.2.2.2.1.2; have h3 := HC.out.1.2.2.2.2; omega, (HX.out.2.2.2.2.1 j q).2, by have h1 := (HX.out.2.2.2.2.1 j q).1; have h2 := HC.out.1.2.2.2.1.2; have h3 := HC.out.1.2.2.2.2; omega⟩) (fun j q => by rcases HC.out.2.2.2 j q with r | r; exact Or.inl r; exact Or.inr ⟨by have h3 := HC.out.1.2.2.2.2; omega, by have h4 := HX.out.2.2.2.2.2; omega, by have h3 := HC.out.1.2.2.2.2; omega⟩) (fun j q z => by have h1 := (HX.out.2.2.2.2.1 j q).1; have h2 := ((HC.out.2.2.1.tight rfl).2.1 j z).2; omega) (HLE.out ▸ HE.out ▸ HN.out))
        ·
          try rw [← HAD.out]
          (first | (have d2 := HB6.out.1.2.2.2.1.cell 2 rfl; have dz := HB6.out.1.2.2.2.1.2) | (have d2 := HB1.out.1.2.2.2.1.cell 2 rfl; have dz := HB1.out.1.2.2.2.1.2) | (have d2 := HBd.out.1.2.2.2.1.cell 2 rfl; have dz := HBd.out.1.2.2.2.1.2))
          go_wp2_with fail
          clear d2 dz
          refine hK.out _ _ hHeld (fun hHeld => ?_)
          clear hK KC
          refine take_v (v := ?_) 12 ⟨some 83, Op.slice 27 (Operand.tmp 79) (some (Operand.tmp 82)) none none, _, _, _, none⟩ rfl (fun _ _ _ h => h) ?_ hHeld ?_
          rotate_left
          · (intro W _; go_simp <;> (try with_reducible rfl))
          refine ready_call 2 ⟨some 73, Op.load 27 (Operand.tmp 72), _, _, _, none⟩ (by kernel_rfl) rfl (by kernel_rfl) (fun KC hK => ?_)
          try rw [← HAD.out]
          (first | (have d2 := HB6.out.1.2.2.2.1.cell 2 rfl; have dz := HB6.out.1.2.2.2.1.2) | (have d2 := HB1.out.1.2.2.2.1.cell 2 rfl; have dz := HB1.out.1.2.2.2.1.2) | (have d2 := HBd.out.1.2.2.2.1.cell 2 rfl; have dz := HBd.out.1.2.2.2.1.2))
          go_wp2_with fail
          clear d2 dz
          refine hK.out _ _ hHeld (fun hHeld => ?_)
          clear hK KC
          refine take_v (v := ?_) 5 ⟨some 76, Op.slice 27 (Operand.tmp 73) none (some (Operand.tmp 75)) none, _, _, _, none⟩ rfl (fun _ _ _ h => h) ?_ hHeld ?_
          rotate_left
          · (intro W _; go_simp <;> (try with_reducible rfl))
          refine ready_call 6 ⟨some 77, Op.call { callee := Callee.builtin Builtin.append, args := #[Operand.tmp 71, Operand.tmp 76], argTypes := #[27, 27] }, _, _, _, none⟩ (by kernel_rfl) rfl (by kernel_rfl) (fun KC hK => ?_)
          try rw [← HAD.out]
          refine wp_appx (.tmp 71) (.tmp 76) 27 3 (by rfl) i1 (.int .i64 0) 8 lo .int rfl Try.underlying27 hi1 hy0 hy1 hy2 rfl (by decide) (.slice (some ⟨Y0.heap.size, 0, none⟩) 0 0) [] (x2.take k) (fun k => k = Y0.heap.size) (by rfl) HB1.out.2.2.2.1 (some ⟨gr, 0, none⟩) kr (by rw [hlk]; rfl) (by rw [hlk]; exact HB1.out.2.2.2.2.1.lies.take k (Nat.le_of_lt hkl)) hb6 hc6 HB1.out.2.2.2.2.2.2 ?_
          intro v6 Y6 hO6 hg6 hwh6
          have hrow : ∀ j, (Value.slice (some ⟨Y0.heap.size, 0, none⟩) 0 0).ownBlock = some j → j = Y0.heap.size := fun j q => (HB1.out.2.2.2.1.tight rfl).2.2 j q
          have HB6 : Hid (SpB w Y6 [.int .i64 ep, .int .i64 du, .slice (some ⟨g, 0, none⟩) ms.length k1, .slice a9 (en.length + 1) c9] [.int .i64 (2), .int .i64 b, .int .i64 (k : Int)] [.int .i64 x0, .int .i64 x1, .slice (some ⟨gr, 0, none⟩) x2.length kr, .int .i64 x3] w1.heap.size ∧ TurnS S2 w Y6 ∧ OwnX Y6 lo (.list .int 3) [v6] ([] ++ x2.take k) (fun j => v6.ownBlock = some j) ∧ (∀ j, v6.ownBlock = some j → Y0.heap.size ≤ j) ∧ OwnX Y6 lo (.list .int 3) [.slice (some ⟨gr, 0, none⟩) x2.length kr] x2 Bk ∧ OwnX Y6 lo (.list .int 3) [.slice a9 (en.length + 1) c9] (en ++ [e]) (fun k => (Value.slice a9 (en.length + 1) c9).ownBlock = some k) ∧ lo ≤ Y6.heap.size ∧ Y1.heap.size ≤ Y6.heap.size) := Hid.intro (by
            have hz0 : w1.heap.size < wc.heap.size := HC.out.1.2.2.2.1.2
            have hz1 : Y0.heap.size = wc.heap.size := HBd.out.2.2
            have hz2 : w.heap.size ≤ w1.heap.size := by have := HC.out.1.2.2.2.2; omega
            have h6 := hO6.tight rfl
            refine ⟨HB1.out.1.grow hg6 (fun j q => Or.inr (by have := hrow j q; omega)), HB1.out.2.1.grown hg6 (fun j q => Or.inr (by have := hrow j q; omega)), h6.1, fun j q => ?_, HB1.out.2.2.2.2.1.grow hg6 (fun j q z => ?_), HB1.out.2.2.2.2.2.1.grow hg6 (fun j q z => ?_), Nat.le_trans HB1.out.2.2.2.2.2.2 hg6.size, hg6.size⟩
            · rcases h6.2.2 j q with r | r
              · omega
              · have := HB1.out.2.2.1; omega
            · have h1 := HO.out.2.2.2.2.2 j (HO.out.2.2.1 j (HBK.out j z).1); have := hrow j q; omega
            · have h1 := (HC.out.2.2.1.tight rfl).2.1 j z; have := hrow j q; omega)
          clear hO6 hg6 hwh6 hrow
          refine hK.out _ _ HB6.out.1.2.1 (fun hHeld => ?_)
          clear hK KC
          refine ready_call 13 ⟨some 84, Op.call { callee := Callee.builtin Builtin.append, args := #[Operand.tmp 77, Operand.tmp 83], argTypes := #[27, 27] }, _, _, _, none⟩ (by kernel_rfl) rfl (by kernel_rfl) (fun KC hK => ?_)
          try rw [← HAD.out]
          refine wp_appx (.tmp 77) (.tmp 83) 27 3 (by rfl) i1 (.int .i64 0) 8 lo .int rfl Try.underlying27 hi1 hy0 hy1 hy2 rfl (by decide) v6 ([] ++ x2.take k) (x2.drop (k + 1)) (fun j => v6.ownBlock = some j) (by rfl) HB6.out.2.2.1 AD (kr - (k + 1)) (by rw [hld]; rfl) (by rw [HAD.out]; exact drop_lies HB6.out.2.2.2.2.1.lies rfl hkl hcap1 HCM.out) hb13 hc13 HB6.out.2.2.2.2.2.2.1 ?_
          intro v13 Y13 hO13 hg13 hwh13
          have hO13' : OwnX Y13 lo (.list .int 3) [v13] L (fun j => v6.ownBlock = some j ∨ j = Y6.heap.size) := HF.out ▸ hO13
          obtain ⟨a8, c8, hv8⟩ := hO13'.vform
          have hv8 : v13 = .slice a8 (List.length (α := Sh.T .int) L) c8 := hv8
          subst hv8
          have HB13 : Hid (SpB w Y13 [.int .i64 ep, .int .i64 du, .slice (some ⟨g, 0, none⟩) ms.length k1, .slice a9 (en.length + 1) c9] [.int .i64 (2), .int .i64 b, .int .i64 (k : Int)] [.int .i64 x0, .int .i64 x1, .slice (some ⟨gr, 0, none⟩) x2.length kr, .int .i64 x3] w1.heap.size ∧ TurnS S2 w Y13 ∧ OwnX Y13 lo (.list .int 3) [.slice a8 L.length c8] L (fun j => (Value.slice a8 L.length c8).ownBlock = some j) ∧ (∀ j, (Value.slice a8 L.length c8).ownBlock = some j → wc.heap.size ≤ j ∧ j < Y13.heap.size) ∧ OwnX Y13 lo (.list .int 3) [.slice a9 (en.length + 1) c9] (en ++ [e]) (fun k => (Value.slice a9 (en.length + 1) c9).ownBlock = some k) ∧ wc.heap.size ≤ Y13.heap.size) := Hid.intro (by
            have hz0 : w1.heap.size < wc.heap.size := HC.out.1.2.2.2.1.2
            have hz1 : Y0.heap.size = wc.heap.size := HBd.out.2.2
            have hz2 : w.heap.size ≤ w1.heap.size := by have := HC.out.1.2.2.2.2; omega
            have hz3 := HB6.out.2.2.2.2.2.2.2
            have hz4 := HB1.out.2.2.1
            have h6 := hO13'.tight rfl
            refine ⟨HB6.out.1.grow hg13 (fun j q => Or.inr (by have := HB6.out.2.2.2.1 j q; omega)), HB6.out.2.1.grown hg13 (fun j q => Or.inr (by have := HB6.out.2.2.2.1 j q; omega)), h6.1, fun j q => ⟨?_, (h6.2.1 j q).2⟩, HB6.out.2.2.2.2.2.1.grow hg13 (fun j q z => ?_), by have := hg13.size; omega⟩
            · rcases h6.2.2 j q with r | r
              · have := HB6.out.2.2.2.1 j r; omega
              · omega
            · have h1 := (HC.out.2.2.1.tight rfl).2.1 j z; have := HB6.out.2.2.2.1 j q; omega)
          clear hO13 hO13' hg13 hwh13
          refine hK.out _ _ HB13.out.1.2.1 (fun hHeld => ?_)
          clear hK KC
          refine take_v (v := ?_) 14 ⟨some 85, Op.fieldAddr 37 (Operand.tmp 7) 2, _, _, _, none⟩ rfl (fun _ _ _ h => h) ?_ hHeld ?_
          rotate_left
          · (intro W _; go_simp <;> (try with_reducible rfl))
          refine ready_call 15 ⟨none, Op.store 27 (Operand.tmp 85) (Operand.tmp 84), _, _, _, none⟩ (by kernel_rfl) rfl (by kernel_rfl) (fun KC hK => ?_)
          try rw [← HAD.out]
          have d2 := HB13.out.1.2.2.2.1.cell 2 rfl
          have dz := HB13.out.1.2.2.2.1.2
          have df := HB13.out.1.2.2.2.1.frz 2 (by simp)
          go_wp2_with fail
          clear d2 dz df
          have HX : Hid (SpB w (Y13.setCell ⟨w1.heap.size, 2, none⟩ (.slice a8 L.length c8)) [.int .i64 ep, .int .i64 du, .slice (some ⟨g, 0, none⟩) ms.length k1, .slice a9 (en.length + 1) c9] [.int .i64 (2), .int .i64 b, .int .i64 (k : Int)] [.int .i64 x0, .int .i64 x1, .slice a8 L.length c8, .int .i64 x3] w1.heap.size ∧ TurnS S2 w (Y13.setCell ⟨w1.heap.size, 2, none⟩ (.slice a8 L.length c8)) ∧ OwnX (Y13.setCell ⟨w1.heap.size, 2, none⟩ (.slice a8 L.length c8)) lo (.list .int 3) [.slice a9 (en.length + 1) c9] (en ++ [e]) (fun k => (Value.slice a9 (en.length + 1) c9).ownBlock = some k) ∧ OwnX (Y13.setCell ⟨w1.heap.size, 2, none⟩ (.slice a8 L.length c8)) lo (.list .int 3) [.slice a8 L.length c8] L (fun j => (Value.slice a8 L.length c8).ownBlock = some j) ∧ (∀ j, (Value.slice a8 L.length c8).ownBlock = some j → wc.heap.size ≤ j ∧ j < (Y13.setCell ⟨w1.heap.size, 2, none⟩ (.slice a8 L.length c8)).heap.size) ∧ wc.heap.size ≤ (Y13.setCell ⟨w1.heap.size, 2, none⟩ (.slice a8 L.length c8)).heap.size) := Hid.intro (by
            have hz0 : w1.heap.size < wc.heap.size := HC.out.1.2.2.2.1.2
            have hz2 := HC.out.1.2.2.2.2
            refine ⟨HB13.out.1.setM (j := 2) (by simp) _, HB13.out.2.1.new (turn_set _ ⟨w1.heap.size, 2, none⟩ _) (by show w.heap.size ≤ w1.heap.size; omega), HB13.out.2.2.2.2.1.set (p := ⟨w1.heap.size, 2, none⟩) (fun q => ?_) _, HB13.out.2.2.1.set (p := ⟨w1.heap.size, 2, none⟩) (fun q => ?_) _, fun j q => by rw [World.size_setCell]; exact HB13.out.2.2.2.1 j q, by rw [World.size_setCell]; exact HB13.out.2.2.2.2.2⟩
            · rcases HC.out.2.2.2 _ q with r | r
              · have h8 : w1.heap.size < w.heap.size := HO.out.2.2.2.2.2 _ (HO.out.2.2.2.1 _ r); omega
              · have h8 : w1.heap.size < w1.heap.size := r.1; omega
            · have h8 : wc.heap.size ≤ w1.heap.size := (HB13.out.2.2.2.1 _ q).1; omega)
          refine hK.out _ _ HX.out.1.2.1 (fun hHeld => ?_)
          clear hK KC
          refine wpAnyH_done (by kernel_rfl) ?_ _
          refine NoPanic.normal ?_
          clear hHeld
          obtain ⟨X, hXe⟩ : ∃ x, x = Y13.setCell ⟨w1.heap.size, 2, none⟩ (.slice a8 L.length c8) := ⟨_, rfl⟩
          rw [← hXe] at HX ⊢
          clear hXe
          obtain ⟨c0, c1, c2, c3⟩ := HCW.out
          have hBg : ¬ S2 g := fun q => HO.out.2.2.2.2.1 g HSG.out q
          have HBG := Hid.intro hBg
          clear hBg
          have s0 := (HX.out.1.1).cell 0 rfl; have s1 := (HX.out.1.1).cell 1 rfl; have s2 := (HX.out.1.1).cell 2 rfl; have s3 := (HX.out.1.1).cell 3 rfl; have sz := (HX.out.1.1).2
          have r0 := (HX.out.1.2.2.1).cell 0 rfl; have r1 := (HX.out.1.2.2.1).cell 1 rfl; have r2 := (HX.out.1.2.2.1).cell 2 rfl; have r3 := (HX.out.1.2.2.1).cell 3 rfl; have rz := (HX.out.1.2.2.1).2
          have m0 := (HX.out.1.2.2.2.1).cell 0 rfl; have m1 := (HX.out.1.2.2.2.1).cell 1 rfl; have m2 := (HX.out.1.2.2.2.1).cell 2 rfl; have m3 := (HX.out.1.2.2.2.1).cell 3 rfl; have mz := (HX.out.1.2.2.2.1).2
          have rf0 := HX.out.1.2.2.1.frz 0 (by simp)
          have rf1 := HX.out.1.2.2.1.frz 1 (by simp)
          have rf2 := HX.out.1.2.2.1.frz 2 (by simp)
          have rf3 := HX.out.1.2.2.1.frz 3 (by simp)
          have gc0 := (World.cell?_of_block (a := ⟨g, i * 4, none⟩) (HX.out.2.1.block hgl HBG.out)).trans c0
          have gf0 := (World.frozen?_of_block (a := ⟨g, i * 4, none⟩) (HX.out.2.1.block hgl HBG.out)).trans f0
          have gc1 := (World.cell?_of_block (a := ⟨g, i * 4 + 1, none⟩) (HX.out.2.1.block hgl HBG.out)).trans c1
          have gf1 := (World.frozen?_of_block (a := ⟨g, i * 4 + 1, none⟩) (HX.out.2.1.block hgl HBG.out)).trans f1
          have gc2 := (World.cell?_of_block (a := ⟨g, i * 4 + 2, none⟩) (HX.out.2.1.block hgl HBG.out)).trans c2
          have gf2 := (World.frozen?_of_block (a := ⟨g, i * 4 + 2, none⟩) (HX.out.2.1.block hgl HBG.out)).trans f2
          have gc3 := (World.cell?_of_block (a := ⟨g, i * 4 + 3, none⟩) (HX.out.2.1.block hgl HBG.out)).trans c3
          have gf3 := (World.frozen?_of_block (a := ⟨g, i * 4 + 3, none⟩) (HX.out.2.1.block hgl HBG.out)).trans f3
          have hglX : g < X.heap.size := Nat.lt_of_lt_of_le hgl (HX.out.2.1).size
          go_wp2
          exact bodyPost_ret (v := .tuple #[.agg #[.int .i64 ep, .int .i64 du, .slice (some ⟨g, 0, none⟩) ms.length k1, .slice a9 (en.length + 1) c9], .bool true]) (by simp [results, Try.results41, go_sem, *]) rfl (fe_tail (T := S2) (B' := fun j => (Value.slice a8 L.length c8).ownBlock = some j) (E' := fun j => (Value.slice a9 (en.length + 1) c9).ownBlock = some j) HP.out HSG.out HBK.out HO.out.2.2 HX.out.2.1 (fun k q => Or.inr q) HX.out.2.2.2.1 HX.out.2.2.1 (fun j q => Or.inr ⟨by have h1 := (HX.out.2.2.2.2.1 j q).1; have h2 := HC.out.1.2.2.2.1.2; have h3 := HC.out.1.2.2.2.2; omega, (HX.out.2.2.2.2.1 j q).2, by have h1 := (HX.out.2.2.2.2.1 j q).1; have h2 := HC.out.1.2.2.2.1.2; have h3 := HC.out.1.2.2.2.2; omega⟩) (fun j q => by rcases HC.out.2.2.2 j q with r | r; exact Or.inl r; exact Or.inr ⟨by have h3 := HC.out.1.2.2.2.2; omega, by have h4 := HX.out.2.2.2.2.2; omega, by have h3 := HC.out.1.2.2.2.2; omega⟩) (fun j q z => by have h1 := (HX.out.2.2.2.2.1 j q).1; have h2 := ((HC.out.2.2.1.tight rfl).2.1 j z).2; omega) (HLE.out ▸ HE.out ▸ HN.out))
      ·
        try rw [← HAD.out]
        (first | (have d2 := HB6.out.1.2.2.2.1.cell 2 rfl; have dz := HB6.out.1.2.2.2.1.2) | (have d2 := HB1.out.1.2.2.2.1.cell 2 rfl; have dz := HB1.out.1.2.2.2.1.2) | (have d2 := HBd.out.1.2.2.2.1.cell 2 rfl; have dz := HBd.out.1.2.2.2.1.2))
        go_wp2_with fail
        clear d2 dz
        refine hK.out _ _ hHeld (fun hHeld => ?_)
        clear hK KC
        refine take_v (v := ?_) 5 ⟨some 76, Op.slice 27 (Operand.tmp 73) none (some (Operand.tmp 75)) none, _, _, _, none⟩ rfl (fun _ _ _ h => h) ?_ hHeld ?_
        rotate_left
        · (intro W _; go_simp <;> (try with_reducible rfl))
        refine ready_two 0 8 ⟨some 71, Op.buildSlice 27 0 #[], _, _, _, none⟩ ⟨some 79, Op.load 27 (Operand.tmp 78), _, _, _, none⟩ (by kernel_rfl) rfl rfl (by kernel_rfl) (by kernel_rfl) (fun KC hK => ?_) (fun KC hK => ?_)
        ·
          try rw [← HAD.out]
          go_wp2_with fail
          obtain ⟨Y1, hY1⟩ : ∃ x, x = Y0.alloc (.cells #[] 3) := ⟨_, rfl⟩
          have HB1 : Hid (SpB w Y1 [.int .i64 ep, .int .i64 du, .slice (some ⟨g, 0, none⟩) ms.length k1, .slice a9 (en.length + 1) c9] [.int .i64 (2), .int .i64 b, .int .i64 (k : Int)] [.int .i64 x0, .int .i64 x1, .slice (some ⟨gr, 0, none⟩) x2.length kr, .int .i64 x3] w1.heap.size ∧ TurnS S2 w Y1 ∧ Y1.heap.size = Y0.heap.size + 1 ∧ OwnX Y1 lo (.list .int 3) [.slice (some ⟨Y0.heap.size, 0, none⟩) 0 0] [] (fun k => k = Y0.heap.size) ∧ OwnX Y1 lo (.list .int 3) [.slice (some ⟨gr, 0, none⟩) x2.length kr] x2 Bk ∧ OwnX Y1 lo (.list .int 3) [.slice a9 (en.length + 1) c9] (en ++ [e]) (fun k => (Value.slice a9 (en.length + 1) c9).ownBlock = some k) ∧ lo ≤ Y1.heap.size) := Hid.intro (by
            have hb := Go.Joins.below_alloc1 Y0 (.cells #[] 3)
            have hz : lo ≤ Y0.heap.size := Nat.le_trans hlo HBd.out.2.1.size
            exact hY1 ▸ ⟨HBd.out.1.next hb, HBd.out.2.1.next hb, by simp, ((ApS.made (e := .int) (t := 3) (w := Y0) rfl).1.lower hz).mono (fun k q => by simp only [Btw] at q; simp at q; omega), HRd.out.1.next hb, HRd.out.2.next hb, Nat.le_trans hz hb.size⟩)
          rw [← hY1]
          clear hY1
          refine hK.out _ _ HB1.out.1.2.1 (fun hHeld => ?_)
          clear hK KC
          refine ready_two 6 8 ⟨some 77, Op.call { callee := Callee.builtin Builtin.append, args := #[Operand.tmp 71, Operand.tmp 76], argTypes := #[27, 27] }, _, _, _, none⟩ ⟨some 79, Op.load 27 (Operand.tmp 78), _, _, _, none⟩ (by kernel_rfl) rfl rfl (by kernel_rfl) (by kernel_rfl) (fun KC hK => ?_) (fun KC hK => ?_)
          ·
            try rw [← HAD.out]
            refine wp_appx (.tmp 71) (.tmp 76) 27 3 (by rfl) i1 (.int .i64 0) 8 lo .int rfl Try.underlying27 hi1 hy0 hy1 hy2 rfl (by decide) (.slice (some ⟨Y0.heap.size, 0, none⟩) 0 0) [] (x2.take k) (fun k => k = Y0.heap.size) (by rfl) HB1.out.2.2.2.1 (some ⟨gr, 0, none⟩) kr (by rw [hlk]; rfl) (by rw [hlk]; exact HB1.out.2.2.2.2.1.lies.take k (Nat.le_of_lt hkl)) hb6 hc6 HB1.out.2.2.2.2.2.2 ?_
            intro v6 Y6 hO6 hg6 hwh6
            have hrow : ∀ j, (Value.slice (some ⟨Y0.heap.size, 0, none⟩) 0 0).ownBlock = some j → j = Y0.heap.size := fun j q => (HB1.out.2.2.2.1.tight rfl).2.2 j q
            have HB6 : Hid (SpB w Y6 [.int .i64 ep, .int .i64 du, .slice (some ⟨g, 0, none⟩) ms.length k1, .slice a9 (en.length + 1) c9] [.int .i64 (2), .int .i64 b, .int .i64 (k : Int)] [.int .i64 x0, .int .i64 x1, .slice (some ⟨gr, 0, none⟩) x2.length kr, .int .i64 x3] w1.heap.size ∧ TurnS S2 w Y6 ∧ OwnX Y6 lo (.list .int 3) [v6] ([] ++ x2.take k) (fun j => v6.ownBlock = some j) ∧ (∀ j, v6.ownBlock = some j → Y0.heap.size ≤ j) ∧ OwnX Y6 lo (.list .int 3) [.slice (some ⟨gr, 0, none⟩) x2.length kr] x2 Bk ∧ OwnX Y6 lo (.list .int 3) [.slice a9 (en.length + 1) c9] (en ++ [e]) (fun k => (Value.slice a9 (en.length + 1) c9).ownBlock = some k) ∧ lo ≤ Y6.heap.size ∧ Y1.heap.size ≤ Y6.heap.size) := Hid.intro (by
              have hz0 : w1.heap.size < wc.heap.size := HC.out.1.2.2.2.1.2
              have hz1 : Y0.heap.size = wc.heap.size := HBd.out.2.2
              have hz2 : w.heap.size ≤ w1.heap.size := by have := HC.out.1.2.2.2.2; omega
              have h6 := hO6.tight rfl
              refine ⟨HB1.out.1.grow hg6 (fun j q => Or.inr (by have := hrow j q; omega)), HB1.out.2.1.grown hg6 (fun j q => Or.inr (by have := hrow j q; omega)), h6.1, fun j q => ?_, HB1.out.2.2.2.2.1.grow hg6 (fun j q z => ?_), HB1.out.2.2.2.2.2.1.grow hg6 (fun j q z => ?_), Nat.le_trans HB1.out.2.2.2.2.2.2 hg6.size, hg6.size⟩
              · rcases h6.2.2 j q with r | r
                · omega
                · have := HB1.out.2.2.1; omega
              · have h1 := HO.out.2.2.2.2.2 j (HO.out.2.2.1 j (HBK.out j z).1); have := hrow j q; omega
              · have h1 := (HC.out.2.2.1.tight rfl).2.1 j z; have := hrow j q; omega)
            clear hO6 hg6 hwh6 hrow
            refine hK.out _ _ HB6.out.1.2.1 (fun hHeld => ?_)
            clear hK KC
            refine ready_call 8 ⟨some 79, Op.load 27 (Operand.tmp 78), _, _, _, none⟩ (by kernel_rfl) rfl (by kernel_rfl) (fun KC hK => ?_)
            try rw [← HAD.out]
            (first | (have d2 := HB6.out.1.2.2.2.1.cell 2 rfl; have dz := HB6.out.1.2.2.2.1.2) | (have d2 := HB1.out.1.2.2.2.1.cell 2 rfl; have dz := HB1.out.1.2.2.2.1.2) | (have d2 := HBd.out.1.2.2.2.1.cell 2 rfl; have dz := HBd.out.1.2.2.2.1.2))
            go_wp2_with fail
            clear d2 dz
            refine hK.out _ _ hHeld (fun hHeld => ?_)
            clear hK KC
            refine take_v (v := ?_) 12 ⟨some 83, Op.slice 27 (Operand.tmp 79) (some (Operand.tmp 82)) none none, _, _, _, none⟩ rfl (fun _ _ _ h => h) ?_ hHeld ?_
            rotate_left
            · (intro W _; go_simp <;> (try with_reducible rfl))
            refine ready_call 13 ⟨some 84, Op.call { callee := Callee.builtin Builtin.append, args := #[Operand.tmp 77, Operand.tmp 83], argTypes := #[27, 27] }, _, _, _, none⟩ (by kernel_rfl) rfl (by kernel_rfl) (fun KC hK => ?_)
            try rw [← HAD.out]
            refine wp_appx (.tmp 77) (.tmp 83) 27 3 (by rfl) i1 (.int .i64 0) 8 lo .int rfl Try.underlying27 hi1 hy0 hy1 hy2 rfl (by decide) v6 ([] ++ x2.take k) (x2.drop (k + 1)) (fun j => v6.ownBlock = some j) (by rfl) HB6.out.2.2.1 AD (kr - (k + 1)) (by rw [hld]; rfl) (by rw [HAD.out]; exact drop_lies HB6.out.2.2.2.2.1.lies rfl hkl hcap1 HCM.out) hb13 hc13 HB6.out.2.2.2.2.2.2.1 ?_
            intro v13 Y13 hO13 hg13 hwh13
            have hO13' : OwnX Y13 lo (.list .int 3) [v13] L (fun j => v6.ownBlock = some j ∨ j = Y6.heap.size) := HF.out ▸ hO13
            obtain ⟨a8, c8, hv8⟩ := hO13'.vform
            have hv8 : v13 = .slice a8 (List.length (α := Sh.T .int) L) c8 := hv8
            subst hv8
            have HB13 : Hid (SpB w Y13 [.int .i64 ep, .int .i64 du, .slice (some ⟨g, 0, none⟩) ms.length k1, .slice a9 (en.length + 1) c9] [.int .i64 (2), .int .i64 b, .int .i64 (k : Int)] [.int .i64 x0, .int .i64 x1, .slice (some ⟨gr, 0, none⟩) x2.length kr, .int .i64 x3] w1.heap.size ∧ TurnS S2 w Y13 ∧ OwnX Y13 lo (.list .int 3) [.slice a8 L.length c8] L (fun j => (Value.slice a8 L.length c8).ownBlock = some j) ∧ (∀ j, (Value.slice a8 L.length c8).ownBlock = some j → wc.heap.size ≤ j ∧ j < Y13.heap.size) ∧ OwnX Y13 lo (.list .int 3) [.slice a9 (en.length + 1) c9] (en ++ [e]) (fun k => (Value.slice a9 (en.length + 1) c9).ownBlock = some k) ∧ wc.heap.size ≤ Y13.heap.size) := Hid.intro (by
              have hz0 : w1.heap.size < wc.heap.size := HC.out.1.2.2.2.1.2
              have hz1 : Y0.heap.size = wc.heap.size := HBd.out.2.2
              have hz2 : w.heap.size ≤ w1.heap.size := by have := HC.out.1.2.2.2.2; omega
              have hz3 := HB6.out.2.2.2.2.2.2.2
              have hz4 := HB1.out.2.2.1
              have h6 := hO13'.tight rfl
              refine ⟨HB6.out.1.grow hg13 (fun j q => Or.inr (by have := HB6.out.2.2.2.1 j q; omega)), HB6.out.2.1.grown hg13 (fun j q => Or.inr (by have := HB6.out.2.2.2.1 j q; omega)), h6.1, fun j q => ⟨?_, (h6.2.1 j q).2⟩, HB6.out.2.2.2.2.2.1.grow hg13 (fun j q z => ?_), by have := hg13.size; omega⟩
              · rcases h6.2.2 j q with r | r
                · have := HB6.out.2.2.2.1 j r; omega
                · omega
              · have h1 := (HC.out.2.2.1.tight rfl).2.1 j z; have := HB6.out.2.2.2.1 j q; omega)
            clear hO13 hO13' hg13 hwh13
            refine hK.out _ _ HB13.out.1.2.1 (fun hHeld => ?_)
            clear hK KC
            refine take_v (v := ?_) 14 ⟨some 85, Op.fieldAddr 37 (Operand.tmp 7) 2, _, _, _, none⟩ rfl (fun _ _ _ h => h) ?_ hHeld ?_
            rotate_left
            · (intro W _; go_simp <;> (try with_reducible rfl))
            refine ready_call 15 ⟨none, Op.store 27 (Operand.tmp 85) (Operand.tmp 84), _, _, _, none⟩ (by kernel_rfl) rfl (by kernel_rfl) (fun KC hK => ?_)
            try rw [← HAD.out]
            have d2 := HB13.out.1.2.2.2.1.cell 2 rfl
            have dz := HB13.out.1.2.2.2.1.2
            have df := HB13.out.1.2.2.2.1.frz 2 (by simp)
            go_wp2_with fail
            clear d2 dz df
            have HX : Hid (SpB w (Y13.setCell ⟨w1.heap.size, 2, none⟩ (.slice a8 L.length c8)) [.int .i64 ep, .int .i64 du, .slice (some ⟨g, 0, none⟩) ms.length k1, .slice a9 (en.length + 1) c9] [.int .i64 (2), .int .i64 b, .int .i64 (k : Int)] [.int .i64 x0, .int .i64 x1, .slice a8 L.length c8, .int .i64 x3] w1.heap.size ∧ TurnS S2 w (Y13.setCell ⟨w1.heap.size, 2, none⟩ (.slice a8 L.length c8)) ∧ OwnX (Y13.setCell ⟨w1.heap.size, 2, none⟩ (.slice a8 L.length c8)) lo (.list .int 3) [.slice a9 (en.length + 1) c9] (en ++ [e]) (fun k => (Value.slice a9 (en.length + 1) c9).ownBlock = some k) ∧ OwnX (Y13.setCell ⟨w1.heap.size, 2, none⟩ (.slice a8 L.length c8)) lo (.list .int 3) [.slice a8 L.length c8] L (fun j => (Value.slice a8 L.length c8).ownBlock = some j) ∧ (∀ j, (Value.slice a8 L.length c8).ownBlock = some j → wc.heap.size ≤ j ∧ j < (Y13.setCell ⟨w1.heap.size, 2, none⟩ (.slice a8 L.length c8)).heap.size) ∧ wc.heap.size ≤ (Y13.setCell ⟨w1.heap.size, 2, none⟩ (.slice a8 L.length c8)).heap.size) := Hid.intro (by
              have hz0 : w1.heap.size < wc.heap.size := HC.out.1.2.2.2.1.2
              have hz2 := HC.out.1.2.2.2.2
              refine ⟨HB13.out.1.setM (j := 2) (by simp) _, HB13.out.2.1.new (turn_set _ ⟨w1.heap.size, 2, none⟩ _) (by show w.heap.size ≤ w1.heap.size; omega), HB13.out.2.2.2.2.1.set (p := ⟨w1.heap.size, 2, none⟩) (fun q => ?_) _, HB13.out.2.2.1.set (p := ⟨w1.heap.size, 2, none⟩) (fun q => ?_) _, fun j q => by rw [World.size_setCell]; exact HB13.out.2.2.2.1 j q, by rw [World.size_setCell]; exact HB13.out.2.2.2.2.2⟩
              · rcases HC.out.2.2.2 _ q with r | r
                · have h8 : w1.heap.size < w.heap.size := HO.out.2.2.2.2.2 _ (HO.out.2.2.2.1 _ r); omega
                · have h8 : w1.heap.size < w1.heap.size := r.1; omega
              · have h8 : wc.heap.size ≤ w1.heap.size := (HB13.out.2.2.2.1 _ q).1; omega)
            refine hK.out _ _ HX.out.1.2.1 (fun hHeld => ?_)
            clear hK KC
            refine wpAnyH_done (by kernel_rfl) ?_ _
            refine NoPanic.normal ?_
            clear hHeld
            obtain ⟨X, hXe⟩ : ∃ x, x = Y13.setCell ⟨w1.heap.size, 2, none⟩ (.slice a8 L.length c8) := ⟨_, rfl⟩
            rw [← hXe] at HX ⊢
            clear hXe
            obtain ⟨c0, c1, c2, c3⟩ := HCW.out
            have hBg : ¬ S2 g := fun q => HO.out.2.2.2.2.1 g HSG.out q
            have HBG := Hid.intro hBg
            clear hBg
            have s0 := (HX.out.1.1).cell 0 rfl; have s1 := (HX.out.1.1).cell 1 rfl; have s2 := (HX.out.1.1).cell 2 rfl; have s3 := (HX.out.1.1).cell 3 rfl; have sz := (HX.out.1.1).2
            have r0 := (HX.out.1.2.2.1).cell 0 rfl; have r1 := (HX.out.1.2.2.1).cell 1 rfl; have r2 := (HX.out.1.2.2.1).cell 2 rfl; have r3 := (HX.out.1.2.2.1).cell 3 rfl; have rz := (HX.out.1.2.2.1).2
            have m0 := (HX.out.1.2.2.2.1).cell 0 rfl; have m1 := (HX.out.1.2.2.2.1).cell 1 rfl; have m2 := (HX.out.1.2.2.2.1).cell 2 rfl; have m3 := (HX.out.1.2.2.2.1).cell 3 rfl; have mz := (HX.out.1.2.2.2.1).2
            have rf0 := HX.out.1.2.2.1.frz 0 (by simp)
            have rf1 := HX.out.1.2.2.1.frz 1 (by simp)
            have rf2 := HX.out.1.2.2.1.frz 2 (by simp)
            have rf3 := HX.out.1.2.2.1.frz 3 (by simp)
            have gc0 := (World.cell?_of_block (a := ⟨g, i * 4, none⟩) (HX.out.2.1.block hgl HBG.out)).trans c0
            have gf0 := (World.frozen?_of_block (a := ⟨g, i * 4, none⟩) (HX.out.2.1.block hgl HBG.out)).trans f0
            have gc1 := (World.cell?_of_block (a := ⟨g, i * 4 + 1, none⟩) (HX.out.2.1.block hgl HBG.out)).trans c1
            have gf1 := (World.frozen?_of_block (a := ⟨g, i * 4 + 1, none⟩) (HX.out.2.1.block hgl HBG.out)).trans f1
            have gc2 := (World.cell?_of_block (a := ⟨g, i * 4 + 2, none⟩) (HX.out.2.1.block hgl HBG.out)).trans c2
            have gf2 := (World.frozen?_of_block (a := ⟨g, i * 4 + 2, none⟩) (HX.out.2.1.block hgl HBG.out)).trans f2
            have gc3 := (World.cell?_of_block (a := ⟨g, i * 4 + 3, none⟩) (HX.out.2.1.block hgl HBG.out)).trans c3
            have gf3 := (World.frozen?_of_block (a := ⟨g, i * 4 + 3, none⟩) (HX.out.2.1.block hgl HBG.out)).trans f3
            have hglX : g < X.heap.size := Nat.lt_of_lt_of_le hgl (HX.out.2.1).size
            go_wp2
            exact bodyPost_ret (v := .tuple #[.agg #[.int .i64 ep, .int .i64 du, .slice (some ⟨g, 0, none⟩) ms.length k1, .slice a9 (en.length + 1) c9], .bool true]) (by simp [results, Try.results41, go_sem, *]) rfl (fe_tail (T := S2) (B' := fun j => (Value.slice a8 L.length c8).ownBlock = some j) (E' := fun j => (Value.slice a9 (en.length + 1) c9).ownBlock = some j) HP.out HSG.out HBK.out HO.out.2.2 HX.out.2.1 (fun k q => Or.inr q) HX.out.2.2.2.1 HX.out.2.2.1 (fun j q => Or.inr ⟨by have h1 := (HX.out.2.2.2.2.1 j q).1; have h2 := HC.out.1.2.2.2.1.2; have h3 := HC.out.1.2.2.2.2; omega, (HX.out.2.2.2.2.1 j q).2, by have h1 := (HX.out.2.2.2.2.1 j q).1; have h2 := HC.out.1.2.2.2.1.2; have h3 := HC.out.1.2.2.2.2; omega⟩) (fun j q => by rcases HC.out.2.2.2 j q with r | r; exact Or.inl r; exact Or.inr ⟨by have h3 := HC.out.1.2.2.2.2; omega, by have h4 := HX.out.2.2.2.2.2; omega, by have h3 := HC.out.1.2.2.2.2; omega⟩) (fun j q z => by have h1 := (HX.out.2.2.2.2.1 j q).1; have h2 := ((HC.out.2.2.1.tight rfl).2.1 j z).2; omega) (HLE.out ▸ HE.out ▸ HN.out))
          ·
            try rw [← HAD.out]
            (first | (have d2 := HB6.out.1.2.2.2.1.cell 2 rfl; have dz := HB6.out.1.2.2.2.1.2) | (have d2 := HB1.out.1.2.2.2.1.cell 2 rfl; have dz := HB1.out.1.2.2.2.1.2) | (have d2 := HBd.out.1.2.2.2.1.cell 2 rfl; have dz := HBd.out.1.2.2.2.1.2))
            go_wp2_with fail
            clear d2 dz
            refine hK.out _ _ hHeld (fun hHeld => ?_)
            clear hK KC
            refine take_v (v := ?_) 12 ⟨some 83, Op.slice 27 (Operand.tmp 79) (some (Operand.tmp 82)) none none, _, _, _, none⟩ rfl (fun _ _ _ h => h) ?_ hHeld ?_
            rotate_left
            · (intro W _; go_simp <;> (try with_reducible rfl))
            refine ready_call 6 ⟨some 77, Op.call { callee := Callee.builtin Builtin.append, args := #[Operand.tmp 71, Operand.tmp 76], argTypes := #[27, 27] }, _, _, _, none⟩ (by kernel_rfl) rfl (by kernel_rfl) (fun KC hK => ?_)
            try rw [← HAD.out]
            refine wp_appx (.tmp 71) (.tmp 76) 27 3 (by rfl) i1 (.int .i64 0) 8 lo .int rfl Try.underlying27 hi1 hy0 hy1 hy2 rfl (by decide) (.slice (some ⟨Y0.heap.size, 0, none⟩) 0 0) [] (x2.take k) (fun k => k = Y0.heap.size) (by rfl) HB1.out.2.2.2.1 (some ⟨gr, 0, none⟩) kr (by rw [hlk]; rfl) (by rw [hlk]; exact HB1.out.2.2.2.2.1.lies.take k (Nat.le_of_lt hkl)) hb6 hc6 HB1.out.2.2.2.2.2.2 ?_
            intro v6 Y6 hO6 hg6 hwh6
            have hrow : ∀ j, (Value.slice (some ⟨Y0.heap.size, 0, none⟩) 0 0).ownBlock = some j → j = Y0.heap.size := fun j q => (HB1.out.2.2.2.1.tight rfl).2.2 j q
            have HB6 : Hid (SpB w Y6 [.int .i64 ep, .int .i64 du, .slice (some ⟨g, 0, none⟩) ms.length k1, .slice a9 (en.length + 1) c9] [.int .i64 (2), .int .i64 b, .int .i64 (k : Int)] [.int .i64 x0, .int .i64 x1, .slice (some ⟨gr, 0, none⟩) x2.length kr, .int .i64 x3] w1.heap.size ∧ TurnS S2 w Y6 ∧ OwnX Y6 lo (.list .int 3) [v6] ([] ++ x2.take k) (fun j => v6.ownBlock = some j) ∧ (∀ j, v6.ownBlock = some j → Y0.heap.size ≤ j) ∧ OwnX Y6 lo (.list .int 3) [.slice (some ⟨gr, 0, none⟩) x2.length kr] x2 Bk ∧ OwnX Y6 lo (.list .int 3) [.slice a9 (en.length + 1) c9] (en ++ [e]) (fun k => (Value.slice a9 (en.length + 1) c9).ownBlock = some k) ∧ lo ≤ Y6.heap.size ∧ Y1.heap.size ≤ Y6.heap.size) := Hid.intro (by
              have hz0 : w1.heap.size < wc.heap.size := HC.out.1.2.2.2.1.2
              have hz1 : Y0.heap.size = wc.heap.size := HBd.out.2.2
              have hz2 : w.heap.size ≤ w1.heap.size := by have := HC.out.1.2.2.2.2; omega
              have h6 := hO6.tight rfl
              refine ⟨HB1.out.1.grow hg6 (fun j q => Or.inr (by have := hrow j q; omega)), HB1.out.2.1.grown hg6 (fun j q => Or.inr (by have := hrow j q; omega)), h6.1, fun j q => ?_, HB1.out.2.2.2.2.1.grow hg6 (fun j q z => ?_), HB1.out.2.2.2.2.2.1.grow hg6 (fun j q z => ?_), Nat.le_trans HB1.out.2.2.2.2.2.2 hg6.size, hg6.size⟩
              · rcases h6.2.2 j q with r | r
                · omega
                · have := HB1.out.2.2.1; omega
              · have h1 := HO.out.2.2.2.2.2 j (HO.out.2.2.1 j (HBK.out j z).1); have := hrow j q; omega
              · have h1 := (HC.out.2.2.1.tight rfl).2.1 j z; have := hrow j q; omega)
            clear hO6 hg6 hwh6 hrow
            refine hK.out _ _ HB6.out.1.2.1 (fun hHeld => ?_)
            clear hK KC
            refine ready_call 13 ⟨some 84, Op.call { callee := Callee.builtin Builtin.append, args := #[Operand.tmp 77, Operand.tmp 83], argTypes := #[27, 27] }, _, _, _, none⟩ (by kernel_rfl) rfl (by kernel_rfl) (fun KC hK => ?_)
            try rw [← HAD.out]
            refine wp_appx (.tmp 77) (.tmp 83) 27 3 (by rfl) i1 (.int .i64 0) 8 lo .int rfl Try.underlying27 hi1 hy0 hy1 hy2 rfl (by decide) v6 ([] ++ x2.take k) (x2.drop (k + 1)) (fun j => v6.ownBlock = some j) (by rfl) HB6.out.2.2.1 AD (kr - (k + 1)) (by rw [hld]; rfl) (by rw [HAD.out]; exact drop_lies HB6.out.2.2.2.2.1.lies rfl hkl hcap1 HCM.out) hb13 hc13 HB6.out.2.2.2.2.2.2.1 ?_
            intro v13 Y13 hO13 hg13 hwh13
            have hO13' : OwnX Y13 lo (.list .int 3) [v13] L (fun j => v6.ownBlock = some j ∨ j = Y6.heap.size) := HF.out ▸ hO13
            obtain ⟨a8, c8, hv8⟩ := hO13'.vform
            have hv8 : v13 = .slice a8 (List.length (α := Sh.T .int) L) c8 := hv8
            subst hv8
            have HB13 : Hid (SpB w Y13 [.int .i64 ep, .int .i64 du, .slice (some ⟨g, 0, none⟩) ms.length k1, .slice a9 (en.length + 1) c9] [.int .i64 (2), .int .i64 b, .int .i64 (k : Int)] [.int .i64 x0, .int .i64 x1, .slice (some ⟨gr, 0, none⟩) x2.length kr, .int .i64 x3] w1.heap.size ∧ TurnS S2 w Y13 ∧ OwnX Y13 lo (.list .int 3) [.slice a8 L.length c8] L (fun j => (Value.slice a8 L.length c8).ownBlock = some j) ∧ (∀ j, (Value.slice a8 L.length c8).ownBlock = some j → wc.heap.size ≤ j ∧ j < Y13.heap.size) ∧ OwnX Y13 lo (.list .int 3) [.slice a9 (en.length + 1) c9] (en ++ [e]) (fun k => (Value.slice a9 (en.length + 1) c9).ownBlock = some k) ∧ wc.heap.size ≤ Y13.heap.size) := Hid.intro (by
              have hz0 : w1.heap.size < wc.heap.size := HC.out.1.2.2.2.1.2
              have hz1 : Y0.heap.size = wc.heap.size := HBd.out.2.2
              have hz2 : w.heap.size ≤ w1.heap.size := by have := HC.out.1.2.2.2.2; omega
              have hz3 := HB6.out.2.2.2.2.2.2.2
              have hz4 := HB1.out.2.2.1
              have h6 := hO13'.tight rfl
              refine ⟨HB6.out.1.grow hg13 (fun j q => Or.inr (by have := HB6.out.2.2.2.1 j q; omega)), HB6.out.2.1.grown hg13 (fun j q => Or.inr (by have := HB6.out.2.2.2.1 j q; omega)), h6.1, fun j q => ⟨?_, (h6.2.1 j q).2⟩, HB6.out.2.2.2.2.2.1.grow hg13 (fun j q z => ?_), by have := hg13.size; omega⟩
              · rcases h6.2.2 j q with r | r
                · have := HB6.out.2.2.2.1 j r; omega
                · omega
              · have h1 := (HC.out.2.2.1.tight rfl).2.1 j z; have := HB6.out.2.2.2.1 j q; omega)
            clear hO13 hO13' hg13 hwh13
            refine hK.out _ _ HB13.out.1.2.1 (fun hHeld => ?_)
            clear hK KC
            refine take_v (v := ?_) 14 ⟨some 85, Op.fieldAddr 37 (Operand.tmp 7) 2, _, _, _, none⟩ rfl (fun _ _ _ h => h) ?_ hHeld ?_
            rotate_left
            · (intro W _; go_simp <;> (try with_reducible rfl))
            refine ready_call 15 ⟨none, Op.store 27 (Operand.tmp 85) (Operand.tmp 84), _, _, _, none⟩ (by kernel_rfl) rfl (by kernel_rfl) (fun KC hK => ?_)
            try rw [← HAD.out]
            have d2 := HB13.out.1.2.2.2.1.cell 2 rfl
            have dz := HB13.out.1.2.2.2.1.2
            have df := HB13.out.1.2.2.2.1.frz 2 (by simp)
            go_wp2_with fail
            clear d2 dz df
            have HX : Hid (SpB w (Y13.setCell ⟨w1.heap.size, 2, none⟩ (.slice a8 L.length c8)) [.int .i64 ep, .int .i64 du, .slice (some ⟨g, 0, none⟩) ms.length k1, .slice a9 (en.length + 1) c9] [.int .i64 (2), .int .i64 b, .int .i64 (k : Int)] [.int .i64 x0, .int .i64 x1, .slice a8 L.length c8, .int .i64 x3] w1.heap.size ∧ TurnS S2 w (Y13.setCell ⟨w1.heap.size, 2, none⟩ (.slice a8 L.length c8)) ∧ OwnX (Y13.setCell ⟨w1.heap.size, 2, none⟩ (.slice a8 L.length c8)) lo (.list .int 3) [.slice a9 (en.length + 1) c9] (en ++ [e]) (fun k => (Value.slice a9 (en.length + 1) c9).ownBlock = some k) ∧ OwnX (Y13.setCell ⟨w1.heap.size, 2, none⟩ (.slice a8 L.length c8)) lo (.list .int 3) [.slice a8 L.length c8] L (fun j => (Value.slice a8 L.length c8).ownBlock = some j) ∧ (∀ j, (Value.slice a8 L.length c8).ownBlock = some j → wc.heap.size ≤ j ∧ j < (Y13.setCell ⟨w1.heap.size, 2, none⟩ (.slice a8 L.length c8)).heap.size) ∧ wc.heap.size ≤ (Y13.setCell ⟨w1.heap.size, 2, none⟩ (.slice a8 L.length c8)).heap.size) := Hid.intro (by
              have hz0 : w1.heap.size < wc.heap.size := HC.out.1.2.2.2.1.2
              have hz2 := HC.out.1.2.2.2.2
              refine ⟨HB13.out.1.setM (j := 2) (by simp) _, HB13.out.2.1.new (turn_set _ ⟨w1.heap.size, 2, none⟩ _) (by show w.heap.size ≤ w1.heap.size; omega), HB13.out.2.2.2.2.1.set (p := ⟨w1.heap.size, 2, none⟩) (fun q => ?_) _, HB13.out.2.2.1.set (p := ⟨w1.heap.size, 2, none⟩) (fun q => ?_) _, fun j q => by rw [World.size_setCell]; exact HB13.out.2.2.2.1 j q, by rw [World.size_setCell]; exact HB13.out.2.2.2.2.2⟩
              · rcases HC.out.2.2.2 _ q with r | r
                · have h8 : w1.heap.size < w.heap.size := HO.out.2.2.2.2.2 _ (HO.out.2.2.2.1 _ r); omega
                · have h8 : w1.heap.size < w1.heap.size := r.1; omega
              · have h8 : wc.heap.size ≤ w1.heap.size := (HB13.out.2.2.2.1 _ q).1; omega)
            refine hK.out _ _ HX.out.1.2.1 (fun hHeld => ?_)
            clear hK KC
            refine wpAnyH_done (by kernel_rfl) ?_ _
            refine NoPanic.normal ?_
            clear hHeld
            obtain ⟨X, hXe⟩ : ∃ x, x = Y13.setCell ⟨w1.heap.size, 2, none⟩ (.slice a8 L.length c8) := ⟨_, rfl⟩
            rw [← hXe] at HX ⊢
            clear hXe
            obtain ⟨c0, c1, c2, c3⟩ := HCW.out
            have hBg : ¬ S2 g := fun q => HO.out.2.2.2.2.1 g HSG.out q
            have HBG := Hid.intro hBg
            clear hBg
            have s0 := (HX.out.1.1).cell 0 rfl; have s1 := (HX.out.1.1).cell 1 rfl; have s2 := (HX.out.1.1).cell 2 rfl; have s3 := (HX.out.1.1).cell 3 rfl; have sz := (HX.out.1.1).2
            have r0 := (HX.out.1.2.2.1).cell 0 rfl; have r1 := (HX.out.1.2.2.1).cell 1 rfl; have r2 := (HX.out.1.2.2.1).cell 2 rfl; have r3 := (HX.out.1.2.2.1).cell 3 rfl; have rz := (HX.out.1.2.2.1).2
            have m0 := (HX.out.1.2.2.2.1).cell 0 rfl; have m1 := (HX.out.1.2.2.2.1).cell 1 rfl; have m2 := (HX.out.1.2.2.2.1).cell 2 rfl; have m3 := (HX.out.1.2.2.2.1).cell 3 rfl; have mz := (HX.out.1.2.2.2.1).2
            have rf0 := HX.out.1.2.2.1.frz 0 (by simp)
            have rf1 := HX.out.1.2.2.1.frz 1 (by simp)
            have rf2 := HX.out.1.2.2.1.frz 2 (by simp)
            have rf3 := HX.out.1.2.2.1.frz 3 (by simp)
            have gc0 := (World.cell?_of_block (a := ⟨g, i * 4, none⟩) (HX.out.2.1.block hgl HBG.out)).trans c0
            have gf0 := (World.frozen?_of_block (a := ⟨g, i * 4, none⟩) (HX.out.2.1.block hgl HBG.out)).trans f0
            have gc1 := (World.cell?_of_block (a := ⟨g, i * 4 + 1, none⟩) (HX.out.2.1.block hgl HBG.out)).trans c1
            have gf1 := (World.frozen?_of_block (a := ⟨g, i * 4 + 1, none⟩) (HX.out.2.1.block hgl HBG.out)).trans f1
            have gc2 := (World.cell?_of_block (a := ⟨g, i * 4 + 2, none⟩) (HX.out.2.1.block hgl HBG.out)).trans c2
            have gf2 := (World.frozen?_of_block (a := ⟨g, i * 4 + 2, none⟩) (HX.out.2.1.block hgl HBG.out)).trans f2
            have gc3 := (World.cell?_of_block (a := ⟨g, i * 4 + 3, none⟩) (HX.out.2.1.block hgl HBG.out)).trans c3
            have gf3 := (World.frozen?_of_block (a := ⟨g, i * 4 + 3, none⟩) (HX.out.2.1.block hgl HBG.out)).trans f3
            have hglX : g < X.heap.size := Nat.lt_of_lt_of_le hgl (HX.out.2.1).size
            go_wp2
            exact bodyPost_ret (v := .tuple #[.agg #[.int .i64 ep, .int .i64 du, .slice (some ⟨g, 0, none⟩) ms.length k1, .slice a9 (en.length + 1) c9], .bool true]) (by simp [results, Try.results41, go_sem, *]) rfl (fe_tail (T := S2) (B' := fun j => (Value.slice a8 L.length c8).ownBlock = some j) (E' := fun j => (Value.slice a9 (en.length + 1) c9).ownBlock = some j) HP.out HSG.out HBK.out HO.out.2.2 HX.out.2.1 (fun k q => Or.inr q) HX.out.2.2.2.1 HX.out.2.2.1 (fun j q => Or.inr ⟨by have h1 := (HX.out.2.2.2.2.1 j q).1; have h2 := HC.out.1.2.2.2.1.2; have h3 := HC.out.1.2.2.2.2; omega, (HX.out.2.2.2.2.1 j q).2, by have h1 := (HX.out.2.2.2.2.1 j q).1; have h2 := HC.out.1.2.2.2.1.2; have h3 := HC.out.1.2.2.2.2; omega⟩) (fun j q => by rcases HC.out.2.2.2 j q with r | r; exact Or.inl r; exact Or.inr ⟨by have h3 := HC.out.1.2.2.2.2; omega, by have h4 := HX.out.2.2.2.2.2; omega, by have h3 := HC.out.1.2.2.2.2; omega⟩) (fun j q z => by have h1 := (HX.out.2.2.2.2.1 j q).1; have h2 := ((HC.out.2.2.1.tight rfl).2.1 j z).2; omega) (HLE.out ▸ HE.out ▸ HN.out))
        ·
          try rw [← HAD.out]
          (first | (have d2 := HB6.out.1.2.2.2.1.cell 2 rfl; have dz := HB6.out.1.2.2.2.1.2) | (have d2 := HB1.out.1.2.2.2.1.cell 2 rfl; have dz := HB1.out.1.2.2.2.1.2) | (have d2 := HBd.out.1.2.2.2.1.cell 2 rfl; have dz := HBd.out.1.2.2.2.1.2))
          go_wp2_with fail
          clear d2 dz
          refine hK.out _ _ hHeld (fun hHeld => ?_)
          clear hK KC
          refine take_v (v := ?_) 12 ⟨some 83, Op.slice 27 (Operand.tmp 79) (some (Operand.tmp 82)) none none, _, _, _, none⟩ rfl (fun _ _ _ h => h) ?_ hHeld ?_
          rotate_left
          · (intro W _; go_simp <;> (try with_reducible rfl))
          refine ready_call 0 ⟨some 71, Op.buildSlice 27 0 #[], _, _, _, none⟩ (by kernel_rfl) rfl (by kernel_rfl) (fun KC hK => ?_)
          try rw [← HAD.out]
          go_wp2_with fail
          obtain ⟨Y1, hY1⟩ : ∃ x, x = Y0.alloc (.cells #[] 3) := ⟨_, rfl⟩
          have HB1 : Hid (SpB w Y1 [.int .i64 ep, .int .i64 du, .slice (some ⟨g, 0, none⟩) ms.length k1, .slice a9 (en.length + 1) c9] [.int .i64 (2), .int .i64 b, .int .i64 (k : Int)] [.int .i64 x0, .int .i64 x1, .slice (some ⟨gr, 0, none⟩) x2.length kr, .int .i64 x3] w1.heap.size ∧ TurnS S2 w Y1 ∧ Y1.heap.size = Y0.heap.size + 1 ∧ OwnX Y1 lo (.list .int 3) [.slice (some ⟨Y0.heap.size, 0, none⟩) 0 0] [] (fun k => k = Y0.heap.size) ∧ OwnX Y1 lo (.list .int 3) [.slice (some ⟨gr, 0, none⟩) x2.length kr] x2 Bk ∧ OwnX Y1 lo (.list .int 3) [.slice a9 (en.length + 1) c9] (en ++ [e]) (fun k => (Value.slice a9 (en.length + 1) c9).ownBlock = some k) ∧ lo ≤ Y1.heap.size) := Hid.intro (by
            have hb := Go.Joins.below_alloc1 Y0 (.cells #[] 3)
            have hz : lo ≤ Y0.heap.size := Nat.le_trans hlo HBd.out.2.1.size
            exact hY1 ▸ ⟨HBd.out.1.next hb, HBd.out.2.1.next hb, by simp, ((ApS.made (e := .int) (t := 3) (w := Y0) rfl).1.lower hz).mono (fun k q => by simp only [Btw] at q; simp at q; omega), HRd.out.1.next hb, HRd.out.2.next hb, Nat.le_trans hz hb.size⟩)
          rw [← hY1]
          clear hY1
          refine hK.out _ _ HB1.out.1.2.1 (fun hHeld => ?_)
          clear hK KC
          refine ready_call 6 ⟨some 77, Op.call { callee := Callee.builtin Builtin.append, args := #[Operand.tmp 71, Operand.tmp 76], argTypes := #[27, 27] }, _, _, _, none⟩ (by kernel_rfl) rfl (by kernel_rfl) (fun KC hK => ?_)
          try rw [← HAD.out]
          refine wp_appx (.tmp 71) (.tmp 76) 27 3 (by rfl) i1 (.int .i64 0) 8 lo .int rfl Try.underlying27 hi1 hy0 hy1 hy2 rfl (by decide) (.slice (some ⟨Y0.heap.size, 0, none⟩) 0 0) [] (x2.take k) (fun k => k = Y0.heap.size) (by rfl) HB1.out.2.2.2.1 (some ⟨gr, 0, none⟩) kr (by rw [hlk]; rfl) (by rw [hlk]; exact HB1.out.2.2.2.2.1.lies.take k (Nat.le_of_lt hkl)) hb6 hc6 HB1.out.2.2.2.2.2.2 ?_
          intro v6 Y6 hO6 hg6 hwh6
          have hrow : ∀ j, (Value.slice (some ⟨Y0.heap.size, 0, none⟩) 0 0).ownBlock = some j → j = Y0.heap.size := fun j q => (HB1.out.2.2.2.1.tight rfl).2.2 j q
          have HB6 : Hid (SpB w Y6 [.int .i64 ep, .int .i64 du, .slice (some ⟨g, 0, none⟩) ms.length k1, .slice a9 (en.length + 1) c9] [.int .i64 (2), .int .i64 b, .int .i64 (k : Int)] [.int .i64 x0, .int .i64 x1, .slice (some ⟨gr, 0, none⟩) x2.length kr, .int .i64 x3] w1.heap.size ∧ TurnS S2 w Y6 ∧ OwnX Y6 lo (.list .int 3) [v6] ([] ++ x2.take k) (fun j => v6.ownBlock = some j) ∧ (∀ j, v6.ownBlock = some j → Y0.heap.size ≤ j) ∧ OwnX Y6 lo (.list .int 3) [.slice (some ⟨gr, 0, none⟩) x2.length kr] x2 Bk ∧ OwnX Y6 lo (.list .int 3) [.slice a9 (en.length + 1) c9] (en ++ [e]) (fun k => (Value.slice a9 (en.length + 1) c9).ownBlock = some k) ∧ lo ≤ Y6.heap.size ∧ Y1.heap.size ≤ Y6.heap.size) := Hid.intro (by
            have hz0 : w1.heap.size < wc.heap.size := HC.out.1.2.2.2.1.2
            have hz1 : Y0.heap.size = wc.heap.size := HBd.out.2.2
            have hz2 : w.heap.size ≤ w1.heap.size := by have := HC.out.1.2.2.2.2; omega
            have h6 := hO6.tight rfl
            refine ⟨HB1.out.1.grow hg6 (fun j q => Or.inr (by have := hrow j q; omega)), HB1.out.2.1.grown hg6 (fun j q => Or.inr (by have := hrow j q; omega)), h6.1, fun j q => ?_, HB1.out.2.2.2.2.1.grow hg6 (fun j q z => ?_), HB1.out.2.2.2.2.2.1.grow hg6 (fun j q z => ?_), Nat.le_trans HB1.out.2.2.2.2.2.2 hg6.size, hg6.size⟩
            · rcases h6.2.2 j q with r | r
              · omega
              · have := HB1.out.2.2.1; omega
            · have h1 := HO.out.2.2.2.2.2 j (HO.out.2.2.1 j (HBK.out j z).1); have := hrow j q; omega
            · have h1 := (HC.out.2.2.1.tight rfl).2.1 j z; have := hrow j q; omega)
          clear hO6 hg6 hwh6 hrow
          refine hK.out _ _ HB6.out.1.2.1 (fun hHeld => ?_)
          clear hK KC
          refine ready_call 13 ⟨some 84, Op.call { callee := Callee.builtin Builtin.append, args := #[Operand.tmp 77, Operand.tmp 83], argTypes := #[27, 27] }, _, _, _, none⟩ (by kernel_rfl) rfl (by kernel_rfl) (fun KC hK => ?_)
          try rw [← HAD.out]
          refine wp_appx (.tmp 77) (.tmp 83) 27 3 (by rfl) i1 (.int .i64 0) 8 lo .int rfl Try.underlying27 hi1 hy0 hy1 hy2 rfl (by decide) v6 ([] ++ x2.take k) (x2.drop (k + 1)) (fun j => v6.ownBlock = some j) (by rfl) HB6.out.2.2.1 AD (kr - (k + 1)) (by rw [hld]; rfl) (by rw [HAD.out]; exact drop_lies HB6.out.2.2.2.2.1.lies rfl hkl hcap1 HCM.out) hb13 hc13 HB6.out.2.2.2.2.2.2.1 ?_
          intro v13 Y13 hO13 hg13 hwh13
          have hO13' : OwnX Y13 lo (.list .int 3) [v13] L (fun j => v6.ownBlock = some j ∨ j = Y6.heap.size) := HF.out ▸ hO13
          obtain ⟨a8, c8, hv8⟩ := hO13'.vform
          have hv8 : v13 = .slice a8 (List.length (α := Sh.T .int) L) c8 := hv8
          subst hv8
          have HB13 : Hid (SpB w Y13 [.int .i64 ep, .int .i64 du, .slice (some ⟨g, 0, none⟩) ms.length k1, .slice a9 (en.length + 1) c9] [.int .i64 (2), .int .i64 b, .int .i64 (k : Int)] [.int .i64 x0, .int .i64 x1, .slice (some ⟨gr, 0, none⟩) x2.length kr, .int .i64 x3] w1.heap.size ∧ TurnS S2 w Y13 ∧ OwnX Y13 lo (.list .int 3) [.slice a8 L.length c8] L (fun j => (Value.slice a8 L.length c8).ownBlock = some j) ∧ (∀ j, (Value.slice a8 L.length c8).ownBlock = some j → wc.heap.size ≤ j ∧ j < Y13.heap.size) ∧ OwnX Y13 lo (.list .int 3) [.slice a9 (en.length + 1) c9] (en ++ [e]) (fun k => (Value.slice a9 (en.length + 1) c9).ownBlock = some k) ∧ wc.heap.size ≤ Y13.heap.size) := Hid.intro (by
            have hz0 : w1.heap.size < wc.heap.size := HC.out.1.2.2.2.1.2
            have hz1 : Y0.heap.size = wc.heap.size := HBd.out.2.2
            have hz2 : w.heap.size ≤ w1.heap.size := by have := HC.out.1.2.2.2.2; omega
            have hz3 := HB6.out.2.2.2.2.2.2.2
            have hz4 := HB1.out.2.2.1
            have h6 := hO13'.tight rfl
            refine ⟨HB6.out.1.grow hg13 (fun j q => Or.inr (by have := HB6.out.2.2.2.1 j q; omega)), HB6.out.2.1.grown hg13 (fun j q => Or.inr (by have := HB6.out.2.2.2.1 j q; omega)), h6.1, fun j q => ⟨?_, (h6.2.1 j q).2⟩, HB6.out.2.2.2.2.2.1.grow hg13 (fun j q z => ?_), by have := hg13.size; omega⟩
            · rcases h6.2.2 j q with r | r
              · have := HB6.out.2.2.2.1 j r; omega
              · omega
            · have h1 := (HC.out.2.2.1.tight rfl).2.1 j z; have := HB6.out.2.2.2.1 j q; omega)
          clear hO13 hO13' hg13 hwh13
          refine hK.out _ _ HB13.out.1.2.1 (fun hHeld => ?_)
          clear hK KC
          refine take_v (v := ?_) 14 ⟨some 85, Op.fieldAddr 37 (Operand.tmp 7) 2, _, _, _, none⟩ rfl (fun _ _ _ h => h) ?_ hHeld ?_
          rotate_left
          · (intro W _; go_simp <;> (try with_reducible rfl))
          refine ready_call 15 ⟨none, Op.store 27 (Operand.tmp 85) (Operand.tmp 84), _, _, _, none⟩ (by kernel_rfl) rfl (by kernel_rfl) (fun KC hK => ?_)
          try rw [← HAD.out]
          have d2 := HB13.out.1.2.2.2.1.cell 2 rfl
          have dz := HB13.out.1.2.2.2.1.2
          have df := HB13.out.1.2.2.2.1.frz 2 (by simp)
          go_wp2_with fail
          clear d2 dz df
          have HX : Hid (SpB w (Y13.setCell ⟨w1.heap.size, 2, none⟩ (.slice a8 L.length c8)) [.int .i64 ep, .int .i64 du, .slice (some ⟨g, 0, none⟩) ms.length k1, .slice a9 (en.length + 1) c9] [.int .i64 (2), .int .i64 b, .int .i64 (k : Int)] [.int .i64 x0, .int .i64 x1, .slice a8 L.length c8, .int .i64 x3] w1.heap.size ∧ TurnS S2 w (Y13.setCell ⟨w1.heap.size, 2, none⟩ (.slice a8 L.length c8)) ∧ OwnX (Y13.setCell ⟨w1.heap.size, 2, none⟩ (.slice a8 L.length c8)) lo (.list .int 3) [.slice a9 (en.length + 1) c9] (en ++ [e]) (fun k => (Value.slice a9 (en.length + 1) c9).ownBlock = some k) ∧ OwnX (Y13.setCell ⟨w1.heap.size, 2, none⟩ (.slice a8 L.length c8)) lo (.list .int 3) [.slice a8 L.length c8] L (fun j => (Value.slice a8 L.length c8).ownBlock = some j) ∧ (∀ j, (Value.slice a8 L.length c8).ownBlock = some j → wc.heap.size ≤ j ∧ j < (Y13.setCell ⟨w1.heap.size, 2, none⟩ (.slice a8 L.length c8)).heap.size) ∧ wc.heap.size ≤ (Y13.setCell ⟨w1.heap.size, 2, none⟩ (.slice a8 L.length c8)).heap.size) := Hid.intro (by
            have hz0 : w1.heap.size < wc.heap.size := HC.out.1.2.2.2.1.2
            have hz2 := HC.out.1.2.2.2.2
            refine ⟨HB13.out.1.setM (j := 2) (by simp) _, HB13.out.2.1.new (turn_set _ ⟨w1.heap.size, 2, none⟩ _) (by show w.heap.size ≤ w1.heap.size; omega), HB13.out.2.2.2.2.1.set (p := ⟨w1.heap.size, 2, none⟩) (fun q => ?_) _, HB13.out.2.2.1.set (p := ⟨w1.heap.size, 2, none⟩) (fun q => ?_) _, fun j q => by rw [World.size_setCell]; exact HB13.out.2.2.2.1 j q, by rw [World.size_setCell]; exact HB13.out.2.2.2.2.2⟩
            · rcases HC.out.2.2.2 _ q with r | r
              · have h8 : w1.heap.size < w.heap.size := HO.out.2.2.2.2.2 _ (HO.out.2.2.2.1 _ r); omega
              · have h8 : w1.heap.size < w1.heap.size := r.1; omega
            · have h8 : wc.heap.size ≤ w1.heap.size := (HB13.out.2.2.2.1 _ q).1; omega)
          refine hK.out _ _ HX.out.1.2.1 (fun hHeld => ?_)
          clear hK KC
          refine wpAnyH_done (by kernel_rfl) ?_ _
          refine NoPanic.normal ?_
          clear hHeld
          obtain ⟨X, hXe⟩ : ∃ x, x = Y13.setCell ⟨w1.heap.size, 2, none⟩ (.slice a8 L.length c8) := ⟨_, rfl⟩
          rw [← hXe] at HX ⊢
          clear hXe
          obtain ⟨c0, c1, c2, c3⟩ := HCW.out
          have hBg : ¬ S2 g := fun q => HO.out.2.2.2.2.1 g HSG.out q
          have HBG := Hid.intro hBg
          clear hBg
          have s0 := (HX.out.1.1).cell 0 rfl; have s1 := (HX.out.1.1).cell 1 rfl; have s2 := (HX.out.1.1).cell 2 rfl; have s3 := (HX.out.1.1).cell 3 rfl; have sz := (HX.out.1.1).2
          have r0 := (HX.out.1.2.2.1).cell 0 rfl; have r1 := (HX.out.1.2.2.1).cell 1 rfl; have r2 := (HX.out.1.2.2.1).cell 2 rfl; have r3 := (HX.out.1.2.2.1).cell 3 rfl; have rz := (HX.out.1.2.2.1).2
          have m0 := (HX.out.1.2.2.2.1).cell 0 rfl; have m1 := (HX.out.1.2.2.2.1).cell 1 rfl; have m2 := (HX.out.1.2.2.2.1).cell 2 rfl; have m3 := (HX.out.1.2.2.2.1).cell 3 rfl; have mz := (HX.out.1.2.2.2.1).2
          have rf0 := HX.out.1.2.2.1.frz 0 (by simp)
          have rf1 := HX.out.1.2.2.1.frz 1 (by simp)
          have rf2 := HX.out.1.2.2.1.frz 2 (by simp)
          have rf3 := HX.out.1.2.2.1.frz 3 (by simp)
          have gc0 := (World.cell?_of_block (a := ⟨g, i * 4, none⟩) (HX.out.2.1.block hgl HBG.out)).trans c0
          have gf0 := (World.frozen?_of_block (a := ⟨g, i * 4, none⟩) (HX.out.2.1.block hgl HBG.out)).trans f0
          have gc1 := (World.cell?_of_block (a := ⟨g, i * 4 + 1, none⟩) (HX.out.2.1.block hgl HBG.out)).trans c1
          have gf1 := (World.frozen?_of_block (a := ⟨g, i * 4 + 1, none⟩) (HX.out.2.1.block hgl HBG.out)).trans f1
          have gc2 := (World.cell?_of_block (a := ⟨g, i * 4 + 2, none⟩) (HX.out.2.1.block hgl HBG.out)).trans c2
          have gf2 := (World.frozen?_of_block (a := ⟨g, i * 4 + 2, none⟩) (HX.out.2.1.block hgl HBG.out)).trans f2
          have gc3 := (World.cell?_of_block (a := ⟨g, i * 4 + 3, none⟩) (HX.out.2.1.block hgl HBG.out)).trans c3
          have gf3 := (World.frozen?_of_block (a := ⟨g, i * 4 + 3, none⟩) (HX.out.2.1.block hgl HBG.out)).trans f3
          have hglX : g < X.heap.size := Nat.lt_of_lt_of_le hgl (HX.out.2.1).size
          go_wp2
          exact bodyPost_ret (v := .tuple #[.agg #[.int .i64 ep, .int .i64 du, .slice (some ⟨g, 0, none⟩) ms.length k1, .slice a9 (en.length + 1) c9], .bool true]) (by simp [results, Try.results41, go_sem, *]) rfl (fe_tail (T := S2) (B' := fun j => (Value.slice a8 L.length c8).ownBlock = some j) (E' := fun j => (Value.slice a9 (en.length + 1) c9).ownBlock = some j) HP.out HSG.out HBK.out HO.out.2.2 HX.out.2.1 (fun k q => Or.inr q) HX.out.2.2.2.1 HX.out.2.2.1 (fun j q => Or.inr ⟨by have h1 := (HX.out.2.2.2.2.1 j q).1; have h2 := HC.out.1.2.2.2.1.2; have h3 := HC.out.1.2.2.2.2; omega, (HX.out.2.2.2.2.1 j q).2, by have h1 := (HX.out.2.2.2.2.1 j q).1; have h2 := HC.out.1.2.2.2.1.2; have h3 := HC.out.1.2.2.2.2; omega⟩) (fun j q => by rcases HC.out.2.2.2 j q with r | r; exact Or.inl r; exact Or.inr ⟨by have h3 := HC.out.1.2.2.2.2; omega, by have h4 := HX.out.2.2.2.2.2; omega, by have h3 := HC.out.1.2.2.2.2; omega⟩) (fun j q z => by have h1 := (HX.out.2.2.2.2.1 j q).1; have h2 := ((HC.out.2.2.1.tight rfl).2.1 j z).2; omega) (HLE.out ▸ HE.out ▸ HN.out))
      ·
        try rw [← HAD.out]
        (first | (have d2 := HB6.out.1.2.2.2.1.cell 2 rfl; have dz := HB6.out.1.2.2.2.1.2) | (have d2 := HB1.out.1.2.2.2.1.cell 2 rfl; have dz := HB1.out.1.2.2.2.1.2) | (have d2 := HBd.out.1.2.2.2.1.cell 2 rfl; have dz := HBd.out.1.2.2.2.1.2))
        go_wp2_with fail
        clear d2 dz
        refine hK.out _ _ hHeld (fun hHeld => ?_)
        clear hK KC
        refine take_v (v := ?_) 12 ⟨some 83, Op.slice 27 (Operand.tmp 79) (some (Operand.tmp 82)) none none, _, _, _, none⟩ rfl (fun _ _ _ h => h) ?_ hHeld ?_
        rotate_left
        · (intro W _; go_simp <;> (try with_reducible rfl))
        refine ready_two 0 2 ⟨some 71, Op.buildSlice 27 0 #[], _, _, _, none⟩ ⟨some 73, Op.load 27 (Operand.tmp 72), _, _, _, none⟩ (by kernel_rfl) rfl rfl (by kernel_rfl) (by kernel_rfl) (fun KC hK => ?_) (fun KC hK => ?_)
        ·
          try rw [← HAD.out]
          go_wp2_with fail
          obtain ⟨Y1, hY1⟩ : ∃ x, x = Y0.alloc (.cells #[] 3) := ⟨_, rfl⟩
          have HB1 : Hid (SpB w Y1 [.int .i64 ep, .int .i64 du, .slice (some ⟨g, 0, none⟩) ms.length k1, .slice a9 (en.length + 1) c9] [.int .i64 (2), .int .i64 b, .int .i64 (k : Int)] [.int .i64 x0, .int .i64 x1, .slice (some ⟨gr, 0, none⟩) x2.length kr, .int .i64 x3] w1.heap.size ∧ TurnS S2 w Y1 ∧ Y1.heap.size = Y0.heap.size + 1 ∧ OwnX Y1 lo (.list .int 3) [.slice (some ⟨Y0.heap.size, 0, none⟩) 0 0] [] (fun k => k = Y0.heap.size) ∧ OwnX Y1 lo (.list .int 3) [.slice (some ⟨gr, 0, none⟩) x2.length kr] x2 Bk ∧ OwnX Y1 lo (.list .int 3) [.slice a9 (en.length + 1) c9] (en ++ [e]) (fun k => (Value.slice a9 (en.length + 1) c9).ownBlock = some k) ∧ lo ≤ Y1.heap.size) := Hid.intro (by
            have hb := Go.Joins.below_alloc1 Y0 (.cells #[] 3)
            have hz : lo ≤ Y0.heap.size := Nat.le_trans hlo HBd.out.2.1.size
            exact hY1 ▸ ⟨HBd.out.1.next hb, HBd.out.2.1.next hb, by simp, ((ApS.made (e := .int) (t := 3) (w := Y0) rfl).1.lower hz).mono (fun k q => by simp only [Btw] at q; simp at q; omega), HRd.out.1.next hb, HRd.out.2.next hb, Nat.le_trans hz hb.size⟩)
          rw [← hY1]
          clear hY1
          refine hK.out _ _ HB1.out.1.2.1 (fun hHeld => ?_)
          clear hK KC
          refine ready_call 2 ⟨some 73, Op.load 27 (Operand.tmp 72), _, _, _, none⟩ (by kernel_rfl) rfl (by kernel_rfl) (fun KC hK => ?_)
          try rw [← HAD.out]
          (first | (have d2 := HB6.out.1.2.2.2.1.cell 2 rfl; have dz := HB6.out.1.2.2.2.1.2) | (have d2 := HB1.out.1.2.2.2.1.cell 2 rfl; have dz := HB1.out.1.2.2.2.1.2) | (have d2 := HBd.out.1.2.2.2.1.cell 2 rfl; have dz := HBd.out.1.2.2.2.1.2))
          go_wp2_with fail
          clear d2 dz
          refine hK.out _ _ hHeld (fun hHeld => ?_)
          clear hK KC
          refine take_v (v := ?_) 5 ⟨some 76, Op.slice 27 (Operand.tmp 73) none (some (Operand.tmp 75)) none, _, _, _, none⟩ rfl (fun _ _ _ h => h) ?_ hHeld ?_
          rotate_left
          · (intro W _; go_simp <;> (try with_reducible rfl))
          refine ready_call 6 ⟨some 77, Op.call { callee := Callee.builtin Builtin.append, args := #[Operand.tmp 71, Operand.tmp 76], argTypes := #[27, 27] }, _, _, _, none⟩ (by kernel_rfl) rfl (by kernel_rfl) (fun KC hK => ?_)
          try rw [← HAD.out]
          refine wp_appx (.tmp 71) (.tmp 76) 27 3 (by rfl) i1 (.int .i64 0) 8 lo .int rfl Try.underlying27 hi1 hy0 hy1 hy2 rfl (by decide) (.slice (some ⟨Y0.heap.size, 0, none⟩) 0 0) [] (x2.take k) (fun k => k = Y0.heap.size) (by rfl) HB1.out.2.2.2.1 (some ⟨gr, 0, none⟩) kr (by rw [hlk]; rfl) (by rw [hlk]; exact HB1.out.2.2.2.2.1.lies.take k (Nat.le_of_lt hkl)) hb6 hc6 HB1.out.2.2.2.2.2.2 ?_
          intro v6 Y6 hO6 hg6 hwh6
          have hrow : ∀ j, (Value.slice (some ⟨Y0.heap.size, 0, none⟩) 0 0).ownBlock = some j → j = Y0.heap.size := fun j q => (HB1.out.2.2.2.1.tight rfl).2.2 j q
          have HB6 : Hid (SpB w Y6 [.int .i64 ep, .int .i64 du, .slice (some ⟨g, 0, none⟩) ms.length k1, .slice a9 (en.length + 1) c9] [.int .i64 (2), .int .i64 b, .int .i64 (k : Int)] [.int .i64 x0, .int .i64 x1, .slice (some ⟨gr, 0, none⟩) x2.length kr, .int .i64 x3] w1.heap.size ∧ TurnS S2 w Y6 ∧ OwnX Y6 lo (.list .int 3) [v6] ([] ++ x2.take k) (fun j => v6.ownBlock = some j) ∧ (∀ j, v6.ownBlock = some j → Y0.heap.size ≤ j) ∧ OwnX Y6 lo (.list .int 3) [.slice (some ⟨gr, 0, none⟩) x2.length kr] x2 Bk ∧ OwnX Y6 lo (.list .int 3) [.slice a9 (en.length + 1) c9] (en ++ [e]) (fun k => (Value.slice a9 (en.length + 1) c9).ownBlock = some k) ∧ lo ≤ Y6.heap.size ∧ Y1.heap.size ≤ Y6.heap.size) := Hid.intro (by
            have hz0 : w1.heap.size < wc.heap.size := HC.out.1.2.2.2.1.2
            have hz1 : Y0.heap.size = wc.heap.size := HBd.out.2.2
            have hz2 : w.heap.size ≤ w1.heap.size := by have := HC.out.1.2.2.2.2; omega
            have h6 := hO6.tight rfl
            refine ⟨HB1.out.1.grow hg6 (fun j q => Or.inr (by have := hrow j q; omega)), HB1.out.2.1.grown hg6 (fun j q => Or.inr (by have := hrow j q; omega)), h6.1, fun j q => ?_, HB1.out.2.2.2.2.1.grow hg6 (fun j q z => ?_), HB1.out.2.2.2.2.2.1.grow hg6 (fun j q z => ?_), Nat.le_trans HB1.out.2.2.2.2.2.2 hg6.size, hg6.size⟩
            · rcases h6.2.2 j q with r | r
              · omega
              · have := HB1.out.2.2.1; omega
            · have h1 := HO.out.2.2.2.2.2 j (HO.out.2.2.1 j (HBK.out j z).1); have := hrow j q; omega
            · have h1 := (HC.out.2.2.1.tight rfl).2.1 j z; have := hrow j q; omega)
          clear hO6 hg6 hwh6 hrow
          refine hK.out _ _ HB6.out.1.2.1 (fun hHeld => ?_)
          clear hK KC
          refine ready_call 13 ⟨some 84, Op.call { callee := Callee.builtin Builtin.append, args := #[Operand.tmp 77, Operand.tmp 83], argTypes := #[27, 27] }, _, _, _, none⟩ (by kernel_rfl) rfl (by kernel_rfl) (fun KC hK => ?_)
          try rw [← HAD.out]
          refine wp_appx (.tmp 77) (.tmp 83) 27 3 (by rfl) i1 (.int .i64 0) 8 lo .int rfl Try.underlying27 hi1 hy0 hy1 hy2 rfl (by decide) v6 ([] ++ x2.take k) (x2.drop (k + 1)) (fun j => v6.ownBlock = some j) (by rfl) HB6.out.2.2.1 AD (kr - (k + 1)) (by rw [hld]; rfl) (by rw [HAD.out]; exact drop_lies HB6.out.2.2.2.2.1.lies rfl hkl hcap1 HCM.out) hb13 hc13 HB6.out.2.2.2.2.2.2.1 ?_
          intro v13 Y13 hO13 hg13 hwh13
          have hO13' : OwnX Y13 lo (.list .int 3) [v13] L (fun j => v6.ownBlock = some j ∨ j = Y6.heap.size) := HF.out ▸ hO13
          obtain ⟨a8, c8, hv8⟩ := hO13'.vform
          have hv8 : v13 = .slice a8 (List.length (α := Sh.T .int) L) c8 := hv8
          subst hv8
          have HB13 : Hid (SpB w Y13 [.int .i64 ep, .int .i64 du, .slice (some ⟨g, 0, none⟩) ms.length k1, .slice a9 (en.length + 1) c9] [.int .i64 (2), .int .i64 b, .int .i64 (k : Int)] [.int .i64 x0, .int .i64 x1, .slice (some ⟨gr, 0, none⟩) x2.length kr, .int .i64 x3] w1.heap.size ∧ TurnS S2 w Y13 ∧ OwnX Y13 lo (.list .int 3) [.slice a8 L.length c8] L (fun j => (Value.slice a8 L.length c8).ownBlock = some j) ∧ (∀ j, (Value.slice a8 L.length c8).ownBlock = some j → wc.heap.size ≤ j ∧ j < Y13.heap.size) ∧ OwnX Y13 lo (.list .int 3) [.slice a9 (en.length + 1) c9] (en ++ [e]) (fun k => (Value.slice a9 (en.length + 1) c9).ownBlock = some k) ∧ wc.heap.size ≤ Y13.heap.size) := Hid.intro (by
            have hz0 : w1.heap.size < wc.heap.size := HC.out.1.2.2.2.1.2
            have hz1 : Y0.heap.size = wc.heap.size := HBd.out.2.2
            have hz2 : w.heap.size ≤ w1.heap.size := by have := HC.out.1.2.2.2.2; omega
            have hz3 := HB6.out.2.2.2.2.2.2.2
            have hz4 := HB1.out.2.2.1
            have h6 := hO13'.tight rfl
            refine ⟨HB6.out.1.grow hg13 (fun j q => Or.inr (by have := HB6.out.2.2.2.1 j q; omega)), HB6.out.2.1.grown hg13 (fun j q => Or.inr (by have := HB6.out.2.2.2.1 j q; omega)), h6.1, fun j q => ⟨?_, (h6.2.1 j q).2⟩, HB6.out.2.2.2.2.2.1.grow hg13 (fun j q z => ?_), by have := hg13.size; omega⟩
            · rcases h6.2.2 j q with r | r
              · have := HB6.out.2.2.2.1 j r; omega
              · omega
            · have h1 := (HC.out.2.2.1.tight rfl).2.1 j z; have := HB6.out.2.2.2.1 j q; omega)
          clear hO13 hO13' hg13 hwh13
          refine hK.out _ _ HB13.out.1.2.1 (fun hHeld => ?_)
          clear hK KC
          refine take_v (v := ?_) 14 ⟨some 85, Op.fieldAddr 37 (Operand.tmp 7) 2, _, _, _, none⟩ rfl (fun _ _ _ h => h) ?_ hHeld ?_
          rotate_left
          · (intro W _; go_simp <;> (try with_reducible rfl))
          refine ready_call 15 ⟨none, Op.store 27 (Operand.tmp 85) (Operand.tmp 84), _, _, _, none⟩ (by kernel_rfl) rfl (by kernel_rfl) (fun KC hK => ?_)
          try rw [← HAD.out]
          have d2 := HB13.out.1.2.2.2.1.cell 2 rfl
          have dz := HB13.out.1.2.2.2.1.2
          have df := HB13.out.1.2.2.2.1.frz 2 (by simp)
          go_wp2_with fail
          clear d2 dz df
          have HX : Hid (SpB w (Y13.setCell ⟨w1.heap.size, 2, none⟩ (.slice a8 L.length c8)) [.int .i64 ep, .int .i64 du, .slice (some ⟨g, 0, none⟩) ms.length k1, .slice a9 (en.length + 1) c9] [.int .i64 (2), .int .i64 b, .int .i64 (k : Int)] [.int .i64 x0, .int .i64 x1, .slice a8 L.length c8, .int .i64 x3] w1.heap.size ∧ TurnS S2 w (Y13.setCell ⟨w1.heap.size, 2, none⟩ (.slice a8 L.length c8)) ∧ OwnX (Y13.setCell ⟨w1.heap.size, 2, none⟩ (.slice a8 L.length c8)) lo (.list .int 3) [.slice a9 (en.length + 1) c9] (en ++ [e]) (fun k => (Value.slice a9 (en.length + 1) c9).ownBlock = some k) ∧ OwnX (Y13.setCell ⟨w1.heap.size, 2, none⟩ (.slice a8 L.length c8)) lo (.list .int 3) [.slice a8 L.length c8] L (fun j => (Value.slice a8 L.length c8).ownBlock = some j) ∧ (∀ j, (Value.slice a8 L.length c8).ownBlock = some j → wc.heap.size ≤ j ∧ j < (Y13.setCell ⟨w1.heap.size, 2, none⟩ (.slice a8 L.length c8)).heap.size) ∧ wc.heap.size ≤ (Y13.setCell ⟨w1.heap.size, 2, none⟩ (.slice a8 L.length c8)).heap.size) := Hid.intro (by
            have hz0 : w1.heap.size < wc.heap.size := HC.out.1.2.2.2.1.2
            have hz2 := HC.out.1.2.2.2.2
            refine ⟨HB13.out.1.setM (j := 2) (by simp) _, HB13.out.2.1.new (turn_set _ ⟨w1.heap.size, 2, none⟩ _) (by show w.heap.size ≤ w1.heap.size; omega), HB13.out.2.2.2.2.1.set (p := ⟨w1.heap.size, 2, none⟩) (fun q => ?_) _, HB13.out.2.2.1.set (p := ⟨w1.heap.size, 2, none⟩) (fun q => ?_) _, fun j q => by rw [World.size_setCell]; exact HB13.out.2.2.2.1 j q, by rw [World.size_setCell]; exact HB13.out.2.2.2.2.2⟩
            · rcases HC.out.2.2.2 _ q with r | r
              · have h8 : w1.heap.size < w.heap.size := HO.out.2.2.2.2.2 _ (HO.out.2.2.2.1 _ r); omega
              · have h8 : w1.heap.size < w1.heap.size := r.1; omega
            · have h8 : wc.heap.size ≤ w1.heap.size := (HB13.out.2.2.2.1 _ q).1; omega)
          refine hK.out _ _ HX.out.1.2.1 (fun hHeld => ?_)
          clear hK KC
          refine wpAnyH_done (by kernel_rfl) ?_ _
          refine NoPanic.normal ?_
          clear hHeld
          obtain ⟨X, hXe⟩ : ∃ x, x = Y13.setCell ⟨w1.heap.size, 2, none⟩ (.slice a8 L.length c8) := ⟨_, rfl⟩
          rw [← hXe] at HX ⊢
          clear hXe
          obtain ⟨c0, c1, c2, c3⟩ := HCW.out
          have hBg : ¬ S2 g := fun q => HO.out.2.2.2.2.1 g HSG.out q
          have HBG := Hid.intro hBg
          clear hBg
          have s0 := (HX.out.1.1).cell 0 rfl; have s1 := (HX.out.1.1).cell 1 rfl; have s2 := (HX.out.1.1).cell 2 rfl; have s3 := (HX.out.1.1).cell 3 rfl; have sz := (HX.out.1.1).2
          have r0 := (HX.out.1.2.2.1).cell 0 rfl; have r1 := (HX.out.1.2.2.1).cell 1 rfl; have r2 := (HX.out.1.2.2.1).cell 2 rfl; have r3 := (HX.out.1.2.2.1).cell 3 rfl; have rz := (HX.out.1.2.2.1).2
          have m0 := (HX.out.1.2.2.2.1).cell 0 rfl; have m1 := (HX.out.1.2.2.2.1).cell 1 rfl; have m2 := (HX.out.1.2.2.2.1).cell 2 rfl; have m3 := (HX.out.1.2.2.2.1).cell 3 rfl; have mz := (HX.out.1.2.2.2.1).2
          have rf0 := HX.out.1.2.2.1.frz 0 (by simp)
          have rf1 := HX.out.1.2.2.1.frz 1 (by simp)
          have rf2 := HX.out.1.2.2.1.frz 2 (by simp)
          have rf3 := HX.out.1.2.2.1.frz 3 (by simp)
          have gc0 := (World.cell?_of_block (a := ⟨g, i * 4, none⟩) (HX.out.2.1.block hgl HBG.out)).trans c0
          have gf0 := (World.frozen?_of_block (a := ⟨g, i * 4, none⟩) (HX.out.2.1.block hgl HBG.out)).trans f0
          have gc1 := (World.cell?_of_block (a := ⟨g, i * 4 + 1, none⟩) (HX.out.2.1.block hgl HBG.out)).trans c1
          have gf1 := (World.frozen?_of_block (a := ⟨g, i * 4 + 1, none⟩) (HX.out.2.1.block hgl HBG.out)).trans f1
          have gc2 := (World.cell?_of_block (a := ⟨g, i * 4 + 2, none⟩) (HX.out.2.1.block hgl HBG.out)).trans c2
          have gf2 := (World.frozen?_of_block (a := ⟨g, i * 4 + 2, none⟩) (HX.out.2.1.block hgl HBG.out)).trans f2
          have gc3 := (World.cell?_of_block (a := ⟨g, i * 4 + 3, none⟩) (HX.out.2.1.block hgl HBG.out)).trans c3
          have gf3 := (World.frozen?_of_block (a := ⟨g, i * 4 + 3, none⟩) (HX.out.2.1.block hgl HBG.out)).trans f3
          have hglX : g < X.heap.size := Nat.lt_of_lt_of_le hgl (HX.out.2.1).size
          go_wp2
          exact bodyPost_ret (v := .tuple #[.agg #[.int .i64 ep, .int .i64 du, .slice (some ⟨g, 0, none⟩) ms.length k1, .slice a9 (en.length + 1) c9], .bool true]) (by simp [results, Try.results41, go_sem, *]) rfl (fe_tail (T := S2) (B' := fun j => (Value.slice a8 L.length c8).ownBlock = some j) (E' := fun j => (Value.slice a9 (en.length + 1) c9).ownBlock = some j) HP.out HSG.out HBK.out HO.out.2.2 HX.out.2.1 (fun k q => Or.inr q) HX.out.2.2.2.1 HX.out.2.2.1 (fun j q => Or.inr ⟨by have h1 := (HX.out.2.2.2.2.1 j q).1; have h2 := HC.out.1.2.2.2.1.2; have h3 := HC.out.1.2.2.2.2; omega, (HX.out.2.2.2.2.1 j q).2, by have h1 := (HX.out.2.2.2.2.1 j q).1; have h2 := HC.out.1.2.2.2.1.2; have h3 := HC.out.1.2.2.2.2; omega⟩) (fun j q => by rcases HC.out.2.2.2 j q with r | r; exact Or.inl r; exact Or.inr ⟨by have h3 := HC.out.1.2.2.2.2; omega, by have h4 := HX.out.2.2.2.2.2; omega, by have h3 := HC.out.1.2.2.2.2; omega⟩) (fun j q z => by have h1 := (HX.out.2.2.2.2.1 j q).1; have h2 := ((HC.out.2.2.1.tight rfl).2.1 j z).2; omega) (HLE.out ▸ HE.out ▸ HN.out))
        ·
          try rw [← HAD.out]
          (first | (have d2 := HB6.out.1.2.2.2.1.cell 2 rfl; have dz := HB6.out.1.2.2.2.1.2) | (have d2 := HB1.out.1.2.2.2.1.cell 2 rfl; have dz := HB1.out.1.2.2.2.1.2) | (have d2 := HBd.out.1.2.2.2.1.cell 2 rfl; have dz := HBd.out.1.2.2.2.1.2))
          go_wp2_with fail
          clear d2 dz
          refine hK.out _ _ hHeld (fun hHeld => ?_)
          clear hK KC
          refine take_v (v := ?_) 5 ⟨some 76, Op.slice 27 (Operand.tmp 73) none (some (Operand.tmp 75)) none, _, _, _, none⟩ rfl (fun _ _ _ h => h) ?_ hHeld ?_
          rotate_left
          · (intro W _; go_simp <;> (try with_reducible rfl))
          refine ready_call 0 ⟨some 71, Op.buildSlice 27 0 #[], _, _, _, none⟩ (by kernel_rfl) rfl (by kernel_rfl) (fun KC hK => ?_)
          try rw [← HAD.out]
          go_wp2_with fail
          obtain ⟨Y1, hY1⟩ : ∃ x, x = Y0.alloc (.cells #[] 3) := ⟨_, rfl⟩
          have HB1 : Hid (SpB w Y1 [.int .i64 ep, .int .i64 du, .slice (some ⟨g, 0, none⟩) ms.length k1, .slice a9 (en.length + 1) c9] [.int .i64 (2), .int .i64 b, .int .i64 (k : Int)] [.int .i64 x0, .int .i64 x1, .slice (some ⟨gr, 0, none⟩) x2.length kr, .int .i64 x3] w1.heap.size ∧ TurnS S2 w Y1 ∧ Y1.heap.size = Y0.heap.size + 1 ∧ OwnX Y1 lo (.list .int 3) [.slice (some ⟨Y0.heap.size, 0, none⟩) 0 0] [] (fun k => k = Y0.heap.size) ∧ OwnX Y1 lo (.list .int 3) [.slice (some ⟨gr, 0, none⟩) x2.length kr] x2 Bk ∧ OwnX Y1 lo (.list .int 3) [.slice a9 (en.length + 1) c9] (en ++ [e]) (fun k => (Value.slice a9 (en.length + 1) c9).ownBlock = some k) ∧ lo ≤ Y1.heap.size) := Hid.intro (by
            have hb := Go.Joins.below_alloc1 Y0 (.cells #[] 3)
            have hz : lo ≤ Y0.heap.size := Nat.le_trans hlo HBd.out.2.1.size
            exact hY1 ▸ ⟨HBd.out.1.next hb, HBd.out.2.1.next hb, by simp, ((ApS.made (e := .int) (t := 3) (w := Y0) rfl).1.lower hz).mono (fun k q => by simp only [Btw] at q; simp at q; omega), HRd.out.1.next hb, HRd.out.2.next hb, Nat.le_trans hz hb.size⟩)
          rw [← hY1]
          clear hY1
          refine hK.out _ _ HB1.out.1.2.1 (fun hHeld => ?_)
          clear hK KC
          refine ready_call 6 ⟨some 77, Op.call { callee := Callee.builtin Builtin.append, args := #[Operand.tmp 71, Operand.tmp 76], argTypes := #[27, 27] }, _, _, _, none⟩ (by kernel_rfl) rfl (by kernel_rfl) (fun KC hK => ?_)
          try rw [← HAD.out]
          refine wp_appx (.tmp 71) (.tmp 76) 27 3 (by rfl) i1 (.int .i64 0) 8 lo .int rfl Try.underlying27 hi1 hy0 hy1 hy2 rfl (by decide) (.slice (some ⟨Y0.heap.size, 0, none⟩) 0 0) [] (x2.take k) (fun k => k = Y0.heap.size) (by rfl) HB1.out.2.2.2.1 (some ⟨gr, 0, none⟩) kr (by rw [hlk]; rfl) (by rw [hlk]; exact HB1.out.2.2.2.2.1.lies.take k (Nat.le_of_lt hkl)) hb6 hc6 HB1.out.2.2.2.2.2.2 ?_
          intro v6 Y6 hO6 hg6 hwh6
          have hrow : ∀ j, (Value.slice (some ⟨Y0.heap.size, 0, none⟩) 0 0).ownBlock = some j → j = Y0.heap.size := fun j q => (HB1.out.2.2.2.1.tight rfl).2.2 j q
          have HB6 : Hid (SpB w Y6 [.int .i64 ep, .int .i64 du, .slice (some ⟨g, 0, none⟩) ms.length k1, .slice a9 (en.length + 1) c9] [.int .i64 (2), .int .i64 b, .int .i64 (k : Int)] [.int .i64 x0, .int .i64 x1, .slice (some ⟨gr, 0, none⟩) x2.length kr, .int .i64 x3] w1.heap.size ∧ TurnS S2 w Y6 ∧ OwnX Y6 lo (.list .int 3) [v6] ([] ++ x2.take k) (fun j => v6.ownBlock = some j) ∧ (∀ j, v6.ownBlock = some j → Y0.heap.size ≤ j) ∧ OwnX Y6 lo (.list .int 3) [.slice (some ⟨gr, 0, none⟩) x2.length kr] x2 Bk ∧ OwnX Y6 lo (.list .int 3) [.slice a9 (en.length + 1) c9] (en ++ [e]) (fun k => (Value.slice a9 (en.length + 1) c9).ownBlock = some k) ∧ lo ≤ Y6.heap.size ∧ Y1.heap.size ≤ Y6.heap.size) := Hid.intro (by
            have hz0 : w1.heap.size < wc.heap.size := HC.out.1.2.2.2.1.2
            have hz1 : Y0.heap.size = wc.heap.size := HBd.out.2.2
            have hz2 : w.heap.size ≤ w1.heap.size := by have := HC.out.1.2.2.2.2; omega
            have h6 := hO6.tight rfl
            refine ⟨HB1.out.1.grow hg6 (fun j q => Or.inr (by have := hrow j q; omega)), HB1.out.2.1.grown hg6 (fun j q => Or.inr (by have := hrow j q; omega)), h6.1, fun j q => ?_, HB1.out.2.2.2.2.1.grow hg6 (fun j q z => ?_), HB1.out.2.2.2.2.2.1.grow hg6 (fun j q z => ?_), Nat.le_trans HB1.out.2.2.2.2.2.2 hg6.size, hg6.size⟩
            · rcases h6.2.2 j q with r | r
              · omega
              · have := HB1.out.2.2.1; omega
            · have h1 := HO.out.2.2.2.2.2 j (HO.out.2.2.1 j (HBK.out j z).1); have := hrow j q; omega
            · have h1 := (HC.out.2.2.1.tight rfl).2.1 j z; have := hrow j q; omega)
          clear hO6 hg6 hwh6 hrow
          refine hK.out _ _ HB6.out.1.2.1 (fun hHeld => ?_)
          clear hK KC
          refine ready_call 13 ⟨some 84, Op.call { callee := Callee.builtin Builtin.append, args := #[Operand.tmp 77, Operand.tmp 83], argTypes := #[27, 27] }, _, _, _, none⟩ (by kernel_rfl) rfl (by kernel_rfl) (fun KC hK => ?_)
          try rw [← HAD.out]
          refine wp_appx (.tmp 77) (.tmp 83) 27 3 (by rfl) i1 (.int .i64 0) 8 lo .int rfl Try.underlying27 hi1 hy0 hy1 hy2 rfl (by decide) v6 ([] ++ x2.take k) (x2.drop (k + 1)) (fun j => v6.ownBlock = some j) (by rfl) HB6.out.2.2.1 AD (kr - (k + 1)) (by rw [hld]; rfl) (by rw [HAD.out]; exact drop_lies HB6.out.2.2.2.2.1.lies rfl hkl hcap1 HCM.out) hb13 hc13 HB6.out.2.2.2.2.2.2.1 ?_
          intro v13 Y13 hO13 hg13 hwh13
          have hO13' : OwnX Y13 lo (.list .int 3) [v13] L (fun j => v6.ownBlock = some j ∨ j = Y6.heap.size) := HF.out ▸ hO13
          obtain ⟨a8, c8, hv8⟩ := hO13'.vform
          have hv8 : v13 = .slice a8 (List.length (α := Sh.T .int) L) c8 := hv8
          subst hv8
          have HB13 : Hid (SpB w Y13 [.int .i64 ep, .int .i64 du, .slice (some ⟨g, 0, none⟩) ms.length k1, .slice a9 (en.length + 1) c9] [.int .i64 (2), .int .i64 b, .int .i64 (k : Int)] [.int .i64 x0, .int .i64 x1, .slice (some ⟨gr, 0, none⟩) x2.length kr, .int .i64 x3] w1.heap.size ∧ TurnS S2 w Y13 ∧ OwnX Y13 lo (.list .int 3) [.slice a8 L.length c8] L (fun j => (Value.slice a8 L.length c8).ownBlock = some j) ∧ (∀ j, (Value.slice a8 L.length c8).ownBlock = some j → wc.heap.size ≤ j ∧ j < Y13.heap.size) ∧ OwnX Y13 lo (.list .int 3) [.slice a9 (en.length + 1) c9] (en ++ [e]) (fun k => (Value.slice a9 (en.length + 1) c9).ownBlock = some k) ∧ wc.heap.size ≤ Y13.heap.size) := Hid.intro (by
            have hz0 : w1.heap.size < wc.heap.size := HC.out.1.2.2.2.1.2
            have hz1 : Y0.heap.size = wc.heap.size := HBd.out.2.2
            have hz2 : w.heap.size ≤ w1.heap.size := by have := HC.out.1.2.2.2.2; omega
            have hz3 := HB6.out.2.2.2.2.2.2.2
            have hz4 := HB1.out.2.2.1
            have h6 := hO13'.tight rfl
            refine ⟨HB6.out.1.grow hg13 (fun j q => Or.inr (by have := HB6.out.2.2.2.1 j q; omega)), HB6.out.2.1.grown hg13 (fun j q => Or.inr (by have := HB6.out.2.2.2.1 j q; omega)), h6.1, fun j q => ⟨?_, (h6.2.1 j q).2⟩, HB6.out.2.2.2.2.2.1.grow hg13 (fun j q z => ?_), by have := hg13.size; omega⟩
            · rcases h6.2.2 j q with r | r
              · have := HB6.out.2.2.2.1 j r; omega
              · omega
            · have h1 := (HC.out.2.2.1.tight rfl).2.1 j z; have := HB6.out.2.2.2.1 j q; omega)
          clear hO13 hO13' hg13 hwh13
          refine hK.out _ _ HB13.out.1.2.1 (fun hHeld => ?_)
          clear hK KC
          refine take_v (v := ?_) 14 ⟨some 85, Op.fieldAddr 37 (Operand.tmp 7) 2, _, _, _, none⟩ rfl (fun _ _ _ h => h) ?_ hHeld ?_
          rotate_left
          · (intro W _; go_simp <;> (try with_reducible rfl))
          refine ready_call 15 ⟨none, Op.store 27 (Operand.tmp 85) (Operand.tmp 84), _, _, _, none⟩ (by kernel_rfl) rfl (by kernel_rfl) (fun KC hK => ?_)
          try rw [← HAD.out]
          have d2 := HB13.out.1.2.2.2.1.cell 2 rfl
          have dz := HB13.out.1.2.2.2.1.2
          have df := HB13.out.1.2.2.2.1.frz 2 (by simp)
          go_wp2_with fail
          clear d2 dz df
          have HX : Hid (SpB w (Y13.setCell ⟨w1.heap.size, 2, none⟩ (.slice a8 L.length c8)) [.int .i64 ep, .int .i64 du, .slice (some ⟨g, 0, none⟩) ms.length k1, .slice a9 (en.length + 1) c9] [.int .i64 (2), .int .i64 b, .int .i64 (k : Int)] [.int .i64 x0, .int .i64 x1, .slice a8 L.length c8, .int .i64 x3] w1.heap.size ∧ TurnS S2 w (Y13.setCell ⟨w1.heap.size, 2, none⟩ (.slice a8 L.length c8)) ∧ OwnX (Y13.setCell ⟨w1.heap.size, 2, none⟩ (.slice a8 L.length c8)) lo (.list .int 3) [.slice a9 (en.length + 1) c9] (en ++ [e]) (fun k => (Value.slice a9 (en.length + 1) c9).ownBlock = some k) ∧ OwnX (Y13.setCell ⟨w1.heap.size, 2, none⟩ (.slice a8 L.length c8)) lo (.list .int 3) [.slice a8 L.length c8] L (fun j => (Value.slice a8 L.length c8).ownBlock = some j) ∧ (∀ j, (Value.slice a8 L.length c8).ownBlock = some j → wc.heap.size ≤ j ∧ j < (Y13.setCell ⟨w1.heap.size, 2, none⟩ (.slice a8 L.length c8)).heap.size) ∧ wc.heap.size ≤ (Y13.setCell ⟨w1.heap.size, 2, none⟩ (.slice a8 L.length c8)).heap.size) := Hid.intro (by
            have hz0 : w1.heap.size < wc.heap.size := HC.out.1.2.2.2.1.2
            have hz2 := HC.out.1.2.2.2.2
            refine ⟨HB13.out.1.setM (j := 2) (by simp) _, HB13.out.2.1.new (turn_set _ ⟨w1.heap.size, 2, none⟩ _) (by show w.heap.size ≤ w1.heap.size; omega), HB13.out.2.2.2.2.1.set (p := ⟨w1.heap.size, 2, none⟩) (fun q => ?_) _, HB13.out.2.2.1.set (p := ⟨w1.heap.size, 2, none⟩) (fun q => ?_) _, fun j q => by rw [World.size_setCell]; exact HB13.out.2.2.2.1 j q, by rw [World.size_setCell]; exact HB13.out.2.2.2.2.2⟩
            · rcases HC.out.2.2.2 _ q with r | r
              · have h8 : w1.heap.size < w.heap.size := HO.out.2.2.2.2.2 _ (HO.out.2.2.2.1 _ r); omega
              · have h8 : w1.heap.size < w1.heap.size := r.1; omega
            · have h8 : wc.heap.size ≤ w1.heap.size := (HB13.out.2.2.2.1 _ q).1; omega)
          refine hK.out _ _ HX.out.1.2.1 (fun hHeld => ?_)
          clear hK KC
          refine wpAnyH_done (by kernel_rfl) ?_ _
          refine NoPanic.normal ?_
          clear hHeld
          obtain ⟨X, hXe⟩ : ∃ x, x = Y13.setCell ⟨w1.heap.size, 2, none⟩ (.slice a8 L.length c8) := ⟨_, rfl⟩
          rw [← hXe] at HX ⊢
          clear hXe
          obtain ⟨c0, c1, c2, c3⟩ := HCW.out
          have hBg : ¬ S2 g := fun q => HO.out.2.2.2.2.1 g HSG.out q
          have HBG := Hid.intro hBg
          clear hBg
          have s0 := (HX.out.1.1).cell 0 rfl; have s1 := (HX.out.1.1).cell 1 rfl; have s2 := (HX.out.1.1).cell 2 rfl; have s3 := (HX.out.1.1).cell 3 rfl; have sz := (HX.out.1.1).2
          have r0 := (HX.out.1.2.2.1).cell 0 rfl; have r1 := (HX.out.1.2.2.1).cell 1 rfl; have r2 := (HX.out.1.2.2.1).cell 2 rfl; have r3 := (HX.out.1.2.2.1).cell 3 rfl; have rz := (HX.out.1.2.2.1).2
          have m0 := (HX.out.1.2.2.2.1).cell 0 rfl; have m1 := (HX.out.1.2.2.2.1).cell 1 rfl; have m2 := (HX.out.1.2.2.2.1).cell 2 rfl; have m3 := (HX.out.1.2.2.2.1).cell 3 rfl; have mz := (HX.out.1.2.2.2.1).2
          have rf0 := HX.out.1.2.2.1.frz 0 (by simp)
          have rf1 := HX.out.1.2.2.1.frz 1 (by simp)
          have rf2 := HX.out.1.2.2.1.frz 2 (by simp)
          have rf3 := HX.out.1.2.2.1.frz 3 (by simp)
          have gc0 := (World.cell?_of_block (a := ⟨g, i * 4, none⟩) (HX.out.2.1.block hgl HBG.out)).trans c0
          have gf0 := (World.frozen?_of_block (a := ⟨g, i * 4, none⟩) (HX.out.2.1.block hgl HBG.out)).trans f0
          have gc1 := (World.cell?_of_block (a := ⟨g, i * 4 + 1, none⟩) (HX.out.2.1.block hgl HBG.out)).trans c1
          have gf1 := (World.frozen?_of_block (a := ⟨g, i * 4 + 1, none⟩) (HX.out.2.1.block hgl HBG.out)).trans f1
          have gc2 := (World.cell?_of_block (a := ⟨g, i * 4 + 2, none⟩) (HX.out.2.1.block hgl HBG.out)).trans c2
          have gf2 := (World.frozen?_of_block (a := ⟨g, i * 4 + 2, none⟩) (HX.out.2.1.block hgl HBG.out)).trans f2
          have gc3 := (World.cell?_of_block (a := ⟨g, i * 4 + 3, none⟩) (HX.out.2.1.block hgl HBG.out)).trans c3
          have gf3 := (World.frozen?_of_block (a := ⟨g, i * 4 + 3, none⟩) (HX.out.2.1.block hgl HBG.out)).trans f3
          have hglX : g < X.heap.size := Nat.lt_of_lt_of_le hgl (HX.out.2.1).size
          go_wp2
          exact bodyPost_ret (v := .tuple #[.agg #[.int .i64 ep, .int .i64 du, .slice (some ⟨g, 0, none⟩) ms.length k1, .slice a9 (en.length + 1) c9], .bool true]) (by simp [results, Try.results41, go_sem, *]) rfl (fe_tail (T := S2) (B' := fun j => (Value.slice a8 L.length c8).ownBlock = some j) (E' := fun j => (Value.slice a9 (en.length + 1) c9).ownBlock = some j) HP.out HSG.out HBK.out HO.out.2.2 HX.out.2.1 (fun k q => Or.inr q) HX.out.2.2.2.1 HX.out.2.2.1 (fun j q => Or.inr ⟨by have h1 := (HX.out.2.2.2.2.1 j q).1; have h2 := HC.out.1.2.2.2.1.2; have h3 := HC.out.1.2.2.2.2; omega, (HX.out.2.2.2.2.1 j q).2, by have h1 := (HX.out.2.2.2.2.1 j q).1; have h2 := HC.out.1.2.2.2.1.2; have h3 := HC.out.1.2.2.2.2; omega⟩) (fun j q => by rcases HC.out.2.2.2 j q with r | r; exact Or.inl r; exact Or.inr ⟨by have h3 := HC.out.1.2.2.2.2; omega, by have h4 := HX.out.2.2.2.2.2; omega, by have h3 := HC.out.1.2.2.2.2; omega⟩) (fun j q z => by have h1 := (HX.out.2.2.2.2.1 j q).1; have h2 := ((HC.out.2.2.1.tight rfl).2.1 j z).2; omega) (HLE.out ▸ HE.out ▸ HN.out))

end Go.Proofs.Ytcbdlalpnlahcaa
