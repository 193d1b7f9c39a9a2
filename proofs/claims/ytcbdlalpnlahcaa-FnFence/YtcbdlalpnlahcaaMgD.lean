/- Put together of: FeTo, FeTj, FeTa, FeTb. -/
import Derived.Test.YtcbdlalpnlahcaaFeQ
import Derived.Deep.QuietTactic
import Derived.BigQuiet
/- Fences: a step on the specification's side: a kind that is none. Written by tools/mkFeT.py. -/
namespace Go.Proofs.Ytcbdlalpnlahcaa
open Go.RowKit
set_option linter.unusedVariables false
set_option linter.unusedSimpArgs false

set_option maxRecDepth 100000 in
set_option maxHeartbeats 4000000 in
theorem l12Step_o (lo : Nat) (S : Nat → Prop) (cs : List Value) (ep du : Int) (ms : List (Sh.T shMember)) (en : List (Sh.T .int)) (A : Int) (b n : Int) (i : Nat) (w : World) (hG : goodF ep du ms en) (hO : OwnX w lo tyFence cs (ep, du, ms, en, ()) S) (hS : ∀ k, S k → k < w.heap.size) (hlo : lo ≤ w.heap.size) (hf : ms.findIdx? (fun m => decide (mid m = b)) = some i) (hi : i < ms.length) (h1 : A ≠ 1) (h2 : A ≠ 2) (h3 : A ≠ 3) (h4 : A ≠ 4) (h5 : A ≠ 5) (h6 : A ≠ 6) :
    Calls Try.prog 41 #[.agg cs.toArray, .agg #[.int .i64 (A), .int .i64 b, .int .i64 n]] w (StX lo S (memF ep du ms en (A) n i ms[i]) w) := by
  obtain ⟨v1, S1, v2, S2, rfl, o1, o2, e1, e2, d12⟩ := ownx_Fence hO
  obtain ⟨g, k1, vr, Bk, hv1, hgl, hSg, hBk, ⟨c0, c1, c2, c3⟩, ⟨f0, f1, f2, f3⟩, orr, hput⟩ := fe_lens o1 hi
  subst hv1
  obtain ⟨x0, x1, x2, x3, hX⟩ : ∃ (x0 x1 : Int) (x2 : List (Sh.T .int)) (x3 : Int), ms[i] = mkMb x0 x1 x2 x3 := ⟨_, _, _, _, rfl⟩
  have hm := (hG.2.2.2.2.1 i hi hi).1
  rw [hX] at c0 c1 c3 orr hm ⊢
  have c0 : w.cell? ⟨g, i * 4, none⟩ = some (.int .i64 x0) := c0
  have c1 : w.cell? ⟨g, i * 4 + 1, none⟩ = some (.int .i64 x1) := c1
  have c3 : w.cell? ⟨g, i * 4 + 3, none⟩ = some (.int .i64 x3) := c3
  have orr : OwnX w lo (.list .int 3) [vr] x2 Bk := orr
  have hm : (0 ≤ x0 ∧ x0 ≤ 99) ∧ (du + 1 ≤ x1 ∧ x1 ≤ ep) ∧ x2.length ≤ 20 ∧ (du ≤ x3 ∧ x3 ≤ ep - 1) ∧ runP x3 x1 x2 x2.length ∧ x3 < x1 := hm
  obtain ⟨a2, k2, hv2⟩ := o2.vform
  have hv2 : v2 = .slice a2 (List.length (α := Sh.T .int) en) k2 := hv2
  subst hv2
  obtain ⟨ar, kr, hvr⟩ := orr.vform
  have hvr : vr = .slice ar (List.length (α := Sh.T .int) x2) kr := hvr
  subst hvr
  obtain ⟨hm1, hm2, hm3, hm4, hm5, hm6⟩ := hm
  have HRP := Hid.intro hm5
  have hep := hG.1
  have hdu := hG.2.1
  have hm8 := hG.2.2.1.2
  have htt := hG.2.2.2.1
  rw [runT_eq] at htt
  have hen : en.length ≤ 200 := by omega
  have HG := Hid.intro hG
  have HX := Hid.intro hX
  have HP := Hid.intro hput
  have HBK := Hid.intro hBk
  have HSG := Hid.intro hSg
  have HO : Hid (OwnX w lo (.list .int 3) [.slice a2 en.length k2] en S2 ∧ OwnX w lo (.list .int 3) [.slice ar x2.length kr] x2 Bk ∧ (∀ k, S1 k → S k) ∧ (∀ k, S2 k → S k) ∧ (∀ k, S1 k → ¬ S2 k) ∧ (∀ k, S k → k < w.heap.size)) := ⟨o2, orr, e1, e2, d12, hS⟩
  have HMS : Hid (OwnX w lo (.list tyMember 37) [.slice (some ⟨g, 0, none⟩) ms.length k1] ms S1) := o1
  have HLW : Hid (Lies w shFence [.int .i64 ep, .int .i64 du, .slice (some ⟨g, 0, none⟩) ms.length k1, .slice a2 en.length k2] (ep, du, ms, en, ())) := Hid.intro hO.lies
  have HZ : Hid (szD shFence (ep, du, ms, en, ()) ≤ 1073741824) := Hid.intro (Nat.le_trans (good_sz hG) (by decide))
  have HAT : Hid (atM ms b = (i : Int)) := Hid.intro (atM_some hf)
  clear hput hBk hSg o1 o2 orr e1 e2 d12 hS hO hG hm5 hX hf
  obtain ⟨w0, hw0⟩ : ∃ x, x = ((w.alloc (.cells #[.int .i64 ep, .int .i64 du, .slice (some ⟨g, 0, none⟩) ms.length k1, .slice a2 en.length k2] 29)).alloc (.cells #[.int .i64 A, .int .i64 b, .int .i64 n] 40)).alloc (.cells #[.int .i64 0, .int .i64 0, .slice none 0 0, .slice none 0 0] 29) := ⟨_, rfl⟩
  have HB0 : Hid (Bx w0 w.heap.size [.int .i64 ep, .int .i64 du, .slice (some ⟨g, 0, none⟩) ms.length k1, .slice a2 en.length k2] ∧ Bx w0 (w.heap.size + 1) [.int .i64 A, .int .i64 b, .int .i64 n] ∧ Bx w0 (w.heap.size + 1 + 1) [.int .i64 0, .int .i64 0, .slice none 0 0, .slice none 0 0] ∧ Below w.heap.size w w0) := ⟨hw0 ▸ ((Bx.new w [_, _, _, _] _).alloc _).alloc _, hw0 ▸ (Bx.newAt (by simp)).alloc _, hw0 ▸ Bx.newAt (by simp), hw0 ▸ (((Below.refl _ _).alloc (Nat.le_refl _) _).alloc (by simp) _).alloc (by simp; omega) _⟩
  have s0 := (HB0.out.1).cell 0 rfl; have s1 := (HB0.out.1).cell 1 rfl; have s2 := (HB0.out.1).cell 2 rfl; have s3 := (HB0.out.1).cell 3 rfl; have sz := (HB0.out.1).2
  have t0 := (HB0.out.2.1).cell 0 rfl; have t1 := (HB0.out.2.1).cell 1 rfl; have t2 := (HB0.out.2.1).cell 2 rfl; have tz := (HB0.out.2.1).2
  have hi4 : ¬ (i : Int) < 0 := by omega
  have hi5 : (i : Int) < (ms.length : Int) := by omega
  have q1 : (A == 1) = false := beq_false_of_ne h1
  have q2 : (A == 2) = false := beq_false_of_ne h2
  have q3 : (A == 3) = false := beq_false_of_ne h3
  have q4 : (A == 4) = false := beq_false_of_ne h4
  have q5 : (A == 5) = false := beq_false_of_ne h5
  have q6 : (A == 6) = false := beq_false_of_ne h6
  have HN : Hid (memF ep du ms en A n i (mkMb x0 x1 x2 x3) = none) := Hid.intro (by unfold memF; rw [if_neg h1, if_neg h2, if_neg h3, if_neg h6, if_neg h5])
  clear h1 h2 h3 h4 h5 h6
  go_enter Try.func41, Try.ntmps41
  go_upto_region 1 with fail
  rw [← hw0]
  clear hw0
  go_wp2_with fail
  refine (l12At_n [.int .i64 ep, .int .i64 du, .slice (some ⟨g, 0, none⟩) ms.length k1, .slice a2 en.length k2] ep du ms en b _ HZ.out (HLW.out.next HB0.out.2.2.2)).mono ?_
  rintro r w1 ⟨rfl, hb1⟩
  rw [HAT.out]
  clear s0 s1 s2 s3 sz t0 t1 t2 tz
  have HB1 : Hid (Bx w1 w.heap.size [.int .i64 ep, .int .i64 du, .slice (some ⟨g, 0, none⟩) ms.length k1, .slice a2 en.length k2] ∧ Bx w1 (w.heap.size + 1) [.int .i64 A, .int .i64 b, .int .i64 n] ∧ Bx w1 (w.heap.size + 1 + 1) [.int .i64 0, .int .i64 0, .slice none 0 0, .slice none 0 0] ∧ Below w.heap.size w w1) := ⟨HB0.out.1.next hb1, HB0.out.2.1.next hb1, HB0.out.2.2.1.next hb1, below_next HB0.out.2.2.2 hb1⟩
  clear hb1 HB0
  have c0 := (World.cell?_of_block (a := ⟨g, i * 4, none⟩) (HB1.out.2.2.2.block g hgl)).trans c0
  have c1 := (World.cell?_of_block (a := ⟨g, i * 4 + 1, none⟩) (HB1.out.2.2.2.block g hgl)).trans c1
  have c2 := (World.cell?_of_block (a := ⟨g, i * 4 + 2, none⟩) (HB1.out.2.2.2.block g hgl)).trans c2
  have c3 := (World.cell?_of_block (a := ⟨g, i * 4 + 3, none⟩) (HB1.out.2.2.2.block g hgl)).trans c3
  have hgl1 : g < w1.heap.size := Nat.lt_of_lt_of_le hgl HB1.out.2.2.2.size
  have s0 := (HB1.out.1).cell 0 rfl; have s1 := (HB1.out.1).cell 1 rfl; have s2 := (HB1.out.1).cell 2 rfl; have s3 := (HB1.out.1).cell 3 rfl; have sz := (HB1.out.1).2
  have t0 := (HB1.out.2.1).cell 0 rfl; have t1 := (HB1.out.2.1).cell 1 rfl; have t2 := (HB1.out.2.1).cell 2 rfl; have tz := (HB1.out.2.1).2
  go_upto_region 7 with fail
  obtain ⟨W2, hW2⟩ : ∃ x, x = w1.alloc (.cells #[.int .i64 x0, .int .i64 x1, .slice ar x2.length kr, .int .i64 x3] 37) := ⟨_, rfl⟩
  rw [← hW2]
  have HB : Hid (SpB w W2 [.int .i64 ep, .int .i64 du, .slice (some ⟨g, 0, none⟩) ms.length k1, .slice a2 en.length k2] [.int .i64 A, .int .i64 b, .int .i64 n] [.int .i64 x0, .int .i64 x1, .slice ar x2.length kr, .int .i64 x3] w1.heap.size ∧ Below w.heap.size w W2 ∧ W2.heap.size = w1.heap.size + 1) := ⟨hW2 ▸ ⟨HB1.out.1.alloc _, HB1.out.2.1.alloc _, HB1.out.2.2.1.alloc _, Bx.new w1 [_, _, _, _] _, HB1.out.2.2.1.2⟩, hW2 ▸ HB1.out.2.2.2.alloc HB1.out.2.2.2.size _, by rw [hW2]; simp⟩
  clear hW2 HB1 c0 c1 c2 c3 s0 s1 s2 s3 sz t0 t1 t2 tz hgl1
  have s0 := (HB.out.1.1).cell 0 rfl; have s1 := (HB.out.1.1).cell 1 rfl; have s2 := (HB.out.1.1).cell 2 rfl; have s3 := (HB.out.1.1).cell 3 rfl; have sz := (HB.out.1.1).2
  have t0 := (HB.out.1.2.1).cell 0 rfl; have t1 := (HB.out.1.2.1).cell 1 rfl; have t2 := (HB.out.1.2.1).cell 2 rfl; have tz := (HB.out.1.2.1).2
  have r0 := (HB.out.1.2.2.1).cell 0 rfl; have r1 := (HB.out.1.2.2.1).cell 1 rfl; have r2 := (HB.out.1.2.2.1).cell 2 rfl; have r3 := (HB.out.1.2.2.1).cell 3 rfl; have rz := (HB.out.1.2.2.1).2
  have m0 := (HB.out.1.2.2.2.1).cell 0 rfl; have m1 := (HB.out.1.2.2.2.1).cell 1 rfl; have m2 := (HB.out.1.2.2.2.1).cell 2 rfl; have m3 := (HB.out.1.2.2.2.1).cell 3 rfl; have mz := (HB.out.1.2.2.2.1).2
  have rf0 := HB.out.1.2.2.1.frz 0 (by simp)
  have rf1 := HB.out.1.2.2.1.frz 1 (by simp)
  have rf2 := HB.out.1.2.2.1.frz 2 (by simp)
  have rf3 := HB.out.1.2.2.1.frz 3 (by simp)
  go_wp2
  exact bodyPost_ret (v := .tuple #[.agg #[.int .i64 ep, .int .i64 du, .slice (some ⟨g, 0, none⟩) ms.length k1, .slice a2 en.length k2], .bool false]) (by simp [results, Try.results41, go_sem, *]) rfl (StX.no (cs := [.int .i64 ep, .int .i64 du, .slice (some ⟨g, 0, none⟩) ms.length k1, .slice a2 en.length k2]) HN.out ((TurnS.of_below HB.out.2.1).new (set4 _ (w.heap.size + 1 + 1) _ _ _ _) (by omega)))

end Go.Proofs.Ytcbdlalpnlahcaa
/- Fences: a step on the specification's side: a member joins. Written by tools/mkFeT.py. -/
namespace Go.Proofs.Ytcbdlalpnlahcaa
open Go.RowKit
set_option linter.unusedVariables false
set_option linter.unusedSimpArgs false

set_option maxRecDepth 100000 in
set_option maxHeartbeats 4000000 in
theorem l12Step_j (lo : Nat) (S : Nat → Prop) (cs : List Value) (ep du : Int) (ms : List (Sh.T shMember)) (en : List (Sh.T .int)) (b n : Int) (i : Nat) (w : World) (hG : goodF ep du ms en) (hO : OwnX w lo tyFence cs (ep, du, ms, en, ()) S) (hS : ∀ k, S k → k < w.heap.size) (hlo : lo ≤ w.heap.size) (hf : ms.findIdx? (fun m => decide (mid m = b)) = some i) (hi : i < ms.length) :
    Calls Try.prog 41 #[.agg cs.toArray, .agg #[.int .i64 (6), .int .i64 b, .int .i64 n]] w (StX lo S (memF ep du ms en (6) n i ms[i]) w) := by
  obtain ⟨v1, S1, v2, S2, rfl, o1, o2, e1, e2, d12⟩ := ownx_Fence hO
  obtain ⟨g, k1, vr, Bk, hv1, hgl, hSg, hBk, ⟨c0, c1, c2, c3⟩, ⟨f0, f1, f2, f3⟩, orr, hput⟩ := fe_lens o1 hi
  subst hv1
  obtain ⟨x0, x1, x2, x3, hX⟩ : ∃ (x0 x1 : Int) (x2 : List (Sh.T .int)) (x3 : Int), ms[i] = mkMb x0 x1 x2 x3 := ⟨_, _, _, _, rfl⟩
  have hm := (hG.2.2.2.2.1 i hi hi).1
  rw [hX] at c0 c1 c3 orr hm ⊢
  have c0 : w.cell? ⟨g, i * 4, none⟩ = some (.int .i64 x0) := c0
  have c1 : w.cell? ⟨g, i * 4 + 1, none⟩ = some (.int .i64 x1) := c1
  have c3 : w.cell? ⟨g, i * 4 + 3, none⟩ = some (.int .i64 x3) := c3
  have orr : OwnX w lo (.list .int 3) [vr] x2 Bk := orr
  have hm : (0 ≤ x0 ∧ x0 ≤ 99) ∧ (du + 1 ≤ x1 ∧ x1 ≤ ep) ∧ x2.length ≤ 20 ∧ (du ≤ x3 ∧ x3 ≤ ep - 1) ∧ runP x3 x1 x2 x2.length ∧ x3 < x1 := hm
  obtain ⟨a2, k2, hv2⟩ := o2.vform
  have hv2 : v2 = .slice a2 (List.length (α := Sh.T .int) en) k2 := hv2
  subst hv2
  obtain ⟨ar, kr, hvr⟩ := orr.vform
  have hvr : vr = .slice ar (List.length (α := Sh.T .int) x2) kr := hvr
  subst hvr
  obtain ⟨hm1, hm2, hm3, hm4, hm5, hm6⟩ := hm
  have HRP := Hid.intro hm5
  have hep := hG.1
  have hdu := hG.2.1
  have hm8 := hG.2.2.1.2
  have htt := hG.2.2.2.1
  rw [runT_eq] at htt
  have hen : en.length ≤ 200 := by omega
  have HG := Hid.intro hG
  have HX := Hid.intro hX
  have HP := Hid.intro hput
  have HBK := Hid.intro hBk
  have HSG := Hid.intro hSg
  have HO : Hid (OwnX w lo (.list .int 3) [.slice a2 en.length k2] en S2 ∧ OwnX w lo (.list .int 3) [.slice ar x2.length kr] x2 Bk ∧ (∀ k, S1 k → S k) ∧ (∀ k, S2 k → S k) ∧ (∀ k, S1 k → ¬ S2 k) ∧ (∀ k, S k → k < w.heap.size)) := ⟨o2, orr, e1, e2, d12, hS⟩
  have HMS : Hid (OwnX w lo (.list tyMember 37) [.slice (some ⟨g, 0, none⟩) ms.length k1] ms S1) := o1
  have HLW : Hid (Lies w shFence [.int .i64 ep, .int .i64 du, .slice (some ⟨g, 0, none⟩) ms.length k1, .slice a2 en.length k2] (ep, du, ms, en, ())) := Hid.intro hO.lies
  have HZ : Hid (szD shFence (ep, du, ms, en, ()) ≤ 1073741824) := Hid.intro (Nat.le_trans (good_sz hG) (by decide))
  have HAT : Hid (atM ms b = (i : Int)) := Hid.intro (atM_some hf)
  clear hput hBk hSg o1 o2 orr e1 e2 d12 hS hO hG hm5 hX hf
  obtain ⟨w0, hw0⟩ : ∃ x, x = ((w.alloc (.cells #[.int .i64 ep, .int .i64 du, .slice (some ⟨g, 0, none⟩) ms.length k1, .slice a2 en.length k2] 29)).alloc (.cells #[.int .i64 (6), .int .i64 b, .int .i64 n] 40)).alloc (.cells #[.int .i64 0, .int .i64 0, .slice none 0 0, .slice none 0 0] 29) := ⟨_, rfl⟩
  have HB0 : Hid (Bx w0 w.heap.size [.int .i64 ep, .int .i64 du, .slice (some ⟨g, 0, none⟩) ms.length k1, .slice a2 en.length k2] ∧ Bx w0 (w.heap.size + 1) [.int .i64 (6), .int .i64 b, .int .i64 n] ∧ Bx w0 (w.heap.size + 1 + 1) [.int .i64 0, .int .i64 0, .slice none 0 0, .slice none 0 0] ∧ Below w.heap.size w w0) := ⟨hw0 ▸ ((Bx.new w [_, _, _, _] _).alloc _).alloc _, hw0 ▸ (Bx.newAt (by simp)).alloc _, hw0 ▸ Bx.newAt (by simp), hw0 ▸ (((Below.refl _ _).alloc (Nat.le_refl _) _).alloc (by simp) _).alloc (by simp; omega) _⟩
  have s0 := (HB0.out.1).cell 0 rfl; have s1 := (HB0.out.1).cell 1 rfl; have s2 := (HB0.out.1).cell 2 rfl; have s3 := (HB0.out.1).cell 3 rfl; have sz := (HB0.out.1).2
  have t0 := (HB0.out.2.1).cell 0 rfl; have t1 := (HB0.out.2.1).cell 1 rfl; have t2 := (HB0.out.2.1).cell 2 rfl; have tz := (HB0.out.2.1).2
  have hi4 : ¬ (i : Int) < 0 := by omega
  have hi5 : (i : Int) < (ms.length : Int) := by omega
  have HCW : Hid (w.cell? ⟨g, i * 4, none⟩ = some (.int .i64 x0) ∧ w.cell? ⟨g, i * 4 + 1, none⟩ = some (.int .i64 x1) ∧ w.cell? ⟨g, i * 4 + 2, none⟩ = some (.slice ar x2.length kr) ∧ w.cell? ⟨g, i * 4 + 3, none⟩ = some (.int .i64 x3)) := ⟨c0, c1, c2, c3⟩
  have hnn : ∀ q : Prop, q → q := fun _ h => h
  go_enter Try.func41, Try.ntmps41
  go_upto_region 1 with fail
  rw [← hw0]
  clear hw0
  go_wp2_with fail
  refine (l12At_n [.int .i64 ep, .int .i64 du, .slice (some ⟨g, 0, none⟩) ms.length k1, .slice a2 en.length k2] ep du ms en b _ HZ.out (HLW.out.next HB0.out.2.2.2)).mono ?_
  rintro r w1 ⟨rfl, hb1⟩
  rw [HAT.out]
  clear s0 s1 s2 s3 sz t0 t1 t2 tz
  have HB1 : Hid (Bx w1 w.heap.size [.int .i64 ep, .int .i64 du, .slice (some ⟨g, 0, none⟩) ms.length k1, .slice a2 en.length k2] ∧ Bx w1 (w.heap.size + 1) [.int .i64 (6), .int .i64 b, .int .i64 n] ∧ Bx w1 (w.heap.size + 1 + 1) [.int .i64 0, .int .i64 0, .slice none 0 0, .slice none 0 0] ∧ Below w.heap.size w w1) := ⟨HB0.out.1.next hb1, HB0.out.2.1.next hb1, HB0.out.2.2.1.next hb1, below_next HB0.out.2.2.2 hb1⟩
  clear hb1 HB0
  have c0 := (World.cell?_of_block (a := ⟨g, i * 4, none⟩) (HB1.out.2.2.2.block g hgl)).trans c0
  have c1 := (World.cell?_of_block (a := ⟨g, i * 4 + 1, none⟩) (HB1.out.2.2.2.block g hgl)).trans c1
  have c2 := (World.cell?_of_block (a := ⟨g, i * 4 + 2, none⟩) (HB1.out.2.2.2.block g hgl)).trans c2
  have c3 := (World.cell?_of_block (a := ⟨g, i * 4 + 3, none⟩) (HB1.out.2.2.2.block g hgl)).trans c3
  have hgl1 : g < w1.heap.size := Nat.lt_of_lt_of_le hgl HB1.out.2.2.2.size
  have s0 := (HB1.out.1).cell 0 rfl; have s1 := (HB1.out.1).cell 1 rfl; have s2 := (HB1.out.1).cell 2 rfl; have s3 := (HB1.out.1).cell 3 rfl; have sz := (HB1.out.1).2
  have t0 := (HB1.out.2.1).cell 0 rfl; have t1 := (HB1.out.2.1).cell 1 rfl; have t2 := (HB1.out.2.1).cell 2 rfl; have tz := (HB1.out.2.1).2
  go_upto_region 7 with fail
  obtain ⟨W2, hW2⟩ : ∃ x, x = w1.alloc (.cells #[.int .i64 x0, .int .i64 x1, .slice ar x2.length kr, .int .i64 x3] 37) := ⟨_, rfl⟩
  rw [← hW2]
  have HB : Hid (SpB w W2 [.int .i64 ep, .int .i64 du, .slice (some ⟨g, 0, none⟩) ms.length k1, .slice a2 en.length k2] [.int .i64 (6), .int .i64 b, .int .i64 n] [.int .i64 x0, .int .i64 x1, .slice ar x2.length kr, .int .i64 x3] w1.heap.size ∧ Below w.heap.size w W2 ∧ W2.heap.size = w1.heap.size + 1) := ⟨hW2 ▸ ⟨HB1.out.1.alloc _, HB1.out.2.1.alloc _, HB1.out.2.2.1.alloc _, Bx.new w1 [_, _, _, _] _, HB1.out.2.2.1.2⟩, hW2 ▸ HB1.out.2.2.2.alloc HB1.out.2.2.2.size _, by rw [hW2]; simp⟩
  clear hW2 HB1 c0 c1 c2 c3 s0 s1 s2 s3 sz t0 t1 t2 tz hgl1
  have s0 := (HB.out.1.1).cell 0 rfl; have s1 := (HB.out.1.1).cell 1 rfl; have s2 := (HB.out.1.1).cell 2 rfl; have s3 := (HB.out.1.1).cell 3 rfl; have sz := (HB.out.1.1).2
  have t0 := (HB.out.1.2.1).cell 0 rfl; have t1 := (HB.out.1.2.1).cell 1 rfl; have t2 := (HB.out.1.2.1).cell 2 rfl; have tz := (HB.out.1.2.1).2
  have r0 := (HB.out.1.2.2.1).cell 0 rfl; have r1 := (HB.out.1.2.2.1).cell 1 rfl; have r2 := (HB.out.1.2.2.1).cell 2 rfl; have r3 := (HB.out.1.2.2.1).cell 3 rfl; have rz := (HB.out.1.2.2.1).2
  have m0 := (HB.out.1.2.2.2.1).cell 0 rfl; have m1 := (HB.out.1.2.2.2.1).cell 1 rfl; have m2 := (HB.out.1.2.2.2.1).cell 2 rfl; have m3 := (HB.out.1.2.2.2.1).cell 3 rfl; have mz := (HB.out.1.2.2.2.1).2
  have rf0 := HB.out.1.2.2.1.frz 0 (by simp)
  have rf1 := HB.out.1.2.2.1.frz 1 (by simp)
  have rf2 := HB.out.1.2.2.1.frz 2 (by simp)
  have rf3 := HB.out.1.2.2.1.frz 3 (by simp)
  by_cases hq : x1 = ep
  · have HN : Hid (memF ep du ms en 6 n i (mkMb x0 x1 x2 x3) = none) := Hid.intro (memF6_no hq)
    have hq := hq.symm
    subst hq
    go_wp2
    exact bodyPost_ret (v := .tuple #[.agg #[.int .i64 ep, .int .i64 du, .slice (some ⟨g, 0, none⟩) ms.length k1, .slice a2 en.length k2], .bool false]) (by simp [results, Try.results41, go_sem, *]) rfl (StX.no (cs := [.int .i64 ep, .int .i64 du, .slice (some ⟨g, 0, none⟩) ms.length k1, .slice a2 en.length k2]) HN.out ((TurnS.of_below HB.out.2.1).new (set4 _ (w.heap.size + 1 + 1) _ _ _ _) (by omega)))
  have HN : Hid (memF ep du ms en 6 n i (mkMb x0 x1 x2 x3) = some (mkFe ep du (ms.set i (mkMb x0 ep x2 x3)) en)) := Hid.intro (memF6_yes hq)
  have hqb : (x1 == ep) = false := beq_false_of_ne hq
  have mf1 := HB.out.1.2.2.2.1.frz 1 (by simp)
  go_upto_region 31 with fail
  obtain ⟨X, hXe⟩ : ∃ x, x = W2.setCell ⟨w1.heap.size, 1, none⟩ (.int .i64 ep) := ⟨_, rfl⟩
  rw [← hXe]
  have HBX : Hid (SpB w X [.int .i64 ep, .int .i64 du, .slice (some ⟨g, 0, none⟩) ms.length k1, .slice a2 en.length k2] [.int .i64 (6), .int .i64 b, .int .i64 n] [.int .i64 x0, .int .i64 ep, .slice ar x2.length kr, .int .i64 x3] w1.heap.size ∧ Below w.heap.size w X) := Hid.intro (by
    have h1 := HB.out.1
    have h5 : w.heap.size + 1 + 1 < w1.heap.size := h1.2.2.2.2
    exact hXe ▸ ⟨⟨h1.1.other (by omega), h1.2.1.other (by omega), h1.2.2.1.other (by omega), h1.2.2.2.1.set (k := 1) (by simp) _, h5⟩, HB.out.2.1.setCell (p := ⟨w1.heap.size, 1, none⟩) (by show w.heap.size ≤ w1.heap.size; omega) _⟩)
  clear s0 s1 s2 s3 sz t0 t1 t2 tz r0 r1 r2 r3 rz m0 m1 m2 m3 mz rf0 rf1 rf2 rf3
  clear hXe HB mf1 hq hqb
  obtain ⟨c0, c1, c2, c3⟩ := HCW.out
  have s0 := (HBX.out.1.1).cell 0 rfl; have s1 := (HBX.out.1.1).cell 1 rfl; have s2 := (HBX.out.1.1).cell 2 rfl; have s3 := (HBX.out.1.1).cell 3 rfl; have sz := (HBX.out.1.1).2
  have r0 := (HBX.out.1.2.2.1).cell 0 rfl; have r1 := (HBX.out.1.2.2.1).cell 1 rfl; have r2 := (HBX.out.1.2.2.1).cell 2 rfl; have r3 := (HBX.out.1.2.2.1).cell 3 rfl; have rz := (HBX.out.1.2.2.1).2
  have m0 := (HBX.out.1.2.2.2.1).cell 0 rfl; have m1 := (HBX.out.1.2.2.2.1).cell 1 rfl; have m2 := (HBX.out.1.2.2.2.1).cell 2 rfl; have m3 := (HBX.out.1.2.2.2.1).cell 3 rfl; have mz := (HBX.out.1.2.2.2.1).2
  have rf0 := HBX.out.1.2.2.1.frz 0 (by simp)
  have rf1 := HBX.out.1.2.2.1.frz 1 (by simp)
  have rf2 := HBX.out.1.2.2.1.frz 2 (by simp)
  have rf3 := HBX.out.1.2.2.1.frz 3 (by simp)
  have gc0 := (World.cell?_of_block (a := ⟨g, i * 4, none⟩) (HBX.out.2.block g hgl)).trans c0
  have gf0 := (World.frozen?_of_block (a := ⟨g, i * 4, none⟩) (HBX.out.2.block g hgl)).trans f0
  have gc1 := (World.cell?_of_block (a := ⟨g, i * 4 + 1, none⟩) (HBX.out.2.block g hgl)).trans c1
  have gf1 := (World.frozen?_of_block (a := ⟨g, i * 4 + 1, none⟩) (HBX.out.2.block g hgl)).trans f1
  have gc2 := (World.cell?_of_block (a := ⟨g, i * 4 + 2, none⟩) (HBX.out.2.block g hgl)).trans c2
  have gf2 := (World.frozen?_of_block (a := ⟨g, i * 4 + 2, none⟩) (HBX.out.2.block g hgl)).trans f2
  have gc3 := (World.cell?_of_block (a := ⟨g, i * 4 + 3, none⟩) (HBX.out.2.block g hgl)).trans c3
  have gf3 := (World.frozen?_of_block (a := ⟨g, i * 4 + 3, none⟩) (HBX.out.2.block g hgl)).trans f3
  have hglX : g < X.heap.size := Nat.lt_of_lt_of_le hgl ((TurnS.of_below (S := fun _ => False) HBX.out.2)).size
  go_wp2
  exact bodyPost_ret (v := .tuple #[.agg #[.int .i64 ep, .int .i64 du, .slice (some ⟨g, 0, none⟩) ms.length k1, .slice a2 en.length k2], .bool true]) (by simp [results, Try.results41, go_sem, *]) rfl (fe_tail (T := fun _ => False) (B' := Bk) (E' := S2) HP.out HSG.out HBK.out HO.out.2.2 (TurnS.of_below HBX.out.2) (fun k q => q.elim) (HO.out.2.1.next HBX.out.2) (HO.out.1.next HBX.out.2) (fun k q => Or.inl q) (fun k q => Or.inl q) (fun k q => HO.out.2.2.2.2.1 k (HBK.out k q).1) HN.out)

end Go.Proofs.Ytcbdlalpnlahcaa
/- Fences: a step on the specification's side: a member acks. Written by tools/mkFeT.py. -/
namespace Go.Proofs.Ytcbdlalpnlahcaa
open Go.RowKit
set_option linter.unusedVariables false
set_option linter.unusedSimpArgs false

set_option maxRecDepth 100000 in
set_option maxHeartbeats 4000000 in
theorem l12Step_a (lo : Nat) (S : Nat → Prop) (cs : List Value) (ep du : Int) (ms : List (Sh.T shMember)) (en : List (Sh.T .int)) (b n : Int) (i : Nat) (w : World) (hG : goodF ep du ms en) (hO : OwnX w lo tyFence cs (ep, du, ms, en, ()) S) (hS : ∀ k, S k → k < w.heap.size) (hlo : lo ≤ w.heap.size) (hf : ms.findIdx? (fun m => decide (mid m = b)) = some i) (hi : i < ms.length) :
    Calls Try.prog 41 #[.agg cs.toArray, .agg #[.int .i64 (3), .int .i64 b, .int .i64 n]] w (StX lo S (memF ep du ms en (3) n i ms[i]) w) := by
  obtain ⟨v1, S1, v2, S2, rfl, o1, o2, e1, e2, d12⟩ := ownx_Fence hO
  obtain ⟨g, k1, vr, Bk, hv1, hgl, hSg, hBk, ⟨c0, c1, c2, c3⟩, ⟨f0, f1, f2, f3⟩, orr, hput⟩ := fe_lens o1 hi
  subst hv1
  obtain ⟨x0, x1, x2, x3, hX⟩ : ∃ (x0 x1 : Int) (x2 : List (Sh.T .int)) (x3 : Int), ms[i] = mkMb x0 x1 x2 x3 := ⟨_, _, _, _, rfl⟩
  have hm := (hG.2.2.2.2.1 i hi hi).1
  rw [hX] at c0 c1 c3 orr hm ⊢
  have c0 : w.cell? ⟨g, i * 4, none⟩ = some (.int .i64 x0) := c0
  have c1 : w.cell? ⟨g, i * 4 + 1, none⟩ = some (.int .i64 x1) := c1
  have c3 : w.cell? ⟨g, i * 4 + 3, none⟩ = some (.int .i64 x3) := c3
  have orr : OwnX w lo (.list .int 3) [vr] x2 Bk := orr
  have hm : (0 ≤ x0 ∧ x0 ≤ 99) ∧ (du + 1 ≤ x1 ∧ x1 ≤ ep) ∧ x2.length ≤ 20 ∧ (du ≤ x3 ∧ x3 ≤ ep - 1) ∧ runP x3 x1 x2 x2.length ∧ x3 < x1 := hm
  obtain ⟨a2, k2, hv2⟩ := o2.vform
  have hv2 : v2 = .slice a2 (List.length (α := Sh.T .int) en) k2 := hv2
  subst hv2
  obtain ⟨ar, kr, hvr⟩ := orr.vform
  have hvr : vr = .slice ar (List.length (α := Sh.T .int) x2) kr := hvr
  subst hvr
  obtain ⟨hm1, hm2, hm3, hm4, hm5, hm6⟩ := hm
  have HRP := Hid.intro hm5
  have hep := hG.1
  have hdu := hG.2.1
  have hm8 := hG.2.2.1.2
  have htt := hG.2.2.2.1
  rw [runT_eq] at htt
  have hen : en.length ≤ 200 := by omega
  have HG := Hid.intro hG
  have HX := Hid.intro hX
  have HP := Hid.intro hput
  have HBK := Hid.intro hBk
  have HSG := Hid.intro hSg
  have HO : Hid (OwnX w lo (.list .int 3) [.slice a2 en.length k2] en S2 ∧ OwnX w lo (.list .int 3) [.slice ar x2.length kr] x2 Bk ∧ (∀ k, S1 k → S k) ∧ (∀ k, S2 k → S k) ∧ (∀ k, S1 k → ¬ S2 k) ∧ (∀ k, S k → k < w.heap.size)) := ⟨o2, orr, e1, e2, d12, hS⟩
  have HMS : Hid (OwnX w lo (.list tyMember 37) [.slice (some ⟨g, 0, none⟩) ms.length k1] ms S1) := o1
  have HLW : Hid (Lies w shFence [.int .i64 ep, .int .i64 du, .slice (some ⟨g, 0, none⟩) ms.length k1, .slice a2 en.length k2] (ep, du, ms, en, ())) := Hid.intro hO.lies
  have HZ : Hid (szD shFence (ep, du, ms, en, ()) ≤ 1073741824) := Hid.intro (Nat.le_trans (good_sz hG) (by decide))
  have HAT : Hid (atM ms b = (i : Int)) := Hid.intro (atM_some hf)
  clear hput hBk hSg o1 o2 orr e1 e2 d12 hS hO hG hm5 hX hf
  obtain ⟨w0, hw0⟩ : ∃ x, x = ((w.alloc (.cells #[.int .i64 ep, .int .i64 du, .slice (some ⟨g, 0, none⟩) ms.length k1, .slice a2 en.length k2] 29)).alloc (.cells #[.int .i64 (3), .int .i64 b, .int .i64 n] 40)).alloc (.cells #[.int .i64 0, .int .i64 0, .slice none 0 0, .slice none 0 0] 29) := ⟨_, rfl⟩
  have HB0 : Hid (Bx w0 w.heap.size [.int .i64 ep, .int .i64 du, .slice (some ⟨g, 0, none⟩) ms.length k1, .slice a2 en.length k2] ∧ Bx w0 (w.heap.size + 1) [.int .i64 (3), .int .i64 b, .int .i64 n] ∧ Bx w0 (w.heap.size + 1 + 1) [.int .i64 0, .int .i64 0, .slice none 0 0, .slice none 0 0] ∧ Below w.heap.size w w0) := ⟨hw0 ▸ ((Bx.new w [_, _, _, _] _).alloc _).alloc _, hw0 ▸ (Bx.newAt (by simp)).alloc _, hw0 ▸ Bx.newAt (by simp), hw0 ▸ (((Below.refl _ _).alloc (Nat.le_refl _) _).alloc (by simp) _).alloc (by simp; omega) _⟩
  have s0 := (HB0.out.1).cell 0 rfl; have s1 := (HB0.out.1).cell 1 rfl; have s2 := (HB0.out.1).cell 2 rfl; have s3 := (HB0.out.1).cell 3 rfl; have sz := (HB0.out.1).2
  have t0 := (HB0.out.2.1).cell 0 rfl; have t1 := (HB0.out.2.1).cell 1 rfl; have t2 := (HB0.out.2.1).cell 2 rfl; have tz := (HB0.out.2.1).2
  have hi4 : ¬ (i : Int) < 0 := by omega
  have hi5 : (i : Int) < (ms.length : Int) := by omega
  have HCW : Hid (w.cell? ⟨g, i * 4, none⟩ = some (.int .i64 x0) ∧ w.cell? ⟨g, i * 4 + 1, none⟩ = some (.int .i64 x1) ∧ w.cell? ⟨g, i * 4 + 2, none⟩ = some (.slice ar x2.length kr) ∧ w.cell? ⟨g, i * 4 + 3, none⟩ = some (.int .i64 x3)) := ⟨c0, c1, c2, c3⟩
  go_enter Try.func41, Try.ntmps41
  go_upto_region 1 with fail
  rw [← hw0]
  clear hw0
  go_wp2_with fail
  refine (l12At_n [.int .i64 ep, .int .i64 du, .slice (some ⟨g, 0, none⟩) ms.length k1, .slice a2 en.length k2] ep du ms en b _ HZ.out (HLW.out.next HB0.out.2.2.2)).mono ?_
  rintro r w1 ⟨rfl, hb1⟩
  rw [HAT.out]
  clear s0 s1 s2 s3 sz t0 t1 t2 tz
  have HB1 : Hid (Bx w1 w.heap.size [.int .i64 ep, .int .i64 du, .slice (some ⟨g, 0, none⟩) ms.length k1, .slice a2 en.length k2] ∧ Bx w1 (w.heap.size + 1) [.int .i64 (3), .int .i64 b, .int .i64 n] ∧ Bx w1 (w.heap.size + 1 + 1) [.int .i64 0, .int .i64 0, .slice none 0 0, .slice none 0 0] ∧ Below w.heap.size w w1) := ⟨HB0.out.1.next hb1, HB0.out.2.1.next hb1, HB0.out.2.2.1.next hb1, below_next HB0.out.2.2.2 hb1⟩
  clear hb1 HB0
  have c0 := (World.cell?_of_block (a := ⟨g, i * 4, none⟩) (HB1.out.2.2.2.block g hgl)).trans c0
  have c1 := (World.cell?_of_block (a := ⟨g, i * 4 + 1, none⟩) (HB1.out.2.2.2.block g hgl)).trans c1
  have c2 := (World.cell?_of_block (a := ⟨g, i * 4 + 2, none⟩) (HB1.out.2.2.2.block g hgl)).trans c2
  have c3 := (World.cell?_of_block (a := ⟨g, i * 4 + 3, none⟩) (HB1.out.2.2.2.block g hgl)).trans c3
  have hgl1 : g < w1.heap.size := Nat.lt_of_lt_of_le hgl HB1.out.2.2.2.size
  have s0 := (HB1.out.1).cell 0 rfl; have s1 := (HB1.out.1).cell 1 rfl; have s2 := (HB1.out.1).cell 2 rfl; have s3 := (HB1.out.1).cell 3 rfl; have sz := (HB1.out.1).2
  have t0 := (HB1.out.2.1).cell 0 rfl; have t1 := (HB1.out.2.1).cell 1 rfl; have t2 := (HB1.out.2.1).cell 2 rfl; have tz := (HB1.out.2.1).2
  go_upto_region 7 with fail
  obtain ⟨W2, hW2⟩ : ∃ x, x = w1.alloc (.cells #[.int .i64 x0, .int .i64 x1, .slice ar x2.length kr, .int .i64 x3] 37) := ⟨_, rfl⟩
  rw [← hW2]
  have HB : Hid (SpB w W2 [.int .i64 ep, .int .i64 du, .slice (some ⟨g, 0, none⟩) ms.length k1, .slice a2 en.length k2] [.int .i64 (3), .int .i64 b, .int .i64 n] [.int .i64 x0, .int .i64 x1, .slice ar x2.length kr, .int .i64 x3] w1.heap.size ∧ Below w.heap.size w W2 ∧ W2.heap.size = w1.heap.size + 1) := ⟨hW2 ▸ ⟨HB1.out.1.alloc _, HB1.out.2.1.alloc _, HB1.out.2.2.1.alloc _, Bx.new w1 [_, _, _, _] _, HB1.out.2.2.1.2⟩, hW2 ▸ HB1.out.2.2.2.alloc HB1.out.2.2.2.size _, by rw [hW2]; simp⟩
  clear hW2 HB1 c0 c1 c2 c3 s0 s1 s2 s3 sz t0 t1 t2 tz hgl1
  have s0 := (HB.out.1.1).cell 0 rfl; have s1 := (HB.out.1.1).cell 1 rfl; have s2 := (HB.out.1.1).cell 2 rfl; have s3 := (HB.out.1.1).cell 3 rfl; have sz := (HB.out.1.1).2
  have t0 := (HB.out.1.2.1).cell 0 rfl; have t1 := (HB.out.1.2.1).cell 1 rfl; have t2 := (HB.out.1.2.1).cell 2 rfl; have tz := (HB.out.1.2.1).2
  have r0 := (HB.out.1.2.2.1).cell 0 rfl; have r1 := (HB.out.1.2.2.1).cell 1 rfl; have r2 := (HB.out.1.2.2.1).cell 2 rfl; have r3 := (HB.out.1.2.2.1).cell 3 rfl; have rz := (HB.out.1.2.2.1).2
  have m0 := (HB.out.1.2.2.2.1).cell 0 rfl; have m1 := (HB.out.1.2.2.2.1).cell 1 rfl; have m2 := (HB.out.1.2.2.2.1).cell 2 rfl; have m3 := (HB.out.1.2.2.2.1).cell 3 rfl; have mz := (HB.out.1.2.2.2.1).2
  have rf0 := HB.out.1.2.2.1.frz 0 (by simp)
  have rf1 := HB.out.1.2.2.1.frz 1 (by simp)
  have rf2 := HB.out.1.2.2.1.frz 2 (by simp)
  have rf3 := HB.out.1.2.2.1.frz 3 (by simp)
  have hepw : IntKind.i64.wrap (ep - 1) = ep - 1 := w64f (by omega) (by omega)
  by_cases hq : x1 = ep
  case neg =>
    have HN : Hid (memF ep du ms en 3 n i (mkMb x0 x1 x2 x3) = none) := Hid.intro (memF3_no (Or.inl hq))
    have hqb : (x1 == ep) = false := beq_false_of_ne hq
    have hd1 : decide (x1 = ep) = false := decide_eq_false hq
    have hd2 : (x1 != ep) = true := bne_iff_ne.2 hq
    have hd3 : decide (x1 ≠ ep) = true := decide_eq_true hq
    go_upto_region 19 with fail
    go_quiet (fail)
    go_wp2
    exact bodyPost_ret (v := .tuple #[.agg #[.int .i64 ep, .int .i64 du, .slice (some ⟨g, 0, none⟩) ms.length k1, .slice a2 en.length k2], .bool false]) (by simp [results, Try.results41, go_sem, *]) rfl (StX.no (cs := [.int .i64 ep, .int .i64 du, .slice (some ⟨g, 0, none⟩) ms.length k1, .slice a2 en.length k2]) HN.out ((TurnS.of_below HB.out.2.1).new (set4 _ (w.heap.size + 1 + 1) _ _ _ _) (by omega)))
  by_cases hq2 : x3 = ep - 1
  · have HN : Hid (memF ep du ms en 3 n i (mkMb x0 x1 x2 x3) = none) := Hid.intro (memF3_no (Or.inr (Or.inl hq2)))
    have hq := hq.symm
    subst hq hq2
    go_upto_region 19 with fail
    go_quiet (fail)
    go_wp2
    exact bodyPost_ret (v := .tuple #[.agg #[.int .i64 ep, .int .i64 du, .slice (some ⟨g, 0, none⟩) ms.length k1, .slice a2 en.length k2], .bool false]) (by simp [results, Try.results41, go_sem, *]) rfl (StX.no (cs := [.int .i64 ep, .int .i64 du, .slice (some ⟨g, 0, none⟩) ms.length k1, .slice a2 en.length k2]) HN.out ((TurnS.of_below HB.out.2.1).new (set4 _ (w.heap.size + 1 + 1) _ _ _ _) (by omega)))
  have hq2b : (x3 == ep - 1) = false := beq_false_of_ne hq2
  by_cases hq3 : 0 < x2.length
  · have HLR : Hid (Lies W2 (.list .int) [.slice ar x2.length kr] x2) := Hid.intro (HO.out.2.1.next HB.out.2.1).lies
    obtain ⟨gr, og, har, hcr, hgr⟩ := lies_at HLR.out hq3
    subst har
    have hcr : W2.cell? ⟨gr, og, none⟩ = some (.int .i64 (atI x2 0)) := hcr
    obtain ⟨y, hy⟩ : ∃ y : Int, y = atI x2 0 := ⟨_, rfl⟩
    have HY := Hid.intro hy
    rw [← hy] at hcr
    clear hy
    have hq3' : (0 : Int) < (x2.length : Int) := by omega
    by_cases hq4 : y ≤ ep - 1
    · have HN : Hid (memF ep du ms en 3 n i (mkMb x0 x1 x2 x3) = none) := Hid.intro (memF3_no (Or.inr (Or.inr ⟨hq3, by rw [← HY.out]; exact hq4⟩)))
      have hq := hq.symm
      subst hq
      go_upto_region 19 with fail
      go_quiet (fail)
      go_wp2
      exact bodyPost_ret (v := .tuple #[.agg #[.int .i64 ep, .int .i64 du, .slice (some ⟨g, 0, none⟩) ms.length k1, .slice a2 en.length k2], .bool false]) (by simp [results, Try.results41, go_sem, *]) rfl (StX.no (cs := [.int .i64 ep, .int .i64 du, .slice (some ⟨g, 0, none⟩) ms.length k1, .slice a2 en.length k2]) HN.out ((TurnS.of_below HB.out.2.1).new (set4 _ (w.heap.size + 1 + 1) _ _ _ _) (by omega)))
    · have HN : Hid (memF ep du ms en 3 n i (mkMb x0 x1 x2 x3) = some (mkFe ep du (ms.set i (mkMb x0 x1 x2 (ep - 1))) en)) := Hid.intro (memF3_yes (fun q => by
        rcases q with q | q | q
        · exact q hq
        · exact hq2 q
        · exact hq4 (by rw [HY.out]; exact q.2)))
      have hq := hq.symm
      subst hq
      have mf3 := HB.out.1.2.2.2.1.frz 3 (by simp)
      go_upto_region 19 with fail
      go_quiet (fail)
      go_upto_region 31 with fail
      obtain ⟨X, hXe⟩ : ∃ x, x = (W2.drewN nq).setCell ⟨w1.heap.size, 3, none⟩ (.int .i64 (ep - 1)) := ⟨_, rfl⟩
      rw [← hXe]
      have HBX : Hid (SpB w X [.int .i64 ep, .int .i64 du, .slice (some ⟨g, 0, none⟩) ms.length k1, .slice a2 en.length k2] [.int .i64 (3), .int .i64 b, .int .i64 n] [.int .i64 x0, .int .i64 ep, .slice (some ⟨gr, og, none⟩) x2.length kr, .int .i64 (ep - 1)] w1.heap.size ∧ Below w.heap.size w X) := Hid.intro (by
        have h1 := HB.out.1
        have hbN : Below W2.heap.size W2 (W2.drewN nq) := ⟨rfl, rfl, rfl, Nat.le_refl _, fun _ _ => rfl⟩
        have h5 : w.heap.size + 1 + 1 < w1.heap.size := h1.2.2.2.2
        exact hXe ▸ ⟨⟨(h1.1.next hbN).other (by omega), (h1.2.1.next hbN).other (by omega), (h1.2.2.1.next hbN).other (by omega), (h1.2.2.2.1.next hbN).set (k := 3) (by simp) _, h5⟩, (below_next HB.out.2.1 hbN).setCell (p := ⟨w1.heap.size, 3, none⟩) (by show w.heap.size ≤ w1.heap.size; omega) _⟩)
      clear s0 s1 s2 s3 sz t0 t1 t2 tz r0 r1 r2 r3 rz m0 m1 m2 m3 mz rf0 rf1 rf2 rf3
      clear hXe HB mf3
      obtain ⟨c0, c1, c2, c3⟩ := HCW.out
      have s0 := (HBX.out.1.1).cell 0 rfl; have s1 := (HBX.out.1.1).cell 1 rfl; have s2 := (HBX.out.1.1).cell 2 rfl; have s3 := (HBX.out.1.1).cell 3 rfl; have sz := (HBX.out.1.1).2
      have r0 := (HBX.out.1.2.2.1).cell 0 rfl; have r1 := (HBX.out.1.2.2.1).cell 1 rfl; have r2 := (HBX.out.1.2.2.1).cell 2 rfl; have r3 := (HBX.out.1.2.2.1).cell 3 rfl; have rz := (HBX.out.1.2.2.1).2
      have m0 := (HBX.out.1.2.2.2.1).cell 0 rfl; have m1 := (HBX.out.1.2.2.2.1).cell 1 rfl; have m2 := (HBX.out.1.2.2.2.1).cell 2 rfl; have m3 := (HBX.out.1.2.2.2.1).cell 3 rfl; have mz := (HBX.out.1.2.2.2.1).2
      have rf0 := HBX.out.1.2.2.1.frz 0 (by simp)
      have rf1 := HBX.out.1.2.2.1.frz 1 (by simp)
      have rf2 := HBX.out.1.2.2.1.frz 2 (by simp)
      have rf3 := HBX.out.1.2.2.1.frz 3 (by simp)
      have gc0 := (World.cell?_of_block (a := ⟨g, i * 4, none⟩) (HBX.out.2.block g hgl)).trans c0
      have gf0 := (World.frozen?_of_block (a := ⟨g, i * 4, none⟩) (HBX.out.2.block g hgl)).trans f0
      have gc1 := (World.cell?_of_block (a := ⟨g, i * 4 + 1, none⟩) (HBX.out.2.block g hgl)).trans c1
      have gf1 := (World.frozen?_of_block (a := ⟨g, i * 4 + 1, none⟩) (HBX.out.2.block g hgl)).trans f1
      have gc2 := (World.cell?_of_block (a := ⟨g, i * 4 + 2, none⟩) (HBX.out.2.block g hgl)).trans c2
      have gf2 := (World.frozen?_of_block (a := ⟨g, i * 4 + 2, none⟩) (HBX.out.2.block g hgl)).trans f2
      have gc3 := (World.cell?_of_block (a := ⟨g, i * 4 + 3, none⟩) (HBX.out.2.block g hgl)).trans c3
      have gf3 := (World.frozen?_of_block (a := ⟨g, i * 4 + 3, none⟩) (HBX.out.2.block g hgl)).trans f3
      have hglX : g < X.heap.size := Nat.lt_of_lt_of_le hgl ((TurnS.of_below (S := fun _ => False) HBX.out.2)).size
      go_wp2
      exact bodyPost_ret (v := .tuple #[.agg #[.int .i64 ep, .int .i64 du, .slice (some ⟨g, 0, none⟩) ms.length k1, .slice a2 en.length k2], .bool true]) (by simp [results, Try.results41, go_sem, *]) rfl (fe_tail (T := fun _ => False) (B' := Bk) (E' := S2) HP.out HSG.out HBK.out HO.out.2.2 (TurnS.of_below HBX.out.2) (fun k q => q.elim) (HO.out.2.1.next HBX.out.2) (HO.out.1.next HBX.out.2) (fun k q => Or.inl q) (fun k q => Or.inl q) (fun k q => HO.out.2.2.2.2.1 k (HBK.out k q).1) HN.out)
  · have HN : Hid (memF ep du ms en 3 n i (mkMb x0 x1 x2 x3) = some (mkFe ep du (ms.set i (mkMb x0 x1 x2 (ep - 1))) en)) := Hid.intro (memF3_yes (fun q => by
      rcases q with q | q | q
      · exact q hq
      · exact hq2 q
      · exact hq3 q.1))
    have hq3' : ¬ (0 : Int) < (x2.length : Int) := by omega
    have hq := hq.symm
    subst hq
    have mf3 := HB.out.1.2.2.2.1.frz 3 (by simp)
    go_upto_region 19 with fail
    go_quiet (fail)
    go_upto_region 31 with fail
    obtain ⟨X, hXe⟩ : ∃ x, x = (W2.drewN nq).setCell ⟨w1.heap.size, 3, none⟩ (.int .i64 (ep - 1)) := ⟨_, rfl⟩
    rw [← hXe]
    have HBX : Hid (SpB w X [.int .i64 ep, .int .i64 du, .slice (some ⟨g, 0, none⟩) ms.length k1, .slice a2 en.length k2] [.int .i64 (3), .int .i64 b, .int .i64 n] [.int .i64 x0, .int .i64 ep, .slice ar x2.length kr, .int .i64 (ep - 1)] w1.heap.size ∧ Below w.heap.size w X) := Hid.intro (by
      have h1 := HB.out.1
      have hbN : Below W2.heap.size W2 (W2.drewN nq) := ⟨rfl, rfl, rfl, Nat.le_refl _, fun _ _ => rfl⟩
      have h5 : w.heap.size + 1 + 1 < w1.heap.size := h1.2.2.2.2
      exact hXe ▸ ⟨⟨(h1.1.next hbN).other (by omega), (h1.2.1.next hbN).other (by omega), (h1.2.2.1.next hbN).other (by omega), (h1.2.2.2.1.next hbN).set (k := 3) (by simp) _, h5⟩, (below_next HB.out.2.1 hbN).setCell (p := ⟨w1.heap.size, 3, none⟩) (by show w.heap.size ≤ w1.heap.size; omega) _⟩)
    clear s0 s1 s2 s3 sz t0 t1 t2 tz r0 r1 r2 r3 rz m0 m1 m2 m3 mz rf0 rf1 rf2 rf3
    clear hXe HB mf3
    obtain ⟨c0, c1, c2, c3⟩ := HCW.out
    have s0 := (HBX.out.1.1).cell 0 rfl; have s1 := (HBX.out.1.1).cell 1 rfl; have s2 := (HBX.out.1.1).cell 2 rfl; have s3 := (HBX.out.1.1).cell 3 rfl; have sz := (HBX.out.1.1).2
    have r0 := (HBX.out.1.2.2.1).cell 0 rfl; have r1 := (HBX.out.1.2.2.1).cell 1 rfl; have r2 := (HBX.out.1.2.2.1).cell 2 rfl; have r3 := (HBX.out.1.2.2.1).cell 3 rfl; have rz := (HBX.out.1.2.2.1).2
    have m0 := (HBX.out.1.2.2.2.1).cell 0 rfl; have m1 := (HBX.out.1.2.2.2.1).cell 1 rfl; have m2 := (HBX.out.1.2.2.2.1).cell 2 rfl; have m3 := (HBX.out.1.2.2.2.1).cell 3 rfl; have mz := (HBX.out.1.2.2.2.1).2
    have rf0 := HBX.out.1.2.2.1.frz 0 (by simp)
    have rf1 := HBX.out.1.2.2.1.frz 1 (by simp)
    have rf2 := HBX.out.1.2.2.1.frz 2 (by simp)
    have rf3 := HBX.out.1.2.2.1.frz 3 (by simp)
    have gc0 := (World.cell?_of_block (a := ⟨g, i * 4, none⟩) (HBX.out.2.block g hgl)).trans c0
    have gf0 := (World.frozen?_of_block (a := ⟨g, i * 4, none⟩) (HBX.out.2.block g hgl)).trans f0
    have gc1 := (World.cell?_of_block (a := ⟨g, i * 4 + 1, none⟩) (HBX.out.2.block g hgl)).trans c1
    have gf1 := (World.frozen?_of_block (a := ⟨g, i * 4 + 1, none⟩) (HBX.out.2.block g hgl)).trans f1
    have gc2 := (World.cell?_of_block (a := ⟨g, i * 4 + 2, none⟩) (HBX.out.2.block g hgl)).trans c2
    have gf2 := (World.frozen?_of_block (a := ⟨g, i * 4 + 2, none⟩) (HBX.out.2.block g hgl)).trans f2
    have gc3 := (World.cell?_of_block (a := ⟨g, i * 4 + 3, none⟩) (HBX.out.2.block g hgl)).trans c3
    have gf3 := (World.frozen?_of_block (a := ⟨g, i * 4 + 3, none⟩) (HBX.out.2.block g hgl)).trans f3
    have hglX : g < X.heap.size := Nat.lt_of_lt_of_le hgl ((TurnS.of_below (S := fun _ => False) HBX.out.2)).size
    go_wp2
    exact bodyPost_ret (v := .tuple #[.agg #[.int .i64 ep, .int .i64 du, .slice (some ⟨g, 0, none⟩) ms.length k1, .slice a2 en.length k2], .bool true]) (by simp [results, Try.results41, go_sem, *]) rfl (fe_tail (T := fun _ => False) (B' := Bk) (E' := S2) HP.out HSG.out HBK.out HO.out.2.2 (TurnS.of_below HBX.out.2) (fun k q => q.elim) (HO.out.2.1.next HBX.out.2) (HO.out.1.next HBX.out.2) (fun k q => Or.inl q) (fun k q => Or.inl q) (fun k q => HO.out.2.2.2.2.1 k (HBK.out k q).1) HN.out)

end Go.Proofs.Ytcbdlalpnlahcaa
/- Fences: a step on the specification's side: something begins. Written by tools/mkFeT.py. -/
namespace Go.Proofs.Ytcbdlalpnlahcaa
open Go.RowKit
set_option linter.unusedVariables false
set_option linter.unusedSimpArgs false

set_option maxRecDepth 100000 in
set_option maxHeartbeats 4000000 in
theorem l12Step_b (lo : Nat) (S : Nat → Prop) (cs : List Value) (ep du : Int) (ms : List (Sh.T shMember)) (en : List (Sh.T .int)) (b n : Int) (i : Nat) (w : World) (hG : goodF ep du ms en) (hO : OwnX w lo tyFence cs (ep, du, ms, en, ()) S) (hS : ∀ k, S k → k < w.heap.size) (hlo : lo ≤ w.heap.size) (hf : ms.findIdx? (fun m => decide (mid m = b)) = some i) (hi : i < ms.length) :
    Calls Try.prog 41 #[.agg cs.toArray, .agg #[.int .i64 (1), .int .i64 b, .int .i64 n]] w (StX lo S (memF ep du ms en (1) n i ms[i]) w) := by
  obtain ⟨v1, S1, v2, S2, rfl, o1, o2, e1, e2, d12⟩ := ownx_Fence hO
  obtain ⟨g, k1, vr, Bk, hv1, hgl, hSg, hBk, ⟨c0, c1, c2, c3⟩, ⟨f0, f1, f2, f3⟩, orr, hput⟩ := fe_lens o1 hi
  subst hv1
  obtain ⟨x0, x1, x2, x3, hX⟩ : ∃ (x0 x1 : Int) (x2 : List (Sh.T .int)) (x3 : Int), ms[i] = mkMb x0 x1 x2 x3 := ⟨_, _, _, _, rfl⟩
  have hm := (hG.2.2.2.2.1 i hi hi).1
  rw [hX] at c0 c1 c3 orr hm ⊢
  have c0 : w.cell? ⟨g, i * 4, none⟩ = some (.int .i64 x0) := c0
  have c1 : w.cell? ⟨g, i * 4 + 1, none⟩ = some (.int .i64 x1) := c1
  have c3 : w.cell? ⟨g, i * 4 + 3, none⟩ = some (.int .i64 x3) := c3
  have orr : OwnX w lo (.list .int 3) [vr] x2 Bk := orr
  have hm : (0 ≤ x0 ∧ x0 ≤ 99) ∧ (du + 1 ≤ x1 ∧ x1 ≤ ep) ∧ x2.length ≤ 20 ∧ (du ≤ x3 ∧ x3 ≤ ep - 1) ∧ runP x3 x1 x2 x2.length ∧ x3 < x1 := hm
  obtain ⟨a2, k2, hv2⟩ := o2.vform
  have hv2 : v2 = .slice a2 (List.length (α := Sh.T .int) en) k2 := hv2
  subst hv2
  obtain ⟨ar, kr, hvr⟩ := orr.vform
  have hvr : vr = .slice ar (List.length (α := Sh.T .int) x2) kr := hvr
  subst hvr
  obtain ⟨hm1, hm2, hm3, hm4, hm5, hm6⟩ := hm
  have HRP := Hid.intro hm5
  have hep := hG.1
  have hdu := hG.2.1
  have hm8 := hG.2.2.1.2
  have htt := hG.2.2.2.1
  rw [runT_eq] at htt
  have hen : en.length ≤ 200 := by omega
  have HG := Hid.intro hG
  have HX := Hid.intro hX
  have HP := Hid.intro hput
  have HBK := Hid.intro hBk
  have HSG := Hid.intro hSg
  have HO : Hid (OwnX w lo (.list .int 3) [.slice a2 en.length k2] en S2 ∧ OwnX w lo (.list .int 3) [.slice ar x2.length kr] x2 Bk ∧ (∀ k, S1 k → S k) ∧ (∀ k, S2 k → S k) ∧ (∀ k, S1 k → ¬ S2 k) ∧ (∀ k, S k → k < w.heap.size)) := ⟨o2, orr, e1, e2, d12, hS⟩
  have HMS : Hid (OwnX w lo (.list tyMember 37) [.slice (some ⟨g, 0, none⟩) ms.length k1] ms S1) := o1
  have HLW : Hid (Lies w shFence [.int .i64 ep, .int .i64 du, .slice (some ⟨g, 0, none⟩) ms.length k1, .slice a2 en.length k2] (ep, du, ms, en, ())) := Hid.intro hO.lies
  have HZ : Hid (szD shFence (ep, du, ms, en, ()) ≤ 1073741824) := Hid.intro (Nat.le_trans (good_sz hG) (by decide))
  have HAT : Hid (atM ms b = (i : Int)) := Hid.intro (atM_some hf)
  clear hput hBk hSg o1 o2 orr e1 e2 d12 hS hO hG hm5 hX hf
  obtain ⟨w0, hw0⟩ : ∃ x, x = ((w.alloc (.cells #[.int .i64 ep, .int .i64 du, .slice (some ⟨g, 0, none⟩) ms.length k1, .slice a2 en.length k2] 29)).alloc (.cells #[.int .i64 (1), .int .i64 b, .int .i64 n] 40)).alloc (.cells #[.int .i64 0, .int .i64 0, .slice none 0 0, .slice none 0 0] 29) := ⟨_, rfl⟩
  have HB0 : Hid (Bx w0 w.heap.size [.int .i64 ep, .int .i64 du, .slice (some ⟨g, 0, none⟩) ms.length k1, .slice a2 en.length k2] ∧ Bx w0 (w.heap.size + 1) [.int .i64 (1), .int .i64 b, .int .i64 n] ∧ Bx w0 (w.heap.size + 1 + 1) [.int .i64 0, .int .i64 0, .slice none 0 0, .slice none 0 0] ∧ Below w.heap.size w w0) := ⟨hw0 ▸ ((Bx.new w [_, _, _, _] _).alloc _).alloc _, hw0 ▸ (Bx.newAt (by simp)).alloc _, hw0 ▸ Bx.newAt (by simp), hw0 ▸ (((Below.refl _ _).alloc (Nat.le_refl _) _).alloc (by simp) _).alloc (by simp; omega) _⟩
  have s0 := (HB0.out.1).cell 0 rfl; have s1 := (HB0.out.1).cell 1 rfl; have s2 := (HB0.out.1).cell 2 rfl; have s3 := (HB0.out.1).cell 3 rfl; have sz := (HB0.out.1).2
  have t0 := (HB0.out.2.1).cell 0 rfl; have t1 := (HB0.out.2.1).cell 1 rfl; have t2 := (HB0.out.2.1).cell 2 rfl; have tz := (HB0.out.2.1).2
  have hi4 : ¬ (i : Int) < 0 := by omega
  have hi5 : (i : Int) < (ms.length : Int) := by omega
  have HCW : Hid (w.cell? ⟨g, i * 4, none⟩ = some (.int .i64 x0) ∧ w.cell? ⟨g, i * 4 + 1, none⟩ = some (.int .i64 x1) ∧ w.cell? ⟨g, i * 4 + 2, none⟩ = some (.slice ar x2.length kr) ∧ w.cell? ⟨g, i * 4 + 3, none⟩ = some (.int .i64 x3)) := ⟨c0, c1, c2, c3⟩
  go_enter Try.func41, Try.ntmps41
  go_upto_region 1 with fail
  rw [← hw0]
  clear hw0
  go_wp2_with fail
  refine (l12At_n [.int .i64 ep, .int .i64 du, .slice (some ⟨g, 0, none⟩) ms.length k1, .slice a2 en.length k2] ep du ms en b _ HZ.out (HLW.out.next HB0.out.2.2.2)).mono ?_
  rintro r w1 ⟨rfl, hb1⟩
  rw [HAT.out]
  clear s0 s1 s2 s3 sz t0 t1 t2 tz
  have HB1 : Hid (Bx w1 w.heap.size [.int .i64 ep, .int .i64 du, .slice (some ⟨g, 0, none⟩) ms.length k1, .slice a2 en.length k2] ∧ Bx w1 (w.heap.size + 1) [.int .i64 (1), .int .i64 b, .int .i64 n] ∧ Bx w1 (w.heap.size + 1 + 1) [.int .i64 0, .int .i64 0, .slice none 0 0, .slice none 0 0] ∧ Below w.heap.size w w1) := ⟨HB0.out.1.next hb1, HB0.out.2.1.next hb1, HB0.out.2.2.1.next hb1, below_next HB0.out.2.2.2 hb1⟩
  clear hb1 HB0
  have c0 := (World.cell?_of_block (a := ⟨g, i * 4, none⟩) (HB1.out.2.2.2.block g hgl)).trans c0
  have c1 := (World.cell?_of_block (a := ⟨g, i * 4 + 1, none⟩) (HB1.out.2.2.2.block g hgl)).trans c1
  have c2 := (World.cell?_of_block (a := ⟨g, i * 4 + 2, none⟩) (HB1.out.2.2.2.block g hgl)).trans c2
  have c3 := (World.cell?_of_block (a := ⟨g, i * 4 + 3, none⟩) (HB1.out.2.2.2.block g hgl)).trans c3
  have hgl1 : g < w1.heap.size := Nat.lt_of_lt_of_le hgl HB1.out.2.2.2.size
  have s0 := (HB1.out.1).cell 0 rfl; have s1 := (HB1.out.1).cell 1 rfl; have s2 := (HB1.out.1).cell 2 rfl; have s3 := (HB1.out.1).cell 3 rfl; have sz := (HB1.out.1).2
  have t0 := (HB1.out.2.1).cell 0 rfl; have t1 := (HB1.out.2.1).cell 1 rfl; have t2 := (HB1.out.2.1).cell 2 rfl; have tz := (HB1.out.2.1).2
  go_upto_region 7 with fail
  obtain ⟨W2, hW2⟩ : ∃ x, x = w1.alloc (.cells #[.int .i64 x0, .int .i64 x1, .slice ar x2.length kr, .int .i64 x3] 37) := ⟨_, rfl⟩
  rw [← hW2]
  have HB : Hid (SpB w W2 [.int .i64 ep, .int .i64 du, .slice (some ⟨g, 0, none⟩) ms.length k1, .slice a2 en.length k2] [.int .i64 (1), .int .i64 b, .int .i64 n] [.int .i64 x0, .int .i64 x1, .slice ar x2.length kr, .int .i64 x3] w1.heap.size ∧ Below w.heap.size w W2 ∧ W2.heap.size = w1.heap.size + 1) := ⟨hW2 ▸ ⟨HB1.out.1.alloc _, HB1.out.2.1.alloc _, HB1.out.2.2.1.alloc _, Bx.new w1 [_, _, _, _] _, HB1.out.2.2.1.2⟩, hW2 ▸ HB1.out.2.2.2.alloc HB1.out.2.2.2.size _, by rw [hW2]; simp⟩
  clear hW2 HB1 c0 c1 c2 c3 s0 s1 s2 s3 sz t0 t1 t2 tz hgl1
  have s0 := (HB.out.1.1).cell 0 rfl; have s1 := (HB.out.1.1).cell 1 rfl; have s2 := (HB.out.1.1).cell 2 rfl; have s3 := (HB.out.1.1).cell 3 rfl; have sz := (HB.out.1.1).2
  have t0 := (HB.out.1.2.1).cell 0 rfl; have t1 := (HB.out.1.2.1).cell 1 rfl; have t2 := (HB.out.1.2.1).cell 2 rfl; have tz := (HB.out.1.2.1).2
  have r0 := (HB.out.1.2.2.1).cell 0 rfl; have r1 := (HB.out.1.2.2.1).cell 1 rfl; have r2 := (HB.out.1.2.2.1).cell 2 rfl; have r3 := (HB.out.1.2.2.1).cell 3 rfl; have rz := (HB.out.1.2.2.1).2
  have m0 := (HB.out.1.2.2.2.1).cell 0 rfl; have m1 := (HB.out.1.2.2.2.1).cell 1 rfl; have m2 := (HB.out.1.2.2.2.1).cell 2 rfl; have m3 := (HB.out.1.2.2.2.1).cell 3 rfl; have mz := (HB.out.1.2.2.2.1).2
  have rf0 := HB.out.1.2.2.1.frz 0 (by simp)
  have rf1 := HB.out.1.2.2.1.frz 1 (by simp)
  have rf2 := HB.out.1.2.2.1.frz 2 (by simp)
  have rf3 := HB.out.1.2.2.1.frz 3 (by simp)
  by_cases hq : x2.length = 20
  · have HN : Hid (memF ep du ms en 1 n i (mkMb x0 x1 x2 x3) = none) := Hid.intro (memF1_no (Or.inl hq))
    obtain ⟨L, hL⟩ : ∃ L, L = x2.length := ⟨_, rfl⟩
    have hq' : ((x2.length : Int) == 20) = true := by rw [hq]; rfl
    have hq2 : (x2.length : Int) = 20 := by omega
    clear hL hq
    go_wp2
    exact bodyPost_ret (v := .tuple #[.agg #[.int .i64 ep, .int .i64 du, .slice (some ⟨g, 0, none⟩) ms.length k1, .slice a2 en.length k2], .bool false]) (by simp [results, Try.results41, go_sem, *]) rfl (StX.no (cs := [.int .i64 ep, .int .i64 du, .slice (some ⟨g, 0, none⟩) ms.length k1, .slice a2 en.length k2]) HN.out ((TurnS.of_below HB.out.2.1).new (set4 _ (w.heap.size + 1 + 1) _ _ _ _) (by omega)))
  have hqb : ((x2.length : Int) == 20) = false := beq_false_of_ne (by omega)
  have hqc : ¬ (x2.length : Int) = 20 := by omega
  obtain ⟨tot, htot⟩ : ∃ q, q = en.length + runT ms := ⟨_, rfl⟩
  have HTO : Hid (en.length + runN ms ms.length = tot) := Hid.intro (by rw [runT_eq]; exact htot.symm)
  have HTT := Hid.intro htot
  rw [← htot] at htt
  clear htot
  obtain ⟨i1, hi1, hy0, hy1, hy2⟩ := info_parts inf_int
  go_wp2_with fail
  refine (l12Running_n [.int .i64 ep, .int .i64 du, .slice (some ⟨g, 0, none⟩) ms.length k1, .slice a2 en.length k2] ep du ms en _ HZ.out (HLW.out.next HB.out.2.1)).mono ?_
  rintro r w3 ⟨rfl, hb3⟩
  rw [HTO.out]
  clear s0 s1 s2 s3 sz t0 t1 t2 tz r0 r1 r2 r3 rz m0 m1 m2 m3 mz rf0 rf1 rf2 rf3
  have HB3 : Hid (SpB w w3 [.int .i64 ep, .int .i64 du, .slice (some ⟨g, 0, none⟩) ms.length k1, .slice a2 en.length k2] [.int .i64 (1), .int .i64 b, .int .i64 n] [.int .i64 x0, .int .i64 x1, .slice ar x2.length kr, .int .i64 x3] w1.heap.size ∧ Below w.heap.size w w3) := ⟨⟨HB.out.1.1.next hb3, HB.out.1.2.1.next hb3, HB.out.1.2.2.1.next hb3, HB.out.1.2.2.2.1.next hb3, HB.out.1.2.2.2.2⟩, below_next HB.out.2.1 hb3⟩
  clear HB hb3
  have s0 := (HB3.out.1.1).cell 0 rfl; have s1 := (HB3.out.1.1).cell 1 rfl; have s2 := (HB3.out.1.1).cell 2 rfl; have s3 := (HB3.out.1.1).cell 3 rfl; have sz := (HB3.out.1.1).2
  have t0 := (HB3.out.1.2.1).cell 0 rfl; have t1 := (HB3.out.1.2.1).cell 1 rfl; have t2 := (HB3.out.1.2.1).cell 2 rfl; have tz := (HB3.out.1.2.1).2
  have r0 := (HB3.out.1.2.2.1).cell 0 rfl; have r1 := (HB3.out.1.2.2.1).cell 1 rfl; have r2 := (HB3.out.1.2.2.1).cell 2 rfl; have r3 := (HB3.out.1.2.2.1).cell 3 rfl; have rz := (HB3.out.1.2.2.1).2
  have m0 := (HB3.out.1.2.2.2.1).cell 0 rfl; have m1 := (HB3.out.1.2.2.2.1).cell 1 rfl; have m2 := (HB3.out.1.2.2.2.1).cell 2 rfl; have m3 := (HB3.out.1.2.2.2.1).cell 3 rfl; have mz := (HB3.out.1.2.2.2.1).2
  have rf0 := HB3.out.1.2.2.1.frz 0 (by simp)
  have rf1 := HB3.out.1.2.2.1.frz 1 (by simp)
  have rf2 := HB3.out.1.2.2.1.frz 2 (by simp)
  have rf3 := HB3.out.1.2.2.1.frz 3 (by simp)
  by_cases hq4 : tot = 200
  · have HN : Hid (memF ep du ms en 1 n i (mkMb x0 x1 x2 x3) = none) := Hid.intro (memF1_no (Or.inr (HTT.out.symm.trans hq4)))
    subst hq4
    go_wp2
    exact bodyPost_ret (v := .tuple #[.agg #[.int .i64 ep, .int .i64 du, .slice (some ⟨g, 0, none⟩) ms.length k1, .slice a2 en.length k2], .bool false]) (by simp [results, Try.results41, go_sem, *]) rfl (StX.no (cs := [.int .i64 ep, .int .i64 du, .slice (some ⟨g, 0, none⟩) ms.length k1, .slice a2 en.length k2]) HN.out ((TurnS.of_below HB3.out.2).new (set4 _ (w.heap.size + 1 + 1) _ _ _ _) (by omega)))
  have hq4b : ((tot : Int) == 200) = false := beq_false_of_ne (by omega)
  have hq4c : ¬ (tot : Int) = 200 := by omega
  have HN : Hid (memF ep du ms en 1 n i (mkMb x0 x1 x2 x3) = some (mkFe ep du (ms.set i (mkMb x0 x1 (x2 ++ [x1]) x3)) en)) := Hid.intro (memF1_yes (fun q => by
    rcases q with q | q
    · exact hq q
    · exact hq4 (HTT.out.trans q)))
  have HY : Hid (Below w3.heap.size w3 (w3.alloc (.cells #[.int .i64 x1] 3)) ∧ OwnX (w3.alloc (.cells #[.int .i64 x1] 3)) lo (.list .int 3) [.slice ar x2.length kr] x2 Bk ∧ Lies (w3.alloc (.cells #[.int .i64 x1] 3)) (.list .int) [.slice (some ⟨w3.heap.size, 0, none⟩) 1 1] [x1] ∧ Below w.heap.size w (w3.alloc (.cells #[.int .i64 x1] 3)) ∧ (w3.alloc (.cells #[.int .i64 x1] 3)).heap.size = w3.heap.size + 1) := Hid.intro (by
    have hb := Go.Joins.below_alloc1 w3 (.cells #[.int .i64 x1] 3)
    exact ⟨hb, HO.out.2.1.next (below_next HB3.out.2 hb), lies_one (e := .int) (cs := [.int .i64 x1]) 3 rfl rfl, below_next HB3.out.2 hb, by simp⟩)
  have hbV : x2.length + [x1].length ≤ maxLen := by unfold maxLen; simp; omega
  have hcV : (x2.length + [x1].length) * 8 ≤ 140737488355328 := by simp; omega
  have hlY : lo ≤ w3.heap.size + 1 := Nat.le_trans hlo (Nat.le_succ_of_le HB3.out.2.size)
  go_upto_region 31 with (first | (at_builtin; refine wpList_appx rfl (.tmp 43) (.tmp 46) 27 3 rfl i1 (.int .i64 0) 8 lo .int rfl Try.underlying27 hi1 hy0 hy1 hy2 rfl (by decide) (.slice ar x2.length kr) x2 [x1] Bk rfl HY.out.2.1 (some ⟨w3.heap.size, 0, none⟩) 1 rfl HY.out.2.2.1 hbV hcV (by rw [HY.out.2.2.2.2]; exact hlY) ?_; intro v9 w9 hO9 hg9 hwh9; obtain ⟨a9, c9, hv8⟩ := hO9.vform; have hv9 : v9 = .slice a9 (x2.length + 1) c9 := (by rw [hv8, List.length_append]; rfl); clear hv8; subst hv9; have H9 : Hid (OwnX w9 lo (.list .int 3) [.slice a9 (x2.length + 1) c9] (x2 ++ [x1]) (fun k => Bk k ∨ k = (w3.alloc (.cells #[.int .i64 x1] 3)).heap.size) ∧ (w3.alloc (.cells #[.int .i64 x1] 3)).grownBy w9 (Value.slice ar x2.length kr).ownBlock) := ⟨hO9, hg9⟩; clear hO9 hg9 hwh9; have HR9 : Hid (∀ k, (Value.slice ar x2.length kr).ownBlock = some k → Bk k ∧ k < w.heap.size) := Hid.intro (fun k q => ⟨(HY.out.2.1.tight rfl).2.2 k q, HO.out.2.2.2.2.2 k (HO.out.2.2.1 k (HBK.out k ((HY.out.2.1.tight rfl).2.2 k q)).1)⟩); have HB9 : Hid (SpB w w9 [.int .i64 ep, .int .i64 du, .slice (some ⟨g, 0, none⟩) ms.length k1, .slice a2 en.length k2] [.int .i64 (1), .int .i64 b, .int .i64 n] [.int .i64 x0, .int .i64 x1, .slice ar x2.length kr, .int .i64 x3] w1.heap.size ∧ TurnS Bk w w9) := Hid.intro (by have h1 := HB3.out.1; have hbx := HY.out.1; have hb1 := h1.2.2.2.2; exact ⟨⟨(h1.1.next hbx).grow H9.out.2 (fun q => by have := (HR9.out _ q.symm).2; omega), (h1.2.1.next hbx).grow H9.out.2 (fun q => by have := (HR9.out _ q.symm).2; omega), (h1.2.2.1.next hbx).grow H9.out.2 (fun q => by have := (HR9.out _ q.symm).2; omega), (h1.2.2.2.1.next hbx).grow H9.out.2 (fun q => by have := (HR9.out _ q.symm).2; omega), hb1⟩, turn_grown HY.out.2.2.2.1 H9.out.2 (fun k q => (HR9.out k q).1)⟩); clear s0 s1 s2 s3 sz t0 t1 t2 tz r0 r1 r2 r3 rz m0 m1 m2 m3 mz rf0 rf1 rf2 rf3; have m0 := HB9.out.1.2.2.2.1.cell 0 rfl; have m1 := HB9.out.1.2.2.2.1.cell 1 rfl; have m2 := HB9.out.1.2.2.2.1.cell 2 rfl; have m3 := HB9.out.1.2.2.2.1.cell 3 rfl; have mz := HB9.out.1.2.2.2.1.2; have mf2 := HB9.out.1.2.2.2.1.frz 2 (by simp)))
  obtain ⟨X, hXe⟩ : ∃ x, x = w9.setCell ⟨w1.heap.size, 2, none⟩ (.slice a9 (x2.length + 1) c9) := ⟨_, rfl⟩
  rw [← hXe]
  have HBX : Hid (SpB w X [.int .i64 ep, .int .i64 du, .slice (some ⟨g, 0, none⟩) ms.length k1, .slice a2 en.length k2] [.int .i64 (1), .int .i64 b, .int .i64 n] [.int .i64 x0, .int .i64 x1, .slice a9 (x2.length + 1) c9, .int .i64 x3] w1.heap.size ∧ TurnS Bk w X ∧ OwnX X lo (.list .int 3) [.slice a9 (x2.length + 1) c9] (x2 ++ [x1]) (fun k => (Value.slice a9 (x2.length + 1) c9).ownBlock = some k) ∧ (∀ k, (Value.slice a9 (x2.length + 1) c9).ownBlock = some k → Bk k ∨ (w3.heap.size + 1 = k ∧ k < X.heap.size)) ∧ w1.heap.size < w3.heap.size) := Hid.intro (by
    have h1 := HB9.out.1
    have h5 : w.heap.size + 1 + 1 < w1.heap.size := h1.2.2.2.2
    have h6 := H9.out.1.tight rfl
    have h7 : w1.heap.size < w3.heap.size := HB3.out.1.2.2.2.1.2
    have h8 : ∀ k, (Value.slice a9 (x2.length + 1) c9).ownBlock = some k → Bk k ∨ (w3.heap.size + 1 = k ∧ k < w9.heap.size) := fun k q => by
      rcases h6.2.2 k q with r | r
      · exact Or.inl r
      · exact Or.inr ⟨by have := HY.out.2.2.2.2; omega, (h6.2.1 k q).2⟩
    refine hXe ▸ ⟨⟨h1.1.other (by omega), h1.2.1.other (by omega), h1.2.2.1.other (by omega), h1.2.2.2.1.set (k := 2) (by simp) _, h5⟩, HB9.out.2.new (turn_set _ ⟨w1.heap.size, 2, none⟩ _) (by show w.heap.size ≤ w1.heap.size; omega), h6.1.set (p := ⟨w1.heap.size, 2, none⟩) (fun q => ?_) _, fun k q => ?_, h7⟩
    · rcases h8 _ q with r | r
      · have h9 : w1.heap.size < w.heap.size := HO.out.2.2.2.2.2 _ (HO.out.2.2.1 _ (HBK.out _ r).1)
        omega
      · have r1 : w3.heap.size + 1 = w1.heap.size := r.1
        omega
    · rw [World.size_setCell]; exact h8 k q)
  clear m0 m1 m2 m3 mz mf2 hXe HB9 H9 HR9 HB3 HY
  obtain ⟨c0, c1, c2, c3⟩ := HCW.out
  have hBg : ¬ Bk g := fun q => (HBK.out g q).2 rfl
  have HBG := Hid.intro hBg
  clear hBg
  have s0 := (HBX.out.1.1).cell 0 rfl; have s1 := (HBX.out.1.1).cell 1 rfl; have s2 := (HBX.out.1.1).cell 2 rfl; have s3 := (HBX.out.1.1).cell 3 rfl; have sz := (HBX.out.1.1).2
  have r0 := (HBX.out.1.2.2.1).cell 0 rfl; have r1 := (HBX.out.1.2.2.1).cell 1 rfl; have r2 := (HBX.out.1.2.2.1).cell 2 rfl; have r3 := (HBX.out.1.2.2.1).cell 3 rfl; have rz := (HBX.out.1.2.2.1).2
  have m0 := (HBX.out.1.2.2.2.1).cell 0 rfl; have m1 := (HBX.out.1.2.2.2.1).cell 1 rfl; have m2 := (HBX.out.1.2.2.2.1).cell 2 rfl; have m3 := (HBX.out.1.2.2.2.1).cell 3 rfl; have mz := (HBX.out.1.2.2.2.1).2
  have rf0 := HBX.out.1.2.2.1.frz 0 (by simp)
  have rf1 := HBX.out.1.2.2.1.frz 1 (by simp)
  have rf2 := HBX.out.1.2.2.1.frz 2 (by simp)
  have rf3 := HBX.out.1.2.2.1.frz 3 (by simp)
  have gc0 := (World.cell?_of_block (a := ⟨g, i * 4, none⟩) (HBX.out.2.1.block hgl HBG.out)).trans c0
  have gf0 := (World.frozen?_of_block (a := ⟨g, i * 4, none⟩) (HBX.out.2.1.block hgl HBG.out)).trans f0
  have gc1 := (World.cell?_of_block (a := ⟨g, i * 4 + 1, none⟩) (HBX.out.2.1.block hgl HBG.out)).trans c1
  have gf1 := (World.frozen?_of_block (a := ⟨g, i * 4 + 1, none⟩) (HBX.out.2.1.block hgl HBG.out)).trans f1
  have gc2 := (World.cell?_of_block (a := ⟨g, i * 4 + 2, none⟩) (HBX.out.2.1.block hgl HBG.out)).trans c2
  have gf2 := (World.frozen?_of_block (a := ⟨g, i * 4 + 2, none⟩) (HBX.out.2.1.block hgl HBG.out)).trans f2
  have gc3 := (World.cell?_of_block (a := ⟨g, i * 4 + 3, none⟩) (HBX.out.2.1.block hgl HBG.out)).trans c3
  have gf3 := (World.frozen?_of_block (a := ⟨g, i * 4 + 3, none⟩) (HBX.out.2.1.block hgl HBG.out)).trans f3
  have hglX : g < X.heap.size := Nat.lt_of_lt_of_le hgl (HBX.out.2.1).size
  go_wp2
  exact bodyPost_ret (v := .tuple #[.agg #[.int .i64 ep, .int .i64 du, .slice (some ⟨g, 0, none⟩) ms.length k1, .slice a2 en.length k2], .bool true]) (by simp [results, Try.results41, go_sem, *]) rfl (fe_tail (T := Bk) (B' := fun k => (Value.slice a9 (x2.length + 1) c9).ownBlock = some k) (E' := S2) HP.out HSG.out HBK.out HO.out.2.2 HBX.out.2.1 (fun k q => Or.inl q) HBX.out.2.2.1 (HO.out.1.turn HBX.out.2.1 (fun k q z => HO.out.2.2.2.2.1 k (HBK.out k z).1 q)) (fun k q => by rcases HBX.out.2.2.2.1 k q with r | r; exact Or.inl r; exact Or.inr ⟨by have := HBX.out.2.2.2.2; have := HBX.out.1.2.2.2.2; omega, r.2, by have := HBX.out.2.2.2.2; have := HBX.out.1.2.2.2.2; omega⟩) (fun k q => Or.inl q) (fun k q z => by rcases HBX.out.2.2.2.1 k q with r | r; exact HO.out.2.2.2.2.1 k (HBK.out k r).1 z; have h1 := HO.out.2.2.2.2.2 k (HO.out.2.2.2.1 k z); have := HBX.out.2.2.2.2; have := HBX.out.1.2.2.2.2; omega) HN.out)

end Go.Proofs.Ytcbdlalpnlahcaa
