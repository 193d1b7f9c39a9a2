/- Put together of: FoDj, FoDa, FoDb, FoG, FoDe, FoE, FoF. -/
import Derived.Test.YtcbdlalpnlahcaaFoC
import Derived.Deep.QuietTactic
import Derived.BigQuiet
import Derived.Deep.DeepCutAuto
import Derived.Shelf.Slices.Delete
/- Fences: steps on an open fence that store a member back: join. Written by tools/mkFoD.py. -/
namespace Go.Proofs.Ytcbdlalpnlahcaa
open Go.RowKit
set_option linter.unusedVariables false
set_option linter.unusedSimpArgs false

set_option maxRecDepth 100000 in
set_option maxHeartbeats 8000000 in
theorem join_n (lo p b : Nat) (ep du : Int) (ms : List (Sh.T shMember)) (en : List (Sh.T .int)) (L : List MbV) (B : Nat → Nat → Prop) (ve : Value) (i : Nat) (n : Int) (W : World) (hX : OpX lo p b W ep du ms en L B ve) (hi : i < ms.length) (hlo : lo ≤ W.heap.size) (hG : goodF ep du ms en) (x0 x1 : Int) (x2 : List (Sh.T .int)) (x3 : Int) (xa : Option Addr) (xc : Nat) (hL : i < L.length) (e1 : L[i] = (x0, x1, (xa, x2.length, xc), x3)) (e2 : ms[i] = mkMb x0 x1 x2 x3) :
    Calls Try.prog 70 #[.pointer (some ⟨p, 0, none⟩), .agg #[.int .i64 x0, .int .i64 x1, .slice xa x2.length xc, .int .i64 x3]] W (StO lo p b (memF ep du ms en 6 n i (mkMb x0 x1 x2 x3)) W) := by
  obtain ⟨va, vc, hv⟩ := hX.2.2.2.1.vform
  have hv : ve = .slice va (List.length (α := Sh.T .int) en) vc := hv
  subst hv
  have hm := (hG.2.2.2.2.1 i hi hi).1
  rw [e2] at hm
  have hm : (0 ≤ x0 ∧ x0 ≤ 99) ∧ (du + 1 ≤ x1 ∧ x1 ≤ ep) ∧ x2.length ≤ 20 ∧ (du ≤ x3 ∧ x3 ≤ ep - 1) ∧ runP x3 x1 x2 x2.length ∧ x3 < x1 := hm
  obtain ⟨hm1, hm2, hm3, hm4, hm5, hm6⟩ := hm
  obtain ⟨hk1, hk2, hk3⟩ := hX.first hG.2.2.2.2.1 hi
  rw [e2] at hk2 hk3
  have HK : Hid (∃ hj : i < (L.map mbV).length, (L.map mbV)[i].1 = x0 ∧ ∀ z (hz : z < (L.map mbV).length), z < i → (L.map mbV)[z].1 ≠ x0) := ⟨hk1, hk2, hk3⟩
  have hep := hG.1
  have hdu := hG.2.1
  have htt := hG.2.2.2.1
  rw [runT_eq] at htt
  have hen : en.length ≤ 200 := by omega
  have HRU := Hid.intro (hX.2.2.1.id hL hi).2.2.2.2
  rw [e1, e2] at HRU
  have HRU : Hid (OwnX W lo (.list .int 3) [.slice xa x2.length xc] x2 (B i)) := HRU
  obtain ⟨W1, hW1⟩ : ∃ x, x = W.alloc (.cells #[.int .i64 x0, .int .i64 x1, .slice xa x2.length xc, .int .i64 x3] 37) := ⟨_, rfl⟩
  have HM : Hid (MidX lo p b W.heap.size W ep du ms en L B (Value.slice va en.length vc) i W1 (Value.slice va en.length vc) en (x0, x1, (xa, x2.length, xc), x3) (mkMb x0 x1 x2 x3)) := Hid.intro (hW1 ▸ MidX.start hX hi hlo hL e1 e2)
  have HRP := Hid.intro hm5
  have HRT := Hid.intro (runT_set ms i hi (mkMb x0 x1 [] x3))
  rw [e2] at HRT
  clear hX hG e1 e2 hk2 hk3 hk1 hm5
  have s0 := (HM.out.2.2.2.1).cell 0 rfl; have s1 := (HM.out.2.2.2.1).cell 1 rfl; have s2 := (HM.out.2.2.2.1).cell 2 rfl; have s3 := (HM.out.2.2.2.1).cell 3 rfl; have sz := (HM.out.2.2.2.1).2
  have m0 := (HM.out.2.2.2.2.1).cell 0 rfl; have m1 := (HM.out.2.2.2.2.1).cell 1 rfl; have m2 := (HM.out.2.2.2.2.1).cell 2 rfl; have m3 := (HM.out.2.2.2.2.1).cell 3 rfl; have mz := (HM.out.2.2.2.2.1).2
  have hzlo : lo ≤ W.heap.size := hlo
  go_enter Try.func70, Try.ntmps70
  go_upto_region 1 with fail
  rw [← hW1]
  clear hW1
  by_cases hq : x1 = ep
  · have HN : Hid (memF ep du ms en 6 n i (mkMb x0 x1 x2 x3) = none) := Hid.intro (memF6_no hq)
    have hq := hq.symm
    subst hq
    go_quiet (fail)
    go_wp2
    go_ret
    exact StO.no HN.out (HM.out.below.trans ⟨rfl, rfl, rfl, Nat.le_refl _, fun _ _ => rfl⟩)
  have HN : Hid (memF ep du ms en 6 n i (mkMb x0 x1 x2 x3) = some (mkFe ep du (ms.set i (mkMb x0 ep x2 x3)) en)) := Hid.intro (memF6_yes hq)
  have hqb : (x1 == ep) = false := beq_false_of_ne hq
  have hqd : decide (x1 = ep) = false := decide_eq_false hq
  have mf1 := HM.out.2.2.2.2.1.frz 1 (by simp)
  have hpz : ¬ p = W.heap.size := fun q => HM.out.zs.1 q.symm
  go_quiet (fail)
  go_upto_region 4 with fail
  obtain ⟨X, hXe⟩ : ∃ x, x = (W1.drewN nq).setCell ⟨W.heap.size, 1, none⟩ (.int .i64 ep) := ⟨_, rfl⟩
  rw [← hXe]
  have HX : Hid (MidX lo p b W.heap.size W ep du ms en L B (Value.slice va en.length vc) i X.drew (Value.slice va en.length vc) en (x0, ep, (xa, x2.length, xc), x3) (mkMb x0 ep x2 x3)) := Hid.intro (by
    have hbN : Below W1.heap.size W1 (W1.drewN nq) := ⟨rfl, rfl, rfl, Nat.le_refl _, fun _ _ => rfl⟩
    exact (hXe ▸ (HM.out.next hbN).set1 ep : MidX lo p b W.heap.size W ep du ms en L B (Value.slice va en.length vc) i X (Value.slice va en.length vc) en (x0, ep, (xa, x2.length, xc), x3) (mkMb x0 ep x2 x3)).next (below_drew _))
  clear hXe HM s0 s1 s2 s3 sz m0 m1 m2 m3 mz mf1 hq hqb hqd hpz
  refine wp_region_noPanic ?_
  refine wp_region_held_drew (S := fun W9 => Bx W9 p [.int .i64 ep, .int .i64 du, .map (some b), .slice va en.length vc] ∧ Bx W9 W.heap.size [.int .i64 x0, .int .i64 ep, .slice xa x2.length xc, .int .i64 x3]) (by kernel_rfl) ⟨HX.out.2.2.2.1, HX.out.2.2.2.2.1⟩ (fun hHeld => ?_)
  obtain ⟨Y0, hWE⟩ : ∃ x, x = X.drew := ⟨_, rfl⟩
  rw [← hWE] at HX hHeld ⊢
  clear hWE
  refine take_v (v := ?_) 0 ⟨some 17, Op.move (Operand.tmp 0), _, _, _, none⟩ rfl (fun _ _ _ h => h) ?_ hHeld ?_
  rotate_left
  · (intro W _; go_simp <;> (try with_reducible rfl))
  refine take_v (v := ?_) 1 ⟨some 18, Op.nilCheck (Operand.tmp 17), _, _, _, none⟩ rfl (fun _ _ _ h => h) ?_ hHeld ?_
  rotate_left
  · (intro W _; go_simp <;> (try with_reducible rfl))
  refine take_v (v := ?_) 2 ⟨some 19, Op.fieldAddr 91 (Operand.tmp 18) 2, _, _, _, none⟩ rfl (fun _ _ _ h => h) ?_ hHeld ?_
  rotate_left
  · (intro W _; go_simp <;> (try with_reducible rfl))
  refine take_v (v := ?_) 3 ⟨some 20, Op.load 89 (Operand.tmp 19), _, _, _, none⟩ rfl (fun _ _ _ h => h) ?_ hHeld ?_
  rotate_left
  · (intro W hSW; (have s2 := hSW.1.cell 2 rfl; have sz := hSW.1.2; have m0 := hSW.2.cell 0 rfl; have m1 := hSW.2.cell 1 rfl; have m2 := hSW.2.cell 2 rfl; have m3 := hSW.2.cell 3 rfl; have mz := hSW.2.2); go_simp <;> (try with_reducible rfl))
  refine take_v (v := ?_) 4 ⟨some 21, Op.fieldAddr 37 (Operand.tmp 3) 0, _, _, _, none⟩ rfl (fun _ _ _ h => h) ?_ hHeld ?_
  rotate_left
  · (intro W _; go_simp <;> (try with_reducible rfl))
  refine take_v (v := ?_) 5 ⟨some 22, Op.load 3 (Operand.tmp 21), _, _, _, none⟩ rfl (fun _ _ _ h => h) ?_ hHeld ?_
  rotate_left
  · (intro W hSW; (have s2 := hSW.1.cell 2 rfl; have sz := hSW.1.2; have m0 := hSW.2.cell 0 rfl; have m1 := hSW.2.cell 1 rfl; have m2 := hSW.2.cell 2 rfl; have m3 := hSW.2.cell 3 rfl; have mz := hSW.2.2); go_simp <;> (try with_reducible rfl))
  refine take_v (v := ?_) 6 ⟨some 23, Op.load 37 (Operand.tmp 3), _, _, _, none⟩ rfl (fun _ _ _ h => h) ?_ hHeld ?_
  rotate_left
  · (intro W hSW; (have s2 := hSW.1.cell 2 rfl; have sz := hSW.1.2; have m0 := hSW.2.cell 0 rfl; have m1 := hSW.2.cell 1 rfl; have m2 := hSW.2.cell 2 rfl; have m3 := hSW.2.cell 3 rfl; have mz := hSW.2.2); go_simp <;> (try with_reducible rfl))
  refine ready_call 7 ⟨none, Op.mapUpdate 89 (Operand.tmp 20) (Operand.tmp 22) (Operand.tmp 23), _, _, _, none⟩ (by kernel_rfl) rfl (by kernel_rfl) (fun KC hK => ?_)
  obtain ⟨hk1, hk2, hk3⟩ := HK.out
  refine wp_store_old (.tmp 20) (.tmp 22) (.tmp 23) (by rfl) Try.underlying89 Try.underlying3 HX.out.2.2.2.2.2.2.1 (by rfl) (by rfl) (by rfl) hk1 hk2 hk3 ?_
  intro Y1 hmp hg hz
  have HF := Hid.intro (HX.out.fin hg hmp)
  clear hmp hg hz hk1 hk2 hk3
  refine hK.out _ _ ⟨HF.out.2.1, HF.out.2.2.1⟩ (fun hHeld => ?_)
  clear hK KC
  refine wpAnyH_done (by kernel_rfl) ?_ _
  refine NoPanic.normal ?_
  clear hHeld
  go_wp2_with fail
  go_ret
  exact StO.yes HN.out HF.out.2.2.2 (by obtain ⟨B9, h9⟩ := HF.out.1; exact ⟨_, B9, _, h9⟩)

end Go.Proofs.Ytcbdlalpnlahcaa
/- Fences: steps on an open fence that store a member back: ack. Written by tools/mkFoD.py. -/
namespace Go.Proofs.Ytcbdlalpnlahcaa
open Go.RowKit
set_option linter.unusedVariables false
set_option linter.unusedSimpArgs false

set_option maxRecDepth 100000 in
set_option maxHeartbeats 8000000 in
theorem ack_n (lo p b : Nat) (ep du : Int) (ms : List (Sh.T shMember)) (en : List (Sh.T .int)) (L : List MbV) (B : Nat → Nat → Prop) (ve : Value) (i : Nat) (n : Int) (W : World) (hX : OpX lo p b W ep du ms en L B ve) (hi : i < ms.length) (hlo : lo ≤ W.heap.size) (hG : goodF ep du ms en) (x0 x1 : Int) (x2 : List (Sh.T .int)) (x3 : Int) (xa : Option Addr) (xc : Nat) (hL : i < L.length) (e1 : L[i] = (x0, x1, (xa, x2.length, xc), x3)) (e2 : ms[i] = mkMb x0 x1 x2 x3) :
    Calls Try.prog 68 #[.pointer (some ⟨p, 0, none⟩), .agg #[.int .i64 x0, .int .i64 x1, .slice xa x2.length xc, .int .i64 x3]] W (StO lo p b (memF ep du ms en 3 n i (mkMb x0 x1 x2 x3)) W) := by
  obtain ⟨va, vc, hv⟩ := hX.2.2.2.1.vform
  have hv : ve = .slice va (List.length (α := Sh.T .int) en) vc := hv
  subst hv
  have hm := (hG.2.2.2.2.1 i hi hi).1
  rw [e2] at hm
  have hm : (0 ≤ x0 ∧ x0 ≤ 99) ∧ (du + 1 ≤ x1 ∧ x1 ≤ ep) ∧ x2.length ≤ 20 ∧ (du ≤ x3 ∧ x3 ≤ ep - 1) ∧ runP x3 x1 x2 x2.length ∧ x3 < x1 := hm
  obtain ⟨hm1, hm2, hm3, hm4, hm5, hm6⟩ := hm
  obtain ⟨hk1, hk2, hk3⟩ := hX.first hG.2.2.2.2.1 hi
  rw [e2] at hk2 hk3
  have HK : Hid (∃ hj : i < (L.map mbV).length, (L.map mbV)[i].1 = x0 ∧ ∀ z (hz : z < (L.map mbV).length), z < i → (L.map mbV)[z].1 ≠ x0) := ⟨hk1, hk2, hk3⟩
  have hep := hG.1
  have hdu := hG.2.1
  have htt := hG.2.2.2.1
  rw [runT_eq] at htt
  have hen : en.length ≤ 200 := by omega
  have HRU := Hid.intro (hX.2.2.1.id hL hi).2.2.2.2
  rw [e1, e2] at HRU
  have HRU : Hid (OwnX W lo (.list .int 3) [.slice xa x2.length xc] x2 (B i)) := HRU
  obtain ⟨W1, hW1⟩ : ∃ x, x = W.alloc (.cells #[.int .i64 x0, .int .i64 x1, .slice xa x2.length xc, .int .i64 x3] 37) := ⟨_, rfl⟩
  have HM : Hid (MidX lo p b W.heap.size W ep du ms en L B (Value.slice va en.length vc) i W1 (Value.slice va en.length vc) en (x0, x1, (xa, x2.length, xc), x3) (mkMb x0 x1 x2 x3)) := Hid.intro (hW1 ▸ MidX.start hX hi hlo hL e1 e2)
  have HRP := Hid.intro hm5
  have HRT := Hid.intro (runT_set ms i hi (mkMb x0 x1 [] x3))
  rw [e2] at HRT
  clear hX hG e1 e2 hk2 hk3 hk1 hm5
  have s0 := (HM.out.2.2.2.1).cell 0 rfl; have s1 := (HM.out.2.2.2.1).cell 1 rfl; have s2 := (HM.out.2.2.2.1).cell 2 rfl; have s3 := (HM.out.2.2.2.1).cell 3 rfl; have sz := (HM.out.2.2.2.1).2
  have m0 := (HM.out.2.2.2.2.1).cell 0 rfl; have m1 := (HM.out.2.2.2.2.1).cell 1 rfl; have m2 := (HM.out.2.2.2.2.1).cell 2 rfl; have m3 := (HM.out.2.2.2.2.1).cell 3 rfl; have mz := (HM.out.2.2.2.2.1).2
  have hzlo : lo ≤ W.heap.size := hlo
  go_enter Try.func68, Try.ntmps68
  go_upto_region 1 with fail
  rw [← hW1]
  clear hW1
  have hepw : IntKind.i64.wrap (ep - 1) = ep - 1 := w64f (by omega) (by omega)
  have hpz : ¬ p = W.heap.size := fun q => HM.out.zs.1 q.symm
  by_cases hq : x1 = ep
  case neg =>
    have HN : Hid (memF ep du ms en 3 n i (mkMb x0 x1 x2 x3) = none) := Hid.intro (memF3_no (Or.inl hq))
    have hqb : (x1 == ep) = false := beq_false_of_ne hq
    have hd1 : decide (x1 = ep) = false := decide_eq_false hq
    have hd2 : (x1 != ep) = true := bne_iff_ne.2 hq
    have hd3 : decide (x1 ≠ ep) = true := decide_eq_true hq
    go_upto_region 2 with fail
    go_quiet (fail)
    go_wp2
    go_ret
    exact StO.no HN.out (HM.out.below.trans ⟨rfl, rfl, rfl, Nat.le_refl _, fun _ _ => rfl⟩)
  by_cases hq2 : x3 = ep - 1
  · have HN : Hid (memF ep du ms en 3 n i (mkMb x0 x1 x2 x3) = none) := Hid.intro (memF3_no (Or.inr (Or.inl hq2)))
    have hq := hq.symm
    subst hq hq2
    go_upto_region 2 with fail
    go_quiet (fail)
    go_wp2
    go_ret
    exact StO.no HN.out (HM.out.below.trans ⟨rfl, rfl, rfl, Nat.le_refl _, fun _ _ => rfl⟩)
  have hq2b : (x3 == ep - 1) = false := beq_false_of_ne hq2
  have hq2d : decide (x3 = ep - 1) = false := decide_eq_false hq2
  by_cases hq3 : 0 < x2.length
  · have HLR : Hid (Lies W1 (.list .int) [.slice xa x2.length xc] x2) := Hid.intro (by
      obtain ⟨B', h8, _⟩ := HM.out.2.2.2.2.2.2.2.1
      obtain ⟨v1, S1, hc, h13, _⟩ := ownx_Member (x0 := x0) (x1 := x1) (x2 := x2) (x3 := x3) h8
      have hc : v1 = .slice xa x2.length xc := by
        unfold Try.encMb at hc
        simp only [List.cons.injEq, and_true, true_and] at hc
        exact hc.symm
      subst hc
      exact h13.lies)
    obtain ⟨gr, og, har, hcr, hgr⟩ := lies_at HLR.out hq3
    subst har
    have hcr : W1.cell? ⟨gr, og, none⟩ = some (.int .i64 (atI x2 0)) := hcr
    obtain ⟨y, hy⟩ : ∃ y : Int, y = atI x2 0 := ⟨_, rfl⟩
    have HY := Hid.intro hy
    rw [← hy] at hcr
    clear hy
    have hq3' : (0 : Int) < (x2.length : Int) := by omega
    by_cases hq4 : y ≤ ep - 1
    · have HN : Hid (memF ep du ms en 3 n i (mkMb x0 x1 x2 x3) = none) := Hid.intro (memF3_no (Or.inr (Or.inr ⟨hq3, by rw [← HY.out]; exact hq4⟩)))
      have hq := hq.symm
      subst hq
      go_upto_region 2 with fail
      go_quiet (fail)
      go_wp2
      go_ret
      exact StO.no HN.out (HM.out.below.trans ⟨rfl, rfl, rfl, Nat.le_refl _, fun _ _ => rfl⟩)
    · have HN : Hid (memF ep du ms en 3 n i (mkMb x0 x1 x2 x3) = some (mkFe ep du (ms.set i (mkMb x0 x1 x2 (ep - 1))) en)) := Hid.intro (memF3_yes (fun q => by
        rcases q with q | q | q
        · exact q hq
        · exact hq2 q
        · exact hq4 (by rw [HY.out]; exact q.2)))
      have hq := hq.symm
      subst hq
      have mf3 := HM.out.2.2.2.2.1.frz 3 (by simp)
      go_upto_region 2 with fail
      go_quiet (fail)
      go_upto_region 7 with fail
      obtain ⟨X, hXe⟩ : ∃ x, x = (W1.drewN nq).setCell ⟨W.heap.size, 3, none⟩ (.int .i64 (ep - 1)) := ⟨_, rfl⟩
      rw [← hXe]
      have HX : Hid (MidX lo p b W.heap.size W ep du ms en L B (Value.slice va en.length vc) i X.drew (Value.slice va en.length vc) en (x0, ep, (some ⟨gr, og, none⟩, x2.length, xc), (ep - 1)) (mkMb x0 ep x2 (ep - 1))) := Hid.intro (by
        have hbN : Below W1.heap.size W1 (W1.drewN nq) := ⟨rfl, rfl, rfl, Nat.le_refl _, fun _ _ => rfl⟩
        exact (hXe ▸ (HM.out.next hbN).set3 (ep - 1) : MidX lo p b W.heap.size W ep du ms en L B (Value.slice va en.length vc) i X (Value.slice va en.length vc) en (x0, ep, (some ⟨gr, og, none⟩, x2.length, xc), (ep - 1)) (mkMb x0 ep x2 (ep - 1))).next (below_drew _))
      clear hXe HM s0 s1 s2 s3 sz m0 m1 m2 m3 mz mf3 hq2b hq2d hpz hcr hgr hq4
      refine wp_region_noPanic ?_
      refine wp_region_held_drew (S := fun W9 => Bx W9 p [.int .i64 ep, .int .i64 du, .map (some b), .slice va en.length vc] ∧ Bx W9 W.heap.size [.int .i64 x0, .int .i64 ep, .slice (some ⟨gr, og, none⟩) x2.length xc, .int .i64 (ep - 1)]) (by kernel_rfl) ⟨HX.out.2.2.2.1, HX.out.2.2.2.2.1⟩ (fun hHeld => ?_)
      obtain ⟨Y0, hWE⟩ : ∃ x, x = X.drew := ⟨_, rfl⟩
      rw [← hWE] at HX hHeld ⊢
      clear hWE
      refine take_v (v := ?_) 0 ⟨some 38, Op.move (Operand.tmp 0), _, _, _, none⟩ rfl (fun _ _ _ h => h) ?_ hHeld ?_
      rotate_left
      · (intro W _; go_simp <;> (try with_reducible rfl))
      refine take_v (v := ?_) 1 ⟨some 39, Op.nilCheck (Operand.tmp 38), _, _, _, none⟩ rfl (fun _ _ _ h => h) ?_ hHeld ?_
      rotate_left
      · (intro W _; go_simp <;> (try with_reducible rfl))
      refine take_v (v := ?_) 2 ⟨some 40, Op.fieldAddr 91 (Operand.tmp 39) 2, _, _, _, none⟩ rfl (fun _ _ _ h => h) ?_ hHeld ?_
      rotate_left
      · (intro W _; go_simp <;> (try with_reducible rfl))
      refine take_v (v := ?_) 3 ⟨some 41, Op.load 89 (Operand.tmp 40), _, _, _, none⟩ rfl (fun _ _ _ h => h) ?_ hHeld ?_
      rotate_left
      · (intro W hSW; (have s2 := hSW.1.cell 2 rfl; have sz := hSW.1.2; have m0 := hSW.2.cell 0 rfl; have m1 := hSW.2.cell 1 rfl; have m2 := hSW.2.cell 2 rfl; have m3 := hSW.2.cell 3 rfl; have mz := hSW.2.2); go_simp <;> (try with_reducible rfl))
      refine take_v (v := ?_) 4 ⟨some 42, Op.fieldAddr 37 (Operand.tmp 3) 0, _, _, _, none⟩ rfl (fun _ _ _ h => h) ?_ hHeld ?_
      rotate_left
      · (intro W _; go_simp <;> (try with_reducible rfl))
      refine take_v (v := ?_) 5 ⟨some 43, Op.load 3 (Operand.tmp 42), _, _, _, none⟩ rfl (fun _ _ _ h => h) ?_ hHeld ?_
      rotate_left
      · (intro W hSW; (have s2 := hSW.1.cell 2 rfl; have sz := hSW.1.2; have m0 := hSW.2.cell 0 rfl; have m1 := hSW.2.cell 1 rfl; have m2 := hSW.2.cell 2 rfl; have m3 := hSW.2.cell 3 rfl; have mz := hSW.2.2); go_simp <;> (try with_reducible rfl))
      refine take_v (v := ?_) 6 ⟨some 44, Op.load 37 (Operand.tmp 3), _, _, _, none⟩ rfl (fun _ _ _ h => h) ?_ hHeld ?_
      rotate_left
      · (intro W hSW; (have s2 := hSW.1.cell 2 rfl; have sz := hSW.1.2; have m0 := hSW.2.cell 0 rfl; have m1 := hSW.2.cell 1 rfl; have m2 := hSW.2.cell 2 rfl; have m3 := hSW.2.cell 3 rfl; have mz := hSW.2.2); go_simp <;> (try with_reducible rfl))
      refine ready_call 7 ⟨none, Op.mapUpdate 89 (Operand.tmp 41) (Operand.tmp 43) (Operand.tmp 44), _, _, _, none⟩ (by kernel_rfl) rfl (by kernel_rfl) (fun KC hK => ?_)
      obtain ⟨hk1, hk2, hk3⟩ := HK.out
      refine wp_store_old (.tmp 41) (.tmp 43) (.tmp 44) (by rfl) Try.underlying89 Try.underlying3 HX.out.2.2.2.2.2.2.1 (by rfl) (by rfl) (by rfl) hk1 hk2 hk3 ?_
      intro Y1 hmp hg hz
      have HF := Hid.intro (HX.out.fin hg hmp)
      clear hmp hg hz hk1 hk2 hk3
      refine hK.out _ _ ⟨HF.out.2.1, HF.out.2.2.1⟩ (fun hHeld => ?_)
      clear hK KC
      refine wpAnyH_done (by kernel_rfl) ?_ _
      refine NoPanic.normal ?_
      clear hHeld
      go_wp2_with fail
      go_ret
      exact StO.yes HN.out HF.out.2.2.2 (by obtain ⟨B9, h9⟩ := HF.out.1; exact ⟨_, B9, _, h9⟩)
  · have HN : Hid (memF ep du ms en 3 n i (mkMb x0 x1 x2 x3) = some (mkFe ep du (ms.set i (mkMb x0 x1 x2 (ep - 1))) en)) := Hid.intro (memF3_yes (fun q => by
      rcases q with q | q | q
      · exact q hq
      · exact hq2 q
      · exact hq3 q.1))
    have hq3' : ¬ (0 : Int) < (x2.length : Int) := by omega
    have hq := hq.symm
    subst hq
    have mf3 := HM.out.2.2.2.2.1.frz 3 (by simp)
    go_upto_region 2 with fail
    go_quiet (fail)
    go_upto_region 7 with fail
    obtain ⟨X, hXe⟩ : ∃ x, x = (W1.drewN nq).setCell ⟨W.heap.size, 3, none⟩ (.int .i64 (ep - 1)) := ⟨_, rfl⟩
    rw [← hXe]
    have HX : Hid (MidX lo p b W.heap.size W ep du ms en L B (Value.slice va en.length vc) i X.drew (Value.slice va en.length vc) en (x0, ep, (xa, x2.length, xc), (ep - 1)) (mkMb x0 ep x2 (ep - 1))) := Hid.intro (by
      have hbN : Below W1.heap.size W1 (W1.drewN nq) := ⟨rfl, rfl, rfl, Nat.le_refl _, fun _ _ => rfl⟩
      exact (hXe ▸ (HM.out.next hbN).set3 (ep - 1) : MidX lo p b W.heap.size W ep du ms en L B (Value.slice va en.length vc) i X (Value.slice va en.length vc) en (x0, ep, (xa, x2.length, xc), (ep - 1)) (mkMb x0 ep x2 (ep - 1))).next (below_drew _))
    clear hXe HM s0 s1 s2 s3 sz m0 m1 m2 m3 mz mf3 hq2b hq2d hpz 
    refine wp_region_noPanic ?_
    refine wp_region_held_drew (S := fun W9 => Bx W9 p [.int .i64 ep, .int .i64 du, .map (some b), .slice va en.length vc] ∧ Bx W9 W.heap.size [.int .i64 x0, .int .i64 ep, .slice (xa) x2.length xc, .int .i64 (ep - 1)]) (by kernel_rfl) ⟨HX.out.2.2.2.1, HX.out.2.2.2.2.1⟩ (fun hHeld => ?_)
    obtain ⟨Y0, hWE⟩ : ∃ x, x = X.drew := ⟨_, rfl⟩
    rw [← hWE] at HX hHeld ⊢
    clear hWE
    refine take_v (v := ?_) 0 ⟨some 38, Op.move (Operand.tmp 0), _, _, _, none⟩ rfl (fun _ _ _ h => h) ?_ hHeld ?_
    rotate_left
    · (intro W _; go_simp <;> (try with_reducible rfl))
    refine take_v (v := ?_) 1 ⟨some 39, Op.nilCheck (Operand.tmp 38), _, _, _, none⟩ rfl (fun _ _ _ h => h) ?_ hHeld ?_
    rotate_left
    · (intro W _; go_simp <;> (try with_reducible rfl))
    refine take_v (v := ?_) 2 ⟨some 40, Op.fieldAddr 91 (Operand.tmp 39) 2, _, _, _, none⟩ rfl (fun _ _ _ h => h) ?_ hHeld ?_
    rotate_left
    · (intro W _; go_simp <;> (try with_reducible rfl))
    refine take_v (v := ?_) 3 ⟨some 41, Op.load 89 (Operand.tmp 40), _, _, _, none⟩ rfl (fun _ _ _ h => h) ?_ hHeld ?_
    rotate_left
    · (intro W hSW; (have s2 := hSW.1.cell 2 rfl; have sz := hSW.1.2; have m0 := hSW.2.cell 0 rfl; have m1 := hSW.2.cell 1 rfl; have m2 := hSW.2.cell 2 rfl; have m3 := hSW.2.cell 3 rfl; have mz := hSW.2.2); go_simp <;> (try with_reducible rfl))
    refine take_v (v := ?_) 4 ⟨some 42, Op.fieldAddr 37 (Operand.tmp 3) 0, _, _, _, none⟩ rfl (fun _ _ _ h => h) ?_ hHeld ?_
    rotate_left
    · (intro W _; go_simp <;> (try with_reducible rfl))
    refine take_v (v := ?_) 5 ⟨some 43, Op.load 3 (Operand.tmp 42), _, _, _, none⟩ rfl (fun _ _ _ h => h) ?_ hHeld ?_
    rotate_left
    · (intro W hSW; (have s2 := hSW.1.cell 2 rfl; have sz := hSW.1.2; have m0 := hSW.2.cell 0 rfl; have m1 := hSW.2.cell 1 rfl; have m2 := hSW.2.cell 2 rfl; have m3 := hSW.2.cell 3 rfl; have mz := hSW.2.2); go_simp <;> (try with_reducible rfl))
    refine take_v (v := ?_) 6 ⟨some 44, Op.load 37 (Operand.tmp 3), _, _, _, none⟩ rfl (fun _ _ _ h => h) ?_ hHeld ?_
    rotate_left
    · (intro W hSW; (have s2 := hSW.1.cell 2 rfl; have sz := hSW.1.2; have m0 := hSW.2.cell 0 rfl; have m1 := hSW.2.cell 1 rfl; have m2 := hSW.2.cell 2 rfl; have m3 := hSW.2.cell 3 rfl; have mz := hSW.2.2); go_simp <;> (try with_reducible rfl))
    refine ready_call 7 ⟨none, Op.mapUpdate 89 (Operand.tmp 41) (Operand.tmp 43) (Operand.tmp 44), _, _, _, none⟩ (by kernel_rfl) rfl (by kernel_rfl) (fun KC hK => ?_)
    obtain ⟨hk1, hk2, hk3⟩ := HK.out
    refine wp_store_old (.tmp 41) (.tmp 43) (.tmp 44) (by rfl) Try.underlying89 Try.underlying3 HX.out.2.2.2.2.2.2.1 (by rfl) (by rfl) (by rfl) hk1 hk2 hk3 ?_
    intro Y1 hmp hg hz
    have HF := Hid.intro (HX.out.fin hg hmp)
    clear hmp hg hz hk1 hk2 hk3
    refine hK.out _ _ ⟨HF.out.2.1, HF.out.2.2.1⟩ (fun hHeld => ?_)
    clear hK KC
    refine wpAnyH_done (by kernel_rfl) ?_ _
    refine NoPanic.normal ?_
    clear hHeld
    go_wp2_with fail
    go_ret
    exact StO.yes HN.out HF.out.2.2.2 (by obtain ⟨B9, h9⟩ := HF.out.1; exact ⟨_, B9, _, h9⟩)

end Go.Proofs.Ytcbdlalpnlahcaa
/- Fences: steps on an open fence that store a member back: begin. Written by tools/mkFoD.py. -/
namespace Go.Proofs.Ytcbdlalpnlahcaa
open Go.RowKit
set_option linter.unusedVariables false
set_option linter.unusedSimpArgs false

set_option maxRecDepth 100000 in
set_option maxHeartbeats 8000000 in
theorem begin_n (lo p b : Nat) (ep du : Int) (ms : List (Sh.T shMember)) (en : List (Sh.T .int)) (L : List MbV) (B : Nat → Nat → Prop) (ve : Value) (i : Nat) (n : Int) (W : World) (hX : OpX lo p b W ep du ms en L B ve) (hi : i < ms.length) (hlo : lo ≤ W.heap.size) (hG : goodF ep du ms en) (htot : en.length + runT ms < 200) (x0 x1 : Int) (x2 : List (Sh.T .int)) (x3 : Int) (xa : Option Addr) (xc : Nat) (hL : i < L.length) (e1 : L[i] = (x0, x1, (xa, x2.length, xc), x3)) (e2 : ms[i] = mkMb x0 x1 x2 x3) :
    Calls Try.prog 66 #[.pointer (some ⟨p, 0, none⟩), .agg #[.int .i64 x0, .int .i64 x1, .slice xa x2.length xc, .int .i64 x3]] W (StO lo p b (memF ep du ms en 1 n i (mkMb x0 x1 x2 x3)) W) := by
  obtain ⟨va, vc, hv⟩ := hX.2.2.2.1.vform
  have hv : ve = .slice va (List.length (α := Sh.T .int) en) vc := hv
  subst hv
  have hm := (hG.2.2.2.2.1 i hi hi).1
  rw [e2] at hm
  have hm : (0 ≤ x0 ∧ x0 ≤ 99) ∧ (du + 1 ≤ x1 ∧ x1 ≤ ep) ∧ x2.length ≤ 20 ∧ (du ≤ x3 ∧ x3 ≤ ep - 1) ∧ runP x3 x1 x2 x2.length ∧ x3 < x1 := hm
  obtain ⟨hm1, hm2, hm3, hm4, hm5, hm6⟩ := hm
  obtain ⟨hk1, hk2, hk3⟩ := hX.first hG.2.2.2.2.1 hi
  rw [e2] at hk2 hk3
  have HK : Hid (∃ hj : i < (L.map mbV).length, (L.map mbV)[i].1 = x0 ∧ ∀ z (hz : z < (L.map mbV).length), z < i → (L.map mbV)[z].1 ≠ x0) := ⟨hk1, hk2, hk3⟩
  have hep := hG.1
  have hdu := hG.2.1
  have htt := hG.2.2.2.1
  rw [runT_eq] at htt
  have hen : en.length ≤ 200 := by omega
  have HRU := Hid.intro (hX.2.2.1.id hL hi).2.2.2.2
  rw [e1, e2] at HRU
  have HRU : Hid (OwnX W lo (.list .int 3) [.slice xa x2.length xc] x2 (B i)) := HRU
  obtain ⟨W1, hW1⟩ : ∃ x, x = W.alloc (.cells #[.int .i64 x0, .int .i64 x1, .slice xa x2.length xc, .int .i64 x3] 37) := ⟨_, rfl⟩
  have HM : Hid (MidX lo p b W.heap.size W ep du ms en L B (Value.slice va en.length vc) i W1 (Value.slice va en.length vc) en (x0, x1, (xa, x2.length, xc), x3) (mkMb x0 x1 x2 x3)) := Hid.intro (hW1 ▸ MidX.start hX hi hlo hL e1 e2)
  have HRP := Hid.intro hm5
  have HRT := Hid.intro (runT_set ms i hi (mkMb x0 x1 [] x3))
  rw [e2] at HRT
  clear hX hG e1 e2 hk2 hk3 hk1 hm5
  have s0 := (HM.out.2.2.2.1).cell 0 rfl; have s1 := (HM.out.2.2.2.1).cell 1 rfl; have s2 := (HM.out.2.2.2.1).cell 2 rfl; have s3 := (HM.out.2.2.2.1).cell 3 rfl; have sz := (HM.out.2.2.2.1).2
  have m0 := (HM.out.2.2.2.2.1).cell 0 rfl; have m1 := (HM.out.2.2.2.2.1).cell 1 rfl; have m2 := (HM.out.2.2.2.2.1).cell 2 rfl; have m3 := (HM.out.2.2.2.2.1).cell 3 rfl; have mz := (HM.out.2.2.2.2.1).2
  have hzlo : lo ≤ W.heap.size := hlo
  go_enter Try.func66, Try.ntmps66
  go_upto_region 1 with fail
  rw [← hW1]
  clear hW1
  have hlw : IntKind.i64.wrap ((x2.length : Int) + 1) = (x2.length : Int) + 1 := w64f (by omega) (by omega)
  have hlw2 : IntKind.i64.wrap ((x2.length : Int) + 1 + (en.length : Int)) = (x2.length : Int) + 1 + (en.length : Int) := w64f (by omega) (by omega)
  have hpz : ¬ p = W.heap.size := fun q => HM.out.zs.1 q.symm
  by_cases hq : x2.length = 20
  · have HN : Hid (memF ep du ms en 1 n i (mkMb x0 x1 x2 x3) = none) := Hid.intro (memF1_no (Or.inl hq))
    have hq' : (20 : Int) < (x2.length : Int) + 1 := by omega
    clear hq
    go_wp2
    go_ret
    exact StO.no HN.out HM.out.below
  have hq' : ¬ (20 : Int) < (x2.length : Int) + 1 := by omega
  have hq2 : ¬ (200 : Int) < (x2.length : Int) + 1 + (en.length : Int) := by
    have h1 : runT (ms.set i (mkMb x0 x1 [] x3)) + x2.length = runT ms + 0 := HRT.out
    omega
  have HN : Hid (memF ep du ms en 1 n i (mkMb x0 x1 x2 x3) = some (mkFe ep du (ms.set i (mkMb x0 x1 (x2 ++ [x1]) x3)) en)) := Hid.intro (memF1_yes (fun q => by
    rcases q with q | q
    · exact hq q
    · omega))
  obtain ⟨i1, hi1, hy0, hy1, hy2⟩ := info_parts inf_int
  have HY : Hid (MidX lo p b W.heap.size W ep du ms en L B (Value.slice va en.length vc) i (W1.alloc (.cells #[.int .i64 x1] 3)) (Value.slice va en.length vc) en (x0, x1, (xa, x2.length, xc), x3) (mkMb x0 x1 x2 x3) ∧ OwnX (W1.alloc (.cells #[.int .i64 x1] 3)) lo (.list .int 3) [.slice xa x2.length xc] x2 (fun k => (Value.slice xa x2.length xc).ownBlock = some k) ∧ Lies (W1.alloc (.cells #[.int .i64 x1] 3)) (.list .int) [.slice (some ⟨W1.heap.size, 0, none⟩) 1 1] [x1] ∧ lo ≤ (W1.alloc (.cells #[.int .i64 x1] 3)).heap.size) := Hid.intro (by
    have hm0 := HM.out.next (Go.Joins.below_alloc1 W1 (.cells #[.int .i64 x1] 3))
    obtain ⟨B', h8, _⟩ := hm0.2.2.2.2.2.2.2.1
    obtain ⟨v1, S1, hc, h13, _⟩ := ownx_Member (x0 := x0) (x1 := x1) (x2 := x2) (x3 := x3) h8
    have hc : v1 = .slice xa x2.length xc := by
      unfold Try.encMb at hc
      simp only [List.cons.injEq, and_true, true_and] at hc
      exact hc.symm
    subst hc
    exact ⟨hm0, (h13.tight rfl).1, lies_one (e := .int) (cs := [.int .i64 x1]) 3 rfl rfl, Nat.le_trans hlo hm0.below.size⟩)
  have hbV : x2.length + [x1].length ≤ maxLen := by unfold maxLen; simp; omega
  have hcV : (x2.length + [x1].length) * 8 ≤ 140737488355328 := by simp; omega
  go_upto_region 5 with (first | (at_builtin; refine wpList_appx rfl (.tmp 23) (.tmp 26) 27 3 rfl i1 (.int .i64 0) 8 lo .int rfl Try.underlying27 hi1 hy0 hy1 hy2 rfl (by decide) (.slice xa x2.length xc) x2 [x1] (fun k => (Value.slice xa x2.length xc).ownBlock = some k) rfl HY.out.2.1 (some ⟨W1.heap.size, 0, none⟩) 1 rfl HY.out.2.2.1 hbV hcV HY.out.2.2.2 ?_; intro v9 w9 hO9 hg9 hwh9; obtain ⟨a9, c9, hv8⟩ := hO9.vform; have hv9 : v9 = .slice a9 (x2.length + 1) c9 := (by rw [hv8, List.length_append]; rfl); clear hv8; subst hv9; have H9 : Hid (MidX lo p b W.heap.size W ep du ms en L B (Value.slice va en.length vc) i (w9.setCell ⟨W.heap.size, 2, none⟩ (.slice a9 (x2.length + 1) c9)) (Value.slice va en.length vc) en (x0, x1, (a9, x2.length + 1, c9), x3) (mkMb x0 x1 (x2 ++ [x1]) x3) ∧ Bx w9 W.heap.size [.int .i64 x0, .int .i64 x1, .slice xa x2.length xc, .int .i64 x3]) := Hid.intro ⟨HY.out.1.run hg9 hO9 (fun k q => by rcases q with r | r; exact Or.inl r; exact Or.inr (Nat.le_of_eq r.symm)), HY.out.1.2.2.2.2.1.grow hg9 (fun q => by obtain ⟨B', h8, h9⟩ := HY.out.1.2.2.2.2.2.2.2.1; obtain ⟨v1, S1, hc, h13, h14⟩ := ownx_Member (x0 := x0) (x1 := x1) (x2 := x2) (x3 := x3) h8; have hc : v1 = .slice xa x2.length xc := (by unfold Try.encMb at hc; simp only [List.cons.injEq, and_true, true_and] at hc; exact hc.symm); subst hc; exact (h9 _ (h14 _ ((h13.tight rfl).2.2 _ q.symm))).2.2.1 rfl)⟩; clear hO9 hg9 hwh9 s0 s1 s2 s3 sz m0 m1 m2 m3 mz; have m0 := H9.out.2.cell 0 rfl; have m1 := H9.out.2.cell 1 rfl; have m2 := H9.out.2.cell 2 rfl; have m3 := H9.out.2.cell 3 rfl; have mz := H9.out.2.2; have mf2 := H9.out.2.frz 2 (by simp)))
  obtain ⟨X, hXe⟩ : ∃ x, x = w9.setCell ⟨W.heap.size, 2, none⟩ (.slice a9 (x2.length + 1) c9) := ⟨_, rfl⟩
  rw [← hXe]
  have HX : Hid (MidX lo p b W.heap.size W ep du ms en L B (Value.slice va en.length vc) i X.drew (Value.slice va en.length vc) en (x0, x1, (a9, x2.length + 1, c9), x3) (mkMb x0 x1 (x2 ++ [x1]) x3)) := Hid.intro ((hXe ▸ H9.out.1 : MidX lo p b W.heap.size W ep du ms en L B (Value.slice va en.length vc) i X (Value.slice va en.length vc) en (x0, x1, (a9, x2.length + 1, c9), x3) (mkMb x0 x1 (x2 ++ [x1]) x3)).next (below_drew _))
  clear hXe H9 HY HM m0 m1 m2 m3 mz mf2 hpz
  refine wp_region_noPanic ?_
  refine wp_region_held_drew (S := fun W9 => Bx W9 p [.int .i64 ep, .int .i64 du, .map (some b), .slice va en.length vc] ∧ Bx W9 W.heap.size [.int .i64 x0, .int .i64 x1, .slice a9 (x2.length + 1) c9, .int .i64 x3]) (by kernel_rfl) ⟨HX.out.2.2.2.1, HX.out.2.2.2.2.1⟩ (fun hHeld => ?_)
  obtain ⟨Y0, hWE⟩ : ∃ x, x = X.drew := ⟨_, rfl⟩
  rw [← hWE] at HX hHeld ⊢
  clear hWE
  refine take_v (v := ?_) 0 ⟨some 29, Op.move (Operand.tmp 0), _, _, _, none⟩ rfl (fun _ _ _ h => h) ?_ hHeld ?_
  rotate_left
  · (intro W _; go_simp <;> (try with_reducible rfl))
  refine take_v (v := ?_) 1 ⟨some 30, Op.nilCheck (Operand.tmp 29), _, _, _, none⟩ rfl (fun _ _ _ h => h) ?_ hHeld ?_
  rotate_left
  · (intro W _; go_simp <;> (try with_reducible rfl))
  refine take_v (v := ?_) 2 ⟨some 31, Op.fieldAddr 91 (Operand.tmp 30) 2, _, _, _, none⟩ rfl (fun _ _ _ h => h) ?_ hHeld ?_
  rotate_left
  · (intro W _; go_simp <;> (try with_reducible rfl))
  refine take_v (v := ?_) 3 ⟨some 32, Op.load 89 (Operand.tmp 31), _, _, _, none⟩ rfl (fun _ _ _ h => h) ?_ hHeld ?_
  rotate_left
  · (intro W hSW; (have s2 := hSW.1.cell 2 rfl; have sz := hSW.1.2; have m0 := hSW.2.cell 0 rfl; have m1 := hSW.2.cell 1 rfl; have m2 := hSW.2.cell 2 rfl; have m3 := hSW.2.cell 3 rfl; have mz := hSW.2.2); go_simp <;> (try with_reducible rfl))
  refine take_v (v := ?_) 4 ⟨some 33, Op.fieldAddr 37 (Operand.tmp 3) 0, _, _, _, none⟩ rfl (fun _ _ _ h => h) ?_ hHeld ?_
  rotate_left
  · (intro W _; go_simp <;> (try with_reducible rfl))
  refine take_v (v := ?_) 5 ⟨some 34, Op.load 3 (Operand.tmp 33), _, _, _, none⟩ rfl (fun _ _ _ h => h) ?_ hHeld ?_
  rotate_left
  · (intro W hSW; (have s2 := hSW.1.cell 2 rfl; have sz := hSW.1.2; have m0 := hSW.2.cell 0 rfl; have m1 := hSW.2.cell 1 rfl; have m2 := hSW.2.cell 2 rfl; have m3 := hSW.2.cell 3 rfl; have mz := hSW.2.2); go_simp <;> (try with_reducible rfl))
  refine take_v (v := ?_) 6 ⟨some 35, Op.load 37 (Operand.tmp 3), _, _, _, none⟩ rfl (fun _ _ _ h => h) ?_ hHeld ?_
  rotate_left
  · (intro W hSW; (have s2 := hSW.1.cell 2 rfl; have sz := hSW.1.2; have m0 := hSW.2.cell 0 rfl; have m1 := hSW.2.cell 1 rfl; have m2 := hSW.2.cell 2 rfl; have m3 := hSW.2.cell 3 rfl; have mz := hSW.2.2); go_simp <;> (try with_reducible rfl))
  refine ready_call 7 ⟨none, Op.mapUpdate 89 (Operand.tmp 32) (Operand.tmp 34) (Operand.tmp 35), _, _, _, none⟩ (by kernel_rfl) rfl (by kernel_rfl) (fun KC hK => ?_)
  obtain ⟨hk1, hk2, hk3⟩ := HK.out
  refine wp_store_old (.tmp 32) (.tmp 34) (.tmp 35) (by rfl) Try.underlying89 Try.underlying3 HX.out.2.2.2.2.2.2.1 (by rfl) (by rfl) (by rfl) hk1 hk2 hk3 ?_
  intro Y1 hmp hg hz
  have HF := Hid.intro (HX.out.fin hg hmp)
  clear hmp hg hz hk1 hk2 hk3
  refine hK.out _ _ ⟨HF.out.2.1, HF.out.2.2.1⟩ (fun hHeld => ?_)
  clear hK KC
  refine wpAnyH_done (by kernel_rfl) ?_ _
  refine NoPanic.normal ?_
  clear hHeld
  go_wp2_with fail
  go_ret
  exact StO.yes HN.out HF.out.2.2.2 (by obtain ⟨B9, h9⟩ := HF.out.1; exact ⟨_, B9, _, h9⟩)

end Go.Proofs.Ytcbdlalpnlahcaa
/- Fences: slices.Delete at numbers of one's own; what was ended, on an open fence. No walk of this chapter is here. -/
namespace Go.Proofs
open Go.Shelf Go.Sort Go.RowKit
shelf_lay Lays2.n23 Nm2 23 at Try as Try.lays23
end Go.Proofs
namespace Go.Proofs.Ytcbdlalpnlahcaa
open Go.RowKit
set_option linter.unusedVariables false
set_option linter.unusedSimpArgs false

theorem putRow_otherF (w : World) (g q : Nat) (ys : Array Int) (k : Nat) (h : k ≠ g) : (Go.Sort.putRow (Value.int .i64) (Go.Sort.ahead w q) g 0 ys).heap[k]? = w.heap[k]? := by
  simp [Go.Sort.putRow, Go.Sort.mapBlock, Go.Sort.ahead, Array.getElem?_modify, Ne.symm h]
theorem valC_ints (l : List Int) : List.flatMap (valC .int) (show List (Sh.T .int) from l) = l.map (Value.int .i64) := by
  induction l with
  | nil => rfl
  | cons x t ih =>
    show valC .int x ++ List.flatMap (valC .int) t = _
    rw [ih]; rfl
theorem deleteX_any (lo g cap : Nat) (i : Nat) (l : List Int) (w : World) (S : Nat → Prop) (hl : l.length ≤ 1048576) (hi : i < l.length) (h : OwnX w lo (.list .int 3) [.slice (some ⟨g, 0, none⟩) l.length cap] (show List (Sh.T .int) from l) S) :
    Calls Try.prog 76 #[.slice (some ⟨g, 0, none⟩) l.length cap, .int .i64 i, .int .i64 ((i : Int) + 1)] w fun e w' => e = .returned (.slice (some ⟨g, 0, none⟩) (l.length - 1) cap) ∧ OwnX w' lo (.list .int 3) [.slice (some ⟨g, 0, none⟩) (l.length - 1) cap] (show List (Sh.T .int) from l.eraseIdx i) (fun k => k = g) ∧ w.grownBy w' (some g) := by
  obtain ⟨row, _⟩ := h.flat rfl
  have row : w.ownsRow lo 3 1 (.slice (some ⟨g, 0, none⟩) l.length cap) l.length (l.map (Value.int .i64)) := by
    have e := valC_ints l
    rw [← e]; exact row
  have hcap : l.length ≤ cap ∧ cap ≤ maxLen := by
    obtain ⟨_, h | ⟨g', cap', cur, hv, _, _, hn, hm, _⟩⟩ := row
    · exact absurd h.1 (by simp)
    · simp only [Value.slice.injEq, true_and] at hv
      rw [hv.2]; exact ⟨hn, hm⟩
  obtain ⟨g', cap', ev, _, _, _, _, _, hH⟩ := Go.Lib.holds_of_ownsRow row (by simp)
  cases ev
  have hcall := Any.slices_Delete_int Try.lays23 g 0 cap i (i + 1) l w hH hcap.1 (by have := hcap.2; unfold maxLen at this; omega) (by omega) (by omega)
  refine Calls.mono (P := Try.prog) (show Calls Try.prog 76 #[.slice (some ⟨g, 0, none⟩) l.length cap, .int .i64 i, .int .i64 ((i + 1 : Nat) : Int)] w _ from hcall) ?_
  rintro e w' ⟨rfl, q, rfl⟩
  have hys : (l.take i ++ l.drop (i + 1) ++ List.replicate (i + 1 - i) 0).length = l.length := by simp; omega
  have hp := Go.Lib.ownsRow_putRow (q := q) (k := l.length - 1) row hys (by omega)
  have e1 : (l.take i ++ l.drop (i + 1) ++ List.replicate (i + 1 - i) 0).take (l.length - 1) = l.take i ++ l.drop (i + 1) := List.take_left' (by simp; omega)
  rw [e1] at hp
  have e4 : l.eraseIdx i = l.take i ++ l.drop (i + 1) := by rw [List.eraseIdx_eq_take_drop_succ]
  have e3 : (l.eraseIdx i).length = l.length - 1 := List.length_eraseIdx_of_lt hi
  rw [show l.length - (i + 1 - i) = l.length - 1 by omega]
  have fin : ∀ Wq : World, Wq.ownsRow lo 3 1 (.slice (some ⟨g, 0, none⟩) (l.length - 1) cap) (l.length - 1) ((l.eraseIdx i).map (Value.int .i64)) → OwnX Wq lo (.list .int 3) [.slice (some ⟨g, 0, none⟩) (l.length - 1) cap] (show List (Sh.T .int) from l.eraseIdx i) (fun k => k = g) := fun Wq hq => OwnX.of_flat rfl (by
    have e := valC_ints (l.eraseIdx i)
    have h2 : Wq.ownsRow lo 3 1 (.slice (some ⟨g, 0, none⟩) (l.length - 1) cap) (l.eraseIdx i).length ((l.eraseIdx i).map (Value.int .i64)) := by rw [e3]; exact hq
    rw [← e] at h2
    exact h2) (fun k q => by cases q; rfl)
  exact ⟨rfl, fin _ (by rw [e4]; exact hp), ⟨rfl, rfl, rfl, by simp [Go.Sort.putRow, Go.Sort.mapBlock, Go.Sort.ahead], fun k hk hne => putRow_otherF w g q _ k (fun e => hne (by rw [e]))⟩⟩
/-- What was ended has turned. -/
theorem MidX.ended {lo p b z : Nat} {W X X' : World} {ep du : Int} {ms : List (Sh.T shMember)} {en en' en9 : List (Sh.T .int)} {L : List MbV} {B : Nat → Nat → Prop} {ve ve' : Value} {i : Nat} {x' : MbV} {m' : Sh.T shMember} {S9 : Nat → Prop} {a9 : Option Addr} {n9 c9 : Nat} (h : MidX lo p b z W ep du ms en L B ve i X ve' en' x' m') (hg : X.grownBy X' ve'.ownBlock) (ho : OwnX X' lo (.list .int 3) [.slice a9 n9 c9] en9 S9) (hS : ∀ k, S9 k → ve'.ownBlock = some k ∨ X.heap.size ≤ k) : MidX lo p b z W ep du ms en L B ve i (X'.setCell ⟨p, 3, none⟩ (.slice a9 n9 c9)) (.slice a9 n9 c9) en9 x' m' := by
  have hz := h.zs
  obtain ⟨h1, h2, ⟨T, ht, hT⟩, h4, h5, h6, h7, ⟨B', h8, h9⟩, h10, h11, h12⟩ := h
  have hgz := hg.size
  have h6' := ho.tight rfl
  have hzz := ht.size
  have hp := h4.2
  have hb := h7.lt
  have hbs := h1.sizes
  have hpb : p ≠ b := h1.2.2.2.2.2.2.1
  have hvp : ∀ k, ve'.ownBlock = some k → k ≠ p ∧ k ≠ b := fun k q => by
    rcases (h11 k q).1 with r | r
    · exact h1.2.2.2.2.2.1 k r
    · omega
  have hnew : ∀ k, (Value.slice a9 n9 c9).ownBlock = some k → ve'.ownBlock = some k ∨ X.heap.size ≤ k := fun k q => hS k (h6'.2.2 k q)
  have hB'p : ∀ k, B' k → k ≠ p := fun k q => by
    rcases (h9 k q).2.2.2.1 with r | r
    · exact (h1.2.2.2.2.1 i h2 k r).1
    · omega
  refine ⟨h1, h2, ⟨fun k => T k ∨ ve'.ownBlock = some k ∨ k = p, ?_, fun k q => ?_⟩, (h4.grow hg (fun q => (hvp _ q.symm).1 rfl)).set (k := 3) (by simp) _, (h5.grow hg (fun q => (h11 _ q.symm).2 rfl)).other hz.1, h6, (h7.keep (hg.block b hb (fun q => (hvp _ q.symm).2 rfl))).keep (Below.heap_setCell _ _ _ _ hpb.symm), ⟨B', (h8.grow hg (fun k q r => (h9 k r).2.2.2.2 q)).set (p := ⟨p, 3, none⟩) (fun q => hB'p _ q rfl) _, fun k q => ?_⟩, h6'.1.set (p := ⟨p, 3, none⟩) (fun q => ?_) _, fun k q => ?_, h12⟩
  · have h0 : TurnS (fun k => T k ∨ ve'.ownBlock = some k ∨ k = p) W X' := (ht.wide (fun k q => Or.inl q)).grown hg (fun k q => Or.inl (Or.inr (Or.inl q)))
    exact h0.set (p := ⟨p, 3, none⟩) (Or.inr (Or.inr rfl)) _
  · rcases q with q | q | q
    · exact hT k q
    · rcases (h11 k q).1 with r | r
      · exact Or.inr (Or.inr (Or.inr r))
      · exact Or.inl r
    · exact Or.inr (Or.inr (Or.inl q))
  · rw [World.size_setCell]
    have h0 := h9 k q
    refine ⟨h0.1, by omega, h0.2.2.1, h0.2.2.2.1, fun s => ?_⟩
    rcases hnew k s with r | r
    · exact h0.2.2.2.2 r
    · omega
  · rcases hnew _ q with r | r
    · exact (hvp _ r).1 rfl
    · have r : X.heap.size ≤ p := r; omega
  · rcases hnew k q with r | r
    · exact ⟨(h11 k r).1, (h11 k r).2⟩
    · exact ⟨Or.inr (by omega), by omega⟩
end Go.Proofs.Ytcbdlalpnlahcaa
/- Fences: steps on an open fence that store a member back: end. Written by tools/mkFoD.py. -/
namespace Go.Proofs.Ytcbdlalpnlahcaa
open Go.RowKit
set_option linter.unusedVariables false
set_option linter.unusedSimpArgs false

set_option maxRecDepth 100000 in
set_option maxHeartbeats 8000000 in
theorem end_n (lo p b : Nat) (ep du : Int) (ms : List (Sh.T shMember)) (en : List (Sh.T .int)) (L : List MbV) (B : Nat → Nat → Prop) (ve : Value) (i : Nat) (n : Int) (W : World) (hX : OpX lo p b W ep du ms en L B ve) (hi : i < ms.length) (hlo : lo ≤ W.heap.size) (hG : goodF ep du ms en) (htot : en.length + runT ms < 200) (x0 x1 : Int) (x2 : List (Sh.T .int)) (x3 : Int) (xa : Option Addr) (xc : Nat) (hL : i < L.length) (e1 : L[i] = (x0, x1, (xa, x2.length, xc), x3)) (e2 : ms[i] = mkMb x0 x1 x2 x3) :
    Calls Try.prog 67 #[.pointer (some ⟨p, 0, none⟩), .agg #[.int .i64 x0, .int .i64 x1, .slice xa x2.length xc, .int .i64 x3], .int .i64 n] W (StO lo p b (memF ep du ms en 2 n i (mkMb x0 x1 x2 x3)) W) := by
  obtain ⟨va, vc, hv⟩ := hX.2.2.2.1.vform
  have hv : ve = .slice va (List.length (α := Sh.T .int) en) vc := hv
  subst hv
  have hm := (hG.2.2.2.2.1 i hi hi).1
  rw [e2] at hm
  have hm : (0 ≤ x0 ∧ x0 ≤ 99) ∧ (du + 1 ≤ x1 ∧ x1 ≤ ep) ∧ x2.length ≤ 20 ∧ (du ≤ x3 ∧ x3 ≤ ep - 1) ∧ runP x3 x1 x2 x2.length ∧ x3 < x1 := hm
  obtain ⟨hm1, hm2, hm3, hm4, hm5, hm6⟩ := hm
  obtain ⟨hk1, hk2, hk3⟩ := hX.first hG.2.2.2.2.1 hi
  rw [e2] at hk2 hk3
  have HK : Hid (∃ hj : i < (L.map mbV).length, (L.map mbV)[i].1 = x0 ∧ ∀ z (hz : z < (L.map mbV).length), z < i → (L.map mbV)[z].1 ≠ x0) := ⟨hk1, hk2, hk3⟩
  have hep := hG.1
  have hdu := hG.2.1
  have htt := hG.2.2.2.1
  rw [runT_eq] at htt
  have hen : en.length ≤ 200 := by omega
  have HRU := Hid.intro (hX.2.2.1.id hL hi).2.2.2.2
  rw [e1, e2] at HRU
  have HRU : Hid (OwnX W lo (.list .int 3) [.slice xa x2.length xc] x2 (B i)) := HRU
  obtain ⟨W1, hW1⟩ : ∃ x, x = W.alloc (.cells #[.int .i64 x0, .int .i64 x1, .slice xa x2.length xc, .int .i64 x3] 37) := ⟨_, rfl⟩
  have HM : Hid (MidX lo p b W.heap.size W ep du ms en L B (Value.slice va en.length vc) i W1 (Value.slice va en.length vc) en (x0, x1, (xa, x2.length, xc), x3) (mkMb x0 x1 x2 x3)) := Hid.intro (hW1 ▸ MidX.start hX hi hlo hL e1 e2)
  have HRP := Hid.intro hm5
  have HRT := Hid.intro (runT_set ms i hi (mkMb x0 x1 [] x3))
  rw [e2] at HRT
  clear hX hG e1 e2 hk2 hk3 hk1 hm5
  have s0 := (HM.out.2.2.2.1).cell 0 rfl; have s1 := (HM.out.2.2.2.1).cell 1 rfl; have s2 := (HM.out.2.2.2.1).cell 2 rfl; have s3 := (HM.out.2.2.2.1).cell 3 rfl; have sz := (HM.out.2.2.2.1).2
  have m0 := (HM.out.2.2.2.2.1).cell 0 rfl; have m1 := (HM.out.2.2.2.2.1).cell 1 rfl; have m2 := (HM.out.2.2.2.2.1).cell 2 rfl; have m3 := (HM.out.2.2.2.2.1).cell 3 rfl; have mz := (HM.out.2.2.2.2.1).2
  have hzlo : lo ≤ W.heap.size := hlo
  go_enter Try.func67, Try.ntmps67
  go_upto_region 1 with fail
  rw [← hW1]
  clear hW1
  have hlw : IntKind.i64.wrap ((x2.length : Int) - 1) = (x2.length : Int) - 1 := w64f (by omega) (by omega)
  have hpz : ¬ p = W.heap.size := fun q => HM.out.zs.1 q.symm
  have he2 : ¬ (200 : Int) ≤ (en.length : Int) := by omega
  by_cases hq : 0 ≤ n ∧ n ≤ (x2.length : Int) - 1
  case neg =>
    have HN : Hid (memF ep du ms en 2 n i (mkMb x0 x1 x2 x3) = none) := Hid.intro (memF2_no hq)
    have c9 : inR n 0 ((x2.length : Int) - 1) = false := by
      cases h : inR n 0 ((x2.length : Int) - 1)
      · rfl
      · exact absurd (inR_iff.1 h) hq
    clear hq
    go_wp2_with (go_at_call 43; refine (inRange_any _ _ _ _).mono ?_; rintro e w' ⟨rfl, hw⟩; have hw := hw.symm; subst hw; rw [c9])
    go_ret
    exact StO.no HN.out HM.out.below
  have c9 : inR n 0 ((x2.length : Int) - 1) = true := inR_iff.2 hq
  obtain ⟨k, hkn⟩ : ∃ k : Nat, n = (k : Int) := ⟨n.toNat, by omega⟩
  subst hkn
  have hkl : k < x2.length := by omega
  have hkl' : (k : Int) < (x2.length : Int) := by omega
  have hk0 : ¬ (k : Int) < 0 := by omega
  have hkw : IntKind.i64.wrap ((k : Int) + 1) = (k : Int) + 1 := w64f (by omega) (by omega)
  obtain ⟨e, he⟩ : ∃ e : Int, e = atI x2 k := ⟨_, rfl⟩
  have HN : Hid (memF ep du ms en 2 (k : Int) i (mkMb x0 x1 x2 x3) = some (mkFe ep du (ms.set i (mkMb x0 x1 (x2.eraseIdx k) x3)) (en ++ [e]))) := Hid.intro (by have := memF2_yes (ep := ep) (du := du) (ms := ms) (en := en) (i := i) (x0 := x0) (x1 := x1) (x3 := x3) hq; rw [Int.toNat_natCast, ← he] at this; exact this)
  obtain ⟨gr, kr', hvr, hgrl⟩ : ∃ gr kr', Value.slice xa x2.length xc = .slice (some ⟨gr, 0, none⟩) x2.length kr' ∧ gr < W.heap.size := by
    rcases HRU.out.form with ⟨q, _⟩ | ⟨gr, kr', q, q2⟩
    · rw [q] at hkl; exact absurd hkl (Nat.not_lt_zero k)
    · exact ⟨gr, kr', q, q2⟩
  obtain ⟨har, hkr⟩ : xa = some ⟨gr, 0, none⟩ ∧ xc = kr' := by injection hvr with q1 q2 q3; exact ⟨q1, q3⟩
  subst har hkr
  clear hvr hq
  have HRX : Hid (∀ Z ve9 en9, MidX lo p b W.heap.size W ep du ms en L B (Value.slice va en.length vc) i Z ve9 en9 (x0, x1, (some ⟨gr, 0, none⟩, x2.length, xc), x3) (mkMb x0 x1 x2 x3) → OwnX Z lo (.list .int 3) [.slice (some ⟨gr, 0, none⟩) x2.length xc] x2 (fun k => (Value.slice (some ⟨gr, 0, none⟩) x2.length xc).ownBlock = some k) ∧ ve9.ownBlock ≠ some gr) := Hid.intro (fun Z ve9 en9 hZ => by
    obtain ⟨B', h8, h9⟩ := hZ.2.2.2.2.2.2.2.1
    obtain ⟨v1, S1, hc, h13, h14⟩ := ownx_Member (x0 := x0) (x1 := x1) (x2 := x2) (x3 := x3) h8
    have hc : v1 = .slice (some ⟨gr, 0, none⟩) x2.length xc := by
      unfold Try.encMb at hc
      simp only [List.cons.injEq, and_true, true_and] at hc
      exact hc.symm
    subst hc
    exact ⟨(h13.tight rfl).1, (h9 gr (h14 gr ((h13.tight rfl).2.2 gr rfl))).2.2.2.2⟩)
  have HE := Hid.intro he
  have HCE : Hid (∀ Z ve9 en9, MidX lo p b W.heap.size W ep du ms en L B (Value.slice va en.length vc) i Z ve9 en9 (x0, x1, (some ⟨gr, 0, none⟩, x2.length, xc), x3) (mkMb x0 x1 x2 x3) → Z.cell? ⟨gr, k, none⟩ = some (.int .i64 e)) := Hid.intro (fun Z ve9 en9 hZ => by rw [he]; exact (OwnX.inti (HRX.out Z ve9 en9 hZ).1 hkl).1)
  clear he
  obtain ⟨i1, hi1, hy0, hy1, hy2⟩ := info_parts inf_int
  have hbE : en.length + [e].length ≤ maxLen := by unfold maxLen; simp; omega
  have hcE : (en.length + [e].length) * 8 ≤ 140737488355328 := by simp; omega
  go_upto_region 3 with (go_at_call 43; refine (inRange_any _ _ _ _).mono ?_; rintro e w' ⟨rfl, hw⟩; have hw := hw.symm; subst hw; rw [c9])
  go_cut [35] (fun s35 wx => ∃ a9 c9, MidX lo p b W.heap.size W ep du ms en L B (Value.slice va en.length vc) i wx (Value.slice a9 (en.length + 1) c9) (en ++ [e]) (x0, x1, (some ⟨gr, 0, none⟩, x2.length, xc), x3) (mkMb x0 x1 x2 x3))
  case first =>
    have HD : Hid (MidX lo p b W.heap.size W ep du ms en L B (Value.slice va en.length vc) i W1.drew (Value.slice va en.length vc) en (x0, x1, (some ⟨gr, 0, none⟩, x2.length, xc), x3) (mkMb x0 x1 x2 x3)) := Hid.intro (HM.out.next (below_drew _))
    clear s0 s1 s2 s3 sz m0 m1 m2 m3 mz
    refine wp_region_noPanic ?_
    refine wp_region_held_drew (S := fun W9 => Bx W9 W.heap.size [.int .i64 x0, .int .i64 x1, .slice (some ⟨gr, 0, none⟩) x2.length xc, .int .i64 x3] ∧ W9.cell? ⟨gr, k, none⟩ = some (.int .i64 e)) (by kernel_rfl) ⟨HD.out.2.2.2.2.1, HCE.out _ _ _ HD.out⟩ (fun hHeld => ?_)
    obtain ⟨Y0, hWE⟩ : ∃ x, x = W1.drew := ⟨_, rfl⟩
    rw [← hWE] at HD hHeld ⊢
    clear hWE HM
    refine take_v (v := ?_) 0 ⟨some 22, Op.move (Operand.tmp 0), _, _, _, none⟩ rfl (fun _ _ _ h => h) ?_ hHeld ?_
    rotate_left
    · (intro W _; go_simp <;> (try with_reducible rfl))
    refine take_v (v := ?_) 1 ⟨some 23, Op.move (Operand.tmp 0), _, _, _, none⟩ rfl (fun _ _ _ h => h) ?_ hHeld ?_
    rotate_left
    · (intro W _; go_simp <;> (try with_reducible rfl))
    refine take_v (v := ?_) 2 ⟨some 24, Op.nilCheck (Operand.tmp 23), _, _, _, none⟩ rfl (fun _ _ _ h => h) ?_ hHeld ?_
    rotate_left
    · (intro W _; go_simp <;> (try with_reducible rfl))
    refine take_v (v := ?_) 3 ⟨some 25, Op.fieldAddr 91 (Operand.tmp 24) 3, _, _, _, none⟩ rfl (fun _ _ _ h => h) ?_ hHeld ?_
    rotate_left
    · (intro W _; go_simp <;> (try with_reducible rfl))
    refine take_v (v := ?_) 5 ⟨some 27, Op.fieldAddr 37 (Operand.tmp 4) 2, _, _, _, none⟩ rfl (fun _ _ _ h => h) ?_ hHeld ?_
    rotate_left
    · (intro W _; go_simp <;> (try with_reducible rfl))
    refine take_v (v := ?_) 6 ⟨some 28, Op.load 27 (Operand.tmp 27), _, _, _, none⟩ rfl (fun _ _ _ h => h) ?_ hHeld ?_
    rotate_left
    · (intro W hSW; (have m2 := hSW.1.cell 2 rfl; have mz := hSW.1.2; have e0 := hSW.2); go_simp <;> (try with_reducible rfl))
    refine take_v (v := ?_) 7 ⟨some 29, Op.move (Operand.tmp 2), _, _, _, none⟩ rfl (fun _ _ _ h => h) ?_ hHeld ?_
    rotate_left
    · (intro W _; go_simp <;> (try with_reducible rfl))
    refine take_v (v := ?_) 8 ⟨some 30, Op.indexAddr 27 (Operand.tmp 28) (Operand.tmp 29), _, _, _, none⟩ rfl (fun _ _ _ h => h) ?_ hHeld ?_
    rotate_left
    · (intro W _; go_simp <;> (try with_reducible rfl))
    refine take_v (v := ?_) 9 ⟨some 31, Op.load 3 (Operand.tmp 30), _, _, _, none⟩ rfl (fun _ _ _ h => h) ?_ hHeld ?_
    rotate_left
    · (intro W hSW; (have m2 := hSW.1.cell 2 rfl; have mz := hSW.1.2; have e0 := hSW.2); go_simp <;> (try with_reducible rfl))
    refine ready_two 4 10 ⟨some 26, Op.load 27 (Operand.tmp 25), _, _, _, none⟩ ⟨some 32, Op.buildSlice 27 1 #[(0, Operand.tmp 31)], _, _, _, none⟩ (by kernel_rfl) rfl rfl (by kernel_rfl) (by kernel_rfl) (fun KC hK => ?_) (fun KC hK => ?_)
    ·
      (first | (have d3 := HB1.out.1.2.2.2.1.cell 3 rfl; have dz := HB1.out.1.2.2.2.1.2) | (have d3 := HD.out.2.2.2.1.cell 3 rfl; have dz := HD.out.2.2.2.1.2))
      go_wp2_with fail
      clear d3 dz
      refine hK.out _ _ hHeld (fun hHeld => ?_)
      clear hK KC
      refine ready_call 10 ⟨some 32, Op.buildSlice 27 1 #[(0, Operand.tmp 31)], _, _, _, none⟩ (by kernel_rfl) rfl (by kernel_rfl) (fun KC hK => ?_)
      go_wp2_with fail
      obtain ⟨Y1, hY1⟩ : ∃ x, x = Y0.alloc (.cells #[.int .i64 e] 3) := ⟨_, rfl⟩
      have HB1 : Hid (MidX lo p b W.heap.size W ep du ms en L B (Value.slice va en.length vc) i Y1 (Value.slice va en.length vc) en (x0, x1, (some ⟨gr, 0, none⟩, x2.length, xc), x3) (mkMb x0 x1 x2 x3) ∧ Lies Y1 (.list .int) [.slice (some ⟨Y0.heap.size, 0, none⟩) 1 1] [e]) := Hid.intro (by
        have hb := Go.Joins.below_alloc1 Y0 (.cells #[.int .i64 e] 3)
        exact hY1 ▸ ⟨HD.out.next hb, lies_one (e := .int) (cs := [.int .i64 e]) 3 rfl rfl⟩)
      rw [← hY1]
      clear hY1
      refine hK.out _ _ ⟨HB1.out.1.2.2.2.2.1, HCE.out _ _ _ HB1.out.1⟩ (fun hHeld => ?_)
      clear hK KC
      refine ready_call 11 ⟨some 33, Op.call { callee := Callee.builtin Builtin.append, args := #[Operand.tmp 26, Operand.tmp 32], argTypes := #[27, 27] }, _, _, _, none⟩ (by kernel_rfl) rfl (by kernel_rfl) (fun KC hK => ?_)
      refine wp_appx (.tmp 26) (.tmp 32) 27 3 (by rfl) i1 (.int .i64 0) 8 lo .int rfl Try.underlying27 hi1 hy0 hy1 hy2 rfl (by decide) (.slice va en.length vc) en [e] (fun k => (Value.slice va en.length vc).ownBlock = some k) (by rfl) HB1.out.1.2.2.2.2.2.2.2.2.1 (some ⟨Y0.heap.size, 0, none⟩) 1 (by rfl) HB1.out.2 hbE hcE (Nat.le_trans hlo HB1.out.1.below.size) ?_
      intro v9 W3 hO9 hg9 hwh9
      obtain ⟨a9, c9, hv8⟩ := hO9.vform
      have hv9 : v9 = .slice a9 (en.length + 1) c9 := (by rw [hv8, List.length_append]; rfl)
      clear hv8
      subst hv9
      have HF : Hid (MidX lo p b W.heap.size W ep du ms en L B (Value.slice va en.length vc) i (W3.setCell ⟨p, 3, none⟩ (.slice a9 (en.length + 1) c9)) (Value.slice a9 (en.length + 1) c9) (en ++ [e]) (x0, x1, (some ⟨gr, 0, none⟩, x2.length, xc), x3) (mkMb x0 x1 x2 x3) ∧ Bx W3 W.heap.size [.int .i64 x0, .int .i64 x1, .slice (some ⟨gr, 0, none⟩) x2.length xc, .int .i64 x3] ∧ Bx W3 p [.int .i64 ep, .int .i64 du, .map (some b), .slice va en.length vc] ∧ W3.cell? ⟨gr, k, none⟩ = some (.int .i64 e)) := Hid.intro (by
        have h1 := HB1.out.1
        have hgr := HRX.out _ _ _ h1
        have hcg := (OwnX.inti hgr.1 hkl).2.2
        refine ⟨h1.ended hg9 hO9 (fun k q => by rcases q with r | r; exact Or.inl r; exact Or.inr (Nat.le_of_eq r.symm)), h1.2.2.2.2.1.grow hg9 (fun q => (h1.2.2.2.2.2.2.2.2.2.1 _ q.symm).2 rfl), h1.2.2.2.1.grow hg9 (fun q => ?_), (World.cell?_of_block (a := ⟨gr, k, none⟩) (hg9.block gr hcg (fun q => hgr.2 q.symm))).trans (HCE.out _ _ _ h1)⟩
        rcases (h1.2.2.2.2.2.2.2.2.2.1 p q.symm).1 with r | r
        · exact (h1.1.2.2.2.2.2.1 p r).1 rfl
        · have := h1.1.sizes.1; omega)
      clear hO9 hg9 hwh9
      refine hK.out _ _ ⟨HF.out.2.1, HF.out.2.2.2⟩ (fun hHeld => ?_)
      clear hK KC
      refine take_v (v := ?_) 12 ⟨some 34, Op.nilCheck (Operand.tmp 22), _, _, _, none⟩ rfl (fun _ _ _ h => h) ?_ hHeld ?_
      rotate_left
      · (intro W _; go_simp <;> (try with_reducible rfl))
      refine take_v (v := ?_) 13 ⟨some 35, Op.fieldAddr 91 (Operand.tmp 34) 3, _, _, _, none⟩ rfl (fun _ _ _ h => h) ?_ hHeld ?_
      rotate_left
      · (intro W _; go_simp <;> (try with_reducible rfl))
      refine ready_call 14 ⟨none, Op.store 27 (Operand.tmp 35) (Operand.tmp 33), _, _, _, none⟩ (by kernel_rfl) rfl (by kernel_rfl) (fun KC hK => ?_)
      have d3 := HF.out.2.2.1.cell 3 rfl
      have dz := HF.out.2.2.1.2
      have df := HF.out.2.2.1.frz 3 (by simp)
      go_wp2_with fail
      clear d3 dz df
      refine hK.out _ _ ⟨HF.out.1.2.2.2.2.1, HCE.out _ _ _ HF.out.1⟩ (fun hHeld => ?_)
      clear hK KC
      refine wpAnyH_done (by kernel_rfl) ?_ _
      refine NoPanic.normal ?_
      clear hHeld
      go_wp2_with fail
      go_meet
      exact ⟨a9, c9, HF.out.1⟩
    ·
      go_wp2_with fail
      obtain ⟨Y1, hY1⟩ : ∃ x, x = Y0.alloc (.cells #[.int .i64 e] 3) := ⟨_, rfl⟩
      have HB1 : Hid (MidX lo p b W.heap.size W ep du ms en L B (Value.slice va en.length vc) i Y1 (Value.slice va en.length vc) en (x0, x1, (some ⟨gr, 0, none⟩, x2.length, xc), x3) (mkMb x0 x1 x2 x3) ∧ Lies Y1 (.list .int) [.slice (some ⟨Y0.heap.size, 0, none⟩) 1 1] [e]) := Hid.intro (by
        have hb := Go.Joins.below_alloc1 Y0 (.cells #[.int .i64 e] 3)
        exact hY1 ▸ ⟨HD.out.next hb, lies_one (e := .int) (cs := [.int .i64 e]) 3 rfl rfl⟩)
      rw [← hY1]
      clear hY1
      refine hK.out _ _ ⟨HB1.out.1.2.2.2.2.1, HCE.out _ _ _ HB1.out.1⟩ (fun hHeld => ?_)
      clear hK KC
      refine ready_call 4 ⟨some 26, Op.load 27 (Operand.tmp 25), _, _, _, none⟩ (by kernel_rfl) rfl (by kernel_rfl) (fun KC hK => ?_)
      (first | (have d3 := HB1.out.1.2.2.2.1.cell 3 rfl; have dz := HB1.out.1.2.2.2.1.2) | (have d3 := HD.out.2.2.2.1.cell 3 rfl; have dz := HD.out.2.2.2.1.2))
      go_wp2_with fail
      clear d3 dz
      refine hK.out _ _ hHeld (fun hHeld => ?_)
      clear hK KC
      refine ready_call 11 ⟨some 33, Op.call { callee := Callee.builtin Builtin.append, args := #[Operand.tmp 26, Operand.tmp 32], argTypes := #[27, 27] }, _, _, _, none⟩ (by kernel_rfl) rfl (by kernel_rfl) (fun KC hK => ?_)
      refine wp_appx (.tmp 26) (.tmp 32) 27 3 (by rfl) i1 (.int .i64 0) 8 lo .int rfl Try.underlying27 hi1 hy0 hy1 hy2 rfl (by decide) (.slice va en.length vc) en [e] (fun k => (Value.slice va en.length vc).ownBlock = some k) (by rfl) HB1.out.1.2.2.2.2.2.2.2.2.1 (some ⟨Y0.heap.size, 0, none⟩) 1 (by rfl) HB1.out.2 hbE hcE (Nat.le_trans hlo HB1.out.1.below.size) ?_
      intro v9 W3 hO9 hg9 hwh9
      obtain ⟨a9, c9, hv8⟩ := hO9.vform
      have hv9 : v9 = .slice a9 (en.length + 1) c9 := (by rw [hv8, List.length_append]; rfl)
      clear hv8
      subst hv9
      have HF : Hid (MidX lo p b W.heap.size W ep du ms en L B (Value.slice va en.length vc) i (W3.setCell ⟨p, 3, none⟩ (.slice a9 (en.length + 1) c9)) (Value.slice a9 (en.length + 1) c9) (en ++ [e]) (x0, x1, (some ⟨gr, 0, none⟩, x2.length, xc), x3) (mkMb x0 x1 x2 x3) ∧ Bx W3 W.heap.size [.int .i64 x0, .int .i64 x1, .slice (some ⟨gr, 0, none⟩) x2.length xc, .int .i64 x3] ∧ Bx W3 p [.int .i64 ep, .int .i64 du, .map (some b), .slice va en.length vc] ∧ W3.cell? ⟨gr, k, none⟩ = some (.int .i64 e)) := Hid.intro (by
        have h1 := HB1.out.1
        have hgr := HRX.out _ _ _ h1
        have hcg := (OwnX.inti hgr.1 hkl).2.2
        refine ⟨h1.ended hg9 hO9 (fun k q => by rcases q with r | r; exact Or.inl r; exact Or.inr (Nat.le_of_eq r.symm)), h1.2.2.2.2.1.grow hg9 (fun q => (h1.2.2.2.2.2.2.2.2.2.1 _ q.symm).2 rfl), h1.2.2.2.1.grow hg9 (fun q => ?_), (World.cell?_of_block (a := ⟨gr, k, none⟩) (hg9.block gr hcg (fun q => hgr.2 q.symm))).trans (HCE.out _ _ _ h1)⟩
        rcases (h1.2.2.2.2.2.2.2.2.2.1 p q.symm).1 with r | r
        · exact (h1.1.2.2.2.2.2.1 p r).1 rfl
        · have := h1.1.sizes.1; omega)
      clear hO9 hg9 hwh9
      refine hK.out _ _ ⟨HF.out.2.1, HF.out.2.2.2⟩ (fun hHeld => ?_)
      clear hK KC
      refine take_v (v := ?_) 12 ⟨some 34, Op.nilCheck (Operand.tmp 22), _, _, _, none⟩ rfl (fun _ _ _ h => h) ?_ hHeld ?_
      rotate_left
      · (intro W _; go_simp <;> (try with_reducible rfl))
      refine take_v (v := ?_) 13 ⟨some 35, Op.fieldAddr 91 (Operand.tmp 34) 3, _, _, _, none⟩ rfl (fun _ _ _ h => h) ?_ hHeld ?_
      rotate_left
      · (intro W _; go_simp <;> (try with_reducible rfl))
      refine ready_call 14 ⟨none, Op.store 27 (Operand.tmp 35) (Operand.tmp 33), _, _, _, none⟩ (by kernel_rfl) rfl (by kernel_rfl) (fun KC hK => ?_)
      have d3 := HF.out.2.2.1.cell 3 rfl
      have dz := HF.out.2.2.1.2
      have df := HF.out.2.2.1.frz 3 (by simp)
      go_wp2_with fail
      clear d3 dz df
      refine hK.out _ _ ⟨HF.out.1.2.2.2.2.1, HCE.out _ _ _ HF.out.1⟩ (fun hHeld => ?_)
      clear hK KC
      refine wpAnyH_done (by kernel_rfl) ?_ _
      refine NoPanic.normal ?_
      clear hHeld
      go_wp2_with fail
      go_meet
      exact ⟨a9, c9, HF.out.1⟩
  case rest =>
    obtain ⟨a9, c9, hcut⟩ := hcut
    have HC := Hid.intro hcut
    clear hcut HM s0 s1 s2 s3 sz m0 m1 m2 m3 mz
    have m2 := HC.out.2.2.2.2.1.cell 2 rfl
    have mz := HC.out.2.2.2.2.1.2
    have hel : (x2.eraseIdx k).length = x2.length - 1 := List.length_eraseIdx_of_lt hkl
    go_upto_region 5 with (first | (go_at_call 76; refine (deleteX_any lo gr xc k x2 _ _ (by omega) hkl (HRX.out _ _ _ HC.out).1).mono ?_; rintro r9 w9 ⟨rfl, hO9, hg9⟩; have H9 : Hid (MidX lo p b W.heap.size W ep du ms en L B (Value.slice va en.length vc) i (w9.setCell ⟨W.heap.size, 2, none⟩ (.slice (some ⟨gr, 0, none⟩) (x2.length - 1) xc)) (Value.slice a9 (en.length + 1) c9) (en ++ [e]) (x0, x1, (some ⟨gr, 0, none⟩, x2.length - 1, xc), x3) (mkMb x0 x1 (x2.eraseIdx k) x3) ∧ Bx w9 W.heap.size [.int .i64 x0, .int .i64 x1, .slice (some ⟨gr, 0, none⟩) x2.length xc, .int .i64 x3]) := Hid.intro ⟨HC.out.run hg9 hO9 (fun k q => by have q : k = gr := q; subst q; exact Or.inl rfl), HC.out.2.2.2.2.1.grow hg9 (fun q => by obtain ⟨B', h8, h9⟩ := HC.out.2.2.2.2.2.2.2.1; obtain ⟨v1, S1, hc, h13, h14⟩ := ownx_Member (x0 := x0) (x1 := x1) (x2 := x2) (x3 := x3) h8; have hc : v1 = .slice (some ⟨gr, 0, none⟩) x2.length xc := (by unfold Try.encMb at hc; simp only [List.cons.injEq, and_true, true_and] at hc; exact hc.symm); subst hc; exact (h9 _ (h14 _ ((h13.tight rfl).2.2 _ q.symm))).2.2.1 rfl)⟩; clear hO9 hg9 m2 mz; have m2 := H9.out.2.cell 2 rfl; have mz := H9.out.2.2; have mf2 := H9.out.2.frz 2 (by simp)))
    obtain ⟨X, hXe⟩ : ∃ x, x = w9.setCell ⟨W.heap.size, 2, none⟩ (.slice (some ⟨gr, 0, none⟩) (x2.length - 1) xc) := ⟨_, rfl⟩
    rw [← hXe]
    have HX : Hid (MidX lo p b W.heap.size W ep du ms en L B (Value.slice va en.length vc) i X.drew (Value.slice a9 (en.length + 1) c9) (en ++ [e]) (x0, x1, (some ⟨gr, 0, none⟩, x2.length - 1, xc), x3) (mkMb x0 x1 (x2.eraseIdx k) x3)) := Hid.intro ((hXe ▸ H9.out.1 : MidX lo p b W.heap.size W ep du ms en L B (Value.slice va en.length vc) i X (Value.slice a9 (en.length + 1) c9) (en ++ [e]) (x0, x1, (some ⟨gr, 0, none⟩, x2.length - 1, xc), x3) (mkMb x0 x1 (x2.eraseIdx k) x3)).next (below_drew _))
    clear hXe H9 HC m2 mz mf2 hpz
    refine wp_region_noPanic ?_
    refine wp_region_held_drew (S := fun W9 => Bx W9 p [.int .i64 ep, .int .i64 du, .map (some b), .slice a9 (en.length + 1) c9] ∧ Bx W9 W.heap.size [.int .i64 x0, .int .i64 x1, .slice (some ⟨gr, 0, none⟩) (x2.length - 1) xc, .int .i64 x3]) (by kernel_rfl) ⟨HX.out.2.2.2.1, HX.out.2.2.2.2.1⟩ (fun hHeld => ?_)
    obtain ⟨Y0, hWE⟩ : ∃ x, x = X.drew := ⟨_, rfl⟩
    rw [← hWE] at HX hHeld ⊢
    clear hWE
    refine take_v (v := ?_) 0 ⟨some 43, Op.move (Operand.tmp 0), _, _, _, none⟩ rfl (fun _ _ _ h => h) ?_ hHeld ?_
    rotate_left
    · (intro W _; go_simp <;> (try with_reducible rfl))
    refine take_v (v := ?_) 1 ⟨some 44, Op.nilCheck (Operand.tmp 43), _, _, _, none⟩ rfl (fun _ _ _ h => h) ?_ hHeld ?_
    rotate_left
    · (intro W _; go_simp <;> (try with_reducible rfl))
    refine take_v (v := ?_) 2 ⟨some 45, Op.fieldAddr 91 (Operand.tmp 44) 2, _, _, _, none⟩ rfl (fun _ _ _ h => h) ?_ hHeld ?_
    rotate_left
    · (intro W _; go_simp <;> (try with_reducible rfl))
    refine take_v (v := ?_) 3 ⟨some 46, Op.load 89 (Operand.tmp 45), _, _, _, none⟩ rfl (fun _ _ _ h => h) ?_ hHeld ?_
    rotate_left
    · (intro W hSW; (have s2 := hSW.1.cell 2 rfl; have sz := hSW.1.2; have m0 := hSW.2.cell 0 rfl; have m1 := hSW.2.cell 1 rfl; have m2 := hSW.2.cell 2 rfl; have m3 := hSW.2.cell 3 rfl; have mz := hSW.2.2); go_simp <;> (try with_reducible rfl))
    refine take_v (v := ?_) 4 ⟨some 47, Op.fieldAddr 37 (Operand.tmp 4) 0, _, _, _, none⟩ rfl (fun _ _ _ h => h) ?_ hHeld ?_
    rotate_left
    · (intro W _; go_simp <;> (try with_reducible rfl))
    refine take_v (v := ?_) 5 ⟨some 48, Op.load 3 (Operand.tmp 47), _, _, _, none⟩ rfl (fun _ _ _ h => h) ?_ hHeld ?_
    rotate_left
    · (intro W hSW; (have s2 := hSW.1.cell 2 rfl; have sz := hSW.1.2; have m0 := hSW.2.cell 0 rfl; have m1 := hSW.2.cell 1 rfl; have m2 := hSW.2.cell 2 rfl; have m3 := hSW.2.cell 3 rfl; have mz := hSW.2.2); go_simp <;> (try with_reducible rfl))
    refine take_v (v := ?_) 6 ⟨some 49, Op.load 37 (Operand.tmp 4), _, _, _, none⟩ rfl (fun _ _ _ h => h) ?_ hHeld ?_
    rotate_left
    · (intro W hSW; (have s2 := hSW.1.cell 2 rfl; have sz := hSW.1.2; have m0 := hSW.2.cell 0 rfl; have m1 := hSW.2.cell 1 rfl; have m2 := hSW.2.cell 2 rfl; have m3 := hSW.2.cell 3 rfl; have mz := hSW.2.2); go_simp <;> (try with_reducible rfl))
    refine ready_call 7 ⟨none, Op.mapUpdate 89 (Operand.tmp 46) (Operand.tmp 48) (Operand.tmp 49), _, _, _, none⟩ (by kernel_rfl) rfl (by kernel_rfl) (fun KC hK => ?_)
    obtain ⟨hk1, hk2, hk3⟩ := HK.out
    refine wp_store_old (.tmp 46) (.tmp 48) (.tmp 49) (by rfl) Try.underlying89 Try.underlying3 HX.out.2.2.2.2.2.2.1 (by rfl) (by rfl) (by rfl) hk1 hk2 hk3 ?_
    intro Y1 hmp hg hz
    have HF := Hid.intro (HX.out.fin hg hmp)
    clear hmp hg hz hk1 hk2 hk3
    refine hK.out _ _ ⟨HF.out.2.1, HF.out.2.2.1⟩ (fun hHeld => ?_)
    clear hK KC
    refine wpAnyH_done (by kernel_rfl) ?_ _
    refine NoPanic.normal ?_
    clear hHeld
    go_wp2_with fail
    go_ret
    exact StO.yes HN.out HF.out.2.2.2 (by obtain ⟨B9, h9⟩ := HF.out.1; exact ⟨_, B9, _, h9⟩)

end Go.Proofs.Ytcbdlalpnlahcaa
/- Fences: a member leaves an open fence; all of them advance. -/
namespace Go.Proofs.Ytcbdlalpnlahcaa
open Go.RowKit
set_option linter.unusedVariables false
set_option linter.unusedSimpArgs false

theorem OpX.del {lo p b : Nat} {W W' : World} {ep du : Int} {ms : List (Sh.T shMember)} {en : List (Sh.T .int)} {L : List MbV} {B : Nat → Nat → Prop} {ve : Value} {i : Nat} (h : OpX lo p b W ep du ms en L B ve) (hi : i < ms.length) (hg : W.grownBy W' (some b)) (hmp : MpX W' b ((L.map mbV).eraseIdx i)) : OpX lo p b W' ep du (ms.eraseIdx i) en (L.eraseIdx i) (fun j => if j < i then B j else B (j + 1)) ve := by
  obtain ⟨h1, h2, ⟨m1, m2, m3, m4⟩, h4, h5, h6, h7, h8, h9⟩ := h
  have hz := hg.size
  have hml : (ms.eraseIdx i).length = ms.length - 1 := List.length_eraseIdx_of_lt hi
  have hLl : (L.eraseIdx i).length = L.length - 1 := List.length_eraseIdx_of_lt (by omega)
  have key : ∀ j, j < (ms.eraseIdx i).length → ∃ q, q < ms.length ∧ (if j < i then B j else B (j + 1)) = B q ∧ (j < i → q = j) ∧ (¬ j < i → q = j + 1) := fun j hj => by
    by_cases c : j < i
    · exact ⟨j, by omega, if_pos c, fun _ => rfl, fun d => absurd c d⟩
    · exact ⟨j + 1, by omega, if_neg c, fun d => absurd d c, fun _ => rfl⟩
  refine ⟨h1.grow hg (fun q => h7 (by simpa using q)), by rw [Go.ChangeMaps.map_eraseIdx]; exact hmp, ⟨by rw [hml, hLl, m1], fun j hL hm => ?_, fun j j' hj hj' hne k => ?_, fun j hj k => ?_⟩, h4.grow hg (fun k q r => (h6 k r).2 (by simpa using q.symm)), fun j hj k => ?_, h6, h7, h8, h9⟩
  · by_cases c : j < i
    · have e1 : (L.eraseIdx i)[j] = L[j]'(by omega) := by rw [List.getElem_eraseIdx, dif_pos c]
      have e2 : (ms.eraseIdx i)[j] = ms[j]'(by omega) := by rw [List.getElem_eraseIdx, dif_pos c]
      rw [e1, e2]
      simp only [if_pos c]
      exact (m2 j (by omega) (by omega)).grow hg (fun k q r => (h5 j (by omega) k r).2.1 (by simpa using q.symm))
    · have e1 : (L.eraseIdx i)[j] = L[j + 1]'(by omega) := by rw [List.getElem_eraseIdx, dif_neg c]
      have e2 : (ms.eraseIdx i)[j] = ms[j + 1]'(by omega) := by rw [List.getElem_eraseIdx, dif_neg c]
      rw [e1, e2]
      simp only [if_neg c]
      exact (m2 (j + 1) (by omega) (by omega)).grow hg (fun k q r => (h5 (j + 1) (by omega) k r).2.1 (by simpa using q.symm))
  · obtain ⟨q, hq, e, a1, a2⟩ := key j hj
    obtain ⟨q', hq', e', a1', a2'⟩ := key j' hj'
    simp only [e, e']
    exact m3 q q' hq hq' (by omega) k
  · obtain ⟨q, hq, e, _⟩ := key j hj
    simp only [e]
    intro hk
    exact ⟨(m4 q hq k hk).1, Nat.lt_of_lt_of_le (m4 q hq k hk).2 hz⟩
  · obtain ⟨q, hq, e, _⟩ := key j hj
    simp only [e]
    exact h5 q hq k

set_option maxRecDepth 100000 in
set_option maxHeartbeats 8000000 in
theorem leave_n (lo p b : Nat) (ep du : Int) (ms : List (Sh.T shMember)) (en : List (Sh.T .int)) (L : List MbV) (B : Nat → Nat → Prop) (ve : Value) (i : Nat) (n : Int) (W : World) (hX : OpX lo p b W ep du ms en L B ve) (hi : i < ms.length) (hlo : lo ≤ W.heap.size) (hG : goodF ep du ms en) (x0 x1 : Int) (x2 : List (Sh.T .int)) (x3 : Int) (xa : Option Addr) (xc : Nat) (hL : i < L.length) (e1 : L[i] = (x0, x1, (xa, x2.length, xc), x3)) (e2 : ms[i] = mkMb x0 x1 x2 x3) :
    Calls Try.prog 69 #[.pointer (some ⟨p, 0, none⟩), .agg #[.int .i64 x0, .int .i64 x1, .slice xa x2.length xc, .int .i64 x3]] W (StO lo p b (memF ep du ms en 5 n i (mkMb x0 x1 x2 x3)) W) := by
  obtain ⟨hk1, hk2, hk3⟩ := hX.first hG.2.2.2.2.1 hi
  rw [e2] at hk2 hk3
  have HK : Hid (∃ hj : i < (L.map mbV).length, (L.map mbV)[i].1 = x0 ∧ ∀ z (hz : z < (L.map mbV).length), z < i → (L.map mbV)[z].1 ≠ x0) := ⟨hk1, hk2, hk3⟩
  have hml : (L.map mbV).length = ms.length := by rw [List.length_map]; exact hX.2.2.1.1
  have hm8 := hG.2.2.1
  have HBW : Hid (b < W.heap.size) := Hid.intro hX.sizes.2.1
  obtain ⟨W1, hW1⟩ : ∃ x, x = W.alloc (.cells #[.int .i64 x0, .int .i64 x1, .slice xa x2.length xc, .int .i64 x3] 37) := ⟨_, rfl⟩
  have HM : Hid (OpX lo p b W1 ep du ms en L B ve ∧ Bx W1 W.heap.size [.int .i64 x0, .int .i64 x1, .slice xa x2.length xc, .int .i64 x3] ∧ Below W.heap.size W W1) := Hid.intro (by
    have hb : Below W.heap.size W W1 := hW1 ▸ Go.Joins.below_alloc1 _ _
    exact ⟨hX.next hb, hW1 ▸ Bx.new W [_, _, _, _] _, hb⟩)
  clear hX hG e1 e2 hk2 hk3 hk1
  have s0 := (HM.out.1.1).cell 0 rfl; have s1 := (HM.out.1.1).cell 1 rfl; have s2 := (HM.out.1.1).cell 2 rfl; have s3 := (HM.out.1.1).cell 3 rfl; have sz := (HM.out.1.1).2
  have m0 := (HM.out.2.1).cell 0 rfl; have m1 := (HM.out.2.1).cell 1 rfl; have m2 := (HM.out.2.1).cell 2 rfl; have m3 := (HM.out.2.1).cell 3 rfl; have mz := (HM.out.2.1).2
  go_enter Try.func69, Try.ntmps69
  go_upto_region 1 with fail
  rw [← hW1]
  clear hW1
  by_cases hq : ms.length = 1
  · have HN : Hid (memF ep du ms en 5 n i (mkMb x0 x1 x2 x3) = none) := Hid.intro (memF5_no hq)
    have hq2 : (L.map mbV).length = 1 := hml.trans hq
    have HQ2 := Hid.intro hq2
    clear hq hq2 hml
    go_wp2_with (at_len; refine wpList_len_x rfl (.tmp 8) rfl Try.underlying89 HM.out.1.2.1 rfl ?_; rw [HQ2.out])
    go_ret
    exact StO.no HN.out (HM.out.2.2.mono hlo)
  have HN : Hid (memF ep du ms en 5 n i (mkMb x0 x1 x2 x3) = some (mkFe ep du (ms.eraseIdx i) en)) := Hid.intro (memF5_yes hq)
  obtain ⟨N, hN⟩ : ∃ N, N = (L.map mbV).length := ⟨_, rfl⟩
  have HQ2 := Hid.intro hN
  have hN1 : ¬ (N : Int) = 1 := by omega
  have hN2 : ((N : Int) == 1) = false := beq_false_of_ne hN1
  clear hq hml hN
  go_upto_region 3 with (at_len; refine wpList_len_x rfl (.tmp 8) rfl Try.underlying89 HM.out.1.2.1 rfl ?_; rw [← HQ2.out])
  have HX : Hid (OpX lo p b W1.drew ep du ms en L B ve ∧ Bx W1.drew W.heap.size [.int .i64 x0, .int .i64 x1, .slice xa x2.length xc, .int .i64 x3] ∧ Below W.heap.size W W1.drew) := ⟨HM.out.1.next (below_drew _), HM.out.2.1.next (below_drew _), below_next HM.out.2.2 (below_drew _)⟩
  clear s0 s1 s2 s3 sz m0 m1 m2 m3 mz
  refine wp_region_noPanic ?_
  refine wp_region_held_drew (S := fun W9 => Bx W9 p [.int .i64 ep, .int .i64 du, .map (some b), ve] ∧ Bx W9 W.heap.size [.int .i64 x0, .int .i64 x1, .slice xa x2.length xc, .int .i64 x3]) (by kernel_rfl) ⟨HX.out.1.1, HX.out.2.1⟩ (fun hHeld => ?_)
  obtain ⟨Y0, hWE⟩ : ∃ x, x = W1.drew := ⟨_, rfl⟩
  rw [← hWE] at HX hHeld ⊢
  clear hWE HM
  refine take_v (v := ?_) 0 ⟨some 11, Op.move (Operand.tmp 0), _, _, _, none⟩ rfl (fun _ _ _ h => h) ?_ hHeld ?_
  rotate_left
  · (intro W _; go_simp <;> (try with_reducible rfl))
  refine take_v (v := ?_) 1 ⟨some 12, Op.nilCheck (Operand.tmp 11), _, _, _, none⟩ rfl (fun _ _ _ h => h) ?_ hHeld ?_
  rotate_left
  · (intro W _; go_simp <;> (try with_reducible rfl))
  refine take_v (v := ?_) 2 ⟨some 13, Op.fieldAddr 91 (Operand.tmp 12) 2, _, _, _, none⟩ rfl (fun _ _ _ h => h) ?_ hHeld ?_
  rotate_left
  · (intro W _; go_simp <;> (try with_reducible rfl))
  refine take_v (v := ?_) 3 ⟨some 14, Op.load 89 (Operand.tmp 13), _, _, _, none⟩ rfl (fun _ _ _ h => h) ?_ hHeld ?_
  rotate_left
  · (intro W hSW; (have s2 := hSW.1.cell 2 rfl; have sz := hSW.1.2; have m0 := hSW.2.cell 0 rfl; have mz := hSW.2.2); go_simp <;> (try with_reducible rfl))
  refine take_v (v := ?_) 4 ⟨some 15, Op.fieldAddr 37 (Operand.tmp 3) 0, _, _, _, none⟩ rfl (fun _ _ _ h => h) ?_ hHeld ?_
  rotate_left
  · (intro W _; go_simp <;> (try with_reducible rfl))
  refine take_v (v := ?_) 5 ⟨some 16, Op.load 3 (Operand.tmp 15), _, _, _, none⟩ rfl (fun _ _ _ h => h) ?_ hHeld ?_
  rotate_left
  · (intro W hSW; (have s2 := hSW.1.cell 2 rfl; have sz := hSW.1.2; have m0 := hSW.2.cell 0 rfl; have mz := hSW.2.2); go_simp <;> (try with_reducible rfl))
  refine ready_call 6 ⟨none, Op.call { callee := Callee.builtin Builtin.delete, args := #[Operand.tmp 14, Operand.tmp 16], argTypes := #[89, 3] }, _, _, _, none⟩ (by kernel_rfl) rfl (by kernel_rfl) (fun KC hK => ?_)
  obtain ⟨hk1, hk2, hk3⟩ := HK.out
  refine wp_delete_x (.tmp 14) (.tmp 16) (by rfl) Try.underlying89 Try.underlying3 HX.out.1.2.1 (by rfl) (by rfl) hk1 hk2 hk3 ?_
  intro Y1 hmp hg hz
  have HF : Hid (OpX lo p b Y1 ep du (ms.eraseIdx i) en (L.eraseIdx i) (fun j => if j < i then B j else B (j + 1)) ve ∧ Bx Y1 W.heap.size [.int .i64 x0, .int .i64 x1, .slice xa x2.length xc, .int .i64 x3] ∧ Below lo W Y1) := Hid.intro (by
    have hs := HX.out.1
    have hlb : lo ≤ b := hs.2.2.2.2.2.2.2.2
    have hbW := HBW.out
    have hfin : Below lo W Y1 := (HX.out.2.2.mono hlo).grown hg (Nat.le_trans hlo HX.out.2.2.size) (fun k q => by
      have q : b = k := by simpa using q
      omega)
    exact ⟨hs.del hi hg hmp, HX.out.2.1.grow hg (fun q => by
      have q : W.heap.size = b := by simpa using q
      omega), hfin⟩)
  clear hmp hg hz hk1 hk2 hk3
  refine hK.out _ _ ⟨HF.out.1.1, HF.out.2.1⟩ (fun hHeld => ?_)
  clear hK KC
  refine wpAnyH_done (by kernel_rfl) ?_ _
  refine NoPanic.normal ?_
  clear hHeld
  go_wp2_with fail
  go_ret
  exact StO.yes HN.out HF.out.2.2 ⟨_, _, _, HF.out.1⟩

end Go.Proofs.Ytcbdlalpnlahcaa
/- Fences: all members of an open fence advance. -/
namespace Go.Proofs.Ytcbdlalpnlahcaa
open Go.RowKit
set_option linter.unusedVariables false
set_option linter.unusedSimpArgs false

/-- The fence's own numbers are set. -/
theorem OpX.setp {lo p b : Nat} {W : World} {ep du : Int} {ms : List (Sh.T shMember)} {en : List (Sh.T .int)} {L : List MbV} {B : Nat → Nat → Prop} {ve : Value} (h : OpX lo p b W ep du ms en L B ve) (ep' du' : Int) : OpX lo p b ((W.setCell ⟨p, 1, none⟩ (.int .i64 du')).setCell ⟨p, 0, none⟩ (.int .i64 ep')) ep' du' ms en L B ve := by
  obtain ⟨h1, h2, ⟨m1, m2, m3, m4⟩, h4, h5, h6, h7, h8, h9⟩ := h
  refine ⟨(h1.set (k := 1) (by simp) _).set (k := 0) (by simp) _, (h2.keep (Below.heap_setCell _ _ _ _ (fun q => h7 q.symm))).keep (Below.heap_setCell _ _ _ _ (fun q => h7 q.symm)), ⟨m1, fun i hL hm => ((m2 i hL hm).set (p := ⟨p, 1, none⟩) (fun q => (h5 i hm p q).1 rfl) _).set (p := ⟨p, 0, none⟩) (fun q => (h5 i hm p q).1 rfl) _, m3, fun i hi k hk => by rw [World.size_setCell, World.size_setCell]; exact m4 i hi k hk⟩, (h4.set (p := ⟨p, 1, none⟩) (fun q => (h6 p q).1 rfl) _).set (p := ⟨p, 0, none⟩) (fun q => (h6 p q).1 rfl) _, h5, h6, h7, h8, h9⟩
/-- While the members are gone through: who has not come yet, and who has, has acked. -/
def AdS (lo p b r : Nat) (W wr : World) (ep du : Int) (ms : List (Sh.T shMember)) (en : List (Sh.T .int)) (L : List MbV) (B : Nat → Nat → Prop) (ve : Value) (lf : List (Int × Value)) : Prop :=
  RgX wr b r lf ∧ (∀ q ∈ lf, ∃ x ∈ L, q = mbV x) ∧ (∀ x ∈ L, mbV x ∈ lf ∨ x.2.2.2 = ep - 1) ∧ OpX lo p b wr ep du ms en L B ve ∧ Below W.heap.size W wr ∧ W.heap.size ≤ r
theorem erase_mem {α : Type} {l : List α} {i : Nat} (hi : i < l.length) {x : α} (h : x ∈ l) : x ∈ l.eraseIdx i ∨ x = l[i] := by
  obtain ⟨j, hj, rfl⟩ := List.getElem_of_mem h
  by_cases q : j = i
  · subst q; exact Or.inr rfl
  · refine Or.inl ?_
    by_cases c : j < i
    · rw [List.mem_iff_getElem]
      exact ⟨j, by rw [List.length_eraseIdx_of_lt hi]; omega, by rw [List.getElem_eraseIdx, dif_pos c]⟩
    · rw [List.mem_iff_getElem]
      refine ⟨j - 1, by rw [List.length_eraseIdx_of_lt hi]; omega, ?_⟩
      rw [List.getElem_eraseIdx, dif_neg (by omega)]
      congr 1; omega

set_option maxRecDepth 100000 in
set_option maxHeartbeats 8000000 in
theorem advance_n (lo p b : Nat) (ep du : Int) (ms : List (Sh.T shMember)) (en : List (Sh.T .int)) (L : List MbV) (B : Nat → Nat → Prop) (ve : Value) (W : World) (hX : OpX lo p b W ep du ms en L B ve) (hlo : lo ≤ W.heap.size) (hG : goodF ep du ms en) (hP : playP ep du) :
    Calls Try.prog 65 #[.pointer (some ⟨p, 0, none⟩)] W (StO lo p b (advF ep du ms en) W) := by
  have hep := hG.1
  have hdu := hG.2.1
  have hP2 : ¬ (du = ep - 1 ∧ 1 < ep) := by unfold playP at hP; omega
  have HG : Hid (goodF ep du ms en ∧ ¬ (du = ep - 1 ∧ 1 < ep)) := ⟨hG, hP2⟩
  have HX := Hid.intro hX
  have hepw : IntKind.i64.wrap (ep - 1) = ep - 1 := w64f (by omega) (by omega)
  have hepw2 : IntKind.i64.wrap (ep + 1) = ep + 1 := w64f (by omega) (by omega)
  clear hX hG hP hP2
  have s0 := (HX.out.1).cell 0 rfl; have s1 := (HX.out.1).cell 1 rfl; have s2 := (HX.out.1).cell 2 rfl; have s3 := (HX.out.1).cell 3 rfl; have sz := (HX.out.1).2
  by_cases c1 : ep = 1000
  · have HN : Hid (advF ep du ms en = none) := Hid.intro (adv_no (fun q => q.1 c1))
    subst c1
    go_enter Try.func65, Try.ntmps65
    go_wp2
    go_ret
    exact StO.no HN.out (Below.refl _ _)
  have c1' : ¬ (1000 : Int) ≤ ep := by omega
  have HC1 : Hid (ep ≠ 1000) := c1
  go_enter Try.func65, Try.ntmps65
  go_wp2_with (first | (at_range; go_loud (refine wpList_range_x rfl (.tmp 13) rfl Try.underlying89 rfl HX.out.2.1 ?_; intro w0 hrg0 hb0 hs0)) | go_in)
  have HI : Hid (AdS lo p b W.heap.size W w0 ep du ms en L B ve (L.map mbV)) := Hid.intro ⟨hrg0, fun q hq => by obtain ⟨x, hx, rfl⟩ := List.mem_map.1 hq; exact ⟨x, hx, rfl⟩, fun x hx => Or.inl (List.mem_map.2 ⟨x, hx, rfl⟩), HX.out.next hb0, hb0, Nat.le_refl _⟩
  clear hrg0 hb0 hs0 s0 s1 s2 s3 sz c1
  go_loopw [] (fun wr => ∃ lf, AdS lo p b W.heap.size W wr ep du ms en L B ve lf) (fun wr => wr.rangeLeft b W.heap.size)
  case atStart => exact ⟨_, HI.out⟩
  case round =>
    obtain ⟨lf, hA⟩ := hrel
    have HA := Hid.intro hA
    clear hA HI
    have hs := HA.out.2.2.2.1.sizes
    have hrs := HA.out.1.lt
    have hrW : W.heap.size ≤ W.heap.size := Nat.le_refl _
    go_wp2_with (first | (at_next; refine wpList_next_x rfl (.tmp 14) rfl rfl HA.out.1 ?_ ?_) | go_in)
    · intro hl0
      have HN : Hid (advF ep du ms en = some (mkFe (ep + 1) (ep - 1) ms en)) := Hid.intro (adv_yes ⟨HC1.out, HG.out.2, fun i hi _ => by
        have hO := HA.out.2.2.2.1
        have hLl : i < L.length := by rw [hO.2.2.1.1]; exact hi
        have hid := hO.2.2.1.id hLl hi
        have hmac : mac ms[i] = ep - 1 := by
          rcases HA.out.2.2.1 L[i] (List.getElem_mem hLl) with q | q
          · rw [hl0] at q; cases q
          · rw [← hid.2.2.1]; exact q
        have hm := (HG.out.1.2.2.2.2.1 i hi hi).1
        have h1 := hm.2.1.2
        have h2 := hm.2.2.2.2.2
        exact ⟨hmac, by omega⟩⟩)
      have HF : Hid (OpX lo p b ((wr.setCell ⟨p, 1, none⟩ (.int .i64 (ep - 1))).setCell ⟨p, 0, none⟩ (.int .i64 (ep + 1))) (ep + 1) (ep - 1) ms en L B ve ∧ Below lo W ((wr.setCell ⟨p, 1, none⟩ (.int .i64 (ep - 1))).setCell ⟨p, 0, none⟩ (.int .i64 (ep + 1)))) := Hid.intro (by
        have hlp : lo ≤ p := HA.out.2.2.2.1.2.2.2.2.2.2.2.1
        exact ⟨HA.out.2.2.2.1.setp (ep + 1) (ep - 1), ((HA.out.2.2.2.2.1.mono hlo).setCell (p := ⟨p, 1, none⟩) hlp _).setCell (p := ⟨p, 0, none⟩) hlp _⟩)
      have s0 := (HA.out.2.2.2.1.1).cell 0 rfl; have s1 := (HA.out.2.2.2.1.1).cell 1 rfl; have s2 := (HA.out.2.2.2.1.1).cell 2 rfl; have s3 := (HA.out.2.2.2.1.1).cell 3 rfl; have sz := (HA.out.2.2.2.1.1).2
      have sf0 := HA.out.2.2.2.1.1.frz 0 (by simp)
      have sf1 := HA.out.2.2.2.1.1.frz 1 (by simp)
      clear hl0 hs hrs
      go_wp2
      go_ret
      exact StO.yes HN.out HF.out.2 ⟨_, _, _, HF.out.1⟩
    · intro i hi w1 hrg hg hsz hen0
      obtain ⟨x, hxL, hx⟩ := HA.out.2.1 lf[i] (List.getElem_mem hi)
      obtain ⟨x0, x1, ⟨xa, xn, xc⟩, x3⟩ := x
      have hb1 : Below W.heap.size W w1 := HA.out.2.2.2.2.1.grown hg HA.out.2.2.2.2.1.size (fun k q => by cases q; exact Nat.le_refl _)
      have HW : Hid (RgX w1 b W.heap.size (lf.eraseIdx i) ∧ Below W.heap.size W w1 ∧ OpX lo p b w1 ep du ms en L B ve) := ⟨hrg, hb1, HX.out.next hb1⟩
      have HXL : Hid ((x0, x1, (xa, xn, xc), x3) ∈ L ∧ lf[i] = mbV (x0, x1, (xa, xn, xc), x3)) := ⟨hxL, hx⟩
      have hen : (Instr.entry (.pointer (some ⟨W.heap.size, 0, none⟩))).run Try.prog w1 = .ok (.tuple #[.int .i64 x0, .agg #[.int .i64 x0, .int .i64 x1, .slice xa xn xc, .int .i64 x3]]) w1 := by rw [hx] at hen0; exact hen0
      clear hen0
      rw [hx]
      simp only [mbV]
      obtain ⟨W2, hW2⟩ : ∃ q, q = w1.alloc (.cells #[.int .i64 x0, .int .i64 x1, .slice xa xn xc, .int .i64 x3] 37) := ⟨_, rfl⟩
      have H2 : Hid (Bx W2 w1.heap.size [.int .i64 x0, .int .i64 x1, .slice xa xn xc, .int .i64 x3] ∧ Bx W2 p [.int .i64 ep, .int .i64 du, .map (some b), ve] ∧ Below w1.heap.size w1 W2) := Hid.intro (by
        have hb : Below w1.heap.size w1 W2 := hW2 ▸ Go.Joins.below_alloc1 _ _
        exact ⟨hW2 ▸ Bx.new w1 [_, _, _, _] _, HW.out.2.2.1.next hb, hb⟩)
      clear hxL hx hrg hg hsz hb1 hs hrs hrW
      go_upto_region 6 with fail
      rw [← hW2]
      clear hW2 hen
      have s0 := (H2.out.2.1).cell 0 rfl; have s1 := (H2.out.2.1).cell 1 rfl; have s2 := (H2.out.2.1).cell 2 rfl; have s3 := (H2.out.2.1).cell 3 rfl; have sz := (H2.out.2.1).2
      have m0 := (H2.out.1).cell 0 rfl; have m1 := (H2.out.1).cell 1 rfl; have m2 := (H2.out.1).cell 2 rfl; have m3 := (H2.out.1).cell 3 rfl; have mz := (H2.out.1).2
      by_cases q : x3 = ep - 1
      · have HR : Hid (∀ Z : World, Below W2.heap.size W2 Z → AdS lo p b W.heap.size W Z ep du ms en L B ve (lf.eraseIdx i)) := Hid.intro (fun Z hZ => by
          have hb : Below w1.heap.size w1 Z := below_next H2.out.2.2 hZ
          refine ⟨HW.out.1.keep (hb.block b HW.out.1.lt.1) (hb.block _ HW.out.1.lt.2.1), fun z hz => HA.out.2.1 z (List.mem_of_mem_eraseIdx hz), fun z hz => ?_, HW.out.2.2.next hb, below_next HW.out.2.1 hb, Nat.le_refl _⟩
          rcases HA.out.2.2.1 z hz with r | r
          · rcases erase_mem hi r with s | s
            · exact Or.inl s
            · rw [HXL.out.2] at s
              have e : z.2.2.2 = x3 := by
                have h0 := congrArg Prod.snd s
                simp only [mbV, Value.agg.injEq, Array.mk.injEq, List.cons.injEq, Value.int.injEq, and_true, true_and] at h0
                exact h0.2.2.2
              exact Or.inr (e.trans q)
          · exact Or.inr r)
        have HLF : Hid ((lf.eraseIdx i).length < lf.length) := Hid.intro (by rw [List.length_eraseIdx_of_lt hi]; omega)
        subst q
        clear HXL hi
        go_quiet (fail)
        go_wp2
        go_roundw
        case rel => exact ⟨_, HR.out _ ⟨rfl, rfl, rfl, Nat.le_refl _, fun _ _ => rfl⟩⟩
        case measure =>
          have h1 := (HR.out (W2.drewN nq) ⟨rfl, rfl, rfl, Nat.le_refl _, fun _ _ => rfl⟩).1.left
          have h2 := HA.out.1.left
          have h3 := HLF.out
          rw [h1, h2]; exact h3
      · have HN : Hid (advF ep du ms en = none) := Hid.intro (adv_no (fun h => by
          obtain ⟨j, hj, hLj⟩ := List.getElem_of_mem HXL.out.1
          have hO := HW.out.2.2
          have hjm : j < ms.length := by rw [← hO.2.2.1.1]; exact hj
          have hid := (hO.2.2.1.id hj hjm).2.2.1
          rw [hLj] at hid
          exact q (hid.trans (h.2.2 j hjm hjm).1)))
        have qb : (x3 == ep - 1) = false := beq_false_of_ne q
        have qd : decide (x3 = ep - 1) = false := decide_eq_false q
        have qn : (x3 != ep - 1) = true := bne_iff_ne.2 q
        have HB : Hid (Below lo W W2) := Hid.intro ((below_next HW.out.2.1 H2.out.2.2).mono hlo)
        clear HXL hi
        go_quiet (fail)
        go_wp2
        go_ret
        exact StO.no HN.out (HB.out.trans ⟨rfl, rfl, rfl, Nat.le_refl _, fun _ _ => rfl⟩)

end Go.Proofs.Ytcbdlalpnlahcaa
