/- The law's own functions that ask for marks. Written by tools/nest.py. -/
import Derived.Test.YtaofolbnommpgaaNtM
import Derived.Test.YtaofolbnommpgaaRg2
import Derived.Deep.RegionWith
import Derived.Deep.DeepCutAuto
namespace Go.Proofs.Ytaofolbnommpgaa
open Go.RowKit
set_option linter.unusedVariables false
set_option linter.unusedSimpArgs false

set_option maxRecDepth 100000 in
set_option maxHeartbeats 4000000 in
theorem heldIntS_n (a : Option Addr) (cap : Nat) (x : List (Sh.T .int)) (q : Int) (w : World) (h0 : 0 < q) (h1 : q + (cntD (.list .int) x : Nat) ≤ 8796000000000) (hz : szD (.list .int) x ≤ 1073741824) (h : Lies w (.list .int) [.slice a x.length cap] (mkD (.list .int) x q)) :
    Calls Try.prog 107 #[.slice a x.length cap, .int .i64 q] w fun r w' => r = .returned (.int .i64 (q + (cntD (.list .int) x : Nat))) ∧ Below w.heap.size w w' := by
  have hn : x.length ≤ 1073741824 := by simp only [szD] at hz; omega
  have HL : Hid (Lies w (.list .int) [.slice a x.length cap] (mkD (.list .int) x q)) := h
  have HZ : Hid (szD (.list .int) x ≤ 1073741824 ∧ q + (cntD (.list .int) x : Nat) ≤ 8796000000000) := ⟨hz, h1⟩
  have hc1 : q ≤ 8796000000000 := by omega
  clear h hz h1
  obtain ⟨n, hnn⟩ : ∃ n, n = x.length := ⟨_, rfl⟩
  have HN : Hid (n = x.length) := hnn
  rw [← hnn] at hn ⊢
  clear hnn
  go_enter Try.func107, Try.ntmps107
  go_wp2
  go_loopw [5, 1] (fun i q' wr => ∃ k : Nat, k ≤ n ∧ i = .int .i64 k ∧ q' = .int .i64 (q + (cntU .int x k : Nat)) ∧ Below w.heap.size w wr) (fun i _ _ => n - (intOf i).toNat)
  case atStart => exact ⟨0, Nat.zero_le _, rfl, by simp [cntU], Below.refl _ _⟩
  case round =>
    obtain ⟨k, hk, rfl, rfl, hBr⟩ := hrel
    by_cases hlt : k < n
    · have hlx : k < x.length := by have := HN.out; omega
      have hlt' : (k : Int) < (n : Int) := by omega
      obtain ⟨y, hy⟩ : ∃ y, y = q + (cntU .int x k : Nat) := ⟨_, rfl⟩
      rw [← hy]
      have hcs := cntU_succ .int x k hlx
      have hcl := cntU_le .int x (k + 1)
      have HYE : Hid (y = q + (cntU .int x k : Nat) ∧ cntU .int x (k + 1) = cntU .int x k + cntD .int x[k]) := ⟨hy, hcs⟩
      have hce : y + (cntD .int x[k] : Nat) ≤ 8796000000000 := by have := HZ.out.2; omega
      have hy0 : 0 < y := by omega
      clear hcs hcl hy
      obtain ⟨g, off, hgo, hgs, ec, hel, hec, hle⟩ := Lies.elem (HL.out.next hBr) (by rw [mkD_len]; exact hlx)
      subst hgo
      rw [mkD_at _ _ _ _ hlx, ← HYE.out.1] at hle
      have hev : ec = [.int .i64 (y)] := hle
      subst hev
      have hce2 : y + 1 ≤ 8796000000000 := by have : cntD .int x[k] = 1 := rfl; omega
      have c0 : wr.cell? ⟨g, off + k, none⟩ = some (.int .i64 (y)) := by have := hec 0 (by simp); simpa [Sh.c] using this
      have HB0 : Hid (Below w.heap.size w wr) := hBr
      clear hec hel hBr
      have HQ : Hid (y + 1 = q + (cntU .int x (k + 1) : Nat)) := Hid.intro (by have h1 := HYE.out; have h2 : cntD .int x[k] = 1 := rfl; omega)
      go_wp2
      go_roundw
      case rel => exact ⟨k + 1, by omega, by go_num, by rw [← HQ.out], HB0.out⟩
      case measure => simp [intOf]; omega
    · have hkn : k = n := by omega
      subst hkn
      have HP : Hid ((cntU .int x k : Nat) = cntD (.list .int) x) := Hid.intro (by rw [HN.out, cntU_all])
      have HB : Hid (Below w.heap.size w wr) := hBr
      clear hBr
      go_wp2
      go_ret
      exact ⟨congrArg (fun t : Nat => Ending.returned (.int .i64 (q + (t : Int)))) HP.out, HB.out⟩
set_option maxRecDepth 100000 in
set_option maxHeartbeats 4000000 in
theorem heldCopyS_n (a : Option Addr) (cap : Nat) (x : List (Sh.T shCopy)) (q : Int) (w : World) (h0 : 0 < q) (h1 : q + (cntD (.list shCopy) x : Nat) ≤ 8796000000000) (hz : szD (.list shCopy) x ≤ 1073741824) (h : Lies w (.list shCopy) [.slice a x.length cap] (mkD (.list shCopy) x q)) :
    Calls Try.prog 77 #[.slice a x.length cap, .int .i64 q] w fun r w' => r = .returned (.int .i64 (q + (cntD (.list shCopy) x : Nat))) ∧ Below w.heap.size w w' := by
  have hn : x.length ≤ 1073741824 := by simp only [szD] at hz; omega
  have HL : Hid (Lies w (.list shCopy) [.slice a x.length cap] (mkD (.list shCopy) x q)) := h
  have HZ : Hid (szD (.list shCopy) x ≤ 1073741824 ∧ q + (cntD (.list shCopy) x : Nat) ≤ 8796000000000) := ⟨hz, h1⟩
  have hc1 : q ≤ 8796000000000 := by omega
  clear h hz h1
  obtain ⟨n, hnn⟩ : ∃ n, n = x.length := ⟨_, rfl⟩
  have HN : Hid (n = x.length) := hnn
  rw [← hnn] at hn ⊢
  clear hnn
  go_enter Try.func77, Try.ntmps77
  go_wp2
  go_loopw [5, 1] (fun i q' wr => ∃ k : Nat, k ≤ n ∧ i = .int .i64 k ∧ q' = .int .i64 (q + (cntU shCopy x k : Nat)) ∧ Below w.heap.size w wr) (fun i _ _ => n - (intOf i).toNat)
  case atStart => exact ⟨0, Nat.zero_le _, rfl, by simp [cntU], Below.refl _ _⟩
  case round =>
    obtain ⟨k, hk, rfl, rfl, hBr⟩ := hrel
    by_cases hlt : k < n
    · have hlx : k < x.length := by have := HN.out; omega
      have hlt' : (k : Int) < (n : Int) := by omega
      obtain ⟨y, hy⟩ : ∃ y, y = q + (cntU shCopy x k : Nat) := ⟨_, rfl⟩
      rw [← hy]
      have hcs := cntU_succ shCopy x k hlx
      have hcl := cntU_le shCopy x (k + 1)
      have HYE : Hid (y = q + (cntU shCopy x k : Nat) ∧ cntU shCopy x (k + 1) = cntU shCopy x k + cntD shCopy x[k]) := ⟨hy, hcs⟩
      have hce : y + (cntD shCopy x[k] : Nat) ≤ 8796000000000 := by have := HZ.out.2; omega
      have hy0 : 0 < y := by omega
      clear hcs hcl hy
      obtain ⟨g, off, hgo, hgs, ec, hel, hec, hle⟩ := Lies.elem (HL.out.next hBr) (by rw [mkD_len]; exact hlx)
      subst hgo
      rw [mkD_at _ _ _ _ hlx, ← HYE.out.1] at hle
      have hq : mkD shCopy x[k] y = ((y), (y + 1), (mtx (y + 1 + 1)), ()) := mkeq_Copy x[k].1 x[k].2.1 x[k].2.2.1 y
      rw [hq] at hle
      clear hq
      obtain hev := lies_Copy hle
      subst hev
      have hcE : cntD shCopy x[k] = (1 + (1 + (1 + 0))) := rfl
      have hce2 : y + 3 ≤ 8796000000000 := by omega
      have ca : wr.cell? ⟨g, off + k * 3, none⟩ = some (.int .i64 (y)) := hec 0 (by simp)
      have cb : wr.cell? ⟨g, off + k * 3 + 1, none⟩ = some (.int .i64 (y + 1)) := hec 1 (by simp)
      have cc : wr.cell? ⟨g, off + k * 3 + 2, none⟩ = some (.string (mtx (y + 1 + 1))) := hec 2 (by simp)
      clear hcE hce hle
      have HB0 : Hid (Below w.heap.size w wr) := hBr
      clear hec hel hBr
      go_upto_region 10 with fail
      refine wp_region_noPanic ?_
      refine wp_region_held_drew (S := fun W => W.cell? ⟨g, off + k * 3 + 2, none⟩ = some (.string (mtx (y + 1 + 1))) ∧ Below wr.heap.size wr W) (by kernel_rfl) ⟨cc, below_drew _⟩ (fun hHeld => ?_)
      refine take_v (v := ?_) 0 ⟨some 30, Op.move (Operand.tmp 0), _, _, _, none⟩ rfl (fun _ _ _ h => h) ?_ hHeld ?_
      rotate_left
      · (intro W _; go_simp <;> (try with_reducible rfl))
      refine take_v (v := ?_) 1 ⟨some 31, Op.move (Operand.tmp 5), _, _, _, none⟩ rfl (fun _ _ _ h => h) ?_ hHeld ?_
      rotate_left
      · (intro W _; go_simp <;> (try with_reducible rfl))
      refine take_v (v := ?_) 2 ⟨some 32, Op.indexAddr 26 (Operand.tmp 30) (Operand.tmp 31), _, _, _, none⟩ rfl (fun _ _ _ h => h) ?_ hHeld ?_
      rotate_left
      · (intro W _; go_simp <;> (try with_reducible rfl))
      refine take_v (v := ?_) 3 ⟨some 33, Op.fieldAddr 48 (Operand.tmp 32) 2, _, _, _, none⟩ rfl (fun _ _ _ h => h) ?_ hHeld ?_
      rotate_left
      · (intro W _; go_simp <;> (try with_reducible rfl))
      refine take_v (v := ?_) 4 ⟨some 34, Op.load 9 (Operand.tmp 33), _, _, _, none⟩ rfl (fun _ _ _ h => h) ?_ hHeld ?_
      rotate_left
      · (intro W hSW; obtain ⟨sw0, sw1⟩ := hSW; go_simp <;> (try with_reducible rfl))
      refine take_v (v := ?_) 5 ⟨some 35, Op.move (Operand.tmp 1), _, _, _, none⟩ rfl (fun _ _ _ h => h) ?_ hHeld ?_
      rotate_left
      · (intro W _; go_simp <;> (try with_reducible rfl))
      refine ready_call 6 ⟨some 36, Op.call { callee := Callee.value (Operand.func 84), args := #[Operand.tmp 35], argTypes := #[3] }, _, _, _, none⟩ (by kernel_rfl) rfl (by kernel_rfl) (fun KC hK => ?_)
      go_wp2_with fail
      refine (markText_any _ _ (by omega) (by omega)).mono ?_
      rintro r w1 ⟨rfl, hb⟩
      have hbw : Below wr.heap.size wr w1 := (below_drew wr).trans hb
      refine hK.out _ _ ⟨(hbw.cell (p := ⟨g, off + k * 3 + 2, none⟩) hgs).trans cc, hbw⟩ (fun hHeld => ?_)
      clear hK KC
      refine take_v (v := ?_) 7 ⟨some 37, Op.binOp BinOp.neq 9 (Operand.tmp 34) (Operand.tmp 36) 9, _, _, _, none⟩ rfl (fun _ _ _ h => h) ?_ hHeld ?_
      rotate_left
      · (intro W _; go_simp <;> (try with_reducible rfl))
      refine wpAnyH_done (by kernel_rfl) ?_ _
      refine NoPanic.normal ?_
      clear hHeld hb
      have HB1 : Hid (Below w.heap.size w w1) := HB0.out.trans (hbw.mono HB0.out.size)
      replace ca := (hbw.cell (p := ⟨g, off + k * 3, none⟩) hgs).trans ca
      replace cb := (hbw.cell (p := ⟨g, off + k * 3 + 1, none⟩) hgs).trans cb
      replace cc := (hbw.cell (p := ⟨g, off + k * 3 + 2, none⟩) hgs).trans cc
      replace hgs := Nat.lt_of_lt_of_le hgs hbw.size
      clear hbw HB0
      have HQ : Hid (y + 1 + 1 + 1 = q + (cntU shCopy x (k + 1) : Nat)) := Hid.intro (by have h1 := HYE.out; have h2 : cntD shCopy x[k] = (1 + (1 + (1 + 0))) := rfl; omega)
      go_wp2
      go_roundw
      case rel => exact ⟨k + 1, by omega, by go_num, by rw [← HQ.out], HB1.out⟩
      case measure => simp [intOf]; omega
    · have hkn : k = n := by omega
      subst hkn
      have HP : Hid ((cntU shCopy x k : Nat) = cntD (.list shCopy) x) := Hid.intro (by rw [HN.out, cntU_all])
      have HB : Hid (Below w.heap.size w wr) := hBr
      clear hBr
      go_wp2
      go_ret
      exact ⟨congrArg (fun t : Nat => Ending.returned (.int .i64 (q + (t : Int)))) HP.out, HB.out⟩
set_option maxRecDepth 100000 in
set_option maxHeartbeats 4000000 in
theorem heldRegOpS_n (a : Option Addr) (cap : Nat) (x : List (Sh.T shRegOp)) (q : Int) (w : World) (h0 : 0 < q) (h1 : q + (cntD (.list shRegOp) x : Nat) ≤ 8796000000000) (hz : szD (.list shRegOp) x ≤ 1073741824) (h : Lies w (.list shRegOp) [.slice a x.length cap] (mkD (.list shRegOp) x q)) :
    Calls Try.prog 78 #[.slice a x.length cap, .int .i64 q] w fun r w' => r = .returned (.int .i64 (q + (cntD (.list shRegOp) x : Nat))) ∧ Below w.heap.size w w' := by
  have hn : x.length ≤ 1073741824 := by simp only [szD] at hz; omega
  have HL : Hid (Lies w (.list shRegOp) [.slice a x.length cap] (mkD (.list shRegOp) x q)) := h
  have HZ : Hid (szD (.list shRegOp) x ≤ 1073741824 ∧ q + (cntD (.list shRegOp) x : Nat) ≤ 8796000000000) := ⟨hz, h1⟩
  have hc1 : q ≤ 8796000000000 := by omega
  clear h hz h1
  obtain ⟨n, hnn⟩ : ∃ n, n = x.length := ⟨_, rfl⟩
  have HN : Hid (n = x.length) := hnn
  rw [← hnn] at hn ⊢
  clear hnn
  go_enter Try.func78, Try.ntmps78
  go_wp2
  go_loopw [5, 1] (fun i q' wr => ∃ k : Nat, k ≤ n ∧ i = .int .i64 k ∧ q' = .int .i64 (q + (cntU shRegOp x k : Nat)) ∧ Below w.heap.size w wr) (fun i _ _ => n - (intOf i).toNat)
  case atStart => exact ⟨0, Nat.zero_le _, rfl, by simp [cntU], Below.refl _ _⟩
  case round =>
    obtain ⟨k, hk, rfl, rfl, hBr⟩ := hrel
    by_cases hlt : k < n
    · have hlx : k < x.length := by have := HN.out; omega
      have hlt' : (k : Int) < (n : Int) := by omega
      obtain ⟨y, hy⟩ : ∃ y, y = q + (cntU shRegOp x k : Nat) := ⟨_, rfl⟩
      rw [← hy]
      have hcs := cntU_succ shRegOp x k hlx
      have hcl := cntU_le shRegOp x (k + 1)
      have HYE : Hid (y = q + (cntU shRegOp x k : Nat) ∧ cntU shRegOp x (k + 1) = cntU shRegOp x k + cntD shRegOp x[k]) := ⟨hy, hcs⟩
      have hce : y + (cntD shRegOp x[k] : Nat) ≤ 8796000000000 := by have := HZ.out.2; omega
      have hy0 : 0 < y := by omega
      clear hcs hcl hy
      obtain ⟨g, off, hgo, hgs, ec, hel, hec, hle⟩ := Lies.elem (HL.out.next hBr) (by rw [mkD_len]; exact hlx)
      subst hgo
      rw [mkD_at _ _ _ _ hlx, ← HYE.out.1] at hle
      obtain ⟨c1, hc1⟩ : ∃ y, y = cntD (.list .int) x[k].2.2.2.2.1 := ⟨_, rfl⟩
      obtain ⟨z1, hz1⟩ : ∃ zz, zz = y + 1 + 1 + 1 + 1 + (c1 : Int) := ⟨_, rfl⟩
      have hq : mkD shRegOp x[k] y = ((y), ((y + 1) % 3 == 0), (mtx (y + 1 + 1)), (y + 1 + 1 + 1), mkD (.list .int) x[k].2.2.2.2.1 (y + 1 + 1 + 1 + 1), ((z1), (z1 + 1), (mtx (z1 + 1 + 1)), ()), (z1 + 1 + 1 + 1), (z1 + 1 + 1 + 1 + 1), ()) := mkeq_RegOp x[k].1 x[k].2.1 x[k].2.2.1 x[k].2.2.2.1 x[k].2.2.2.2.1 x[k].2.2.2.2.2.1.1 x[k].2.2.2.2.2.1.2.1 x[k].2.2.2.2.2.1.2.2.1 x[k].2.2.2.2.2.2.1 x[k].2.2.2.2.2.2.2.1 y z1 (by rw [← hc1]; exact hz1)
      rw [hq] at hle
      clear hq
      obtain ⟨a1, k1, hev, q1⟩ := lies_RegOp hle
      rw [show List.length (mkD (.list .int) x[k].2.2.2.2.1 (y + 1 + 1 + 1 + 1)) = x[k].2.2.2.2.1.length from mkD_len _ _ _] at hev q1
      subst hev
      have hcE : cntD shRegOp x[k] = (1 + (1 + (1 + (1 + (cntD (.list .int) x[k].2.2.2.2.1 + ((1 + (1 + (1 + 0))) + (1 + (1 + 0)))))))) := rfl
      have HC1 : Hid (szD (.list .int) x[k].2.2.2.2.1 ≤ 1073741824) := Hid.intro (by have h1 := sz_mem (List.getElem_mem hlx); have h2 := HZ.out.1; have h3 : szD shRegOp x[k] = (0 + (0 + (x[k].2.2.1.size + (0 + (szD (.list .int) x[k].2.2.2.2.1 + (szD shCopy x[k].2.2.2.2.2.1 + (0 + (0 + 0)))))))) := rfl; omega)
      rw [← hc1] at hcE
      have HK1 : Hid (c1 = cntD (.list .int) x[k].2.2.2.2.1) := hc1
      have HZ1 : Hid (z1 = y + 1 + 1 + 1 + 1 + (c1 : Int)) := hz1
      have Q1 : Hid (Lies wr (.list .int) [.slice a1 x[k].2.2.2.2.1.length k1] (mkD (.list .int) x[k].2.2.2.2.1 (y + 1 + 1 + 1 + 1))) := q1
      have hzb1 : 0 < z1 ∧ z1 + 5 ≤ 8796000000000 := by omega
      have hzn1 : ¬ z1 < 0 := by omega
      have hce2 : y + 9 + (c1 : Int) ≤ 8796000000000 := by omega
      clear hc1 hz1 q1
      have ca : wr.cell? ⟨g, off + k * 10, none⟩ = some (.int .i64 (y)) := hec 0 (by simp)
      have cb : wr.cell? ⟨g, off + k * 10 + 1, none⟩ = some (.bool ((y + 1) % 3 == 0)) := hec 1 (by simp)
      have cc : wr.cell? ⟨g, off + k * 10 + 2, none⟩ = some (.string (mtx (y + 1 + 1))) := hec 2 (by simp)
      have cd : wr.cell? ⟨g, off + k * 10 + 3, none⟩ = some (.int .i64 (y + 1 + 1 + 1)) := hec 3 (by simp)
      have ce : wr.cell? ⟨g, off + k * 10 + 4, none⟩ = some (.slice a1 x[k].2.2.2.2.1.length k1) := hec 4 (by simp)
      have cf : wr.cell? ⟨g, off + k * 10 + 5, none⟩ = some (.int .i64 (z1)) := hec 5 (by simp)
      have cg : wr.cell? ⟨g, off + k * 10 + 6, none⟩ = some (.int .i64 (z1 + 1)) := hec 6 (by simp)
      have ch : wr.cell? ⟨g, off + k * 10 + 7, none⟩ = some (.string (mtx (z1 + 1 + 1))) := hec 7 (by simp)
      have ci : wr.cell? ⟨g, off + k * 10 + 8, none⟩ = some (.int .i64 (z1 + 1 + 1 + 1)) := hec 8 (by simp)
      have cj : wr.cell? ⟨g, off + k * 10 + 9, none⟩ = some (.int .i64 (z1 + 1 + 1 + 1 + 1)) := hec 9 (by simp)
      clear hcE hce hle
      have HB0 : Hid (Below w.heap.size w wr) := hBr
      clear hec hel hBr
      go_upto_region 10 with fail
      refine wp_region_noPanic ?_
      refine wp_region_held_drew (S := fun W => W.cell? ⟨g, off + k * 10 + 2, none⟩ = some (.string (mtx (y + 1 + 1))) ∧ Below wr.heap.size wr W) (by kernel_rfl) ⟨cc, below_drew _⟩ (fun hHeld => ?_)
      refine take_v (v := ?_) 0 ⟨some 32, Op.move (Operand.tmp 0), _, _, _, none⟩ rfl (fun _ _ _ h => h) ?_ hHeld ?_
      rotate_left
      · (intro W _; go_simp <;> (try with_reducible rfl))
      refine take_v (v := ?_) 1 ⟨some 33, Op.move (Operand.tmp 5), _, _, _, none⟩ rfl (fun _ _ _ h => h) ?_ hHeld ?_
      rotate_left
      · (intro W _; go_simp <;> (try with_reducible rfl))
      refine take_v (v := ?_) 2 ⟨some 34, Op.indexAddr 27 (Operand.tmp 32) (Operand.tmp 33), _, _, _, none⟩ rfl (fun _ _ _ h => h) ?_ hHeld ?_
      rotate_left
      · (intro W _; go_simp <;> (try with_reducible rfl))
      refine take_v (v := ?_) 3 ⟨some 35, Op.fieldAddr 53 (Operand.tmp 34) 2, _, _, _, none⟩ rfl (fun _ _ _ h => h) ?_ hHeld ?_
      rotate_left
      · (intro W _; go_simp <;> (try with_reducible rfl))
      refine take_v (v := ?_) 4 ⟨some 36, Op.load 9 (Operand.tmp 35), _, _, _, none⟩ rfl (fun _ _ _ h => h) ?_ hHeld ?_
      rotate_left
      · (intro W hSW; obtain ⟨sw0, sw1⟩ := hSW; go_simp <;> (try with_reducible rfl))
      refine take_v (v := ?_) 5 ⟨some 37, Op.move (Operand.tmp 1), _, _, _, none⟩ rfl (fun _ _ _ h => h) ?_ hHeld ?_
      rotate_left
      · (intro W _; go_simp <;> (try with_reducible rfl))
      refine ready_call 6 ⟨some 38, Op.call { callee := Callee.value (Operand.func 84), args := #[Operand.tmp 37], argTypes := #[3] }, _, _, _, none⟩ (by kernel_rfl) rfl (by kernel_rfl) (fun KC hK => ?_)
      go_wp2_with fail
      refine (markText_any _ _ (by omega) (by omega)).mono ?_
      rintro r w1 ⟨rfl, hb⟩
      have hbw : Below wr.heap.size wr w1 := (below_drew wr).trans hb
      refine hK.out _ _ ⟨(hbw.cell (p := ⟨g, off + k * 10 + 2, none⟩) hgs).trans cc, hbw⟩ (fun hHeld => ?_)
      clear hK KC
      refine take_v (v := ?_) 7 ⟨some 39, Op.binOp BinOp.neq 9 (Operand.tmp 36) (Operand.tmp 38) 9, _, _, _, none⟩ rfl (fun _ _ _ h => h) ?_ hHeld ?_
      rotate_left
      · (intro W _; go_simp <;> (try with_reducible rfl))
      refine wpAnyH_done (by kernel_rfl) ?_ _
      refine NoPanic.normal ?_
      clear hHeld hb
      have HB1 : Hid (Below w.heap.size w w1) := HB0.out.trans (hbw.mono HB0.out.size)
      replace ca := (hbw.cell (p := ⟨g, off + k * 10, none⟩) hgs).trans ca
      replace cb := (hbw.cell (p := ⟨g, off + k * 10 + 1, none⟩) hgs).trans cb
      replace cc := (hbw.cell (p := ⟨g, off + k * 10 + 2, none⟩) hgs).trans cc
      replace cd := (hbw.cell (p := ⟨g, off + k * 10 + 3, none⟩) hgs).trans cd
      replace ce := (hbw.cell (p := ⟨g, off + k * 10 + 4, none⟩) hgs).trans ce
      replace cf := (hbw.cell (p := ⟨g, off + k * 10 + 5, none⟩) hgs).trans cf
      replace cg := (hbw.cell (p := ⟨g, off + k * 10 + 6, none⟩) hgs).trans cg
      replace ch := (hbw.cell (p := ⟨g, off + k * 10 + 7, none⟩) hgs).trans ch
      replace ci := (hbw.cell (p := ⟨g, off + k * 10 + 8, none⟩) hgs).trans ci
      replace cj := (hbw.cell (p := ⟨g, off + k * 10 + 9, none⟩) hgs).trans cj
      replace Q1 : Hid (Lies w1 (.list .int) [.slice a1 x[k].2.2.2.2.1.length k1] (mkD (.list .int) x[k].2.2.2.2.1 (y + 1 + 1 + 1 + 1))) := Q1.out.next hbw
      replace hgs := Nat.lt_of_lt_of_le hgs hbw.size
      clear hbw HB0
      go_wp2_with fail
      refine (heldIntS_n _ _ _ _ _ (by omega) (by rw [← HK1.out]; omega) HC1.out Q1.out).mono ?_
      rintro r w2 ⟨hr, hbw⟩
      rw [← HK1.out, ← HZ1.out] at hr
      subst hr
      have HB2 : Hid (Below w.heap.size w w2) := HB1.out.trans (hbw.mono HB1.out.size)
      replace ca := (hbw.cell (p := ⟨g, off + k * 10, none⟩) hgs).trans ca
      replace cb := (hbw.cell (p := ⟨g, off + k * 10 + 1, none⟩) hgs).trans cb
      replace cc := (hbw.cell (p := ⟨g, off + k * 10 + 2, none⟩) hgs).trans cc
      replace cd := (hbw.cell (p := ⟨g, off + k * 10 + 3, none⟩) hgs).trans cd
      replace ce := (hbw.cell (p := ⟨g, off + k * 10 + 4, none⟩) hgs).trans ce
      replace cf := (hbw.cell (p := ⟨g, off + k * 10 + 5, none⟩) hgs).trans cf
      replace cg := (hbw.cell (p := ⟨g, off + k * 10 + 6, none⟩) hgs).trans cg
      replace ch := (hbw.cell (p := ⟨g, off + k * 10 + 7, none⟩) hgs).trans ch
      replace ci := (hbw.cell (p := ⟨g, off + k * 10 + 8, none⟩) hgs).trans ci
      replace cj := (hbw.cell (p := ⟨g, off + k * 10 + 9, none⟩) hgs).trans cj
      replace Q1 : Hid (Lies w2 (.list .int) [.slice a1 x[k].2.2.2.2.1.length k1] (mkD (.list .int) x[k].2.2.2.2.1 (y + 1 + 1 + 1 + 1))) := Q1.out.next hbw
      replace hgs := Nat.lt_of_lt_of_le hgs hbw.size
      clear hbw HB1
      go_upto_region 25 with fail
      refine wp_region_noPanic ?_
      refine wp_region_held_drew (S := fun W => W.cell? ⟨g, off + k * 10 + 7, none⟩ = some (.string (mtx (z1 + 1 + 1))) ∧ Below w2.heap.size w2 W) (by kernel_rfl) ⟨ch, below_drew _⟩ (fun hHeld => ?_)
      refine take_v (v := ?_) 0 ⟨some 80, Op.move (Operand.tmp 0), _, _, _, none⟩ rfl (fun _ _ _ h => h) ?_ hHeld ?_
      rotate_left
      · (intro W _; go_simp <;> (try with_reducible rfl))
      refine take_v (v := ?_) 1 ⟨some 81, Op.move (Operand.tmp 5), _, _, _, none⟩ rfl (fun _ _ _ h => h) ?_ hHeld ?_
      rotate_left
      · (intro W _; go_simp <;> (try with_reducible rfl))
      refine take_v (v := ?_) 2 ⟨some 82, Op.indexAddr 27 (Operand.tmp 80) (Operand.tmp 81), _, _, _, none⟩ rfl (fun _ _ _ h => h) ?_ hHeld ?_
      rotate_left
      · (intro W _; go_simp <;> (try with_reducible rfl))
      refine take_v (v := ?_) 3 ⟨some 83, Op.fieldAddr 53 (Operand.tmp 82) 5, _, _, _, none⟩ rfl (fun _ _ _ h => h) ?_ hHeld ?_
      rotate_left
      · (intro W _; go_simp <;> (try with_reducible rfl))
      refine take_v (v := ?_) 4 ⟨some 84, Op.fieldAddr 48 (Operand.tmp 83) 2, _, _, _, none⟩ rfl (fun _ _ _ h => h) ?_ hHeld ?_
      rotate_left
      · (intro W _; go_simp <;> (try with_reducible rfl))
      refine take_v (v := ?_) 5 ⟨some 85, Op.load 9 (Operand.tmp 84), _, _, _, none⟩ rfl (fun _ _ _ h => h) ?_ hHeld ?_
      rotate_left
      · (intro W hSW; obtain ⟨sw0, sw1⟩ := hSW; go_simp <;> (try with_reducible rfl))
      refine take_v (v := ?_) 6 ⟨some 86, Op.move (Operand.tmp 1), _, _, _, none⟩ rfl (fun _ _ _ h => h) ?_ hHeld ?_
      rotate_left
      · (intro W _; go_simp <;> (try with_reducible rfl))
      refine ready_call 7 ⟨some 87, Op.call { callee := Callee.value (Operand.func 84), args := #[Operand.tmp 86], argTypes := #[3] }, _, _, _, none⟩ (by kernel_rfl) rfl (by kernel_rfl) (fun KC hK => ?_)
      go_wp2_with fail
      refine (markText_any _ _ (by omega) (by omega)).mono ?_
      rintro r w3 ⟨rfl, hb⟩
      have hbw : Below w2.heap.size w2 w3 := (below_drew w2).trans hb
      refine hK.out _ _ ⟨(hbw.cell (p := ⟨g, off + k * 10 + 7, none⟩) hgs).trans ch, hbw⟩ (fun hHeld => ?_)
      clear hK KC
      refine take_v (v := ?_) 8 ⟨some 88, Op.binOp BinOp.neq 9 (Operand.tmp 85) (Operand.tmp 87) 9, _, _, _, none⟩ rfl (fun _ _ _ h => h) ?_ hHeld ?_
      rotate_left
      · (intro W _; go_simp <;> (try with_reducible rfl))
      refine wpAnyH_done (by kernel_rfl) ?_ _
      refine NoPanic.normal ?_
      clear hHeld hb
      have HB3 : Hid (Below w.heap.size w w3) := HB2.out.trans (hbw.mono HB2.out.size)
      replace ca := (hbw.cell (p := ⟨g, off + k * 10, none⟩) hgs).trans ca
      replace cb := (hbw.cell (p := ⟨g, off + k * 10 + 1, none⟩) hgs).trans cb
      replace cc := (hbw.cell (p := ⟨g, off + k * 10 + 2, none⟩) hgs).trans cc
      replace cd := (hbw.cell (p := ⟨g, off + k * 10 + 3, none⟩) hgs).trans cd
      replace ce := (hbw.cell (p := ⟨g, off + k * 10 + 4, none⟩) hgs).trans ce
      replace cf := (hbw.cell (p := ⟨g, off + k * 10 + 5, none⟩) hgs).trans cf
      replace cg := (hbw.cell (p := ⟨g, off + k * 10 + 6, none⟩) hgs).trans cg
      replace ch := (hbw.cell (p := ⟨g, off + k * 10 + 7, none⟩) hgs).trans ch
      replace ci := (hbw.cell (p := ⟨g, off + k * 10 + 8, none⟩) hgs).trans ci
      replace cj := (hbw.cell (p := ⟨g, off + k * 10 + 9, none⟩) hgs).trans cj
      replace Q1 : Hid (Lies w3 (.list .int) [.slice a1 x[k].2.2.2.2.1.length k1] (mkD (.list .int) x[k].2.2.2.2.1 (y + 1 + 1 + 1 + 1))) := Q1.out.next hbw
      replace hgs := Nat.lt_of_lt_of_le hgs hbw.size
      clear hbw HB2
      have HQ : Hid (z1 + 1 + 1 + 1 + 1 + 1 = q + (cntU shRegOp x (k + 1) : Nat)) := Hid.intro (by have h1 := HYE.out; have h2 : cntD shRegOp x[k] = (1 + (1 + (1 + (1 + (cntD (.list .int) x[k].2.2.2.2.1 + ((1 + (1 + (1 + 0))) + (1 + (1 + 0)))))))) := rfl; have := HK1.out; have := HZ1.out; omega)
      go_wp2
      go_roundw
      case rel => exact ⟨k + 1, by omega, by go_num, by rw [← HQ.out], HB3.out⟩
      case measure => simp [intOf]; omega
    · have hkn : k = n := by omega
      subst hkn
      have HP : Hid ((cntU shRegOp x k : Nat) = cntD (.list shRegOp) x) := Hid.intro (by rw [HN.out, cntU_all])
      have HB : Hid (Below w.heap.size w wr) := hBr
      clear hBr
      go_wp2
      go_ret
      exact ⟨congrArg (fun t : Nat => Ending.returned (.int .i64 (q + (t : Int)))) HP.out, HB.out⟩
set_option maxRecDepth 100000 in
set_option maxHeartbeats 4000000 in
theorem heldRegister_n (cs : List Value) (x0 : Int) (x1 : List (Sh.T shCopy)) (x2 : List (Sh.T shRegOp)) (q : Int) (w : World) (h0 : 0 < q) (h1 : q + (cntT shRegister (x0, x1, x2, ()) : Nat) ≤ 8796000000000) (hz : szD shRegister (x0, x1, x2, ()) ≤ 1073741824) (h : Lies w shRegister cs (mkT shRegister (x0, x1, x2, ()) q)) :
    Calls Try.prog 27 #[.agg cs.toArray, .int .i64 q] w fun r w' => r = .returned (.int .i64 (q + (cntT shRegister (x0, x1, x2, ()) : Nat))) ∧ Below w.heap.size w w' := by
  rw [cntTeq_Register] at h1 ⊢
  have HE : Hid (szD shRegister (x0, x1, x2, ()) = (0 + (szD (.list shCopy) x1 + (szD (.list shRegOp) x2 + 0)))) := rfl
  have HZ : Hid (szD shRegister (x0, x1, x2, ()) ≤ 1073741824) := hz
  obtain ⟨c1, hc1⟩ : ∃ y, y = cntD (.list shCopy) x1 := ⟨_, rfl⟩
  obtain ⟨c2, hc2⟩ : ∃ y, y = cntD (.list shRegOp) x2 := ⟨_, rfl⟩
  obtain ⟨z1, hz1⟩ : ∃ zz, zz = q + (c1 : Int) := ⟨_, rfl⟩
  obtain ⟨z2, hz2⟩ : ∃ zz, zz = z1 + (c2 : Int) := ⟨_, rfl⟩
  rw [mkTeq_Register x0 x1 x2 q z1 z2 (by rw [← hc1]; exact hz1) (by rw [← hc2]; exact hz2)] at h
  obtain ⟨a1, k1, a2, k2, hev, q1, q2⟩ := lies_Register h
  rw [show List.length (mkD (.list shCopy) x1 q) = x1.length from mkD_len _ _ _] at hev q1
  rw [show List.length (mkD (.list shRegOp) x2 z1) = x2.length from mkD_len _ _ _] at hev q2
  subst hev
  rw [← hc1, ← hc2] at h1 ⊢
  have HK1 : Hid (c1 = cntD (.list shCopy) x1) := hc1
  have HZ1 : Hid (z1 = q + (c1 : Int)) := hz1
  have Q1 : Hid (Lies w (.list shCopy) [.slice a1 x1.length k1] (mkD (.list shCopy) x1 q)) := q1
  have hzb1 : 0 < z1 ∧ z1 + (c2 : Int) ≤ 8796000000000 := by omega
  have hzn1 : ¬ z1 < 0 := by omega
  have HK2 : Hid (c2 = cntD (.list shRegOp) x2) := hc2
  have HZ2 : Hid (z2 = z1 + (c2 : Int)) := hz2
  have Q2 : Hid (Lies w (.list shRegOp) [.slice a2 x2.length k2] (mkD (.list shRegOp) x2 z1)) := q2
  have hzb2 : 0 < z2 ∧ z2 ≤ 8796000000000 := by omega
  have hzn2 : ¬ z2 < 0 := by omega
  clear hc1 hz1 q1
  clear hc2 hz2 q2
  clear h hz
  go_enter Try.func27, Try.ntmps27
  go_wp2_with fail
  obtain ⟨w0, hW⟩ : ∃ x, x = w.alloc (.cells #[.int .i64 x0, .slice a1 x1.length k1, .slice a2 x2.length k2] 29) := ⟨_, rfl⟩
  have hb0 : Below w.heap.size w w0 := hW ▸ Go.Joins.below_alloc1 _ _
  have HB : Hid (Bx w0 w.heap.size [.int .i64 x0, .slice a1 x1.length k1, .slice a2 x2.length k2] ∧ Below w.heap.size w w0) := ⟨hW ▸ Bx.new w [.int .i64 x0, .slice a1 x1.length k1, .slice a2 x2.length k2] _, hb0⟩
  replace Q1 : Hid (Lies w0 (.list shCopy) [.slice a1 x1.length k1] (mkD (.list shCopy) x1 q)) := Q1.out.next hb0
  replace Q2 : Hid (Lies w0 (.list shRegOp) [.slice a2 x2.length k2] (mkD (.list shRegOp) x2 z1)) := Q2.out.next hb0
  rw [← hW]
  clear hW hb0
  refine (heldCopyS_n _ _ _ _ _ (by omega) (by rw [← HK1.out]; omega) (by have := HZ.out; rw [HE.out] at this; omega) Q1.out).mono ?_
  rintro r w1 ⟨hr, hb⟩
  rw [← HK1.out, ← HZ1.out] at hr
  subst hr
  have HB : Hid (Bx w1 w.heap.size [.int .i64 x0, .slice a1 x1.length k1, .slice a2 x2.length k2] ∧ Below w.heap.size w w1) := ⟨HB.out.1.next hb, HB.out.2.trans (hb.mono HB.out.2.size)⟩
  replace Q1 : Hid (Lies w1 (.list shCopy) [.slice a1 x1.length k1] (mkD (.list shCopy) x1 q)) := Q1.out.next hb
  replace Q2 : Hid (Lies w1 (.list shRegOp) [.slice a2 x2.length k2] (mkD (.list shRegOp) x2 z1)) := Q2.out.next hb
  clear hb
  have d0 := HB.out.1.cell 0 rfl
  have d1 := HB.out.1.cell 1 rfl
  have d2 := HB.out.1.cell 2 rfl
  have dz := HB.out.1.2
  go_wp2_with fail
  clear dz d0 d1 d2
  refine (heldRegOpS_n _ _ _ _ _ (by omega) (by rw [← HK2.out]; omega) (by have := HZ.out; rw [HE.out] at this; omega) Q2.out).mono ?_
  rintro r w2 ⟨hr, hb⟩
  rw [← HK2.out, ← HZ2.out] at hr
  subst hr
  have HB : Hid (Bx w2 w.heap.size [.int .i64 x0, .slice a1 x1.length k1, .slice a2 x2.length k2] ∧ Below w.heap.size w w2) := ⟨HB.out.1.next hb, HB.out.2.trans (hb.mono HB.out.2.size)⟩
  replace Q1 : Hid (Lies w2 (.list shCopy) [.slice a1 x1.length k1] (mkD (.list shCopy) x1 q)) := Q1.out.next hb
  replace Q2 : Hid (Lies w2 (.list shRegOp) [.slice a2 x2.length k2] (mkD (.list shRegOp) x2 z1)) := Q2.out.next hb
  clear hb
  have d0 := HB.out.1.cell 0 rfl
  have d1 := HB.out.1.cell 1 rfl
  have d2 := HB.out.1.cell 2 rfl
  have dz := HB.out.1.2
  go_wp2
  go_ret
  exact ⟨congrArg (fun t => Ending.returned (.int .i64 t)) (by have := HZ1.out; have := HZ2.out; omega), HB.out.2⟩
end Go.Proofs.Ytaofolbnommpgaa
