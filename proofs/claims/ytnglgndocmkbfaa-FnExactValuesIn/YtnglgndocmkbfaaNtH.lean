/- The law's own functions that ask for marks. Written by tools/nest.py. -/
import Derived.Test.YtnglgndocmkbfaaNtM
import Derived.Test.YtnglgndocmkbfaaRg2
import Derived.Deep.RegionWith
import Derived.Deep.DeepCutAuto
namespace Go.Proofs.Ytnglgndocmkbfaa
open Go.RowKit
set_option linter.unusedVariables false
set_option linter.unusedSimpArgs false

set_option maxRecDepth 100000 in
set_option maxHeartbeats 4000000 in
theorem heldIntS_n (a : Option Addr) (cap : Nat) (x : List (Sh.T .int)) (q : Int) (w : World) (h0 : 0 < q) (h1 : q + (cntD (.list .int) x : Nat) ≤ 8796000000000) (hz : szD (.list .int) x ≤ 1073741824) (h : Lies w (.list .int) [.slice a x.length cap] (mkD (.list .int) x q)) :
    Calls Try.prog 98 #[.slice a x.length cap, .int .i64 q] w fun r w' => r = .returned (.int .i64 (q + (cntD (.list .int) x : Nat))) ∧ Below w.heap.size w w' := by
  have hn : x.length ≤ 1073741824 := by simp only [szD] at hz; omega
  have HL : Hid (Lies w (.list .int) [.slice a x.length cap] (mkD (.list .int) x q)) := h
  have HZ : Hid (szD (.list .int) x ≤ 1073741824 ∧ q + (cntD (.list .int) x : Nat) ≤ 8796000000000) := ⟨hz, h1⟩
  have hc1 : q ≤ 8796000000000 := by omega
  clear h hz h1
  obtain ⟨n, hnn⟩ : ∃ n, n = x.length := ⟨_, rfl⟩
  have HN : Hid (n = x.length) := hnn
  rw [← hnn] at hn ⊢
  clear hnn
  go_enter Try.func98, Try.ntmps98
  go_wp2
  go_loopw [5, 1] (fun i q' wr => ∃ k : Nat, k ≤ n ∧ i = .int .i64 k ∧ q' = .int .i64 (q + (cntU .int x k : Nat)) ∧ Below w.heap.size w wr) (fun i _ _ => n - (intOf i).toNat)
  case atStart => exact ⟨0, Nat.zero_le _, rfl, by simp [cntU], Below.refl _ _⟩
  case round =>
    obtain ⟨k, hk, rfl, rfl, hBr⟩ := hrel
    by_cases hlt : k < n
    · have hlx : k < x.length := by have := HN.out; omega
      have hlt' : (k : Int) < (n : Int) := by omega
      obtain ⟨y, hy⟩ : ∃ y, y = q + (cntU .int x k : Nat) := ⟨_, rfl⟩
      rw [← hy]
      have hcs := cntU_succ .int x k hlx
      have hcl := cntU_le .int x (k + 1)
      have HYE : Hid (y = q + (cntU .int x k : Nat) ∧ cntU .int x (k + 1) = cntU .int x k + cntD .int x[k]) := ⟨hy, hcs⟩
      have hce : y + (cntD .int x[k] : Nat) ≤ 8796000000000 := by have := HZ.out.2; omega
      have hy0 : 0 < y := by omega
      clear hcs hcl hy
      obtain ⟨g, off, hgo, hgs, ec, hel, hec, hle⟩ := Lies.elem (HL.out.next hBr) (by rw [mkD_len]; exact hlx)
      subst hgo
      rw [mkD_at _ _ _ _ hlx, ← HYE.out.1] at hle
      have hev : ec = [.int .i64 (y)] := hle
      subst hev
      have hce2 : y + 1 ≤ 8796000000000 := by have : cntD .int x[k] = 1 := rfl; omega
      have c0 : wr.cell? ⟨g, off + k, none⟩ = some (.int .i64 (y)) := by have := hec 0 (by simp); simpa [Sh.c] using this
      have HB0 : Hid (Below w.heap.size w wr) := hBr
      clear hec hel hBr
      have HQ : Hid (y + 1 = q + (cntU .int x (k + 1) : Nat)) := Hid.intro (by have h1 := HYE.out; have h2 : cntD .int x[k] = 1 := rfl; omega)
      go_wp2
      go_roundw
      case rel => exact ⟨k + 1, by omega, by go_num, by rw [← HQ.out], HB0.out⟩
      case measure => simp [intOf]; omega
    · have hkn : k = n := by omega
      subst hkn
      have HP : Hid ((cntU .int x k : Nat) = cntD (.list .int) x) := Hid.intro (by rw [HN.out, cntU_all])
      have HB : Hid (Below w.heap.size w wr) := hBr
      clear hBr
      go_wp2
      go_ret
      exact ⟨congrArg (fun t : Nat => Ending.returned (.int .i64 (q + (t : Int)))) HP.out, HB.out⟩
set_option maxRecDepth 100000 in
set_option maxHeartbeats 4000000 in
theorem heldAddS_n (a : Option Addr) (cap : Nat) (x : List (Sh.T shAdd)) (q : Int) (w : World) (h0 : 0 < q) (h1 : q + (cntD (.list shAdd) x : Nat) ≤ 8796000000000) (hz : szD (.list shAdd) x ≤ 1073741824) (h : Lies w (.list shAdd) [.slice a x.length cap] (mkD (.list shAdd) x q)) :
    Calls Try.prog 106 #[.slice a x.length cap, .int .i64 q] w fun r w' => r = .returned (.int .i64 (q + (cntD (.list shAdd) x : Nat))) ∧ Below w.heap.size w w' := by
  have hn : x.length ≤ 1073741824 := by simp only [szD] at hz; omega
  have HL : Hid (Lies w (.list shAdd) [.slice a x.length cap] (mkD (.list shAdd) x q)) := h
  have HZ : Hid (szD (.list shAdd) x ≤ 1073741824 ∧ q + (cntD (.list shAdd) x : Nat) ≤ 8796000000000) := ⟨hz, h1⟩
  have hc1 : q ≤ 8796000000000 := by omega
  clear h hz h1
  obtain ⟨n, hnn⟩ : ∃ n, n = x.length := ⟨_, rfl⟩
  have HN : Hid (n = x.length) := hnn
  rw [← hnn] at hn ⊢
  clear hnn
  go_enter Try.func106, Try.ntmps106
  go_wp2
  go_loopw [5, 1] (fun i q' wr => ∃ k : Nat, k ≤ n ∧ i = .int .i64 k ∧ q' = .int .i64 (q + (cntU shAdd x k : Nat)) ∧ Below w.heap.size w wr) (fun i _ _ => n - (intOf i).toNat)
  case atStart => exact ⟨0, Nat.zero_le _, rfl, by simp [cntU], Below.refl _ _⟩
  case round =>
    obtain ⟨k, hk, rfl, rfl, hBr⟩ := hrel
    by_cases hlt : k < n
    · have hlx : k < x.length := by have := HN.out; omega
      have hlt' : (k : Int) < (n : Int) := by omega
      obtain ⟨y, hy⟩ : ∃ y, y = q + (cntU shAdd x k : Nat) := ⟨_, rfl⟩
      rw [← hy]
      have hcs := cntU_succ shAdd x k hlx
      have hcl := cntU_le shAdd x (k + 1)
      have HYE : Hid (y = q + (cntU shAdd x k : Nat) ∧ cntU shAdd x (k + 1) = cntU shAdd x k + cntD shAdd x[k]) := ⟨hy, hcs⟩
      have hce : y + (cntD shAdd x[k] : Nat) ≤ 8796000000000 := by have := HZ.out.2; omega
      have hy0 : 0 < y := by omega
      clear hcs hcl hy
      obtain ⟨g, off, hgo, hgs, ec, hel, hec, hle⟩ := Lies.elem (HL.out.next hBr) (by rw [mkD_len]; exact hlx)
      subst hgo
      rw [mkD_at _ _ _ _ hlx, ← HYE.out.1] at hle
      have hq : mkD shAdd x[k] y = ((mtx (y)), (y + 1), (y + 1 + 1), ()) := mkeq_Add x[k].1 x[k].2.1 x[k].2.2.1 y
      rw [hq] at hle
      clear hq
      obtain hev := lies_Add hle
      subst hev
      have hcE : cntD shAdd x[k] = (1 + (1 + (1 + 0))) := rfl
      have hce2 : y + 3 ≤ 8796000000000 := by omega
      have ca : wr.cell? ⟨g, off + k * 3, none⟩ = some (.string (mtx (y))) := hec 0 (by simp)
      have cb : wr.cell? ⟨g, off + k * 3 + 1, none⟩ = some (.int .i64 (y + 1)) := hec 1 (by simp)
      have cc : wr.cell? ⟨g, off + k * 3 + 2, none⟩ = some (.int .i64 (y + 1 + 1)) := hec 2 (by simp)
      clear hcE hce hle
      have HB0 : Hid (Below w.heap.size w wr) := hBr
      clear hec hel hBr
      go_upto_region 4 with fail
      refine wp_region_noPanic ?_
      refine wp_region_held_drew (S := fun W => W.cell? ⟨g, off + k * 3, none⟩ = some (.string (mtx (y))) ∧ Below wr.heap.size wr W) (by kernel_rfl) ⟨ca, below_drew _⟩ (fun hHeld => ?_)
      refine take_v (v := ?_) 0 ⟨some 12, Op.move (Operand.tmp 0), _, _, _, none⟩ rfl (fun _ _ _ h => h) ?_ hHeld ?_
      rotate_left
      · (intro W _; go_simp <;> (try with_reducible rfl))
      refine take_v (v := ?_) 1 ⟨some 13, Op.move (Operand.tmp 5), _, _, _, none⟩ rfl (fun _ _ _ h => h) ?_ hHeld ?_
      rotate_left
      · (intro W _; go_simp <;> (try with_reducible rfl))
      refine take_v (v := ?_) 2 ⟨some 14, Op.indexAddr 44 (Operand.tmp 12) (Operand.tmp 13), _, _, _, none⟩ rfl (fun _ _ _ h => h) ?_ hHeld ?_
      rotate_left
      · (intro W _; go_simp <;> (try with_reducible rfl))
      refine take_v (v := ?_) 3 ⟨some 15, Op.fieldAddr 113 (Operand.tmp 14) 0, _, _, _, none⟩ rfl (fun _ _ _ h => h) ?_ hHeld ?_
      rotate_left
      · (intro W _; go_simp <;> (try with_reducible rfl))
      refine take_v (v := ?_) 4 ⟨some 16, Op.load 9 (Operand.tmp 15), _, _, _, none⟩ rfl (fun _ _ _ h => h) ?_ hHeld ?_
      rotate_left
      · (intro W hSW; obtain ⟨sw0, sw1⟩ := hSW; go_simp <;> (try with_reducible rfl))
      refine take_v (v := ?_) 5 ⟨some 17, Op.move (Operand.tmp 1), _, _, _, none⟩ rfl (fun _ _ _ h => h) ?_ hHeld ?_
      rotate_left
      · (intro W _; go_simp <;> (try with_reducible rfl))
      refine ready_call 6 ⟨some 18, Op.call { callee := Callee.value (Operand.func 108), args := #[Operand.tmp 17], argTypes := #[3] }, _, _, _, none⟩ (by kernel_rfl) rfl (by kernel_rfl) (fun KC hK => ?_)
      go_wp2_with fail
      refine (markText_any _ _ (by omega) (by omega)).mono ?_
      rintro r w1 ⟨rfl, hb⟩
      have hbw : Below wr.heap.size wr w1 := (below_drew wr).trans hb
      refine hK.out _ _ ⟨(hbw.cell (p := ⟨g, off + k * 3, none⟩) hgs).trans ca, hbw⟩ (fun hHeld => ?_)
      clear hK KC
      refine take_v (v := ?_) 7 ⟨some 19, Op.binOp BinOp.neq 9 (Operand.tmp 16) (Operand.tmp 18) 9, _, _, _, none⟩ rfl (fun _ _ _ h => h) ?_ hHeld ?_
      rotate_left
      · (intro W _; go_simp <;> (try with_reducible rfl))
      refine wpAnyH_done (by kernel_rfl) ?_ _
      refine NoPanic.normal ?_
      clear hHeld hb
      have HB1 : Hid (Below w.heap.size w w1) := HB0.out.trans (hbw.mono HB0.out.size)
      replace ca := (hbw.cell (p := ⟨g, off + k * 3, none⟩) hgs).trans ca
      replace cb := (hbw.cell (p := ⟨g, off + k * 3 + 1, none⟩) hgs).trans cb
      replace cc := (hbw.cell (p := ⟨g, off + k * 3 + 2, none⟩) hgs).trans cc
      replace hgs := Nat.lt_of_lt_of_le hgs hbw.size
      clear hbw HB0
      have HQ : Hid (y + 1 + 1 + 1 = q + (cntU shAdd x (k + 1) : Nat)) := Hid.intro (by have h1 := HYE.out; have h2 : cntD shAdd x[k] = (1 + (1 + (1 + 0))) := rfl; omega)
      go_wp2
      go_roundw
      case rel => exact ⟨k + 1, by omega, by go_num, by rw [← HQ.out], HB1.out⟩
      case measure => simp [intOf]; omega
    · have hkn : k = n := by omega
      subst hkn
      have HP : Hid ((cntU shAdd x k : Nat) = cntD (.list shAdd) x) := Hid.intro (by rw [HN.out, cntU_all])
      have HB : Hid (Below w.heap.size w wr) := hBr
      clear hBr
      go_wp2
      go_ret
      exact ⟨congrArg (fun t : Nat => Ending.returned (.int .i64 (q + (t : Int)))) HP.out, HB.out⟩
set_option maxRecDepth 100000 in
set_option maxHeartbeats 4000000 in
theorem heldStringS_n (a : Option Addr) (cap : Nat) (x : List (Sh.T .str)) (q : Int) (w : World) (h0 : 0 < q) (h1 : q + (cntD (.list .str) x : Nat) ≤ 8796000000000) (hz : szD (.list .str) x ≤ 1073741824) (h : Lies w (.list .str) [.slice a x.length cap] (mkD (.list .str) x q)) :
    Calls Try.prog 60 #[.slice a x.length cap, .int .i64 q] w fun r w' => r = .returned (.int .i64 (q + (cntD (.list .str) x : Nat))) ∧ Below w.heap.size w w' := by
  have hn : x.length ≤ 1073741824 := by simp only [szD] at hz; omega
  have HL : Hid (Lies w (.list .str) [.slice a x.length cap] (mkD (.list .str) x q)) := h
  have HZ : Hid (szD (.list .str) x ≤ 1073741824 ∧ q + (cntD (.list .str) x : Nat) ≤ 8796000000000) := ⟨hz, h1⟩
  have hc1 : q ≤ 8796000000000 := by omega
  clear h hz h1
  obtain ⟨n, hnn⟩ : ∃ n, n = x.length := ⟨_, rfl⟩
  have HN : Hid (n = x.length) := hnn
  rw [← hnn] at hn ⊢
  clear hnn
  go_enter Try.func60, Try.ntmps60
  go_wp2
  go_loopw [5, 1] (fun i q' wr => ∃ k : Nat, k ≤ n ∧ i = .int .i64 k ∧ q' = .int .i64 (q + (cntU .str x k : Nat)) ∧ Below w.heap.size w wr) (fun i _ _ => n - (intOf i).toNat)
  case atStart => exact ⟨0, Nat.zero_le _, rfl, by simp [cntU], Below.refl _ _⟩
  case round =>
    obtain ⟨k, hk, rfl, rfl, hBr⟩ := hrel
    by_cases hlt : k < n
    · have hlx : k < x.length := by have := HN.out; omega
      have hlt' : (k : Int) < (n : Int) := by omega
      obtain ⟨y, hy⟩ : ∃ y, y = q + (cntU .str x k : Nat) := ⟨_, rfl⟩
      rw [← hy]
      have hcs := cntU_succ .str x k hlx
      have hcl := cntU_le .str x (k + 1)
      have HYE : Hid (y = q + (cntU .str x k : Nat) ∧ cntU .str x (k + 1) = cntU .str x k + cntD .str x[k]) := ⟨hy, hcs⟩
      have hce : y + (cntD .str x[k] : Nat) ≤ 8796000000000 := by have := HZ.out.2; omega
      have hy0 : 0 < y := by omega
      clear hcs hcl hy
      obtain ⟨g, off, hgo, hgs, ec, hel, hec, hle⟩ := Lies.elem (HL.out.next hBr) (by rw [mkD_len]; exact hlx)
      subst hgo
      rw [mkD_at _ _ _ _ hlx, ← HYE.out.1] at hle
      have hev : ec = [.string (mtx (y))] := hle
      subst hev
      have hce2 : y + 1 ≤ 8796000000000 := by have : cntD .str x[k] = 1 := rfl; omega
      have c0 : wr.cell? ⟨g, off + k, none⟩ = some (.string (mtx (y))) := by have := hec 0 (by simp); simpa [Sh.c] using this
      have HB0 : Hid (Below w.heap.size w wr) := hBr
      clear hec hel hBr
      go_upto_region 4 with fail
      refine wp_region_noPanic ?_
      refine wp_region_held_drew (S := fun W => W.cell? ⟨g, off + k, none⟩ = some (.string (mtx (y))) ∧ Below wr.heap.size wr W) (by kernel_rfl) ⟨c0, below_drew _⟩ (fun hHeld => ?_)
      refine take_v (v := ?_) 0 ⟨some 12, Op.move (Operand.tmp 0), _, _, _, none⟩ rfl (fun _ _ _ h => h) ?_ hHeld ?_
      rotate_left
      · (intro W _; go_simp <;> (try with_reducible rfl))
      refine take_v (v := ?_) 1 ⟨some 13, Op.move (Operand.tmp 5), _, _, _, none⟩ rfl (fun _ _ _ h => h) ?_ hHeld ?_
      rotate_left
      · (intro W _; go_simp <;> (try with_reducible rfl))
      refine take_v (v := ?_) 2 ⟨some 14, Op.indexAddr 60 (Operand.tmp 12) (Operand.tmp 13), _, _, _, none⟩ rfl (fun _ _ _ h => h) ?_ hHeld ?_
      rotate_left
      · (intro W _; go_simp <;> (try with_reducible rfl))
      refine take_v (v := ?_) 3 ⟨some 15, Op.load 9 (Operand.tmp 14), _, _, _, none⟩ rfl (fun _ _ _ h => h) ?_ hHeld ?_
      rotate_left
      · (intro W hSW; obtain ⟨sw0, sw1⟩ := hSW; go_simp <;> (try with_reducible rfl))
      refine take_v (v := ?_) 4 ⟨some 16, Op.move (Operand.tmp 1), _, _, _, none⟩ rfl (fun _ _ _ h => h) ?_ hHeld ?_
      rotate_left
      · (intro W _; go_simp <;> (try with_reducible rfl))
      refine ready_call 5 ⟨some 17, Op.call { callee := Callee.value (Operand.func 108), args := #[Operand.tmp 16], argTypes := #[3] }, _, _, _, none⟩ (by kernel_rfl) rfl (by kernel_rfl) (fun KC hK => ?_)
      go_wp2_with fail
      refine (markText_any _ _ (by omega) (by omega)).mono ?_
      rintro r w1 ⟨rfl, hb⟩
      have hbw : Below wr.heap.size wr w1 := (below_drew wr).trans hb
      refine hK.out _ _ ⟨(hbw.cell (p := ⟨g, off + k, none⟩) hgs).trans c0, hbw⟩ (fun hHeld => ?_)
      clear hK KC
      refine take_v (v := ?_) 6 ⟨some 18, Op.binOp BinOp.neq 9 (Operand.tmp 15) (Operand.tmp 17) 9, _, _, _, none⟩ rfl (fun _ _ _ h => h) ?_ hHeld ?_
      rotate_left
      · (intro W _; go_simp <;> (try with_reducible rfl))
      refine wpAnyH_done (by kernel_rfl) ?_ _
      refine NoPanic.normal ?_
      clear hHeld hb
      have HB1 : Hid (Below w.heap.size w w1) := HB0.out.trans (hbw.mono HB0.out.size)
      replace c0 := (hbw.cell (p := ⟨g, off + k, none⟩) hgs).trans c0
      replace hgs := Nat.lt_of_lt_of_le hgs hbw.size
      clear hbw HB0
      have HQ : Hid (y + 1 = q + (cntU .str x (k + 1) : Nat)) := Hid.intro (by have h1 := HYE.out; have h2 : cntD .str x[k] = 1 := rfl; omega)
      go_wp2
      go_roundw
      case rel => exact ⟨k + 1, by omega, by go_num, by rw [← HQ.out], HB1.out⟩
      case measure => simp [intOf]; omega
    · have hkn : k = n := by omega
      subst hkn
      have HP : Hid ((cntU .str x k : Nat) = cntD (.list .str) x) := Hid.intro (by rw [HN.out, cntU_all])
      have HB : Hid (Below w.heap.size w wr) := hBr
      clear hBr
      go_wp2
      go_ret
      exact ⟨congrArg (fun t : Nat => Ending.returned (.int .i64 (q + (t : Int)))) HP.out, HB.out⟩
set_option maxRecDepth 100000 in
set_option maxHeartbeats 4000000 in
theorem heldCounter_n (cs : List Value) (x0 : List (Sh.T .int)) (x1 : List (Sh.T .int)) (q : Int) (w : World) (h0 : 0 < q) (h1 : q + (cntT shCounter (x0, x1, ()) : Nat) ≤ 8796000000000) (hz : szD shCounter (x0, x1, ()) ≤ 1073741824) (h : Lies w shCounter cs (mkT shCounter (x0, x1, ()) q)) :
    Calls Try.prog 45 #[.agg cs.toArray, .int .i64 q] w fun r w' => r = .returned (.int .i64 (q + (cntT shCounter (x0, x1, ()) : Nat))) ∧ Below w.heap.size w w' := by
  rw [cntTeq_Counter] at h1 ⊢
  have HE : Hid (szD shCounter (x0, x1, ()) = (szD (.list .int) x0 + (szD (.list .int) x1 + 0))) := rfl
  have HZ : Hid (szD shCounter (x0, x1, ()) ≤ 1073741824) := hz
  obtain ⟨c1, hc1⟩ : ∃ y, y = cntD (.list .int) x0 := ⟨_, rfl⟩
  obtain ⟨c2, hc2⟩ : ∃ y, y = cntD (.list .int) x1 := ⟨_, rfl⟩
  obtain ⟨z1, hz1⟩ : ∃ zz, zz = q + (c1 : Int) := ⟨_, rfl⟩
  obtain ⟨z2, hz2⟩ : ∃ zz, zz = z1 + (c2 : Int) := ⟨_, rfl⟩
  rw [mkTeq_Counter x0 x1 q z1 z2 (by rw [← hc1]; exact hz1) (by rw [← hc2]; exact hz2)] at h
  obtain ⟨a1, k1, a2, k2, hev, q1, q2⟩ := lies_Counter h
  rw [show List.length (mkD (.list .int) x0 q) = x0.length from mkD_len _ _ _] at hev q1
  rw [show List.length (mkD (.list .int) x1 z1) = x1.length from mkD_len _ _ _] at hev q2
  subst hev
  rw [← hc1, ← hc2] at h1 ⊢
  have HK1 : Hid (c1 = cntD (.list .int) x0) := hc1
  have HZ1 : Hid (z1 = q + (c1 : Int)) := hz1
  have Q1 : Hid (Lies w (.list .int) [.slice a1 x0.length k1] (mkD (.list .int) x0 q)) := q1
  have hzb1 : 0 < z1 ∧ z1 + (c2 : Int) ≤ 8796000000000 := by omega
  have hzn1 : ¬ z1 < 0 := by omega
  have HK2 : Hid (c2 = cntD (.list .int) x1) := hc2
  have HZ2 : Hid (z2 = z1 + (c2 : Int)) := hz2
  have Q2 : Hid (Lies w (.list .int) [.slice a2 x1.length k2] (mkD (.list .int) x1 z1)) := q2
  have hzb2 : 0 < z2 ∧ z2 ≤ 8796000000000 := by omega
  have hzn2 : ¬ z2 < 0 := by omega
  clear hc1 hz1 q1
  clear hc2 hz2 q2
  clear h hz
  go_enter Try.func45, Try.ntmps45
  go_wp2_with fail
  obtain ⟨w0, hW⟩ : ∃ x, x = w.alloc (.cells #[.slice a1 x0.length k1, .slice a2 x1.length k2] 25) := ⟨_, rfl⟩
  have hb0 : Below w.heap.size w w0 := hW ▸ Go.Joins.below_alloc1 _ _
  have HB : Hid (Bx w0 w.heap.size [.slice a1 x0.length k1, .slice a2 x1.length k2] ∧ Below w.heap.size w w0) := ⟨hW ▸ Bx.new w [.slice a1 x0.length k1, .slice a2 x1.length k2] _, hb0⟩
  replace Q1 : Hid (Lies w0 (.list .int) [.slice a1 x0.length k1] (mkD (.list .int) x0 q)) := Q1.out.next hb0
  replace Q2 : Hid (Lies w0 (.list .int) [.slice a2 x1.length k2] (mkD (.list .int) x1 z1)) := Q2.out.next hb0
  rw [← hW]
  clear hW hb0
  refine (heldIntS_n _ _ _ _ _ (by omega) (by rw [← HK1.out]; omega) (by have := HZ.out; rw [HE.out] at this; omega) Q1.out).mono ?_
  rintro r w1 ⟨hr, hb⟩
  rw [← HK1.out, ← HZ1.out] at hr
  subst hr
  have HB : Hid (Bx w1 w.heap.size [.slice a1 x0.length k1, .slice a2 x1.length k2] ∧ Below w.heap.size w w1) := ⟨HB.out.1.next hb, HB.out.2.trans (hb.mono HB.out.2.size)⟩
  replace Q1 : Hid (Lies w1 (.list .int) [.slice a1 x0.length k1] (mkD (.list .int) x0 q)) := Q1.out.next hb
  replace Q2 : Hid (Lies w1 (.list .int) [.slice a2 x1.length k2] (mkD (.list .int) x1 z1)) := Q2.out.next hb
  clear hb
  have d0 := HB.out.1.cell 0 rfl
  have d1 := HB.out.1.cell 1 rfl
  have dz := HB.out.1.2
  go_wp2_with fail
  clear dz d0 d1
  refine (heldIntS_n _ _ _ _ _ (by omega) (by rw [← HK2.out]; omega) (by have := HZ.out; rw [HE.out] at this; omega) Q2.out).mono ?_
  rintro r w2 ⟨hr, hb⟩
  rw [← HK2.out, ← HZ2.out] at hr
  subst hr
  have HB : Hid (Bx w2 w.heap.size [.slice a1 x0.length k1, .slice a2 x1.length k2] ∧ Below w.heap.size w w2) := ⟨HB.out.1.next hb, HB.out.2.trans (hb.mono HB.out.2.size)⟩
  replace Q1 : Hid (Lies w2 (.list .int) [.slice a1 x0.length k1] (mkD (.list .int) x0 q)) := Q1.out.next hb
  replace Q2 : Hid (Lies w2 (.list .int) [.slice a2 x1.length k2] (mkD (.list .int) x1 z1)) := Q2.out.next hb
  clear hb
  have d0 := HB.out.1.cell 0 rfl
  have d1 := HB.out.1.cell 1 rfl
  have dz := HB.out.1.2
  go_wp2
  go_ret
  exact ⟨congrArg (fun t => Ending.returned (.int .i64 t)) (by have := HZ1.out; have := HZ2.out; omega), HB.out.2⟩
set_option maxRecDepth 100000 in
set_option maxHeartbeats 4000000 in
theorem heldBag_n (cs : List Value) (x0 : List (Sh.T shAdd)) (x1 : List (Sh.T shAdd)) (q : Int) (w : World) (h0 : 0 < q) (h1 : q + (cntT shBag (x0, x1, ()) : Nat) ≤ 8796000000000) (hz : szD shBag (x0, x1, ()) ≤ 1073741824) (h : Lies w shBag cs (mkT shBag (x0, x1, ()) q)) :
    Calls Try.prog 56 #[.agg cs.toArray, .int .i64 q] w fun r w' => r = .returned (.int .i64 (q + (cntT shBag (x0, x1, ()) : Nat))) ∧ Below w.heap.size w w' := by
  rw [cntTeq_Bag] at h1 ⊢
  have HE : Hid (szD shBag (x0, x1, ()) = (szD (.list shAdd) x0 + (szD (.list shAdd) x1 + 0))) := rfl
  have HZ : Hid (szD shBag (x0, x1, ()) ≤ 1073741824) := hz
  obtain ⟨c1, hc1⟩ : ∃ y, y = cntD (.list shAdd) x0 := ⟨_, rfl⟩
  obtain ⟨c2, hc2⟩ : ∃ y, y = cntD (.list shAdd) x1 := ⟨_, rfl⟩
  obtain ⟨z1, hz1⟩ : ∃ zz, zz = q + (c1 : Int) := ⟨_, rfl⟩
  obtain ⟨z2, hz2⟩ : ∃ zz, zz = z1 + (c2 : Int) := ⟨_, rfl⟩
  rw [mkTeq_Bag x0 x1 q z1 z2 (by rw [← hc1]; exact hz1) (by rw [← hc2]; exact hz2)] at h
  obtain ⟨a1, k1, a2, k2, hev, q1, q2⟩ := lies_Bag h
  rw [show List.length (mkD (.list shAdd) x0 q) = x0.length from mkD_len _ _ _] at hev q1
  rw [show List.length (mkD (.list shAdd) x1 z1) = x1.length from mkD_len _ _ _] at hev q2
  subst hev
  rw [← hc1, ← hc2] at h1 ⊢
  have HK1 : Hid (c1 = cntD (.list shAdd) x0) := hc1
  have HZ1 : Hid (z1 = q + (c1 : Int)) := hz1
  have Q1 : Hid (Lies w (.list shAdd) [.slice a1 x0.length k1] (mkD (.list shAdd) x0 q)) := q1
  have hzb1 : 0 < z1 ∧ z1 + (c2 : Int) ≤ 8796000000000 := by omega
  have hzn1 : ¬ z1 < 0 := by omega
  have HK2 : Hid (c2 = cntD (.list shAdd) x1) := hc2
  have HZ2 : Hid (z2 = z1 + (c2 : Int)) := hz2
  have Q2 : Hid (Lies w (.list shAdd) [.slice a2 x1.length k2] (mkD (.list shAdd) x1 z1)) := q2
  have hzb2 : 0 < z2 ∧ z2 ≤ 8796000000000 := by omega
  have hzn2 : ¬ z2 < 0 := by omega
  clear hc1 hz1 q1
  clear hc2 hz2 q2
  clear h hz
  go_enter Try.func56, Try.ntmps56
  go_wp2_with fail
  obtain ⟨w0, hW⟩ : ∃ x, x = w.alloc (.cells #[.slice a1 x0.length k1, .slice a2 x1.length k2] 46) := ⟨_, rfl⟩
  have hb0 : Below w.heap.size w w0 := hW ▸ Go.Joins.below_alloc1 _ _
  have HB : Hid (Bx w0 w.heap.size [.slice a1 x0.length k1, .slice a2 x1.length k2] ∧ Below w.heap.size w w0) := ⟨hW ▸ Bx.new w [.slice a1 x0.length k1, .slice a2 x1.length k2] _, hb0⟩
  replace Q1 : Hid (Lies w0 (.list shAdd) [.slice a1 x0.length k1] (mkD (.list shAdd) x0 q)) := Q1.out.next hb0
  replace Q2 : Hid (Lies w0 (.list shAdd) [.slice a2 x1.length k2] (mkD (.list shAdd) x1 z1)) := Q2.out.next hb0
  rw [← hW]
  clear hW hb0
  refine (heldAddS_n _ _ _ _ _ (by omega) (by rw [← HK1.out]; omega) (by have := HZ.out; rw [HE.out] at this; omega) Q1.out).mono ?_
  rintro r w1 ⟨hr, hb⟩
  rw [← HK1.out, ← HZ1.out] at hr
  subst hr
  have HB : Hid (Bx w1 w.heap.size [.slice a1 x0.length k1, .slice a2 x1.length k2] ∧ Below w.heap.size w w1) := ⟨HB.out.1.next hb, HB.out.2.trans (hb.mono HB.out.2.size)⟩
  replace Q1 : Hid (Lies w1 (.list shAdd) [.slice a1 x0.length k1] (mkD (.list shAdd) x0 q)) := Q1.out.next hb
  replace Q2 : Hid (Lies w1 (.list shAdd) [.slice a2 x1.length k2] (mkD (.list shAdd) x1 z1)) := Q2.out.next hb
  clear hb
  have d0 := HB.out.1.cell 0 rfl
  have d1 := HB.out.1.cell 1 rfl
  have dz := HB.out.1.2
  go_wp2_with fail
  clear dz d0 d1
  refine (heldAddS_n _ _ _ _ _ (by omega) (by rw [← HK2.out]; omega) (by have := HZ.out; rw [HE.out] at this; omega) Q2.out).mono ?_
  rintro r w2 ⟨hr, hb⟩
  rw [← HK2.out, ← HZ2.out] at hr
  subst hr
  have HB : Hid (Bx w2 w.heap.size [.slice a1 x0.length k1, .slice a2 x1.length k2] ∧ Below w.heap.size w w2) := ⟨HB.out.1.next hb, HB.out.2.trans (hb.mono HB.out.2.size)⟩
  replace Q1 : Hid (Lies w2 (.list shAdd) [.slice a1 x0.length k1] (mkD (.list shAdd) x0 q)) := Q1.out.next hb
  replace Q2 : Hid (Lies w2 (.list shAdd) [.slice a2 x1.length k2] (mkD (.list shAdd) x1 z1)) := Q2.out.next hb
  clear hb
  have d0 := HB.out.1.cell 0 rfl
  have d1 := HB.out.1.cell 1 rfl
  have dz := HB.out.1.2
  go_wp2
  go_ret
  exact ⟨congrArg (fun t => Ending.returned (.int .i64 t)) (by have := HZ1.out; have := HZ2.out; omega), HB.out.2⟩
end Go.Proofs.Ytnglgndocmkbfaa
