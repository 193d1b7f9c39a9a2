/- The law's own functions that ask for marks. Written by tools/nest.py. -/
import Derived.Test.YtmhkfangfhanlaaNtM
import Derived.Test.YtmhkfangfhanlaaMgD
import Derived.Deep.RegionWith
import Derived.Deep.DeepCutAuto
namespace Go.Proofs.Ytmhkfangfhanlaa
open Go.RowKit
set_option linter.unusedVariables false
set_option linter.unusedSimpArgs false

set_option maxRecDepth 100000 in
set_option maxHeartbeats 4000000 in
theorem heldStringS_n (a : Option Addr) (cap : Nat) (x : List (Sh.T .str)) (q : Int) (w : World) (h0 : 0 < q) (h1 : q + (cntD (.list .str) x : Nat) ≤ 8796000000000) (hz : szD (.list .str) x ≤ 1073741824) (h : Lies w (.list .str) [.slice a x.length cap] (mkD (.list .str) x q)) :
    Calls Try.prog 44 #[.slice a x.length cap, .int .i64 q] w fun r w' => r = .returned (.int .i64 (q + (cntD (.list .str) x : Nat))) ∧ Below w.heap.size w w' := by
  have hn : x.length ≤ 1073741824 := by simp only [szD] at hz; omega
  have HL : Hid (Lies w (.list .str) [.slice a x.length cap] (mkD (.list .str) x q)) := h
  have HZ : Hid (szD (.list .str) x ≤ 1073741824 ∧ q + (cntD (.list .str) x : Nat) ≤ 8796000000000) := ⟨hz, h1⟩
  have hc1 : q ≤ 8796000000000 := by omega
  clear h hz h1
  obtain ⟨n, hnn⟩ : ∃ n, n = x.length := ⟨_, rfl⟩
  have HN : Hid (n = x.length) := hnn
  rw [← hnn] at hn ⊢
  clear hnn
  go_enter Try.func44, Try.ntmps44
  go_wp2
  go_loopw [5, 1] (fun i q' wr => ∃ k : Nat, k ≤ n ∧ i = .int .i64 k ∧ q' = .int .i64 (q + (cntU .str x k : Nat)) ∧ Below w.heap.size w wr) (fun i _ _ => n - (intOf i).toNat)
  case atStart => exact ⟨0, Nat.zero_le _, rfl, by simp [cntU], Below.refl _ _⟩
  case round =>
    obtain ⟨k, hk, rfl, rfl, hBr⟩ := hrel
    by_cases hlt : k < n
    · have hlx : k < x.length := by have := HN.out; omega
      have hlt' : (k : Int) < (n : Int) := by omega
      obtain ⟨y, hy⟩ : ∃ y, y = q + (cntU .str x k : Nat) := ⟨_, rfl⟩
      rw [← hy]
      have hcs := cntU_succ .str x k hlx
      have hcl := cntU_le .str x (k + 1)
      have HYE : Hid (y = q + (cntU .str x k : Nat) ∧ cntU .str x (k + 1) = cntU .str x k + cntD .str x[k]) := ⟨hy, hcs⟩
      have hce : y + (cntD .str x[k] : Nat) ≤ 8796000000000 := by have := HZ.out.2; omega
      have hy0 : 0 < y := by omega
      clear hcs hcl hy
      obtain ⟨g, off, hgo, hgs, ec, hel, hec, hle⟩ := Lies.elem (HL.out.next hBr) (by rw [mkD_len]; exact hlx)
      subst hgo
      rw [mkD_at _ _ _ _ hlx, ← HYE.out.1] at hle
      have hev : ec = [.string (mtx (y))] := hle
      subst hev
      have hce2 : y + 1 ≤ 8796000000000 := by have : cntD .str x[k] = 1 := rfl; omega
      have c0 : wr.cell? ⟨g, off + k, none⟩ = some (.string (mtx (y))) := by have := hec 0 (by simp); simpa [Sh.c] using this
      have HB0 : Hid (Below w.heap.size w wr) := hBr
      clear hec hel hBr
      go_upto_region 4 with fail
      refine wp_region_noPanic ?_
      refine wp_region_held_drew (S := fun W => W.cell? ⟨g, off + k, none⟩ = some (.string (mtx (y))) ∧ Below wr.heap.size wr W) (by kernel_rfl) ⟨c0, below_drew _⟩ (fun hHeld => ?_)
      refine take_v (v := ?_) 0 ⟨some 12, Op.move (Operand.tmp 0), _, _, _, none⟩ rfl (fun _ _ _ h => h) ?_ hHeld ?_
      rotate_left
      · (intro W _; go_simp <;> (try with_reducible rfl))
      refine take_v (v := ?_) 1 ⟨some 13, Op.move (Operand.tmp 5), _, _, _, none⟩ rfl (fun _ _ _ h => h) ?_ hHeld ?_
      rotate_left
      · (intro W _; go_simp <;> (try with_reducible rfl))
      refine take_v (v := ?_) 2 ⟨some 14, Op.indexAddr 23 (Operand.tmp 12) (Operand.tmp 13), _, _, _, none⟩ rfl (fun _ _ _ h => h) ?_ hHeld ?_
      rotate_left
      · (intro W _; go_simp <;> (try with_reducible rfl))
      refine take_v (v := ?_) 3 ⟨some 15, Op.load 9 (Operand.tmp 14), _, _, _, none⟩ rfl (fun _ _ _ h => h) ?_ hHeld ?_
      rotate_left
      · (intro W hSW; obtain ⟨sw0, sw1⟩ := hSW; go_simp <;> (try with_reducible rfl))
      refine take_v (v := ?_) 4 ⟨some 16, Op.move (Operand.tmp 1), _, _, _, none⟩ rfl (fun _ _ _ h => h) ?_ hHeld ?_
      rotate_left
      · (intro W _; go_simp <;> (try with_reducible rfl))
      refine ready_call 5 ⟨some 17, Op.call { callee := Callee.value (Operand.func 65), args := #[Operand.tmp 16], argTypes := #[3] }, _, _, _, none⟩ (by kernel_rfl) rfl (by kernel_rfl) (fun KC hK => ?_)
      go_wp2_with fail
      refine (markText_any _ _ (by omega) (by omega)).mono ?_
      rintro r w1 ⟨rfl, hb⟩
      have hbw : Below wr.heap.size wr w1 := (below_drew wr).trans hb
      refine hK.out _ _ ⟨(hbw.cell (p := ⟨g, off + k, none⟩) hgs).trans c0, hbw⟩ (fun hHeld => ?_)
      clear hK KC
      refine take_v (v := ?_) 6 ⟨some 18, Op.binOp BinOp.neq 9 (Operand.tmp 15) (Operand.tmp 17) 9, _, _, _, none⟩ rfl (fun _ _ _ h => h) ?_ hHeld ?_
      rotate_left
      · (intro W _; go_simp <;> (try with_reducible rfl))
      refine wpAnyH_done (by kernel_rfl) ?_ _
      refine NoPanic.normal ?_
      clear hHeld hb
      have HB1 : Hid (Below w.heap.size w w1) := HB0.out.trans (hbw.mono HB0.out.size)
      replace c0 := (hbw.cell (p := ⟨g, off + k, none⟩) hgs).trans c0
      replace hgs := Nat.lt_of_lt_of_le hgs hbw.size
      clear hbw HB0
      have HQ : Hid (y + 1 = q + (cntU .str x (k + 1) : Nat)) := Hid.intro (by have h1 := HYE.out; have h2 : cntD .str x[k] = 1 := rfl; omega)
      go_wp2
      go_roundw
      case rel => exact ⟨k + 1, by omega, by go_num, by rw [← HQ.out], HB1.out⟩
      case measure => simp [intOf]; omega
    · have hkn : k = n := by omega
      subst hkn
      have HP : Hid ((cntU .str x k : Nat) = cntD (.list .str) x) := Hid.intro (by rw [HN.out, cntU_all])
      have HB : Hid (Below w.heap.size w wr) := hBr
      clear hBr
      go_wp2
      go_ret
      exact ⟨congrArg (fun t : Nat => Ending.returned (.int .i64 (q + (t : Int)))) HP.out, HB.out⟩
set_option maxRecDepth 100000 in
set_option maxHeartbeats 4000000 in
theorem heldIntS_n (a : Option Addr) (cap : Nat) (x : List (Sh.T .int)) (q : Int) (w : World) (h0 : 0 < q) (h1 : q + (cntD (.list .int) x : Nat) ≤ 8796000000000) (hz : szD (.list .int) x ≤ 1073741824) (h : Lies w (.list .int) [.slice a x.length cap] (mkD (.list .int) x q)) :
    Calls Try.prog 99 #[.slice a x.length cap, .int .i64 q] w fun r w' => r = .returned (.int .i64 (q + (cntD (.list .int) x : Nat))) ∧ Below w.heap.size w w' := by
  have hn : x.length ≤ 1073741824 := by simp only [szD] at hz; omega
  have HL : Hid (Lies w (.list .int) [.slice a x.length cap] (mkD (.list .int) x q)) := h
  have HZ : Hid (szD (.list .int) x ≤ 1073741824 ∧ q + (cntD (.list .int) x : Nat) ≤ 8796000000000) := ⟨hz, h1⟩
  have hc1 : q ≤ 8796000000000 := by omega
  clear h hz h1
  obtain ⟨n, hnn⟩ : ∃ n, n = x.length := ⟨_, rfl⟩
  have HN : Hid (n = x.length) := hnn
  rw [← hnn] at hn ⊢
  clear hnn
  go_enter Try.func99, Try.ntmps99
  go_wp2
  go_loopw [5, 1] (fun i q' wr => ∃ k : Nat, k ≤ n ∧ i = .int .i64 k ∧ q' = .int .i64 (q + (cntU .int x k : Nat)) ∧ Below w.heap.size w wr) (fun i _ _ => n - (intOf i).toNat)
  case atStart => exact ⟨0, Nat.zero_le _, rfl, by simp [cntU], Below.refl _ _⟩
  case round =>
    obtain ⟨k, hk, rfl, rfl, hBr⟩ := hrel
    by_cases hlt : k < n
    · have hlx : k < x.length := by have := HN.out; omega
      have hlt' : (k : Int) < (n : Int) := by omega
      obtain ⟨y, hy⟩ : ∃ y, y = q + (cntU .int x k : Nat) := ⟨_, rfl⟩
      rw [← hy]
      have hcs := cntU_succ .int x k hlx
      have hcl := cntU_le .int x (k + 1)
      have HYE : Hid (y = q + (cntU .int x k : Nat) ∧ cntU .int x (k + 1) = cntU .int x k + cntD .int x[k]) := ⟨hy, hcs⟩
      have hce : y + (cntD .int x[k] : Nat) ≤ 8796000000000 := by have := HZ.out.2; omega
      have hy0 : 0 < y := by omega
      clear hcs hcl hy
      obtain ⟨g, off, hgo, hgs, ec, hel, hec, hle⟩ := Lies.elem (HL.out.next hBr) (by rw [mkD_len]; exact hlx)
      subst hgo
      rw [mkD_at _ _ _ _ hlx, ← HYE.out.1] at hle
      have hev : ec = [.int .i64 (y)] := hle
      subst hev
      have hce2 : y + 1 ≤ 8796000000000 := by have : cntD .int x[k] = 1 := rfl; omega
      have c0 : wr.cell? ⟨g, off + k, none⟩ = some (.int .i64 (y)) := by have := hec 0 (by simp); simpa [Sh.c] using this
      have HB0 : Hid (Below w.heap.size w wr) := hBr
      clear hec hel hBr
      have HQ : Hid (y + 1 = q + (cntU .int x (k + 1) : Nat)) := Hid.intro (by have h1 := HYE.out; have h2 : cntD .int x[k] = 1 := rfl; omega)
      go_wp2
      go_roundw
      case rel => exact ⟨k + 1, by omega, by go_num, by rw [← HQ.out], HB0.out⟩
      case measure => simp [intOf]; omega
    · have hkn : k = n := by omega
      subst hkn
      have HP : Hid ((cntU .int x k : Nat) = cntD (.list .int) x) := Hid.intro (by rw [HN.out, cntU_all])
      have HB : Hid (Below w.heap.size w wr) := hBr
      clear hBr
      go_wp2
      go_ret
      exact ⟨congrArg (fun t : Nat => Ending.returned (.int .i64 (q + (t : Int)))) HP.out, HB.out⟩
set_option maxRecDepth 100000 in
set_option maxHeartbeats 4000000 in
theorem heldPromiseS_n (a : Option Addr) (cap : Nat) (x : List (Sh.T shPromise)) (q : Int) (w : World) (h0 : 0 < q) (h1 : q + (cntD (.list shPromise) x : Nat) ≤ 8796000000000) (hz : szD (.list shPromise) x ≤ 1073741824) (h : Lies w (.list shPromise) [.slice a x.length cap] (mkD (.list shPromise) x q)) :
    Calls Try.prog 98 #[.slice a x.length cap, .int .i64 q] w fun r w' => r = .returned (.int .i64 (q + (cntD (.list shPromise) x : Nat))) ∧ Below w.heap.size w w' := by
  have hn : x.length ≤ 1073741824 := by simp only [szD] at hz; omega
  have HL : Hid (Lies w (.list shPromise) [.slice a x.length cap] (mkD (.list shPromise) x q)) := h
  have HZ : Hid (szD (.list shPromise) x ≤ 1073741824 ∧ q + (cntD (.list shPromise) x : Nat) ≤ 8796000000000) := ⟨hz, h1⟩
  have hc1 : q ≤ 8796000000000 := by omega
  clear h hz h1
  obtain ⟨n, hnn⟩ : ∃ n, n = x.length := ⟨_, rfl⟩
  have HN : Hid (n = x.length) := hnn
  rw [← hnn] at hn ⊢
  clear hnn
  go_enter Try.func98, Try.ntmps98
  go_wp2
  go_loopw [5, 1] (fun i q' wr => ∃ k : Nat, k ≤ n ∧ i = .int .i64 k ∧ q' = .int .i64 (q + (cntU shPromise x k : Nat)) ∧ Below w.heap.size w wr) (fun i _ _ => n - (intOf i).toNat)
  case atStart => exact ⟨0, Nat.zero_le _, rfl, by simp [cntU], Below.refl _ _⟩
  case round =>
    obtain ⟨k, hk, rfl, rfl, hBr⟩ := hrel
    by_cases hlt : k < n
    · have hlx : k < x.length := by have := HN.out; omega
      have hlt' : (k : Int) < (n : Int) := by omega
      obtain ⟨y, hy⟩ : ∃ y, y = q + (cntU shPromise x k : Nat) := ⟨_, rfl⟩
      rw [← hy]
      have hcs := cntU_succ shPromise x k hlx
      have hcl := cntU_le shPromise x (k + 1)
      have HYE : Hid (y = q + (cntU shPromise x k : Nat) ∧ cntU shPromise x (k + 1) = cntU shPromise x k + cntD shPromise x[k]) := ⟨hy, hcs⟩
      have hce : y + (cntD shPromise x[k] : Nat) ≤ 8796000000000 := by have := HZ.out.2; omega
      have hy0 : 0 < y := by omega
      clear hcs hcl hy
      obtain ⟨g, off, hgo, hgs, ec, hel, hec, hle⟩ := Lies.elem (HL.out.next hBr) (by rw [mkD_len]; exact hlx)
      subst hgo
      rw [mkD_at _ _ _ _ hlx, ← HYE.out.1] at hle
      have hq : mkD shPromise x[k] y = ((y), (y + 1), (mtx (y + 1 + 1)), ()) := mkeq_Promise x[k].1 x[k].2.1 x[k].2.2.1 y
      rw [hq] at hle
      clear hq
      obtain hev := lies_Promise hle
      subst hev
      have hcE : cntD shPromise x[k] = (1 + (1 + (1 + 0))) := rfl
      have hce2 : y + 3 ≤ 8796000000000 := by omega
      have ca : wr.cell? ⟨g, off + k * 3, none⟩ = some (.int .i64 (y)) := hec 0 (by simp)
      have cb : wr.cell? ⟨g, off + k * 3 + 1, none⟩ = some (.int .i64 (y + 1)) := hec 1 (by simp)
      have cc : wr.cell? ⟨g, off + k * 3 + 2, none⟩ = some (.string (mtx (y + 1 + 1))) := hec 2 (by simp)
      clear hcE hce hle
      have HB0 : Hid (Below w.heap.size w wr) := hBr
      clear hec hel hBr
      go_upto_region 10 with fail
      refine wp_region_noPanic ?_
      refine wp_region_held_drew (S := fun W => W.cell? ⟨g, off + k * 3 + 2, none⟩ = some (.string (mtx (y + 1 + 1))) ∧ Below wr.heap.size wr W) (by kernel_rfl) ⟨cc, below_drew _⟩ (fun hHeld => ?_)
      refine take_v (v := ?_) 0 ⟨some 30, Op.move (Operand.tmp 0), _, _, _, none⟩ rfl (fun _ _ _ h => h) ?_ hHeld ?_
      rotate_left
      · (intro W _; go_simp <;> (try with_reducible rfl))
      refine take_v (v := ?_) 1 ⟨some 31, Op.move (Operand.tmp 5), _, _, _, none⟩ rfl (fun _ _ _ h => h) ?_ hHeld ?_
      rotate_left
      · (intro W _; go_simp <;> (try with_reducible rfl))
      refine take_v (v := ?_) 2 ⟨some 32, Op.indexAddr 40 (Operand.tmp 30) (Operand.tmp 31), _, _, _, none⟩ rfl (fun _ _ _ h => h) ?_ hHeld ?_
      rotate_left
      · (intro W _; go_simp <;> (try with_reducible rfl))
      refine take_v (v := ?_) 3 ⟨some 33, Op.fieldAddr 96 (Operand.tmp 32) 2, _, _, _, none⟩ rfl (fun _ _ _ h => h) ?_ hHeld ?_
      rotate_left
      · (intro W _; go_simp <;> (try with_reducible rfl))
      refine take_v (v := ?_) 4 ⟨some 34, Op.load 9 (Operand.tmp 33), _, _, _, none⟩ rfl (fun _ _ _ h => h) ?_ hHeld ?_
      rotate_left
      · (intro W hSW; obtain ⟨sw0, sw1⟩ := hSW; go_simp <;> (try with_reducible rfl))
      refine take_v (v := ?_) 5 ⟨some 35, Op.move (Operand.tmp 1), _, _, _, none⟩ rfl (fun _ _ _ h => h) ?_ hHeld ?_
      rotate_left
      · (intro W _; go_simp <;> (try with_reducible rfl))
      refine ready_call 6 ⟨some 36, Op.call { callee := Callee.value (Operand.func 65), args := #[Operand.tmp 35], argTypes := #[3] }, _, _, _, none⟩ (by kernel_rfl) rfl (by kernel_rfl) (fun KC hK => ?_)
      go_wp2_with fail
      refine (markText_any _ _ (by omega) (by omega)).mono ?_
      rintro r w1 ⟨rfl, hb⟩
      have hbw : Below wr.heap.size wr w1 := (below_drew wr).trans hb
      refine hK.out _ _ ⟨(hbw.cell (p := ⟨g, off + k * 3 + 2, none⟩) hgs).trans cc, hbw⟩ (fun hHeld => ?_)
      clear hK KC
      refine take_v (v := ?_) 7 ⟨some 37, Op.binOp BinOp.neq 9 (Operand.tmp 34) (Operand.tmp 36) 9, _, _, _, none⟩ rfl (fun _ _ _ h => h) ?_ hHeld ?_
      rotate_left
      · (intro W _; go_simp <;> (try with_reducible rfl))
      refine wpAnyH_done (by kernel_rfl) ?_ _
      refine NoPanic.normal ?_
      clear hHeld hb
      have HB1 : Hid (Below w.heap.size w w1) := HB0.out.trans (hbw.mono HB0.out.size)
      replace ca := (hbw.cell (p := ⟨g, off + k * 3, none⟩) hgs).trans ca
      replace cb := (hbw.cell (p := ⟨g, off + k * 3 + 1, none⟩) hgs).trans cb
      replace cc := (hbw.cell (p := ⟨g, off + k * 3 + 2, none⟩) hgs).trans cc
      replace hgs := Nat.lt_of_lt_of_le hgs hbw.size
      clear hbw HB0
      have HQ : Hid (y + 1 + 1 + 1 = q + (cntU shPromise x (k + 1) : Nat)) := Hid.intro (by have h1 := HYE.out; have h2 : cntD shPromise x[k] = (1 + (1 + (1 + 0))) := rfl; omega)
      go_wp2
      go_roundw
      case rel => exact ⟨k + 1, by omega, by go_num, by rw [← HQ.out], HB1.out⟩
      case measure => simp [intOf]; omega
    · have hkn : k = n := by omega
      subst hkn
      have HP : Hid ((cntU shPromise x k : Nat) = cntD (.list shPromise) x) := Hid.intro (by rw [HN.out, cntU_all])
      have HB : Hid (Below w.heap.size w wr) := hBr
      clear hBr
      go_wp2
      go_ret
      exact ⟨congrArg (fun t : Nat => Ending.returned (.int .i64 (q + (t : Int)))) HP.out, HB.out⟩
set_option maxRecDepth 100000 in
set_option maxHeartbeats 4000000 in
theorem heldProposerS_n (a : Option Addr) (cap : Nat) (x : List (Sh.T shProposer)) (q : Int) (w : World) (h0 : 0 < q) (h1 : q + (cntD (.list shProposer) x : Nat) ≤ 8796000000000) (hz : szD (.list shProposer) x ≤ 1073741824) (h : Lies w (.list shProposer) [.slice a x.length cap] (mkD (.list shProposer) x q)) :
    Calls Try.prog 69 #[.slice a x.length cap, .int .i64 q] w fun r w' => r = .returned (.int .i64 (q + (cntD (.list shProposer) x : Nat))) ∧ Below w.heap.size w w' := by
  have hn : x.length ≤ 1073741824 := by simp only [szD] at hz; omega
  have HL : Hid (Lies w (.list shProposer) [.slice a x.length cap] (mkD (.list shProposer) x q)) := h
  have HZ : Hid (szD (.list shProposer) x ≤ 1073741824 ∧ q + (cntD (.list shProposer) x : Nat) ≤ 8796000000000) := ⟨hz, h1⟩
  have hc1 : q ≤ 8796000000000 := by omega
  clear h hz h1
  obtain ⟨n, hnn⟩ : ∃ n, n = x.length := ⟨_, rfl⟩
  have HN : Hid (n = x.length) := hnn
  rw [← hnn] at hn ⊢
  clear hnn
  go_enter Try.func69, Try.ntmps69
  go_wp2
  go_loopw [5, 1] (fun i q' wr => ∃ k : Nat, k ≤ n ∧ i = .int .i64 k ∧ q' = .int .i64 (q + (cntU shProposer x k : Nat)) ∧ Below w.heap.size w wr) (fun i _ _ => n - (intOf i).toNat)
  case atStart => exact ⟨0, Nat.zero_le _, rfl, by simp [cntU], Below.refl _ _⟩
  case round =>
    obtain ⟨k, hk, rfl, rfl, hBr⟩ := hrel
    by_cases hlt : k < n
    · have hlx : k < x.length := by have := HN.out; omega
      have hlt' : (k : Int) < (n : Int) := by omega
      obtain ⟨y, hy⟩ : ∃ y, y = q + (cntU shProposer x k : Nat) := ⟨_, rfl⟩
      rw [← hy]
      have hcs := cntU_succ shProposer x k hlx
      have hcl := cntU_le shProposer x (k + 1)
      have HYE : Hid (y = q + (cntU shProposer x k : Nat) ∧ cntU shProposer x (k + 1) = cntU shProposer x k + cntD shProposer x[k]) := ⟨hy, hcs⟩
      have hce : y + (cntD shProposer x[k] : Nat) ≤ 8796000000000 := by have := HZ.out.2; omega
      have hy0 : 0 < y := by omega
      clear hcs hcl hy
      obtain ⟨g, off, hgo, hgs, ec, hel, hec, hle⟩ := Lies.elem (HL.out.next hBr) (by rw [mkD_len]; exact hlx)
      subst hgo
      rw [mkD_at _ _ _ _ hlx, ← HYE.out.1] at hle
      obtain ⟨c1, hc1⟩ : ∃ y, y = cntD (.list shPromise) x[k].2.1 := ⟨_, rfl⟩
      obtain ⟨c2, hc2⟩ : ∃ y, y = cntD (.list .int) x[k].2.2.2.2.1 := ⟨_, rfl⟩
      obtain ⟨z1, hz1⟩ : ∃ zz, zz = y + 1 + (c1 : Int) := ⟨_, rfl⟩
      obtain ⟨z2, hz2⟩ : ∃ zz, zz = z1 + 1 + 1 + (c2 : Int) := ⟨_, rfl⟩
      have hq : mkD shProposer x[k] y = ((mtx (y)), mkD (.list shPromise) x[k].2.1 (y + 1), ((z1) % 3 == 0), (mtx (z1 + 1)), mkD (.list .int) x[k].2.2.2.2.1 (z1 + 1 + 1), ()) := mkeq_Proposer x[k].1 x[k].2.1 x[k].2.2.1 x[k].2.2.2.1 x[k].2.2.2.2.1 y z1 z2 (by rw [← hc1]; exact hz1) (by rw [← hc2]; exact hz2)
      rw [hq] at hle
      clear hq
      obtain ⟨a1, k1, a2, k2, hev, q1, q2⟩ := lies_Proposer hle
      rw [show List.length (mkD (.list shPromise) x[k].2.1 (y + 1)) = x[k].2.1.length from mkD_len _ _ _] at hev q1
      rw [show List.length (mkD (.list .int) x[k].2.2.2.2.1 (z1 + 1 + 1)) = x[k].2.2.2.2.1.length from mkD_len _ _ _] at hev q2
      subst hev
      have hcE : cntD shProposer x[k] = (1 + (cntD (.list shPromise) x[k].2.1 + (1 + (1 + (cntD (.list .int) x[k].2.2.2.2.1 + 0))))) := rfl
      have HC1 : Hid (szD (.list shPromise) x[k].2.1 ≤ 1073741824) := Hid.intro (by have h1 := sz_mem (List.getElem_mem hlx); have h2 := HZ.out.1; have h3 : szD shProposer x[k] = (x[k].1.size + (szD (.list shPromise) x[k].2.1 + (0 + (x[k].2.2.2.1.size + (szD (.list .int) x[k].2.2.2.2.1 + 0))))) := rfl; omega)
      have HC2 : Hid (szD (.list .int) x[k].2.2.2.2.1 ≤ 1073741824) := Hid.intro (by have h1 := sz_mem (List.getElem_mem hlx); have h2 := HZ.out.1; have h3 : szD shProposer x[k] = (x[k].1.size + (szD (.list shPromise) x[k].2.1 + (0 + (x[k].2.2.2.1.size + (szD (.list .int) x[k].2.2.2.2.1 + 0))))) := rfl; omega)
      rw [← hc1, ← hc2] at hcE
      have HK1 : Hid (c1 = cntD (.list shPromise) x[k].2.1) := hc1
      have HZ1 : Hid (z1 = y + 1 + (c1 : Int)) := hz1
      have Q1 : Hid (Lies wr (.list shPromise) [.slice a1 x[k].2.1.length k1] (mkD (.list shPromise) x[k].2.1 (y + 1))) := q1
      have hzb1 : 0 < z1 ∧ z1 + 2 + (c2 : Int) ≤ 8796000000000 := by omega
      have hzn1 : ¬ z1 < 0 := by omega
      have HK2 : Hid (c2 = cntD (.list .int) x[k].2.2.2.2.1) := hc2
      have HZ2 : Hid (z2 = z1 + 1 + 1 + (c2 : Int)) := hz2
      have Q2 : Hid (Lies wr (.list .int) [.slice a2 x[k].2.2.2.2.1.length k2] (mkD (.list .int) x[k].2.2.2.2.1 (z1 + 1 + 1))) := q2
      have hzb2 : 0 < z2 ∧ z2 + 0 ≤ 8796000000000 := by omega
      have hzn2 : ¬ z2 < 0 := by omega
      have hce2 : y + 3 + (c1 : Int) + (c2 : Int) ≤ 8796000000000 := by omega
      clear hc1 hz1 q1
      clear hc2 hz2 q2
      have ca : wr.cell? ⟨g, off + k * 5, none⟩ = some (.string (mtx (y))) := hec 0 (by simp)
      have cb : wr.cell? ⟨g, off + k * 5 + 1, none⟩ = some (.slice a1 x[k].2.1.length k1) := hec 1 (by simp)
      have cc : wr.cell? ⟨g, off + k * 5 + 2, none⟩ = some (.bool ((z1) % 3 == 0)) := hec 2 (by simp)
      have cd : wr.cell? ⟨g, off + k * 5 + 3, none⟩ = some (.string (mtx (z1 + 1))) := hec 3 (by simp)
      have ce : wr.cell? ⟨g, off + k * 5 + 4, none⟩ = some (.slice a2 x[k].2.2.2.2.1.length k2) := hec 4 (by simp)
      clear hcE hce hle
      have HB0 : Hid (Below w.heap.size w wr) := hBr
      clear hec hel hBr
      go_upto_region 4 with fail
      refine wp_region_noPanic ?_
      refine wp_region_held_drew (S := fun W => W.cell? ⟨g, off + k * 5, none⟩ = some (.string (mtx (y))) ∧ Below wr.heap.size wr W) (by kernel_rfl) ⟨ca, below_drew _⟩ (fun hHeld => ?_)
      refine take_v (v := ?_) 0 ⟨some 12, Op.move (Operand.tmp 0), _, _, _, none⟩ rfl (fun _ _ _ h => h) ?_ hHeld ?_
      rotate_left
      · (intro W _; go_simp <;> (try with_reducible rfl))
      refine take_v (v := ?_) 1 ⟨some 13, Op.move (Operand.tmp 5), _, _, _, none⟩ rfl (fun _ _ _ h => h) ?_ hHeld ?_
      rotate_left
      · (intro W _; go_simp <;> (try with_reducible rfl))
      refine take_v (v := ?_) 2 ⟨some 14, Op.indexAddr 28 (Operand.tmp 12) (Operand.tmp 13), _, _, _, none⟩ rfl (fun _ _ _ h => h) ?_ hHeld ?_
      rotate_left
      · (intro W _; go_simp <;> (try with_reducible rfl))
      refine take_v (v := ?_) 3 ⟨some 15, Op.fieldAddr 43 (Operand.tmp 14) 0, _, _, _, none⟩ rfl (fun _ _ _ h => h) ?_ hHeld ?_
      rotate_left
      · (intro W _; go_simp <;> (try with_reducible rfl))
      refine take_v (v := ?_) 4 ⟨some 16, Op.load 9 (Operand.tmp 15), _, _, _, none⟩ rfl (fun _ _ _ h => h) ?_ hHeld ?_
      rotate_left
      · (intro W hSW; obtain ⟨sw0, sw1⟩ := hSW; go_simp <;> (try with_reducible rfl))
      refine take_v (v := ?_) 5 ⟨some 17, Op.move (Operand.tmp 1), _, _, _, none⟩ rfl (fun _ _ _ h => h) ?_ hHeld ?_
      rotate_left
      · (intro W _; go_simp <;> (try with_reducible rfl))
      refine ready_call 6 ⟨some 18, Op.call { callee := Callee.value (Operand.func 65), args := #[Operand.tmp 17], argTypes := #[3] }, _, _, _, none⟩ (by kernel_rfl) rfl (by kernel_rfl) (fun KC hK => ?_)
      go_wp2_with fail
      refine (markText_any _ _ (by omega) (by omega)).mono ?_
      rintro r w1 ⟨rfl, hb⟩
      have hbw : Below wr.heap.size wr w1 := (below_drew wr).trans hb
      refine hK.out _ _ ⟨(hbw.cell (p := ⟨g, off + k * 5, none⟩) hgs).trans ca, hbw⟩ (fun hHeld => ?_)
      clear hK KC
      refine take_v (v := ?_) 7 ⟨some 19, Op.binOp BinOp.neq 9 (Operand.tmp 16) (Operand.tmp 18) 9, _, _, _, none⟩ rfl (fun _ _ _ h => h) ?_ hHeld ?_
      rotate_left
      · (intro W _; go_simp <;> (try with_reducible rfl))
      refine wpAnyH_done (by kernel_rfl) ?_ _
      refine NoPanic.normal ?_
      clear hHeld hb
      have HB1 : Hid (Below w.heap.size w w1) := HB0.out.trans (hbw.mono HB0.out.size)
      replace ca := (hbw.cell (p := ⟨g, off + k * 5, none⟩) hgs).trans ca
      replace cb := (hbw.cell (p := ⟨g, off + k * 5 + 1, none⟩) hgs).trans cb
      replace cc := (hbw.cell (p := ⟨g, off + k * 5 + 2, none⟩) hgs).trans cc
      replace cd := (hbw.cell (p := ⟨g, off + k * 5 + 3, none⟩) hgs).trans cd
      replace ce := (hbw.cell (p := ⟨g, off + k * 5 + 4, none⟩) hgs).trans ce
      replace Q1 : Hid (Lies w1 (.list shPromise) [.slice a1 x[k].2.1.length k1] (mkD (.list shPromise) x[k].2.1 (y + 1))) := Q1.out.next hbw
      replace Q2 : Hid (Lies w1 (.list .int) [.slice a2 x[k].2.2.2.2.1.length k2] (mkD (.list .int) x[k].2.2.2.2.1 (z1 + 1 + 1))) := Q2.out.next hbw
      replace hgs := Nat.lt_of_lt_of_le hgs hbw.size
      clear hbw HB0
      go_wp2_with fail
      refine (heldPromiseS_n _ _ _ _ _ (by omega) (by rw [← HK1.out]; omega) HC1.out Q1.out).mono ?_
      rintro r w2 ⟨hr, hbw⟩
      rw [← HK1.out, ← HZ1.out] at hr
      subst hr
      have HB2 : Hid (Below w.heap.size w w2) := HB1.out.trans (hbw.mono HB1.out.size)
      replace ca := (hbw.cell (p := ⟨g, off + k * 5, none⟩) hgs).trans ca
      replace cb := (hbw.cell (p := ⟨g, off + k * 5 + 1, none⟩) hgs).trans cb
      replace cc := (hbw.cell (p := ⟨g, off + k * 5 + 2, none⟩) hgs).trans cc
      replace cd := (hbw.cell (p := ⟨g, off + k * 5 + 3, none⟩) hgs).trans cd
      replace ce := (hbw.cell (p := ⟨g, off + k * 5 + 4, none⟩) hgs).trans ce
      replace Q1 : Hid (Lies w2 (.list shPromise) [.slice a1 x[k].2.1.length k1] (mkD (.list shPromise) x[k].2.1 (y + 1))) := Q1.out.next hbw
      replace Q2 : Hid (Lies w2 (.list .int) [.slice a2 x[k].2.2.2.2.1.length k2] (mkD (.list .int) x[k].2.2.2.2.1 (z1 + 1 + 1))) := Q2.out.next hbw
      replace hgs := Nat.lt_of_lt_of_le hgs hbw.size
      clear hbw HB1
      go_upto_region 13 with fail
      refine wp_region_noPanic ?_
      refine wp_region_held_drew (S := fun W => W.cell? ⟨g, off + k * 5 + 3, none⟩ = some (.string (mtx (z1 + 1))) ∧ Below w2.heap.size w2 W) (by kernel_rfl) ⟨cd, below_drew _⟩ (fun hHeld => ?_)
      refine take_v (v := ?_) 0 ⟨some 42, Op.move (Operand.tmp 0), _, _, _, none⟩ rfl (fun _ _ _ h => h) ?_ hHeld ?_
      rotate_left
      · (intro W _; go_simp <;> (try with_reducible rfl))
      refine take_v (v := ?_) 1 ⟨some 43, Op.move (Operand.tmp 5), _, _, _, none⟩ rfl (fun _ _ _ h => h) ?_ hHeld ?_
      rotate_left
      · (intro W _; go_simp <;> (try with_reducible rfl))
      refine take_v (v := ?_) 2 ⟨some 44, Op.indexAddr 28 (Operand.tmp 42) (Operand.tmp 43), _, _, _, none⟩ rfl (fun _ _ _ h => h) ?_ hHeld ?_
      rotate_left
      · (intro W _; go_simp <;> (try with_reducible rfl))
      refine take_v (v := ?_) 3 ⟨some 45, Op.fieldAddr 43 (Operand.tmp 44) 3, _, _, _, none⟩ rfl (fun _ _ _ h => h) ?_ hHeld ?_
      rotate_left
      · (intro W _; go_simp <;> (try with_reducible rfl))
      refine take_v (v := ?_) 4 ⟨some 46, Op.load 9 (Operand.tmp 45), _, _, _, none⟩ rfl (fun _ _ _ h => h) ?_ hHeld ?_
      rotate_left
      · (intro W hSW; obtain ⟨sw0, sw1⟩ := hSW; go_simp <;> (try with_reducible rfl))
      refine take_v (v := ?_) 5 ⟨some 47, Op.move (Operand.tmp 1), _, _, _, none⟩ rfl (fun _ _ _ h => h) ?_ hHeld ?_
      rotate_left
      · (intro W _; go_simp <;> (try with_reducible rfl))
      refine ready_call 6 ⟨some 48, Op.call { callee := Callee.value (Operand.func 65), args := #[Operand.tmp 47], argTypes := #[3] }, _, _, _, none⟩ (by kernel_rfl) rfl (by kernel_rfl) (fun KC hK => ?_)
      go_wp2_with fail
      refine (markText_any _ _ (by omega) (by omega)).mono ?_
      rintro r w3 ⟨rfl, hb⟩
      have hbw : Below w2.heap.size w2 w3 := (below_drew w2).trans hb
      refine hK.out _ _ ⟨(hbw.cell (p := ⟨g, off + k * 5 + 3, none⟩) hgs).trans cd, hbw⟩ (fun hHeld => ?_)
      clear hK KC
      refine take_v (v := ?_) 7 ⟨some 49, Op.binOp BinOp.neq 9 (Operand.tmp 46) (Operand.tmp 48) 9, _, _, _, none⟩ rfl (fun _ _ _ h => h) ?_ hHeld ?_
      rotate_left
      · (intro W _; go_simp <;> (try with_reducible rfl))
      refine wpAnyH_done (by kernel_rfl) ?_ _
      refine NoPanic.normal ?_
      clear hHeld hb
      have HB3 : Hid (Below w.heap.size w w3) := HB2.out.trans (hbw.mono HB2.out.size)
      replace ca := (hbw.cell (p := ⟨g, off + k * 5, none⟩) hgs).trans ca
      replace cb := (hbw.cell (p := ⟨g, off + k * 5 + 1, none⟩) hgs).trans cb
      replace cc := (hbw.cell (p := ⟨g, off + k * 5 + 2, none⟩) hgs).trans cc
      replace cd := (hbw.cell (p := ⟨g, off + k * 5 + 3, none⟩) hgs).trans cd
      replace ce := (hbw.cell (p := ⟨g, off + k * 5 + 4, none⟩) hgs).trans ce
      replace Q1 : Hid (Lies w3 (.list shPromise) [.slice a1 x[k].2.1.length k1] (mkD (.list shPromise) x[k].2.1 (y + 1))) := Q1.out.next hbw
      replace Q2 : Hid (Lies w3 (.list .int) [.slice a2 x[k].2.2.2.2.1.length k2] (mkD (.list .int) x[k].2.2.2.2.1 (z1 + 1 + 1))) := Q2.out.next hbw
      replace hgs := Nat.lt_of_lt_of_le hgs hbw.size
      clear hbw HB2
      go_wp2_with fail
      refine (heldIntS_n _ _ _ _ _ (by omega) (by rw [← HK2.out]; omega) HC2.out Q2.out).mono ?_
      rintro r w4 ⟨hr, hbw⟩
      rw [← HK2.out, ← HZ2.out] at hr
      subst hr
      have HB4 : Hid (Below w.heap.size w w4) := HB3.out.trans (hbw.mono HB3.out.size)
      replace ca := (hbw.cell (p := ⟨g, off + k * 5, none⟩) hgs).trans ca
      replace cb := (hbw.cell (p := ⟨g, off + k * 5 + 1, none⟩) hgs).trans cb
      replace cc := (hbw.cell (p := ⟨g, off + k * 5 + 2, none⟩) hgs).trans cc
      replace cd := (hbw.cell (p := ⟨g, off + k * 5 + 3, none⟩) hgs).trans cd
      replace ce := (hbw.cell (p := ⟨g, off + k * 5 + 4, none⟩) hgs).trans ce
      replace Q1 : Hid (Lies w4 (.list shPromise) [.slice a1 x[k].2.1.length k1] (mkD (.list shPromise) x[k].2.1 (y + 1))) := Q1.out.next hbw
      replace Q2 : Hid (Lies w4 (.list .int) [.slice a2 x[k].2.2.2.2.1.length k2] (mkD (.list .int) x[k].2.2.2.2.1 (z1 + 1 + 1))) := Q2.out.next hbw
      replace hgs := Nat.lt_of_lt_of_le hgs hbw.size
      clear hbw HB3
      have HQ : Hid (z2 = q + (cntU shProposer x (k + 1) : Nat)) := Hid.intro (by have h1 := HYE.out; have h2 : cntD shProposer x[k] = (1 + (cntD (.list shPromise) x[k].2.1 + (1 + (1 + (cntD (.list .int) x[k].2.2.2.2.1 + 0))))) := rfl; have := HK1.out; have := HZ1.out; have := HK2.out; have := HZ2.out; omega)
      go_wp2
      go_roundw
      case rel => exact ⟨k + 1, by omega, by go_num, by rw [← HQ.out], HB4.out⟩
      case measure => simp [intOf]; omega
    · have hkn : k = n := by omega
      subst hkn
      have HP : Hid ((cntU shProposer x k : Nat) = cntD (.list shProposer) x) := Hid.intro (by rw [HN.out, cntU_all])
      have HB : Hid (Below w.heap.size w wr) := hBr
      clear hBr
      go_wp2
      go_ret
      exact ⟨congrArg (fun t : Nat => Ending.returned (.int .i64 (q + (t : Int)))) HP.out, HB.out⟩
set_option maxRecDepth 100000 in
set_option maxHeartbeats 4000000 in
theorem heldAcceptorS_n (a : Option Addr) (cap : Nat) (x : List (Sh.T shAcceptor)) (q : Int) (w : World) (h0 : 0 < q) (h1 : q + (cntD (.list shAcceptor) x : Nat) ≤ 8796000000000) (hz : szD (.list shAcceptor) x ≤ 1073741824) (h : Lies w (.list shAcceptor) [.slice a x.length cap] (mkD (.list shAcceptor) x q)) :
    Calls Try.prog 68 #[.slice a x.length cap, .int .i64 q] w fun r w' => r = .returned (.int .i64 (q + (cntD (.list shAcceptor) x : Nat))) ∧ Below w.heap.size w w' := by
  have hn : x.length ≤ 1073741824 := by simp only [szD] at hz; omega
  have HL : Hid (Lies w (.list shAcceptor) [.slice a x.length cap] (mkD (.list shAcceptor) x q)) := h
  have HZ : Hid (szD (.list shAcceptor) x ≤ 1073741824 ∧ q + (cntD (.list shAcceptor) x : Nat) ≤ 8796000000000) := ⟨hz, h1⟩
  have hc1 : q ≤ 8796000000000 := by omega
  clear h hz h1
  obtain ⟨n, hnn⟩ : ∃ n, n = x.length := ⟨_, rfl⟩
  have HN : Hid (n = x.length) := hnn
  rw [← hnn] at hn ⊢
  clear hnn
  go_enter Try.func68, Try.ntmps68
  go_wp2
  go_loopw [5, 1] (fun i q' wr => ∃ k : Nat, k ≤ n ∧ i = .int .i64 k ∧ q' = .int .i64 (q + (cntU shAcceptor x k : Nat)) ∧ Below w.heap.size w wr) (fun i _ _ => n - (intOf i).toNat)
  case atStart => exact ⟨0, Nat.zero_le _, rfl, by simp [cntU], Below.refl _ _⟩
  case round =>
    obtain ⟨k, hk, rfl, rfl, hBr⟩ := hrel
    by_cases hlt : k < n
    · have hlx : k < x.length := by have := HN.out; omega
      have hlt' : (k : Int) < (n : Int) := by omega
      obtain ⟨y, hy⟩ : ∃ y, y = q + (cntU shAcceptor x k : Nat) := ⟨_, rfl⟩
      rw [← hy]
      have hcs := cntU_succ shAcceptor x k hlx
      have hcl := cntU_le shAcceptor x (k + 1)
      have HYE : Hid (y = q + (cntU shAcceptor x k : Nat) ∧ cntU shAcceptor x (k + 1) = cntU shAcceptor x k + cntD shAcceptor x[k]) := ⟨hy, hcs⟩
      have hce : y + (cntD shAcceptor x[k] : Nat) ≤ 8796000000000 := by have := HZ.out.2; omega
      have hy0 : 0 < y := by omega
      clear hcs hcl hy
      obtain ⟨g, off, hgo, hgs, ec, hel, hec, hle⟩ := Lies.elem (HL.out.next hBr) (by rw [mkD_len]; exact hlx)
      subst hgo
      rw [mkD_at _ _ _ _ hlx, ← HYE.out.1] at hle
      have hq : mkD shAcceptor x[k] y = ((y), (y + 1), (mtx (y + 1 + 1)), ()) := mkeq_Acceptor x[k].1 x[k].2.1 x[k].2.2.1 y
      rw [hq] at hle
      clear hq
      obtain hev := lies_Acceptor hle
      subst hev
      have hcE : cntD shAcceptor x[k] = (1 + (1 + (1 + 0))) := rfl
      have hce2 : y + 3 ≤ 8796000000000 := by omega
      have ca : wr.cell? ⟨g, off + k * 3, none⟩ = some (.int .i64 (y)) := hec 0 (by simp)
      have cb : wr.cell? ⟨g, off + k * 3 + 1, none⟩ = some (.int .i64 (y + 1)) := hec 1 (by simp)
      have cc : wr.cell? ⟨g, off + k * 3 + 2, none⟩ = some (.string (mtx (y + 1 + 1))) := hec 2 (by simp)
      clear hcE hce hle
      have HB0 : Hid (Below w.heap.size w wr) := hBr
      clear hec hel hBr
      go_upto_region 10 with fail
      refine wp_region_noPanic ?_
      refine wp_region_held_drew (S := fun W => W.cell? ⟨g, off + k * 3 + 2, none⟩ = some (.string (mtx (y + 1 + 1))) ∧ Below wr.heap.size wr W) (by kernel_rfl) ⟨cc, below_drew _⟩ (fun hHeld => ?_)
      refine take_v (v := ?_) 0 ⟨some 30, Op.move (Operand.tmp 0), _, _, _, none⟩ rfl (fun _ _ _ h => h) ?_ hHeld ?_
      rotate_left
      · (intro W _; go_simp <;> (try with_reducible rfl))
      refine take_v (v := ?_) 1 ⟨some 31, Op.move (Operand.tmp 5), _, _, _, none⟩ rfl (fun _ _ _ h => h) ?_ hHeld ?_
      rotate_left
      · (intro W _; go_simp <;> (try with_reducible rfl))
      refine take_v (v := ?_) 2 ⟨some 32, Op.indexAddr 27 (Operand.tmp 30) (Operand.tmp 31), _, _, _, none⟩ rfl (fun _ _ _ h => h) ?_ hHeld ?_
      rotate_left
      · (intro W _; go_simp <;> (try with_reducible rfl))
      refine take_v (v := ?_) 3 ⟨some 33, Op.fieldAddr 91 (Operand.tmp 32) 2, _, _, _, none⟩ rfl (fun _ _ _ h => h) ?_ hHeld ?_
      rotate_left
      · (intro W _; go_simp <;> (try with_reducible rfl))
      refine take_v (v := ?_) 4 ⟨some 34, Op.load 9 (Operand.tmp 33), _, _, _, none⟩ rfl (fun _ _ _ h => h) ?_ hHeld ?_
      rotate_left
      · (intro W hSW; obtain ⟨sw0, sw1⟩ := hSW; go_simp <;> (try with_reducible rfl))
      refine take_v (v := ?_) 5 ⟨some 35, Op.move (Operand.tmp 1), _, _, _, none⟩ rfl (fun _ _ _ h => h) ?_ hHeld ?_
      rotate_left
      · (intro W _; go_simp <;> (try with_reducible rfl))
      refine ready_call 6 ⟨some 36, Op.call { callee := Callee.value (Operand.func 65), args := #[Operand.tmp 35], argTypes := #[3] }, _, _, _, none⟩ (by kernel_rfl) rfl (by kernel_rfl) (fun KC hK => ?_)
      go_wp2_with fail
      refine (markText_any _ _ (by omega) (by omega)).mono ?_
      rintro r w1 ⟨rfl, hb⟩
      have hbw : Below wr.heap.size wr w1 := (below_drew wr).trans hb
      refine hK.out _ _ ⟨(hbw.cell (p := ⟨g, off + k * 3 + 2, none⟩) hgs).trans cc, hbw⟩ (fun hHeld => ?_)
      clear hK KC
      refine take_v (v := ?_) 7 ⟨some 37, Op.binOp BinOp.neq 9 (Operand.tmp 34) (Operand.tmp 36) 9, _, _, _, none⟩ rfl (fun _ _ _ h => h) ?_ hHeld ?_
      rotate_left
      · (intro W _; go_simp <;> (try with_reducible rfl))
      refine wpAnyH_done (by kernel_rfl) ?_ _
      refine NoPanic.normal ?_
      clear hHeld hb
      have HB1 : Hid (Below w.heap.size w w1) := HB0.out.trans (hbw.mono HB0.out.size)
      replace ca := (hbw.cell (p := ⟨g, off + k * 3, none⟩) hgs).trans ca
      replace cb := (hbw.cell (p := ⟨g, off + k * 3 + 1, none⟩) hgs).trans cb
      replace cc := (hbw.cell (p := ⟨g, off + k * 3 + 2, none⟩) hgs).trans cc
      replace hgs := Nat.lt_of_lt_of_le hgs hbw.size
      clear hbw HB0
      have HQ : Hid (y + 1 + 1 + 1 = q + (cntU shAcceptor x (k + 1) : Nat)) := Hid.intro (by have h1 := HYE.out; have h2 : cntD shAcceptor x[k] = (1 + (1 + (1 + 0))) := rfl; omega)
      go_wp2
      go_roundw
      case rel => exact ⟨k + 1, by omega, by go_num, by rw [← HQ.out], HB1.out⟩
      case measure => simp [intOf]; omega
    · have hkn : k = n := by omega
      subst hkn
      have HP : Hid ((cntU shAcceptor x k : Nat) = cntD (.list shAcceptor) x) := Hid.intro (by rw [HN.out, cntU_all])
      have HB : Hid (Below w.heap.size w wr) := hBr
      clear hBr
      go_wp2
      go_ret
      exact ⟨congrArg (fun t : Nat => Ending.returned (.int .i64 (q + (t : Int)))) HP.out, HB.out⟩
set_option maxRecDepth 100000 in
set_option maxHeartbeats 4000000 in
theorem heldBoolS_n (a : Option Addr) (cap : Nat) (x : List (Sh.T .bool)) (q : Int) (w : World) (h0 : 0 < q) (h1 : q + (cntD (.list .bool) x : Nat) ≤ 8796000000000) (hz : szD (.list .bool) x ≤ 1073741824) (h : Lies w (.list .bool) [.slice a x.length cap] (mkD (.list .bool) x q)) :
    Calls Try.prog 42 #[.slice a x.length cap, .int .i64 q] w fun r w' => r = .returned (.int .i64 (q + (cntD (.list .bool) x : Nat))) ∧ Below w.heap.size w w' := by
  have hn : x.length ≤ 1073741824 := by simp only [szD] at hz; omega
  have HL : Hid (Lies w (.list .bool) [.slice a x.length cap] (mkD (.list .bool) x q)) := h
  have HZ : Hid (szD (.list .bool) x ≤ 1073741824 ∧ q + (cntD (.list .bool) x : Nat) ≤ 8796000000000) := ⟨hz, h1⟩
  have hc1 : q ≤ 8796000000000 := by omega
  clear h hz h1
  obtain ⟨n, hnn⟩ : ∃ n, n = x.length := ⟨_, rfl⟩
  have HN : Hid (n = x.length) := hnn
  rw [← hnn] at hn ⊢
  clear hnn
  go_enter Try.func42, Try.ntmps42
  go_wp2
  go_loopw [5, 1] (fun i q' wr => ∃ k : Nat, k ≤ n ∧ i = .int .i64 k ∧ q' = .int .i64 (q + (cntU .bool x k : Nat)) ∧ Below w.heap.size w wr) (fun i _ _ => n - (intOf i).toNat)
  case atStart => exact ⟨0, Nat.zero_le _, rfl, by simp [cntU], Below.refl _ _⟩
  case round =>
    obtain ⟨k, hk, rfl, rfl, hBr⟩ := hrel
    by_cases hlt : k < n
    · have hlx : k < x.length := by have := HN.out; omega
      have hlt' : (k : Int) < (n : Int) := by omega
      obtain ⟨y, hy⟩ : ∃ y, y = q + (cntU .bool x k : Nat) := ⟨_, rfl⟩
      rw [← hy]
      have hcs := cntU_succ .bool x k hlx
      have hcl := cntU_le .bool x (k + 1)
      have HYE : Hid (y = q + (cntU .bool x k : Nat) ∧ cntU .bool x (k + 1) = cntU .bool x k + cntD .bool x[k]) := ⟨hy, hcs⟩
      have hce : y + (cntD .bool x[k] : Nat) ≤ 8796000000000 := by have := HZ.out.2; omega
      have hy0 : 0 < y := by omega
      clear hcs hcl hy
      obtain ⟨g, off, hgo, hgs, ec, hel, hec, hle⟩ := Lies.elem (HL.out.next hBr) (by rw [mkD_len]; exact hlx)
      subst hgo
      rw [mkD_at _ _ _ _ hlx, ← HYE.out.1] at hle
      have hev : ec = [.bool ((y) % 3 == 0)] := hle
      subst hev
      have hce2 : y + 1 ≤ 8796000000000 := by have : cntD .bool x[k] = 1 := rfl; omega
      have c0 : wr.cell? ⟨g, off + k, none⟩ = some (.bool ((y) % 3 == 0)) := by have := hec 0 (by simp); simpa [Sh.c] using this
      have HB0 : Hid (Below w.heap.size w wr) := hBr
      clear hec hel hBr
      have HQ : Hid (y + 1 = q + (cntU .bool x (k + 1) : Nat)) := Hid.intro (by have h1 := HYE.out; have h2 : cntD .bool x[k] = 1 := rfl; omega)
      go_wp2
      go_roundw
      case rel => exact ⟨k + 1, by omega, by go_num, by rw [← HQ.out], HB0.out⟩
      case measure => simp [intOf]; omega
    · have hkn : k = n := by omega
      subst hkn
      have HP : Hid ((cntU .bool x k : Nat) = cntD (.list .bool) x) := Hid.intro (by rw [HN.out, cntU_all])
      have HB : Hid (Below w.heap.size w wr) := hBr
      clear hBr
      go_wp2
      go_ret
      exact ⟨congrArg (fun t : Nat => Ending.returned (.int .i64 (q + (t : Int)))) HP.out, HB.out⟩
set_option maxRecDepth 100000 in
set_option maxHeartbeats 4000000 in
theorem heldSynod_n (cs : List Value) (x0 : List (Sh.T shAcceptor)) (x1 : List (Sh.T shProposer)) (q : Int) (w : World) (h0 : 0 < q) (h1 : q + (cntT shSynod (x0, x1, ()) : Nat) ≤ 8796000000000) (hz : szD shSynod (x0, x1, ()) ≤ 1073741824) (h : Lies w shSynod cs (mkT shSynod (x0, x1, ()) q)) :
    Calls Try.prog 30 #[.agg cs.toArray, .int .i64 q] w fun r w' => r = .returned (.int .i64 (q + (cntT shSynod (x0, x1, ()) : Nat))) ∧ Below w.heap.size w w' := by
  rw [cntTeq_Synod] at h1 ⊢
  have HE : Hid (szD shSynod (x0, x1, ()) = (szD (.list shAcceptor) x0 + (szD (.list shProposer) x1 + 0))) := rfl
  have HZ : Hid (szD shSynod (x0, x1, ()) ≤ 1073741824) := hz
  obtain ⟨c1, hc1⟩ : ∃ y, y = cntD (.list shAcceptor) x0 := ⟨_, rfl⟩
  obtain ⟨c2, hc2⟩ : ∃ y, y = cntD (.list shProposer) x1 := ⟨_, rfl⟩
  obtain ⟨z1, hz1⟩ : ∃ zz, zz = q + (c1 : Int) := ⟨_, rfl⟩
  obtain ⟨z2, hz2⟩ : ∃ zz, zz = z1 + (c2 : Int) := ⟨_, rfl⟩
  rw [mkTeq_Synod x0 x1 q z1 z2 (by rw [← hc1]; exact hz1) (by rw [← hc2]; exact hz2)] at h
  obtain ⟨a1, k1, a2, k2, hev, q1, q2⟩ := lies_Synod h
  rw [show List.length (mkD (.list shAcceptor) x0 q) = x0.length from mkD_len _ _ _] at hev q1
  rw [show List.length (mkD (.list shProposer) x1 z1) = x1.length from mkD_len _ _ _] at hev q2
  subst hev
  rw [← hc1, ← hc2] at h1 ⊢
  have HK1 : Hid (c1 = cntD (.list shAcceptor) x0) := hc1
  have HZ1 : Hid (z1 = q + (c1 : Int)) := hz1
  have Q1 : Hid (Lies w (.list shAcceptor) [.slice a1 x0.length k1] (mkD (.list shAcceptor) x0 q)) := q1
  have hzb1 : 0 < z1 ∧ z1 + (c2 : Int) ≤ 8796000000000 := by omega
  have hzn1 : ¬ z1 < 0 := by omega
  have HK2 : Hid (c2 = cntD (.list shProposer) x1) := hc2
  have HZ2 : Hid (z2 = z1 + (c2 : Int)) := hz2
  have Q2 : Hid (Lies w (.list shProposer) [.slice a2 x1.length k2] (mkD (.list shProposer) x1 z1)) := q2
  have hzb2 : 0 < z2 ∧ z2 ≤ 8796000000000 := by omega
  have hzn2 : ¬ z2 < 0 := by omega
  clear hc1 hz1 q1
  clear hc2 hz2 q2
  clear h hz
  go_enter Try.func30, Try.ntmps30
  go_wp2_with fail
  obtain ⟨w0, hW⟩ : ∃ x, x = w.alloc (.cells #[.slice a1 x0.length k1, .slice a2 x1.length k2] 30) := ⟨_, rfl⟩
  have hb0 : Below w.heap.size w w0 := hW ▸ Go.Joins.below_alloc1 _ _
  have HB : Hid (Bx w0 w.heap.size [.slice a1 x0.length k1, .slice a2 x1.length k2] ∧ Below w.heap.size w w0) := ⟨hW ▸ Bx.new w [.slice a1 x0.length k1, .slice a2 x1.length k2] _, hb0⟩
  replace Q1 : Hid (Lies w0 (.list shAcceptor) [.slice a1 x0.length k1] (mkD (.list shAcceptor) x0 q)) := Q1.out.next hb0
  replace Q2 : Hid (Lies w0 (.list shProposer) [.slice a2 x1.length k2] (mkD (.list shProposer) x1 z1)) := Q2.out.next hb0
  rw [← hW]
  clear hW hb0
  refine (heldAcceptorS_n _ _ _ _ _ (by omega) (by rw [← HK1.out]; omega) (by have := HZ.out; rw [HE.out] at this; omega) Q1.out).mono ?_
  rintro r w1 ⟨hr, hb⟩
  rw [← HK1.out, ← HZ1.out] at hr
  subst hr
  have HB : Hid (Bx w1 w.heap.size [.slice a1 x0.length k1, .slice a2 x1.length k2] ∧ Below w.heap.size w w1) := ⟨HB.out.1.next hb, HB.out.2.trans (hb.mono HB.out.2.size)⟩
  replace Q1 : Hid (Lies w1 (.list shAcceptor) [.slice a1 x0.length k1] (mkD (.list shAcceptor) x0 q)) := Q1.out.next hb
  replace Q2 : Hid (Lies w1 (.list shProposer) [.slice a2 x1.length k2] (mkD (.list shProposer) x1 z1)) := Q2.out.next hb
  clear hb
  have d0 := HB.out.1.cell 0 rfl
  have d1 := HB.out.1.cell 1 rfl
  have dz := HB.out.1.2
  go_wp2_with fail
  clear dz d0 d1
  refine (heldProposerS_n _ _ _ _ _ (by omega) (by rw [← HK2.out]; omega) (by have := HZ.out; rw [HE.out] at this; omega) Q2.out).mono ?_
  rintro r w2 ⟨hr, hb⟩
  rw [← HK2.out, ← HZ2.out] at hr
  subst hr
  have HB : Hid (Bx w2 w.heap.size [.slice a1 x0.length k1, .slice a2 x1.length k2] ∧ Below w.heap.size w w2) := ⟨HB.out.1.next hb, HB.out.2.trans (hb.mono HB.out.2.size)⟩
  replace Q1 : Hid (Lies w2 (.list shAcceptor) [.slice a1 x0.length k1] (mkD (.list shAcceptor) x0 q)) := Q1.out.next hb
  replace Q2 : Hid (Lies w2 (.list shProposer) [.slice a2 x1.length k2] (mkD (.list shProposer) x1 z1)) := Q2.out.next hb
  clear hb
  have d0 := HB.out.1.cell 0 rfl
  have d1 := HB.out.1.cell 1 rfl
  have dz := HB.out.1.2
  go_wp2
  go_ret
  exact ⟨congrArg (fun t => Ending.returned (.int .i64 t)) (by have := HZ1.out; have := HZ2.out; omega), HB.out.2⟩
end Go.Proofs.Ytmhkfangfhanlaa
