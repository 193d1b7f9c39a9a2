/- The law's own functions that ask for marks. Written by tools/nest.py. -/
import Derived.Test.YtidalpgkljafdaaNtM
import Derived.Test.YtidalpgkljafdaaRg2
import Derived.Deep.RegionWith
import Derived.Deep.DeepCutAuto
namespace Go.Proofs.Ytidalpgkljafdaa
open Go.RowKit
set_option linter.unusedVariables false
set_option linter.unusedSimpArgs false

set_option maxRecDepth 100000 in
set_option maxHeartbeats 4000000 in
theorem heldIntS_n (a : Option Addr) (cap : Nat) (x : List (Sh.T .int)) (q : Int) (w : World) (h0 : 0 < q) (h1 : q + (cntD (.list .int) x : Nat) ≤ 8796000000000) (hz : szD (.list .int) x ≤ 1073741824) (h : Lies w (.list .int) [.slice a x.length cap] (mkD (.list .int) x q)) :
    Calls Try.prog 36 #[.slice a x.length cap, .int .i64 q] w fun r w' => r = .returned (.int .i64 (q + (cntD (.list .int) x : Nat))) ∧ Below w.heap.size w w' := by
  have hn : x.length ≤ 1073741824 := by simp only [szD] at hz; omega
  have HL : Hid (Lies w (.list .int) [.slice a x.length cap] (mkD (.list .int) x q)) := h
  have HZ : Hid (szD (.list .int) x ≤ 1073741824 ∧ q + (cntD (.list .int) x : Nat) ≤ 8796000000000) := ⟨hz, h1⟩
  have hc1 : q ≤ 8796000000000 := by omega
  clear h hz h1
  obtain ⟨n, hnn⟩ : ∃ n, n = x.length := ⟨_, rfl⟩
  have HN : Hid (n = x.length) := hnn
  rw [← hnn] at hn ⊢
  clear hnn
  go_enter Try.func36, Try.ntmps36
  go_wp2
  go_loopw [5, 1] (fun i q' wr => ∃ k : Nat, k ≤ n ∧ i = .int .i64 k ∧ q' = .int .i64 (q + (cntU .int x k : Nat)) ∧ Below w.heap.size w wr) (fun i _ _ => n - (intOf i).toNat)
  case atStart => exact ⟨0, Nat.zero_le _, rfl, by simp [cntU], Below.refl _ _⟩
  case round =>
    obtain ⟨k, hk, rfl, rfl, hBr⟩ := hrel
    by_cases hlt : k < n
    · have hlx : k < x.length := by have := HN.out; omega
      have hlt' : (k : Int) < (n : Int) := by omega
      obtain ⟨y, hy⟩ : ∃ y, y = q + (cntU .int x k : Nat) := ⟨_, rfl⟩
      rw [← hy]
      have hcs := cntU_succ .int x k hlx
      have hcl := cntU_le .int x (k + 1)
      have HYE : Hid (y = q + (cntU .int x k : Nat) ∧ cntU .int x (k + 1) = cntU .int x k + cntD .int x[k]) := ⟨hy, hcs⟩
      have hce : y + (cntD .int x[k] : Nat) ≤ 8796000000000 := by have := HZ.out.2; omega
      have hy0 : 0 < y := by omega
      clear hcs hcl hy
      obtain ⟨g, off, hgo, hgs, ec, hel, hec, hle⟩ := Lies.elem (HL.out.next hBr) (by rw [mkD_len]; exact hlx)
      subst hgo
      rw [mkD_at _ _ _ _ hlx, ← HYE.out.1] at hle
      have hev : ec = [.int .i64 (y)] := hle
      subst hev
      have hce2 : y + 1 ≤ 8796000000000 := by have : cntD .int x[k] = 1 := rfl; omega
      have c0 : wr.cell? ⟨g, off + k, none⟩ = some (.int .i64 (y)) := by have := hec 0 (by simp); simpa [Sh.c] using this
      have HB0 : Hid (Below w.heap.size w wr) := hBr
      clear hec hel hBr
      have HQ : Hid (y + 1 = q + (cntU .int x (k + 1) : Nat)) := Hid.intro (by have h1 := HYE.out; have h2 : cntD .int x[k] = 1 := rfl; omega)
      go_wp2
      go_roundw
      case rel => exact ⟨k + 1, by omega, by go_num, by rw [← HQ.out], HB0.out⟩
      case measure => simp [intOf]; omega
    · have hkn : k = n := by omega
      subst hkn
      have HP : Hid ((cntU .int x k : Nat) = cntD (.list .int) x) := Hid.intro (by rw [HN.out, cntU_all])
      have HB : Hid (Below w.heap.size w wr) := hBr
      clear hBr
      go_wp2
      go_ret
      exact ⟨congrArg (fun t : Nat => Ending.returned (.int .i64 (q + (t : Int)))) HP.out, HB.out⟩
set_option maxRecDepth 100000 in
set_option maxHeartbeats 4000000 in
theorem heldLeases_n (cs : List Value) (x0 : Int) (x1 : Int) (x2 : List (Sh.T .int)) (x3 : Int) (x4 : Int) (x5 : List (Sh.T .int)) (q : Int) (w : World) (h0 : 0 < q) (h1 : q + (cntT shLeases (x0, x1, x2, x3, x4, x5, ()) : Nat) ≤ 8796000000000) (hz : szD shLeases (x0, x1, x2, x3, x4, x5, ()) ≤ 1073741824) (h : Lies w shLeases cs (mkT shLeases (x0, x1, x2, x3, x4, x5, ()) q)) :
    Calls Try.prog 25 #[.agg cs.toArray, .int .i64 q] w fun r w' => r = .returned (.int .i64 (q + (cntT shLeases (x0, x1, x2, x3, x4, x5, ()) : Nat))) ∧ Below w.heap.size w w' := by
  rw [cntTeq_Leases] at h1 ⊢
  have HE : Hid (szD shLeases (x0, x1, x2, x3, x4, x5, ()) = (0 + (0 + (szD (.list .int) x2 + (0 + (0 + (szD (.list .int) x5 + 0))))))) := rfl
  have HZ : Hid (szD shLeases (x0, x1, x2, x3, x4, x5, ()) ≤ 1073741824) := hz
  obtain ⟨c1, hc1⟩ : ∃ y, y = cntD (.list .int) x2 := ⟨_, rfl⟩
  obtain ⟨c2, hc2⟩ : ∃ y, y = cntD (.list .int) x5 := ⟨_, rfl⟩
  obtain ⟨z1, hz1⟩ : ∃ zz, zz = q + (c1 : Int) := ⟨_, rfl⟩
  obtain ⟨z2, hz2⟩ : ∃ zz, zz = z1 + (c2 : Int) := ⟨_, rfl⟩
  rw [mkTeq_Leases x0 x1 x2 x3 x4 x5 q z1 z2 (by rw [← hc1]; exact hz1) (by rw [← hc2]; exact hz2)] at h
  obtain ⟨a1, k1, a2, k2, hev, q1, q2⟩ := lies_Leases h
  rw [show List.length (mkD (.list .int) x2 q) = x2.length from mkD_len _ _ _] at hev q1
  rw [show List.length (mkD (.list .int) x5 z1) = x5.length from mkD_len _ _ _] at hev q2
  subst hev
  rw [← hc1, ← hc2] at h1 ⊢
  have HK1 : Hid (c1 = cntD (.list .int) x2) := hc1
  have HZ1 : Hid (z1 = q + (c1 : Int)) := hz1
  have Q1 : Hid (Lies w (.list .int) [.slice a1 x2.length k1] (mkD (.list .int) x2 q)) := q1
  have hzb1 : 0 < z1 ∧ z1 + (c2 : Int) ≤ 8796000000000 := by omega
  have hzn1 : ¬ z1 < 0 := by omega
  have HK2 : Hid (c2 = cntD (.list .int) x5) := hc2
  have HZ2 : Hid (z2 = z1 + (c2 : Int)) := hz2
  have Q2 : Hid (Lies w (.list .int) [.slice a2 x5.length k2] (mkD (.list .int) x5 z1)) := q2
  have hzb2 : 0 < z2 ∧ z2 ≤ 8796000000000 := by omega
  have hzn2 : ¬ z2 < 0 := by omega
  clear hc1 hz1 q1
  clear hc2 hz2 q2
  clear h hz
  go_enter Try.func25, Try.ntmps25
  go_wp2_with fail
  obtain ⟨w0, hW⟩ : ∃ x, x = w.alloc (.cells #[.int .i64 x0, .int .i64 x1, .slice a1 x2.length k1, .int .i64 x3, .int .i64 x4, .slice a2 x5.length k2] 28) := ⟨_, rfl⟩
  have hb0 : Below w.heap.size w w0 := hW ▸ Go.Joins.below_alloc1 _ _
  have HB : Hid (Bx w0 w.heap.size [.int .i64 x0, .int .i64 x1, .slice a1 x2.length k1, .int .i64 x3, .int .i64 x4, .slice a2 x5.length k2] ∧ Below w.heap.size w w0) := ⟨hW ▸ Bx.new w [.int .i64 x0, .int .i64 x1, .slice a1 x2.length k1, .int .i64 x3, .int .i64 x4, .slice a2 x5.length k2] _, hb0⟩
  replace Q1 : Hid (Lies w0 (.list .int) [.slice a1 x2.length k1] (mkD (.list .int) x2 q)) := Q1.out.next hb0
  replace Q2 : Hid (Lies w0 (.list .int) [.slice a2 x5.length k2] (mkD (.list .int) x5 z1)) := Q2.out.next hb0
  rw [← hW]
  clear hW hb0
  refine (heldIntS_n _ _ _ _ _ (by omega) (by rw [← HK1.out]; omega) (by have := HZ.out; rw [HE.out] at this; omega) Q1.out).mono ?_
  rintro r w1 ⟨hr, hb⟩
  rw [← HK1.out, ← HZ1.out] at hr
  subst hr
  have HB : Hid (Bx w1 w.heap.size [.int .i64 x0, .int .i64 x1, .slice a1 x2.length k1, .int .i64 x3, .int .i64 x4, .slice a2 x5.length k2] ∧ Below w.heap.size w w1) := ⟨HB.out.1.next hb, HB.out.2.trans (hb.mono HB.out.2.size)⟩
  replace Q1 : Hid (Lies w1 (.list .int) [.slice a1 x2.length k1] (mkD (.list .int) x2 q)) := Q1.out.next hb
  replace Q2 : Hid (Lies w1 (.list .int) [.slice a2 x5.length k2] (mkD (.list .int) x5 z1)) := Q2.out.next hb
  clear hb
  have d0 := HB.out.1.cell 0 rfl
  have d1 := HB.out.1.cell 1 rfl
  have d2 := HB.out.1.cell 2 rfl
  have d3 := HB.out.1.cell 3 rfl
  have d4 := HB.out.1.cell 4 rfl
  have d5 := HB.out.1.cell 5 rfl
  have dz := HB.out.1.2
  go_wp2_with fail
  clear dz d0 d1 d2 d3 d4 d5
  refine (heldIntS_n _ _ _ _ _ (by omega) (by rw [← HK2.out]; omega) (by have := HZ.out; rw [HE.out] at this; omega) Q2.out).mono ?_
  rintro r w2 ⟨hr, hb⟩
  rw [← HK2.out, ← HZ2.out] at hr
  subst hr
  have HB : Hid (Bx w2 w.heap.size [.int .i64 x0, .int .i64 x1, .slice a1 x2.length k1, .int .i64 x3, .int .i64 x4, .slice a2 x5.length k2] ∧ Below w.heap.size w w2) := ⟨HB.out.1.next hb, HB.out.2.trans (hb.mono HB.out.2.size)⟩
  replace Q1 : Hid (Lies w2 (.list .int) [.slice a1 x2.length k1] (mkD (.list .int) x2 q)) := Q1.out.next hb
  replace Q2 : Hid (Lies w2 (.list .int) [.slice a2 x5.length k2] (mkD (.list .int) x5 z1)) := Q2.out.next hb
  clear hb
  have d0 := HB.out.1.cell 0 rfl
  have d1 := HB.out.1.cell 1 rfl
  have d2 := HB.out.1.cell 2 rfl
  have d3 := HB.out.1.cell 3 rfl
  have d4 := HB.out.1.cell 4 rfl
  have d5 := HB.out.1.cell 5 rfl
  have dz := HB.out.1.2
  go_wp2
  go_ret
  exact ⟨congrArg (fun t => Ending.returned (.int .i64 t)) (by have := HZ1.out; have := HZ2.out; omega), HB.out.2⟩
end Go.Proofs.Ytidalpgkljafdaa
