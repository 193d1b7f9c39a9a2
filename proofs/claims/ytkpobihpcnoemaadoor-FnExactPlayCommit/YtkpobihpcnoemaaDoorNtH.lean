/- The law's own functions that ask for marks. Written by tools/nest.py. -/
import Derived.Test.YtkpobihpcnoemaaDoorNtM
import Derived.Test.YtkpobihpcnoemaaDoorGaC
import Derived.Deep.RegionWith
import Derived.Deep.DeepCutAuto
namespace Go.Proofs.YtkpobihpcnoemaaDoor
open Go.RowKit
set_option linter.unusedVariables false
set_option linter.unusedSimpArgs false

set_option maxRecDepth 100000 in
set_option maxHeartbeats 4000000 in
theorem heldReplicaS_n (a : Option Addr) (cap : Nat) (x : List (Sh.T shReplica)) (q : Int) (w : World) (h0 : 0 < q) (h1 : q + (cntD (.list shReplica) x : Nat) ≤ 8796000000000) (hz : szD (.list shReplica) x ≤ 1073741824) (h : Lies w (.list shReplica) [.slice a x.length cap] (mkD (.list shReplica) x q)) :
    Calls Tryd.prog 75 #[.slice a x.length cap, .int .i64 q] w fun r w' => r = .returned (.int .i64 (q + (cntD (.list shReplica) x : Nat))) ∧ Below w.heap.size w w' := by
  have hn : x.length ≤ 1073741824 := by simp only [szD] at hz; omega
  have HL : Hid (Lies w (.list shReplica) [.slice a x.length cap] (mkD (.list shReplica) x q)) := h
  have HZ : Hid (szD (.list shReplica) x ≤ 1073741824 ∧ q + (cntD (.list shReplica) x : Nat) ≤ 8796000000000) := ⟨hz, h1⟩
  have hc1 : q ≤ 8796000000000 := by omega
  clear h hz h1
  obtain ⟨n, hnn⟩ : ∃ n, n = x.length := ⟨_, rfl⟩
  have HN : Hid (n = x.length) := hnn
  rw [← hnn] at hn ⊢
  clear hnn
  go_enter Tryd.func75, Tryd.ntmps75
  go_wp2
  go_loopw [5, 1] (fun i q' wr => ∃ k : Nat, k ≤ n ∧ i = .int .i64 k ∧ q' = .int .i64 (q + (cntU shReplica x k : Nat)) ∧ Below w.heap.size w wr) (fun i _ _ => n - (intOf i).toNat)
  case atStart => exact ⟨0, Nat.zero_le _, rfl, by simp [cntU], Below.refl _ _⟩
  case round =>
    obtain ⟨k, hk, rfl, rfl, hBr⟩ := hrel
    by_cases hlt : k < n
    · have hlx : k < x.length := by have := HN.out; omega
      have hlt' : (k : Int) < (n : Int) := by omega
      obtain ⟨y, hy⟩ : ∃ y, y = q + (cntU shReplica x k : Nat) := ⟨_, rfl⟩
      rw [← hy]
      have hcs := cntU_succ shReplica x k hlx
      have hcl := cntU_le shReplica x (k + 1)
      have HYE : Hid (y = q + (cntU shReplica x k : Nat) ∧ cntU shReplica x (k + 1) = cntU shReplica x k + cntD shReplica x[k]) := ⟨hy, hcs⟩
      have hce : y + (cntD shReplica x[k] : Nat) ≤ 8796000000000 := by have := HZ.out.2; omega
      have hy0 : 0 < y := by omega
      clear hcs hcl hy
      obtain ⟨g, off, hgo, hgs, ec, hel, hec, hle⟩ := Lies.elem (HL.out.next hBr) (by rw [mkD_len]; exact hlx)
      subst hgo
      rw [mkD_at _ _ _ _ hlx, ← HYE.out.1] at hle
      have hq : mkD shReplica x[k] y = (((y) % 3 == 0), (y + 1), ()) := mkeq_Replica x[k].1 x[k].2.1 y
      rw [hq] at hle
      clear hq
      obtain hev := lies_Replica hle
      subst hev
      have hcE : cntD shReplica x[k] = (1 + (1 + 0)) := rfl
      have hce2 : y + 2 ≤ 8796000000000 := by omega
      have ca : wr.cell? ⟨g, off + k * 2, none⟩ = some (.bool ((y) % 3 == 0)) := hec 0 (by simp)
      have cb : wr.cell? ⟨g, off + k * 2 + 1, none⟩ = some (.int .i64 (y + 1)) := hec 1 (by simp)
      clear hcE hce hle
      have HB0 : Hid (Below w.heap.size w wr) := hBr
      clear hec hel hBr
      have HQ : Hid (y + 1 + 1 = q + (cntU shReplica x (k + 1) : Nat)) := Hid.intro (by have h1 := HYE.out; have h2 : cntD shReplica x[k] = (1 + (1 + 0)) := rfl; omega)
      go_wp2
      go_roundw
      case rel => exact ⟨k + 1, by omega, by go_num, by rw [← HQ.out], HB0.out⟩
      case measure => simp [intOf]; omega
    · have hkn : k = n := by omega
      subst hkn
      have HP : Hid ((cntU shReplica x k : Nat) = cntD (.list shReplica) x) := Hid.intro (by rw [HN.out, cntU_all])
      have HB : Hid (Below w.heap.size w wr) := hBr
      clear hBr
      go_wp2
      go_ret
      exact ⟨congrArg (fun t : Nat => Ending.returned (.int .i64 (q + (t : Int)))) HP.out, HB.out⟩
set_option maxRecDepth 100000 in
set_option maxHeartbeats 4000000 in
theorem heldShardS_n (a : Option Addr) (cap : Nat) (x : List (Sh.T shShard)) (q : Int) (w : World) (h0 : 0 < q) (h1 : q + (cntD (.list shShard) x : Nat) ≤ 8796000000000) (hz : szD (.list shShard) x ≤ 1073741824) (h : Lies w (.list shShard) [.slice a x.length cap] (mkD (.list shShard) x q)) :
    Calls Tryd.prog 56 #[.slice a x.length cap, .int .i64 q] w fun r w' => r = .returned (.int .i64 (q + (cntD (.list shShard) x : Nat))) ∧ Below w.heap.size w w' := by
  have hn : x.length ≤ 1073741824 := by simp only [szD] at hz; omega
  have HL : Hid (Lies w (.list shShard) [.slice a x.length cap] (mkD (.list shShard) x q)) := h
  have HZ : Hid (szD (.list shShard) x ≤ 1073741824 ∧ q + (cntD (.list shShard) x : Nat) ≤ 8796000000000) := ⟨hz, h1⟩
  have hc1 : q ≤ 8796000000000 := by omega
  clear h hz h1
  obtain ⟨n, hnn⟩ : ∃ n, n = x.length := ⟨_, rfl⟩
  have HN : Hid (n = x.length) := hnn
  rw [← hnn] at hn ⊢
  clear hnn
  go_enter Tryd.func56, Tryd.ntmps56
  go_wp2
  go_loopw [5, 1] (fun i q' wr => ∃ k : Nat, k ≤ n ∧ i = .int .i64 k ∧ q' = .int .i64 (q + (cntU shShard x k : Nat)) ∧ Below w.heap.size w wr) (fun i _ _ => n - (intOf i).toNat)
  case atStart => exact ⟨0, Nat.zero_le _, rfl, by simp [cntU], Below.refl _ _⟩
  case round =>
    obtain ⟨k, hk, rfl, rfl, hBr⟩ := hrel
    by_cases hlt : k < n
    · have hlx : k < x.length := by have := HN.out; omega
      have hlt' : (k : Int) < (n : Int) := by omega
      obtain ⟨y, hy⟩ : ∃ y, y = q + (cntU shShard x k : Nat) := ⟨_, rfl⟩
      rw [← hy]
      have hcs := cntU_succ shShard x k hlx
      have hcl := cntU_le shShard x (k + 1)
      have HYE : Hid (y = q + (cntU shShard x k : Nat) ∧ cntU shShard x (k + 1) = cntU shShard x k + cntD shShard x[k]) := ⟨hy, hcs⟩
      have hce : y + (cntD shShard x[k] : Nat) ≤ 8796000000000 := by have := HZ.out.2; omega
      have hy0 : 0 < y := by omega
      clear hcs hcl hy
      obtain ⟨g, off, hgo, hgs, ec, hel, hec, hle⟩ := Lies.elem (HL.out.next hBr) (by rw [mkD_len]; exact hlx)
      subst hgo
      rw [mkD_at _ _ _ _ hlx, ← HYE.out.1] at hle
      obtain ⟨c1, hc1⟩ : ∃ y, y = cntD (.list shReplica) x[k].1 := ⟨_, rfl⟩
      obtain ⟨z1, hz1⟩ : ∃ zz, zz = y + (c1 : Int) := ⟨_, rfl⟩
      have hq : mkD shShard x[k] y = (mkD (.list shReplica) x[k].1 (y), ()) := mkeq_Shard x[k].1 y z1 (by rw [← hc1]; exact hz1)
      rw [hq] at hle
      clear hq
      obtain ⟨a1, k1, hev, q1⟩ := lies_Shard hle
      rw [show List.length (mkD (.list shReplica) x[k].1 (y)) = x[k].1.length from mkD_len _ _ _] at hev q1
      subst hev
      have hcE : cntD shShard x[k] = (cntD (.list shReplica) x[k].1 + 0) := rfl
      have HC1 : Hid (szD (.list shReplica) x[k].1 ≤ 1073741824) := Hid.intro (by have h1 := sz_mem (List.getElem_mem hlx); have h2 := HZ.out.1; have h3 : szD shShard x[k] = (szD (.list shReplica) x[k].1 + 0) := rfl; omega)
      rw [← hc1] at hcE
      have HK1 : Hid (c1 = cntD (.list shReplica) x[k].1) := hc1
      have HZ1 : Hid (z1 = y + (c1 : Int)) := hz1
      have Q1 : Hid (Lies wr (.list shReplica) [.slice a1 x[k].1.length k1] (mkD (.list shReplica) x[k].1 (y))) := q1
      have hzb1 : 0 < z1 ∧ z1 + 0 ≤ 8796000000000 := by omega
      have hzn1 : ¬ z1 < 0 := by omega
      have hce2 : y + 0 + (c1 : Int) ≤ 8796000000000 := by omega
      clear hc1 hz1 q1
      have ca : wr.cell? ⟨g, off + k, none⟩ = some (.slice a1 x[k].1.length k1) := (by have := hec 0 (by simp); simpa [shShard, Sh.c] using this)
      clear hcE hce hle
      have HB0 : Hid (Below w.heap.size w wr) := hBr
      clear hec hel hBr
      go_wp2_with fail
      refine (heldReplicaS_n _ _ _ _ _ (by omega) (by rw [← HK1.out]; omega) HC1.out Q1.out).mono ?_
      rintro r w1 ⟨hr, hbw⟩
      rw [← HK1.out, ← HZ1.out] at hr
      subst hr
      have HB1 : Hid (Below w.heap.size w w1) := HB0.out.trans (hbw.mono HB0.out.size)
      replace ca := (hbw.cell (p := ⟨g, off + k, none⟩) hgs).trans ca
      replace Q1 : Hid (Lies w1 (.list shReplica) [.slice a1 x[k].1.length k1] (mkD (.list shReplica) x[k].1 (y))) := Q1.out.next hbw
      replace hgs := Nat.lt_of_lt_of_le hgs hbw.size
      clear hbw HB0
      have HQ : Hid (z1 = q + (cntU shShard x (k + 1) : Nat)) := Hid.intro (by have h1 := HYE.out; have h2 : cntD shShard x[k] = (cntD (.list shReplica) x[k].1 + 0) := rfl; have := HK1.out; have := HZ1.out; omega)
      go_wp2
      go_roundw
      case rel => exact ⟨k + 1, by omega, by go_num, by rw [← HQ.out], HB1.out⟩
      case measure => simp [intOf]; omega
    · have hkn : k = n := by omega
      subst hkn
      have HP : Hid ((cntU shShard x k : Nat) = cntD (.list shShard) x) := Hid.intro (by rw [HN.out, cntU_all])
      have HB : Hid (Below w.heap.size w wr) := hBr
      clear hBr
      go_wp2
      go_ret
      exact ⟨congrArg (fun t : Nat => Ending.returned (.int .i64 (q + (t : Int)))) HP.out, HB.out⟩
set_option maxRecDepth 100000 in
set_option maxHeartbeats 4000000 in
theorem heldBoolS_n (a : Option Addr) (cap : Nat) (x : List (Sh.T .bool)) (q : Int) (w : World) (h0 : 0 < q) (h1 : q + (cntD (.list .bool) x : Nat) ≤ 8796000000000) (hz : szD (.list .bool) x ≤ 1073741824) (h : Lies w (.list .bool) [.slice a x.length cap] (mkD (.list .bool) x q)) :
    Calls Tryd.prog 33 #[.slice a x.length cap, .int .i64 q] w fun r w' => r = .returned (.int .i64 (q + (cntD (.list .bool) x : Nat))) ∧ Below w.heap.size w w' := by
  have hn : x.length ≤ 1073741824 := by simp only [szD] at hz; omega
  have HL : Hid (Lies w (.list .bool) [.slice a x.length cap] (mkD (.list .bool) x q)) := h
  have HZ : Hid (szD (.list .bool) x ≤ 1073741824 ∧ q + (cntD (.list .bool) x : Nat) ≤ 8796000000000) := ⟨hz, h1⟩
  have hc1 : q ≤ 8796000000000 := by omega
  clear h hz h1
  obtain ⟨n, hnn⟩ : ∃ n, n = x.length := ⟨_, rfl⟩
  have HN : Hid (n = x.length) := hnn
  rw [← hnn] at hn ⊢
  clear hnn
  go_enter Tryd.func33, Tryd.ntmps33
  go_wp2
  go_loopw [5, 1] (fun i q' wr => ∃ k : Nat, k ≤ n ∧ i = .int .i64 k ∧ q' = .int .i64 (q + (cntU .bool x k : Nat)) ∧ Below w.heap.size w wr) (fun i _ _ => n - (intOf i).toNat)
  case atStart => exact ⟨0, Nat.zero_le _, rfl, by simp [cntU], Below.refl _ _⟩
  case round =>
    obtain ⟨k, hk, rfl, rfl, hBr⟩ := hrel
    by_cases hlt : k < n
    · have hlx : k < x.length := by have := HN.out; omega
      have hlt' : (k : Int) < (n : Int) := by omega
      obtain ⟨y, hy⟩ : ∃ y, y = q + (cntU .bool x k : Nat) := ⟨_, rfl⟩
      rw [← hy]
      have hcs := cntU_succ .bool x k hlx
      have hcl := cntU_le .bool x (k + 1)
      have HYE : Hid (y = q + (cntU .bool x k : Nat) ∧ cntU .bool x (k + 1) = cntU .bool x k + cntD .bool x[k]) := ⟨hy, hcs⟩
      have hce : y + (cntD .bool x[k] : Nat) ≤ 8796000000000 := by have := HZ.out.2; omega
      have hy0 : 0 < y := by omega
      clear hcs hcl hy
      obtain ⟨g, off, hgo, hgs, ec, hel, hec, hle⟩ := Lies.elem (HL.out.next hBr) (by rw [mkD_len]; exact hlx)
      subst hgo
      rw [mkD_at _ _ _ _ hlx, ← HYE.out.1] at hle
      have hev : ec = [.bool ((y) % 3 == 0)] := hle
      subst hev
      have hce2 : y + 1 ≤ 8796000000000 := by have : cntD .bool x[k] = 1 := rfl; omega
      have c0 : wr.cell? ⟨g, off + k, none⟩ = some (.bool ((y) % 3 == 0)) := by have := hec 0 (by simp); simpa [Sh.c] using this
      have HB0 : Hid (Below w.heap.size w wr) := hBr
      clear hec hel hBr
      have HQ : Hid (y + 1 = q + (cntU .bool x (k + 1) : Nat)) := Hid.intro (by have h1 := HYE.out; have h2 : cntD .bool x[k] = 1 := rfl; omega)
      go_wp2
      go_roundw
      case rel => exact ⟨k + 1, by omega, by go_num, by rw [← HQ.out], HB0.out⟩
      case measure => simp [intOf]; omega
    · have hkn : k = n := by omega
      subst hkn
      have HP : Hid ((cntU .bool x k : Nat) = cntD (.list .bool) x) := Hid.intro (by rw [HN.out, cntU_all])
      have HB : Hid (Below w.heap.size w wr) := hBr
      clear hBr
      go_wp2
      go_ret
      exact ⟨congrArg (fun t : Nat => Ending.returned (.int .i64 (q + (t : Int)))) HP.out, HB.out⟩
set_option maxRecDepth 100000 in
set_option maxHeartbeats 4000000 in
theorem heldCommit_n (cs : List Value) (x0 : List (Sh.T shShard)) (x1 : Int) (x2 : Int) (q : Int) (w : World) (h0 : 0 < q) (h1 : q + (cntT shCommit (x0, x1, x2, ()) : Nat) ≤ 8796000000000) (hz : szD shCommit (x0, x1, x2, ()) ≤ 1073741824) (h : Lies w shCommit cs (mkT shCommit (x0, x1, x2, ()) q)) :
    Calls Tryd.prog 23 #[.agg cs.toArray, .int .i64 q] w fun r w' => r = .returned (.int .i64 (q + (cntT shCommit (x0, x1, x2, ()) : Nat))) ∧ Below w.heap.size w w' := by
  rw [cntTeq_Commit] at h1 ⊢
  have HE : Hid (szD shCommit (x0, x1, x2, ()) = (szD (.list shShard) x0 + (0 + (0 + 0)))) := rfl
  have HZ : Hid (szD shCommit (x0, x1, x2, ()) ≤ 1073741824) := hz
  obtain ⟨c1, hc1⟩ : ∃ y, y = cntD (.list shShard) x0 := ⟨_, rfl⟩
  obtain ⟨z1, hz1⟩ : ∃ zz, zz = q + (c1 : Int) := ⟨_, rfl⟩
  rw [mkTeq_Commit x0 x1 x2 q z1 (by rw [← hc1]; exact hz1)] at h
  obtain ⟨a1, k1, hev, q1⟩ := lies_Commit h
  rw [show List.length (mkD (.list shShard) x0 q) = x0.length from mkD_len _ _ _] at hev q1
  subst hev
  rw [← hc1] at h1 ⊢
  have HK1 : Hid (c1 = cntD (.list shShard) x0) := hc1
  have HZ1 : Hid (z1 = q + (c1 : Int)) := hz1
  have Q1 : Hid (Lies w (.list shShard) [.slice a1 x0.length k1] (mkD (.list shShard) x0 q)) := q1
  have hzb1 : 0 < z1 ∧ z1 ≤ 8796000000000 := by omega
  have hzn1 : ¬ z1 < 0 := by omega
  clear hc1 hz1 q1
  clear h hz
  go_enter Tryd.func23, Tryd.ntmps23
  go_wp2_with fail
  obtain ⟨w0, hW⟩ : ∃ x, x = w.alloc (.cells #[.slice a1 x0.length k1, .int .i64 x1, .int .i64 x2] 29) := ⟨_, rfl⟩
  have hb0 : Below w.heap.size w w0 := hW ▸ Go.Joins.below_alloc1 _ _
  have HB : Hid (Bx w0 w.heap.size [.slice a1 x0.length k1, .int .i64 x1, .int .i64 x2] ∧ Below w.heap.size w w0) := ⟨hW ▸ Bx.new w [.slice a1 x0.length k1, .int .i64 x1, .int .i64 x2] _, hb0⟩
  replace Q1 : Hid (Lies w0 (.list shShard) [.slice a1 x0.length k1] (mkD (.list shShard) x0 q)) := Q1.out.next hb0
  rw [← hW]
  clear hW hb0
  refine (heldShardS_n _ _ _ _ _ (by omega) (by rw [← HK1.out]; omega) (by have := HZ.out; rw [HE.out] at this; omega) Q1.out).mono ?_
  rintro r w1 ⟨hr, hb⟩
  rw [← HK1.out, ← HZ1.out] at hr
  subst hr
  have HB : Hid (Bx w1 w.heap.size [.slice a1 x0.length k1, .int .i64 x1, .int .i64 x2] ∧ Below w.heap.size w w1) := ⟨HB.out.1.next hb, HB.out.2.trans (hb.mono HB.out.2.size)⟩
  replace Q1 : Hid (Lies w1 (.list shShard) [.slice a1 x0.length k1] (mkD (.list shShard) x0 q)) := Q1.out.next hb
  clear hb
  have d0 := HB.out.1.cell 0 rfl
  have d1 := HB.out.1.cell 1 rfl
  have d2 := HB.out.1.cell 2 rfl
  have dz := HB.out.1.2
  go_wp2
  go_ret
  exact ⟨congrArg (fun t => Ending.returned (.int .i64 t)) (by have := HZ1.out; omega), HB.out.2⟩
end Go.Proofs.YtkpobihpcnoemaaDoor
