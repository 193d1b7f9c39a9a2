/- The law's own functions that ask for marks. Written by tools/nest.py. -/
import Derived.Test.YtcklpcdgckkahaaNtM
import Derived.Test.YtcklpcdgckkahaaRg2
import Derived.Deep.RegionWith
import Derived.Deep.DeepCutAuto
namespace Go.Proofs.Ytcklpcdgckkahaa
open Go.RowKit
set_option linter.unusedVariables false
set_option linter.unusedSimpArgs false

set_option maxRecDepth 100000 in
set_option maxHeartbeats 4000000 in
theorem heldIntS_n (a : Option Addr) (cap : Nat) (x : List (Sh.T .int)) (q : Int) (w : World) (h0 : 0 < q) (h1 : q + (cntD (.list .int) x : Nat) ≤ 8796000000000) (hz : szD (.list .int) x ≤ 1073741824) (h : Lies w (.list .int) [.slice a x.length cap] (mkD (.list .int) x q)) :
    Calls Try.prog 94 #[.slice a x.length cap, .int .i64 q] w fun r w' => r = .returned (.int .i64 (q + (cntD (.list .int) x : Nat))) ∧ Below w.heap.size w w' := by
  have hn : x.length ≤ 1073741824 := by simp only [szD] at hz; omega
  have HL : Hid (Lies w (.list .int) [.slice a x.length cap] (mkD (.list .int) x q)) := h
  have HZ : Hid (szD (.list .int) x ≤ 1073741824 ∧ q + (cntD (.list .int) x : Nat) ≤ 8796000000000) := ⟨hz, h1⟩
  have hc1 : q ≤ 8796000000000 := by omega
  clear h hz h1
  obtain ⟨n, hnn⟩ : ∃ n, n = x.length := ⟨_, rfl⟩
  have HN : Hid (n = x.length) := hnn
  rw [← hnn] at hn ⊢
  clear hnn
  go_enter Try.func94, Try.ntmps94
  go_wp2
  go_loopw [5, 1] (fun i q' wr => ∃ k : Nat, k ≤ n ∧ i = .int .i64 k ∧ q' = .int .i64 (q + (cntU .int x k : Nat)) ∧ Below w.heap.size w wr) (fun i _ _ => n - (intOf i).toNat)
  case atStart => exact ⟨0, Nat.zero_le _, rfl, by simp [cntU], Below.refl _ _⟩
  case round =>
    obtain ⟨k, hk, rfl, rfl, hBr⟩ := hrel
    by_cases hlt : k < n
    · have hlx : k < x.length := by have := HN.out; omega
      have hlt' : (k : Int) < (n : Int) := by omega
      obtain ⟨y, hy⟩ : ∃ y, y = q + (cntU .int x k : Nat) := ⟨_, rfl⟩
      rw [← hy]
      have hcs := cntU_succ .int x k hlx
      have hcl := cntU_le .int x (k + 1)
      have HYE : Hid (y = q + (cntU .int x k : Nat) ∧ cntU .int x (k + 1) = cntU .int x k + cntD .int x[k]) := ⟨hy, hcs⟩
      have hce : y + (cntD .int x[k] : Nat) ≤ 8796000000000 := by have := HZ.out.2; omega
      have hy0 : 0 < y := by omega
      clear hcs hcl hy
      obtain ⟨g, off, hgo, hgs, ec, hel, hec, hle⟩ := Lies.elem (HL.out.next hBr) (by rw [mkD_len]; exact hlx)
      subst hgo
      rw [mkD_at _ _ _ _ hlx, ← HYE.out.1] at hle
      have hev : ec = [.int .i64 (y)] := hle
      subst hev
      have hce2 : y + 1 ≤ 8796000000000 := by have : cntD .int x[k] = 1 := rfl; omega
      have c0 : wr.cell? ⟨g, off + k, none⟩ = some (.int .i64 (y)) := by have := hec 0 (by simp); simpa [Sh.c] using this
      have HB0 : Hid (Below w.heap.size w wr) := hBr
      clear hec hel hBr
      have HQ : Hid (y + 1 = q + (cntU .int x (k + 1) : Nat)) := Hid.intro (by have h1 := HYE.out; have h2 : cntD .int x[k] = 1 := rfl; omega)
      go_wp2
      go_roundw
      case rel => exact ⟨k + 1, by omega, by go_num, by rw [← HQ.out], HB0.out⟩
      case measure => simp [intOf]; omega
    · have hkn : k = n := by omega
      subst hkn
      have HP : Hid ((cntU .int x k : Nat) = cntD (.list .int) x) := Hid.intro (by rw [HN.out, cntU_all])
      have HB : Hid (Below w.heap.size w wr) := hBr
      clear hBr
      go_wp2
      go_ret
      exact ⟨congrArg (fun t : Nat => Ending.returned (.int .i64 (q + (t : Int)))) HP.out, HB.out⟩
set_option maxRecDepth 100000 in
set_option maxHeartbeats 4000000 in
theorem heldParcelS_n (a : Option Addr) (cap : Nat) (x : List (Sh.T shParcel)) (q : Int) (w : World) (h0 : 0 < q) (h1 : q + (cntD (.list shParcel) x : Nat) ≤ 8796000000000) (hz : szD (.list shParcel) x ≤ 1073741824) (h : Lies w (.list shParcel) [.slice a x.length cap] (mkD (.list shParcel) x q)) :
    Calls Try.prog 93 #[.slice a x.length cap, .int .i64 q] w fun r w' => r = .returned (.int .i64 (q + (cntD (.list shParcel) x : Nat))) ∧ Below w.heap.size w w' := by
  have hn : x.length ≤ 1073741824 := by simp only [szD] at hz; omega
  have HL : Hid (Lies w (.list shParcel) [.slice a x.length cap] (mkD (.list shParcel) x q)) := h
  have HZ : Hid (szD (.list shParcel) x ≤ 1073741824 ∧ q + (cntD (.list shParcel) x : Nat) ≤ 8796000000000) := ⟨hz, h1⟩
  have hc1 : q ≤ 8796000000000 := by omega
  clear h hz h1
  obtain ⟨n, hnn⟩ : ∃ n, n = x.length := ⟨_, rfl⟩
  have HN : Hid (n = x.length) := hnn
  rw [← hnn] at hn ⊢
  clear hnn
  go_enter Try.func93, Try.ntmps93
  go_wp2
  go_loopw [5, 1] (fun i q' wr => ∃ k : Nat, k ≤ n ∧ i = .int .i64 k ∧ q' = .int .i64 (q + (cntU shParcel x k : Nat)) ∧ Below w.heap.size w wr) (fun i _ _ => n - (intOf i).toNat)
  case atStart => exact ⟨0, Nat.zero_le _, rfl, by simp [cntU], Below.refl _ _⟩
  case round =>
    obtain ⟨k, hk, rfl, rfl, hBr⟩ := hrel
    by_cases hlt : k < n
    · have hlx : k < x.length := by have := HN.out; omega
      have hlt' : (k : Int) < (n : Int) := by omega
      obtain ⟨y, hy⟩ : ∃ y, y = q + (cntU shParcel x k : Nat) := ⟨_, rfl⟩
      rw [← hy]
      have hcs := cntU_succ shParcel x k hlx
      have hcl := cntU_le shParcel x (k + 1)
      have HYE : Hid (y = q + (cntU shParcel x k : Nat) ∧ cntU shParcel x (k + 1) = cntU shParcel x k + cntD shParcel x[k]) := ⟨hy, hcs⟩
      have hce : y + (cntD shParcel x[k] : Nat) ≤ 8796000000000 := by have := HZ.out.2; omega
      have hy0 : 0 < y := by omega
      clear hcs hcl hy
      obtain ⟨g, off, hgo, hgs, ec, hel, hec, hle⟩ := Lies.elem (HL.out.next hBr) (by rw [mkD_len]; exact hlx)
      subst hgo
      rw [mkD_at _ _ _ _ hlx, ← HYE.out.1] at hle
      have hq : mkD shParcel x[k] y = (((y) % 3 == 0), (y + 1), ()) := mkeq_Parcel x[k].1 x[k].2.1 y
      rw [hq] at hle
      clear hq
      obtain hev := lies_Parcel hle
      subst hev
      have hcE : cntD shParcel x[k] = (1 + (1 + 0)) := rfl
      have hce2 : y + 2 ≤ 8796000000000 := by omega
      have ca : wr.cell? ⟨g, off + k * 2, none⟩ = some (.bool ((y) % 3 == 0)) := hec 0 (by simp)
      have cb : wr.cell? ⟨g, off + k * 2 + 1, none⟩ = some (.int .i64 (y + 1)) := hec 1 (by simp)
      clear hcE hce hle
      have HB0 : Hid (Below w.heap.size w wr) := hBr
      clear hec hel hBr
      have HQ : Hid (y + 1 + 1 = q + (cntU shParcel x (k + 1) : Nat)) := Hid.intro (by have h1 := HYE.out; have h2 : cntD shParcel x[k] = (1 + (1 + 0)) := rfl; omega)
      go_wp2
      go_roundw
      case rel => exact ⟨k + 1, by omega, by go_num, by rw [← HQ.out], HB0.out⟩
      case measure => simp [intOf]; omega
    · have hkn : k = n := by omega
      subst hkn
      have HP : Hid ((cntU shParcel x k : Nat) = cntD (.list shParcel) x) := Hid.intro (by rw [HN.out, cntU_all])
      have HB : Hid (Below w.heap.size w wr) := hBr
      clear hBr
      go_wp2
      go_ret
      exact ⟨congrArg (fun t : Nat => Ending.returned (.int .i64 (q + (t : Int)))) HP.out, HB.out⟩
set_option maxRecDepth 100000 in
set_option maxHeartbeats 4000000 in
theorem heldBankS_n (a : Option Addr) (cap : Nat) (x : List (Sh.T shBank)) (q : Int) (w : World) (h0 : 0 < q) (h1 : q + (cntD (.list shBank) x : Nat) ≤ 8796000000000) (hz : szD (.list shBank) x ≤ 1073741824) (h : Lies w (.list shBank) [.slice a x.length cap] (mkD (.list shBank) x q)) :
    Calls Try.prog 69 #[.slice a x.length cap, .int .i64 q] w fun r w' => r = .returned (.int .i64 (q + (cntD (.list shBank) x : Nat))) ∧ Below w.heap.size w w' := by
  have hn : x.length ≤ 1073741824 := by simp only [szD] at hz; omega
  have HL : Hid (Lies w (.list shBank) [.slice a x.length cap] (mkD (.list shBank) x q)) := h
  have HZ : Hid (szD (.list shBank) x ≤ 1073741824 ∧ q + (cntD (.list shBank) x : Nat) ≤ 8796000000000) := ⟨hz, h1⟩
  have hc1 : q ≤ 8796000000000 := by omega
  clear h hz h1
  obtain ⟨n, hnn⟩ : ∃ n, n = x.length := ⟨_, rfl⟩
  have HN : Hid (n = x.length) := hnn
  rw [← hnn] at hn ⊢
  clear hnn
  go_enter Try.func69, Try.ntmps69
  go_wp2
  go_loopw [5, 1] (fun i q' wr => ∃ k : Nat, k ≤ n ∧ i = .int .i64 k ∧ q' = .int .i64 (q + (cntU shBank x k : Nat)) ∧ Below w.heap.size w wr) (fun i _ _ => n - (intOf i).toNat)
  case atStart => exact ⟨0, Nat.zero_le _, rfl, by simp [cntU], Below.refl _ _⟩
  case round =>
    obtain ⟨k, hk, rfl, rfl, hBr⟩ := hrel
    by_cases hlt : k < n
    · have hlx : k < x.length := by have := HN.out; omega
      have hlt' : (k : Int) < (n : Int) := by omega
      obtain ⟨y, hy⟩ : ∃ y, y = q + (cntU shBank x k : Nat) := ⟨_, rfl⟩
      rw [← hy]
      have hcs := cntU_succ shBank x k hlx
      have hcl := cntU_le shBank x (k + 1)
      have HYE : Hid (y = q + (cntU shBank x k : Nat) ∧ cntU shBank x (k + 1) = cntU shBank x k + cntD shBank x[k]) := ⟨hy, hcs⟩
      have hce : y + (cntD shBank x[k] : Nat) ≤ 8796000000000 := by have := HZ.out.2; omega
      have hy0 : 0 < y := by omega
      clear hcs hcl hy
      obtain ⟨g, off, hgo, hgs, ec, hel, hec, hle⟩ := Lies.elem (HL.out.next hBr) (by rw [mkD_len]; exact hlx)
      subst hgo
      rw [mkD_at _ _ _ _ hlx, ← HYE.out.1] at hle
      have hq : mkD shBank x[k] y = ((y), ((y + 1) % 3 == 0), (y + 1 + 1), ()) := mkeq_Bank x[k].1 x[k].2.1 x[k].2.2.1 y
      rw [hq] at hle
      clear hq
      obtain hev := lies_Bank hle
      subst hev
      have hcE : cntD shBank x[k] = (1 + (1 + (1 + 0))) := rfl
      have hce2 : y + 3 ≤ 8796000000000 := by omega
      have ca : wr.cell? ⟨g, off + k * 3, none⟩ = some (.int .i64 (y)) := hec 0 (by simp)
      have cb : wr.cell? ⟨g, off + k * 3 + 1, none⟩ = some (.bool ((y + 1) % 3 == 0)) := hec 1 (by simp)
      have cc : wr.cell? ⟨g, off + k * 3 + 2, none⟩ = some (.int .i64 (y + 1 + 1)) := hec 2 (by simp)
      clear hcE hce hle
      have HB0 : Hid (Below w.heap.size w wr) := hBr
      clear hec hel hBr
      have HQ : Hid (y + 1 + 1 + 1 = q + (cntU shBank x (k + 1) : Nat)) := Hid.intro (by have h1 := HYE.out; have h2 : cntD shBank x[k] = (1 + (1 + (1 + 0))) := rfl; omega)
      go_wp2
      go_roundw
      case rel => exact ⟨k + 1, by omega, by go_num, by rw [← HQ.out], HB0.out⟩
      case measure => simp [intOf]; omega
    · have hkn : k = n := by omega
      subst hkn
      have HP : Hid ((cntU shBank x k : Nat) = cntD (.list shBank) x) := Hid.intro (by rw [HN.out, cntU_all])
      have HB : Hid (Below w.heap.size w wr) := hBr
      clear hBr
      go_wp2
      go_ret
      exact ⟨congrArg (fun t : Nat => Ending.returned (.int .i64 (q + (t : Int)))) HP.out, HB.out⟩
set_option maxRecDepth 100000 in
set_option maxHeartbeats 4000000 in
theorem heldWayS_n (a : Option Addr) (cap : Nat) (x : List (Sh.T shWay)) (q : Int) (w : World) (h0 : 0 < q) (h1 : q + (cntD (.list shWay) x : Nat) ≤ 8796000000000) (hz : szD (.list shWay) x ≤ 1073741824) (h : Lies w (.list shWay) [.slice a x.length cap] (mkD (.list shWay) x q)) :
    Calls Try.prog 70 #[.slice a x.length cap, .int .i64 q] w fun r w' => r = .returned (.int .i64 (q + (cntD (.list shWay) x : Nat))) ∧ Below w.heap.size w w' := by
  have hn : x.length ≤ 1073741824 := by simp only [szD] at hz; omega
  have HL : Hid (Lies w (.list shWay) [.slice a x.length cap] (mkD (.list shWay) x q)) := h
  have HZ : Hid (szD (.list shWay) x ≤ 1073741824 ∧ q + (cntD (.list shWay) x : Nat) ≤ 8796000000000) := ⟨hz, h1⟩
  have hc1 : q ≤ 8796000000000 := by omega
  clear h hz h1
  obtain ⟨n, hnn⟩ : ∃ n, n = x.length := ⟨_, rfl⟩
  have HN : Hid (n = x.length) := hnn
  rw [← hnn] at hn ⊢
  clear hnn
  go_enter Try.func70, Try.ntmps70
  go_wp2
  go_loopw [5, 1] (fun i q' wr => ∃ k : Nat, k ≤ n ∧ i = .int .i64 k ∧ q' = .int .i64 (q + (cntU shWay x k : Nat)) ∧ Below w.heap.size w wr) (fun i _ _ => n - (intOf i).toNat)
  case atStart => exact ⟨0, Nat.zero_le _, rfl, by simp [cntU], Below.refl _ _⟩
  case round =>
    obtain ⟨k, hk, rfl, rfl, hBr⟩ := hrel
    by_cases hlt : k < n
    · have hlx : k < x.length := by have := HN.out; omega
      have hlt' : (k : Int) < (n : Int) := by omega
      obtain ⟨y, hy⟩ : ∃ y, y = q + (cntU shWay x k : Nat) := ⟨_, rfl⟩
      rw [← hy]
      have hcs := cntU_succ shWay x k hlx
      have hcl := cntU_le shWay x (k + 1)
      have HYE : Hid (y = q + (cntU shWay x k : Nat) ∧ cntU shWay x (k + 1) = cntU shWay x k + cntD shWay x[k]) := ⟨hy, hcs⟩
      have hce : y + (cntD shWay x[k] : Nat) ≤ 8796000000000 := by have := HZ.out.2; omega
      have hy0 : 0 < y := by omega
      clear hcs hcl hy
      obtain ⟨g, off, hgo, hgs, ec, hel, hec, hle⟩ := Lies.elem (HL.out.next hBr) (by rw [mkD_len]; exact hlx)
      subst hgo
      rw [mkD_at _ _ _ _ hlx, ← HYE.out.1] at hle
      obtain ⟨c1, hc1⟩ : ∃ y, y = cntD (.list shParcel) x[k].2.2.1 := ⟨_, rfl⟩
      obtain ⟨c2, hc2⟩ : ∃ y, y = cntD (.list .int) x[k].2.2.2.2.1 := ⟨_, rfl⟩
      obtain ⟨z1, hz1⟩ : ∃ zz, zz = y + 1 + 1 + (c1 : Int) := ⟨_, rfl⟩
      obtain ⟨z2, hz2⟩ : ∃ zz, zz = z1 + 1 + (c2 : Int) := ⟨_, rfl⟩
      have hq : mkD shWay x[k] y = ((y), (y + 1), mkD (.list shParcel) x[k].2.2.1 (y + 1 + 1), ((z1) % 3 == 0), mkD (.list .int) x[k].2.2.2.2.1 (z1 + 1), ()) := mkeq_Way x[k].1 x[k].2.1 x[k].2.2.1 x[k].2.2.2.1 x[k].2.2.2.2.1 y z1 z2 (by rw [← hc1]; exact hz1) (by rw [← hc2]; exact hz2)
      rw [hq] at hle
      clear hq
      obtain ⟨a1, k1, a2, k2, hev, q1, q2⟩ := lies_Way hle
      rw [show List.length (mkD (.list shParcel) x[k].2.2.1 (y + 1 + 1)) = x[k].2.2.1.length from mkD_len _ _ _] at hev q1
      rw [show List.length (mkD (.list .int) x[k].2.2.2.2.1 (z1 + 1)) = x[k].2.2.2.2.1.length from mkD_len _ _ _] at hev q2
      subst hev
      have hcE : cntD shWay x[k] = (1 + (1 + (cntD (.list shParcel) x[k].2.2.1 + (1 + (cntD (.list .int) x[k].2.2.2.2.1 + 0))))) := rfl
      have HC1 : Hid (szD (.list shParcel) x[k].2.2.1 ≤ 1073741824) := Hid.intro (by have h1 := sz_mem (List.getElem_mem hlx); have h2 := HZ.out.1; have h3 : szD shWay x[k] = (0 + (0 + (szD (.list shParcel) x[k].2.2.1 + (0 + (szD (.list .int) x[k].2.2.2.2.1 + 0))))) := rfl; omega)
      have HC2 : Hid (szD (.list .int) x[k].2.2.2.2.1 ≤ 1073741824) := Hid.intro (by have h1 := sz_mem (List.getElem_mem hlx); have h2 := HZ.out.1; have h3 : szD shWay x[k] = (0 + (0 + (szD (.list shParcel) x[k].2.2.1 + (0 + (szD (.list .int) x[k].2.2.2.2.1 + 0))))) := rfl; omega)
      rw [← hc1, ← hc2] at hcE
      have HK1 : Hid (c1 = cntD (.list shParcel) x[k].2.2.1) := hc1
      have HZ1 : Hid (z1 = y + 1 + 1 + (c1 : Int)) := hz1
      have Q1 : Hid (Lies wr (.list shParcel) [.slice a1 x[k].2.2.1.length k1] (mkD (.list shParcel) x[k].2.2.1 (y + 1 + 1))) := q1
      have hzb1 : 0 < z1 ∧ z1 + 1 + (c2 : Int) ≤ 8796000000000 := by omega
      have hzn1 : ¬ z1 < 0 := by omega
      have HK2 : Hid (c2 = cntD (.list .int) x[k].2.2.2.2.1) := hc2
      have HZ2 : Hid (z2 = z1 + 1 + (c2 : Int)) := hz2
      have Q2 : Hid (Lies wr (.list .int) [.slice a2 x[k].2.2.2.2.1.length k2] (mkD (.list .int) x[k].2.2.2.2.1 (z1 + 1))) := q2
      have hzb2 : 0 < z2 ∧ z2 + 0 ≤ 8796000000000 := by omega
      have hzn2 : ¬ z2 < 0 := by omega
      have hce2 : y + 3 + (c1 : Int) + (c2 : Int) ≤ 8796000000000 := by omega
      clear hc1 hz1 q1
      clear hc2 hz2 q2
      have ca : wr.cell? ⟨g, off + k * 5, none⟩ = some (.int .i64 (y)) := hec 0 (by simp)
      have cb : wr.cell? ⟨g, off + k * 5 + 1, none⟩ = some (.int .i64 (y + 1)) := hec 1 (by simp)
      have cc : wr.cell? ⟨g, off + k * 5 + 2, none⟩ = some (.slice a1 x[k].2.2.1.length k1) := hec 2 (by simp)
      have cd : wr.cell? ⟨g, off + k * 5 + 3, none⟩ = some (.bool ((z1) % 3 == 0)) := hec 3 (by simp)
      have ce : wr.cell? ⟨g, off + k * 5 + 4, none⟩ = some (.slice a2 x[k].2.2.2.2.1.length k2) := hec 4 (by simp)
      clear hcE hce hle
      have HB0 : Hid (Below w.heap.size w wr) := hBr
      clear hec hel hBr
      go_wp2_with fail
      refine (heldParcelS_n _ _ _ _ _ (by omega) (by rw [← HK1.out]; omega) HC1.out Q1.out).mono ?_
      rintro r w1 ⟨hr, hbw⟩
      rw [← HK1.out, ← HZ1.out] at hr
      subst hr
      have HB1 : Hid (Below w.heap.size w w1) := HB0.out.trans (hbw.mono HB0.out.size)
      replace ca := (hbw.cell (p := ⟨g, off + k * 5, none⟩) hgs).trans ca
      replace cb := (hbw.cell (p := ⟨g, off + k * 5 + 1, none⟩) hgs).trans cb
      replace cc := (hbw.cell (p := ⟨g, off + k * 5 + 2, none⟩) hgs).trans cc
      replace cd := (hbw.cell (p := ⟨g, off + k * 5 + 3, none⟩) hgs).trans cd
      replace ce := (hbw.cell (p := ⟨g, off + k * 5 + 4, none⟩) hgs).trans ce
      replace Q1 : Hid (Lies w1 (.list shParcel) [.slice a1 x[k].2.2.1.length k1] (mkD (.list shParcel) x[k].2.2.1 (y + 1 + 1))) := Q1.out.next hbw
      replace Q2 : Hid (Lies w1 (.list .int) [.slice a2 x[k].2.2.2.2.1.length k2] (mkD (.list .int) x[k].2.2.2.2.1 (z1 + 1))) := Q2.out.next hbw
      replace hgs := Nat.lt_of_lt_of_le hgs hbw.size
      clear hbw HB0
      go_wp2_with fail
      refine (heldIntS_n _ _ _ _ _ (by omega) (by rw [← HK2.out]; omega) HC2.out Q2.out).mono ?_
      rintro r w2 ⟨hr, hbw⟩
      rw [← HK2.out, ← HZ2.out] at hr
      subst hr
      have HB2 : Hid (Below w.heap.size w w2) := HB1.out.trans (hbw.mono HB1.out.size)
      replace ca := (hbw.cell (p := ⟨g, off + k * 5, none⟩) hgs).trans ca
      replace cb := (hbw.cell (p := ⟨g, off + k * 5 + 1, none⟩) hgs).trans cb
      replace cc := (hbw.cell (p := ⟨g, off + k * 5 + 2, none⟩) hgs).trans cc
      replace cd := (hbw.cell (p := ⟨g, off + k * 5 + 3, none⟩) hgs).trans cd
      replace ce := (hbw.cell (p := ⟨g, off + k * 5 + 4, none⟩) hgs).trans ce
      replace Q1 : Hid (Lies w2 (.list shParcel) [.slice a1 x[k].2.2.1.length k1] (mkD (.list shParcel) x[k].2.2.1 (y + 1 + 1))) := Q1.out.next hbw
      replace Q2 : Hid (Lies w2 (.list .int) [.slice a2 x[k].2.2.2.2.1.length k2] (mkD (.list .int) x[k].2.2.2.2.1 (z1 + 1))) := Q2.out.next hbw
      replace hgs := Nat.lt_of_lt_of_le hgs hbw.size
      clear hbw HB1
      have HQ : Hid (z2 = q + (cntU shWay x (k + 1) : Nat)) := Hid.intro (by have h1 := HYE.out; have h2 : cntD shWay x[k] = (1 + (1 + (cntD (.list shParcel) x[k].2.2.1 + (1 + (cntD (.list .int) x[k].2.2.2.2.1 + 0))))) := rfl; have := HK1.out; have := HZ1.out; have := HK2.out; have := HZ2.out; omega)
      go_wp2
      go_roundw
      case rel => exact ⟨k + 1, by omega, by go_num, by rw [← HQ.out], HB2.out⟩
      case measure => simp [intOf]; omega
    · have hkn : k = n := by omega
      subst hkn
      have HP : Hid ((cntU shWay x k : Nat) = cntD (.list shWay) x) := Hid.intro (by rw [HN.out, cntU_all])
      have HB : Hid (Below w.heap.size w wr) := hBr
      clear hBr
      go_wp2
      go_ret
      exact ⟨congrArg (fun t : Nat => Ending.returned (.int .i64 (q + (t : Int)))) HP.out, HB.out⟩
set_option maxRecDepth 100000 in
set_option maxHeartbeats 4000000 in
theorem heldBoolS_n (a : Option Addr) (cap : Nat) (x : List (Sh.T .bool)) (q : Int) (w : World) (h0 : 0 < q) (h1 : q + (cntD (.list .bool) x : Nat) ≤ 8796000000000) (hz : szD (.list .bool) x ≤ 1073741824) (h : Lies w (.list .bool) [.slice a x.length cap] (mkD (.list .bool) x q)) :
    Calls Try.prog 44 #[.slice a x.length cap, .int .i64 q] w fun r w' => r = .returned (.int .i64 (q + (cntD (.list .bool) x : Nat))) ∧ Below w.heap.size w w' := by
  have hn : x.length ≤ 1073741824 := by simp only [szD] at hz; omega
  have HL : Hid (Lies w (.list .bool) [.slice a x.length cap] (mkD (.list .bool) x q)) := h
  have HZ : Hid (szD (.list .bool) x ≤ 1073741824 ∧ q + (cntD (.list .bool) x : Nat) ≤ 8796000000000) := ⟨hz, h1⟩
  have hc1 : q ≤ 8796000000000 := by omega
  clear h hz h1
  obtain ⟨n, hnn⟩ : ∃ n, n = x.length := ⟨_, rfl⟩
  have HN : Hid (n = x.length) := hnn
  rw [← hnn] at hn ⊢
  clear hnn
  go_enter Try.func44, Try.ntmps44
  go_wp2
  go_loopw [5, 1] (fun i q' wr => ∃ k : Nat, k ≤ n ∧ i = .int .i64 k ∧ q' = .int .i64 (q + (cntU .bool x k : Nat)) ∧ Below w.heap.size w wr) (fun i _ _ => n - (intOf i).toNat)
  case atStart => exact ⟨0, Nat.zero_le _, rfl, by simp [cntU], Below.refl _ _⟩
  case round =>
    obtain ⟨k, hk, rfl, rfl, hBr⟩ := hrel
    by_cases hlt : k < n
    · have hlx : k < x.length := by have := HN.out; omega
      have hlt' : (k : Int) < (n : Int) := by omega
      obtain ⟨y, hy⟩ : ∃ y, y = q + (cntU .bool x k : Nat) := ⟨_, rfl⟩
      rw [← hy]
      have hcs := cntU_succ .bool x k hlx
      have hcl := cntU_le .bool x (k + 1)
      have HYE : Hid (y = q + (cntU .bool x k : Nat) ∧ cntU .bool x (k + 1) = cntU .bool x k + cntD .bool x[k]) := ⟨hy, hcs⟩
      have hce : y + (cntD .bool x[k] : Nat) ≤ 8796000000000 := by have := HZ.out.2; omega
      have hy0 : 0 < y := by omega
      clear hcs hcl hy
      obtain ⟨g, off, hgo, hgs, ec, hel, hec, hle⟩ := Lies.elem (HL.out.next hBr) (by rw [mkD_len]; exact hlx)
      subst hgo
      rw [mkD_at _ _ _ _ hlx, ← HYE.out.1] at hle
      have hev : ec = [.bool ((y) % 3 == 0)] := hle
      subst hev
      have hce2 : y + 1 ≤ 8796000000000 := by have : cntD .bool x[k] = 1 := rfl; omega
      have c0 : wr.cell? ⟨g, off + k, none⟩ = some (.bool ((y) % 3 == 0)) := by have := hec 0 (by simp); simpa [Sh.c] using this
      have HB0 : Hid (Below w.heap.size w wr) := hBr
      clear hec hel hBr
      have HQ : Hid (y + 1 = q + (cntU .bool x (k + 1) : Nat)) := Hid.intro (by have h1 := HYE.out; have h2 : cntD .bool x[k] = 1 := rfl; omega)
      go_wp2
      go_roundw
      case rel => exact ⟨k + 1, by omega, by go_num, by rw [← HQ.out], HB0.out⟩
      case measure => simp [intOf]; omega
    · have hkn : k = n := by omega
      subst hkn
      have HP : Hid ((cntU .bool x k : Nat) = cntD (.list .bool) x) := Hid.intro (by rw [HN.out, cntU_all])
      have HB : Hid (Below w.heap.size w wr) := hBr
      clear hBr
      go_wp2
      go_ret
      exact ⟨congrArg (fun t : Nat => Ending.returned (.int .i64 (q + (t : Int)))) HP.out, HB.out⟩
set_option maxRecDepth 100000 in
set_option maxHeartbeats 4000000 in
theorem heldNet_n (cs : List Value) (x0 : List (Sh.T shBank)) (x1 : List (Sh.T shWay)) (q : Int) (w : World) (h0 : 0 < q) (h1 : q + (cntT shNet (x0, x1, ()) : Nat) ≤ 8796000000000) (hz : szD shNet (x0, x1, ()) ≤ 1073741824) (h : Lies w shNet cs (mkT shNet (x0, x1, ()) q)) :
    Calls Try.prog 34 #[.agg cs.toArray, .int .i64 q] w fun r w' => r = .returned (.int .i64 (q + (cntT shNet (x0, x1, ()) : Nat))) ∧ Below w.heap.size w w' := by
  rw [cntTeq_Net] at h1 ⊢
  have HE : Hid (szD shNet (x0, x1, ()) = (szD (.list shBank) x0 + (szD (.list shWay) x1 + 0))) := rfl
  have HZ : Hid (szD shNet (x0, x1, ()) ≤ 1073741824) := hz
  obtain ⟨c1, hc1⟩ : ∃ y, y = cntD (.list shBank) x0 := ⟨_, rfl⟩
  obtain ⟨c2, hc2⟩ : ∃ y, y = cntD (.list shWay) x1 := ⟨_, rfl⟩
  obtain ⟨z1, hz1⟩ : ∃ zz, zz = q + (c1 : Int) := ⟨_, rfl⟩
  obtain ⟨z2, hz2⟩ : ∃ zz, zz = z1 + (c2 : Int) := ⟨_, rfl⟩
  rw [mkTeq_Net x0 x1 q z1 z2 (by rw [← hc1]; exact hz1) (by rw [← hc2]; exact hz2)] at h
  obtain ⟨a1, k1, a2, k2, hev, q1, q2⟩ := lies_Net h
  rw [show List.length (mkD (.list shBank) x0 q) = x0.length from mkD_len _ _ _] at hev q1
  rw [show List.length (mkD (.list shWay) x1 z1) = x1.length from mkD_len _ _ _] at hev q2
  subst hev
  rw [← hc1, ← hc2] at h1 ⊢
  have HK1 : Hid (c1 = cntD (.list shBank) x0) := hc1
  have HZ1 : Hid (z1 = q + (c1 : Int)) := hz1
  have Q1 : Hid (Lies w (.list shBank) [.slice a1 x0.length k1] (mkD (.list shBank) x0 q)) := q1
  have hzb1 : 0 < z1 ∧ z1 + (c2 : Int) ≤ 8796000000000 := by omega
  have hzn1 : ¬ z1 < 0 := by omega
  have HK2 : Hid (c2 = cntD (.list shWay) x1) := hc2
  have HZ2 : Hid (z2 = z1 + (c2 : Int)) := hz2
  have Q2 : Hid (Lies w (.list shWay) [.slice a2 x1.length k2] (mkD (.list shWay) x1 z1)) := q2
  have hzb2 : 0 < z2 ∧ z2 ≤ 8796000000000 := by omega
  have hzn2 : ¬ z2 < 0 := by omega
  clear hc1 hz1 q1
  clear hc2 hz2 q2
  clear h hz
  go_enter Try.func34, Try.ntmps34
  go_wp2_with fail
  obtain ⟨w0, hW⟩ : ∃ x, x = w.alloc (.cells #[.slice a1 x0.length k1, .slice a2 x1.length k2] 30) := ⟨_, rfl⟩
  have hb0 : Below w.heap.size w w0 := hW ▸ Go.Joins.below_alloc1 _ _
  have HB : Hid (Bx w0 w.heap.size [.slice a1 x0.length k1, .slice a2 x1.length k2] ∧ Below w.heap.size w w0) := ⟨hW ▸ Bx.new w [.slice a1 x0.length k1, .slice a2 x1.length k2] _, hb0⟩
  replace Q1 : Hid (Lies w0 (.list shBank) [.slice a1 x0.length k1] (mkD (.list shBank) x0 q)) := Q1.out.next hb0
  replace Q2 : Hid (Lies w0 (.list shWay) [.slice a2 x1.length k2] (mkD (.list shWay) x1 z1)) := Q2.out.next hb0
  rw [← hW]
  clear hW hb0
  refine (heldBankS_n _ _ _ _ _ (by omega) (by rw [← HK1.out]; omega) (by have := HZ.out; rw [HE.out] at this; omega) Q1.out).mono ?_
  rintro r w1 ⟨hr, hb⟩
  rw [← HK1.out, ← HZ1.out] at hr
  subst hr
  have HB : Hid (Bx w1 w.heap.size [.slice a1 x0.length k1, .slice a2 x1.length k2] ∧ Below w.heap.size w w1) := ⟨HB.out.1.next hb, HB.out.2.trans (hb.mono HB.out.2.size)⟩
  replace Q1 : Hid (Lies w1 (.list shBank) [.slice a1 x0.length k1] (mkD (.list shBank) x0 q)) := Q1.out.next hb
  replace Q2 : Hid (Lies w1 (.list shWay) [.slice a2 x1.length k2] (mkD (.list shWay) x1 z1)) := Q2.out.next hb
  clear hb
  have d0 := HB.out.1.cell 0 rfl
  have d1 := HB.out.1.cell 1 rfl
  have dz := HB.out.1.2
  go_wp2_with fail
  clear dz d0 d1
  refine (heldWayS_n _ _ _ _ _ (by omega) (by rw [← HK2.out]; omega) (by have := HZ.out; rw [HE.out] at this; omega) Q2.out).mono ?_
  rintro r w2 ⟨hr, hb⟩
  rw [← HK2.out, ← HZ2.out] at hr
  subst hr
  have HB : Hid (Bx w2 w.heap.size [.slice a1 x0.length k1, .slice a2 x1.length k2] ∧ Below w.heap.size w w2) := ⟨HB.out.1.next hb, HB.out.2.trans (hb.mono HB.out.2.size)⟩
  replace Q1 : Hid (Lies w2 (.list shBank) [.slice a1 x0.length k1] (mkD (.list shBank) x0 q)) := Q1.out.next hb
  replace Q2 : Hid (Lies w2 (.list shWay) [.slice a2 x1.length k2] (mkD (.list shWay) x1 z1)) := Q2.out.next hb
  clear hb
  have d0 := HB.out.1.cell 0 rfl
  have d1 := HB.out.1.cell 1 rfl
  have dz := HB.out.1.2
  go_wp2
  go_ret
  exact ⟨congrArg (fun t => Ending.returned (.int .i64 t)) (by have := HZ1.out; have := HZ2.out; omega), HB.out.2⟩
end Go.Proofs.Ytcklpcdgckkahaa
