/- The law's own functions that hold two data against each other. Written by tools/nest.py. -/
import Derived.Test.YtcklpcdgckkahaaNtS
import Derived.Test.YtcklpcdgckkahaaProg
import Derived.Test.YtcklpcdgckkahaaBx
import Derived.WalkKit
import Derived.WalkSpells
import Derived.WalkLawsBesides
import Derived.Test.YtcklpcdgckkahaaShP
import Derived.Test.YtcklpcdgckkahaaRg2
import Derived.Deep.RegionWith
import Derived.Deep.DeepCutAuto
namespace Go.Proofs.Ytcklpcdgckkahaa
open Go.RowKit
set_option linter.unusedVariables false
set_option linter.unusedSimpArgs false

set_option maxRecDepth 100000 in
set_option maxHeartbeats 4000000 in
theorem eqIntS_n (a a' : Option Addr) (cap cap' : Nat) (x : List (Sh.T .int)) (w : World) (hz : szD (.list .int) x ≤ 1073741824) (h : Lies w (.list .int) [.slice a x.length cap] x) (h' : Lies w (.list .int) [.slice a' x.length cap'] x) :
    Calls Try.prog 31 #[.slice a x.length cap, .slice a' x.length cap'] w fun r w' => r = .returned (.bool true) ∧ Below w.heap.size w w' := by
  have HL : Hid (Lies w (.list .int) [.slice a x.length cap] x ∧ Lies w (.list .int) [.slice a' x.length cap'] x ∧ szD (.list .int) x ≤ 1073741824) := ⟨h, h', hz⟩
  have hn : x.length ≤ 1073741824 := by simp only [szD] at hz; omega
  clear h h' hz
  obtain ⟨n, hnn⟩ : ∃ n, n = x.length := ⟨_, rfl⟩
  have HN : Hid (n = x.length) := hnn
  rw [← hnn] at hn ⊢
  clear hnn
  go_enter Try.func31, Try.ntmps31
  go_wp2
  go_loopw [5] (fun i wr => ∃ k : Nat, k ≤ n ∧ i = .int .i64 k ∧ Below w.heap.size w wr) (fun i _ => n - (intOf i).toNat)
  case atStart => exact ⟨0, Nat.zero_le _, rfl, Below.refl _ _⟩
  case round =>
    obtain ⟨k, hk, rfl, hBr⟩ := hrel
    by_cases hlt : k < n
    · have hlx : k < x.length := by have := HN.out; omega
      obtain ⟨g, off, hgo, hgs, ec, hel, hec, hle⟩ := Lies.elem (HL.out.1.next hBr) hlx
      subst hgo
      obtain ⟨g', off', hgo, hgs', ec', hel', hec', hle'⟩ := Lies.elem (HL.out.2.1.next hBr) hlx
      subst hgo
      have hlt' : (k : Int) < (n : Int) := by omega
      have hev : ec = [.int .i64 x[k]] := hle
      subst hev
      have hev : ec' = [.int .i64 x[k]] := hle'
      subst hev
      have c0 : wr.cell? ⟨g, off + k, none⟩ = some (.int .i64 x[k]) := by have := hec 0 (by simp); simpa [Sh.c] using this
      have d0 : wr.cell? ⟨g', off' + k, none⟩ = some (.int .i64 x[k]) := by have := hec' 0 (by simp); simpa [Sh.c] using this
      clear hec hec' hle hle' hel hel'
      generalize x[k] = xk at *
      go_upto_region 6 with fail
      go_cut [25] (fun s25 wx => s25 = .bool false ∧ Below w.heap.size w wx)
      case first =>
        go_region
        all_goals (go_wp2_with fail; go_meet; exact ⟨rfl, hBr.drew⟩)
      case rest =>
        obtain ⟨rfl, hb2⟩ := hcut
        go_wp2
        go_roundw
        case rel => exact ⟨k + 1, by omega, by go_num, hb2⟩
        case measure => simp [intOf]; omega
    · have hkn : k = n := by omega
      subst hkn
      have HB : Hid (Below w.heap.size w wr) := hBr
      clear hBr
      go_wp2
      go_ret
      exact ⟨rfl, HB.out⟩
set_option maxRecDepth 100000 in
set_option maxHeartbeats 4000000 in
theorem eqParcel_n (cs cs' : List Value) (x0 : Bool) (x1 : Int) (w : World) (hz : szD shParcel (x0, x1, ()) ≤ 1073741824) (h : Lies w shParcel cs (x0, x1, ())) (h' : Lies w shParcel cs' (x0, x1, ())) :
    Calls Try.prog 111 #[.agg cs.toArray, .agg cs'.toArray] w fun r w' => r = .returned (.bool true) ∧ Below w.heap.size w w' := by
  obtain rfl := lies_Parcel h
  obtain rfl := lies_Parcel h'
  clear h h' hz
  go_enter Try.func111, Try.ntmps111
  go_wp2
  go_ret
  exact ⟨rfl, (by repeat (first | refine Below.setCell ?_ (by (try simp) <;> omega) _ | refine Below.alloc ?_ (by (try simp) <;> omega) _ | refine Below.drew ?_ | assumption | exact Below.refl _ _ | refine Below.trans ?_ (Below.mono (by assumption) (by (try simp) <;> omega))))⟩
set_option maxRecDepth 100000 in
set_option maxHeartbeats 4000000 in
theorem eqParcelS_n (a a' : Option Addr) (cap cap' : Nat) (x : List (Sh.T shParcel)) (w : World) (hz : szD (.list shParcel) x ≤ 1073741824) (h : Lies w (.list shParcel) [.slice a x.length cap] x) (h' : Lies w (.list shParcel) [.slice a' x.length cap'] x) :
    Calls Try.prog 107 #[.slice a x.length cap, .slice a' x.length cap'] w fun r w' => r = .returned (.bool true) ∧ Below w.heap.size w w' := by
  have HL : Hid (Lies w (.list shParcel) [.slice a x.length cap] x ∧ Lies w (.list shParcel) [.slice a' x.length cap'] x ∧ szD (.list shParcel) x ≤ 1073741824) := ⟨h, h', hz⟩
  have hn : x.length ≤ 1073741824 := by simp only [szD] at hz; omega
  clear h h' hz
  obtain ⟨n, hnn⟩ : ∃ n, n = x.length := ⟨_, rfl⟩
  have HN : Hid (n = x.length) := hnn
  rw [← hnn] at hn ⊢
  clear hnn
  go_enter Try.func107, Try.ntmps107
  go_wp2
  go_loopw [5] (fun i wr => ∃ k : Nat, k ≤ n ∧ i = .int .i64 k ∧ Below w.heap.size w wr) (fun i _ => n - (intOf i).toNat)
  case atStart => exact ⟨0, Nat.zero_le _, rfl, Below.refl _ _⟩
  case round =>
    obtain ⟨k, hk, rfl, hBr⟩ := hrel
    by_cases hlt : k < n
    · have hlx : k < x.length := by have := HN.out; omega
      obtain ⟨g, off, hgo, hgs, ec, hel, hec, hle⟩ := Lies.elem (HL.out.1.next hBr) hlx
      subst hgo
      obtain ⟨g', off', hgo, hgs', ec', hel', hec', hle'⟩ := Lies.elem (HL.out.2.1.next hBr) hlx
      subst hgo
      have hlt' : (k : Int) < (n : Int) := by omega
      have HCS : Hid (Lies wr.drew shParcel ec x[k] ∧ Lies wr.drew shParcel ec' x[k] ∧ szD shParcel x[k] ≤ 1073741824 ∧ Below w.heap.size w wr.drew) := ⟨hle.next (below_drew _), hle'.next (below_drew _), by have := sz_mem (List.getElem_mem hlx); have := HL.out.2.2; omega, hBr.trans ((below_drew _).mono hBr.size)⟩
      obtain ⟨v0, v1, hev⟩ := list_of2 hel
      subst hev
      obtain ⟨u0, u1, hev⟩ := list_of2 hel'
      subst hev
      have HCC : Hid (wr.cell? ⟨g, off + k * 2, none⟩ = some v0 ∧ wr.cell? ⟨g, off + k * 2 + 1, none⟩ = some v1 ∧ wr.cell? ⟨g', off' + k * 2, none⟩ = some u0 ∧ wr.cell? ⟨g', off' + k * 2 + 1, none⟩ = some u1) := ⟨hec 0 (by simp), hec 1 (by simp), hec' 0 (by simp), hec' 1 (by simp)⟩
      clear hec hec' hle hle' hel hel' hBr
      go_upto_region 6 with fail
      refine wp_region_noPanic ?_
      refine wp_region_held_drew (S := fun W => W.cell? ⟨g, off + k * 2, none⟩ = some v0 ∧ W.cell? ⟨g, off + k * 2 + 1, none⟩ = some v1 ∧ W.cell? ⟨g', off' + k * 2, none⟩ = some u0 ∧ W.cell? ⟨g', off' + k * 2 + 1, none⟩ = some u1 ∧ Below wr.heap.size wr W) (by kernel_rfl) ⟨HCC.out.1, HCC.out.2.1, HCC.out.2.2.1, HCC.out.2.2.2, below_drew _⟩ (fun hHeld => ?_)
      refine take_v (v := ?_) 0 ⟨some 17, Op.move (Operand.tmp 0), _, _, _, none⟩ rfl (fun _ _ _ h => h) ?_ hHeld ?_
      rotate_left
      · (intro W _; go_simp <;> (try with_reducible rfl))
      refine take_v (v := ?_) 1 ⟨some 18, Op.move (Operand.tmp 5), _, _, _, none⟩ rfl (fun _ _ _ h => h) ?_ hHeld ?_
      rotate_left
      · (intro W _; go_simp <;> (try with_reducible rfl))
      refine take_v (v := ?_) 2 ⟨some 19, Op.indexAddr 81 (Operand.tmp 17) (Operand.tmp 18), _, _, _, none⟩ rfl (fun _ _ _ h => h) ?_ hHeld ?_
      rotate_left
      · (intro W _; go_simp <;> (try with_reducible rfl))
      refine take_v (v := ?_) 3 ⟨some 20, Op.load 85 (Operand.tmp 19), _, _, _, none⟩ rfl (fun _ _ _ h => h) ?_ hHeld ?_
      rotate_left
      · (intro W hSW; obtain ⟨sw0, sw1, sw2, sw3, sw4⟩ := hSW; go_simp <;> (try with_reducible rfl))
      refine take_v (v := ?_) 4 ⟨some 21, Op.move (Operand.tmp 1), _, _, _, none⟩ rfl (fun _ _ _ h => h) ?_ hHeld ?_
      rotate_left
      · (intro W _; go_simp <;> (try with_reducible rfl))
      refine take_v (v := ?_) 5 ⟨some 22, Op.move (Operand.tmp 5), _, _, _, none⟩ rfl (fun _ _ _ h => h) ?_ hHeld ?_
      rotate_left
      · (intro W _; go_simp <;> (try with_reducible rfl))
      refine take_v (v := ?_) 6 ⟨some 23, Op.indexAddr 81 (Operand.tmp 21) (Operand.tmp 22), _, _, _, none⟩ rfl (fun _ _ _ h => h) ?_ hHeld ?_
      rotate_left
      · (intro W _; go_simp <;> (try with_reducible rfl))
      refine take_v (v := ?_) 7 ⟨some 24, Op.load 85 (Operand.tmp 23), _, _, _, none⟩ rfl (fun _ _ _ h => h) ?_ hHeld ?_
      rotate_left
      · (intro W hSW; obtain ⟨sw0, sw1, sw2, sw3, sw4⟩ := hSW; go_simp <;> (try with_reducible rfl))
      refine ready_call 8 ⟨some 25, Op.call { callee := Callee.value (Operand.func 111), args := #[Operand.tmp 20, Operand.tmp 24], argTypes := #[85, 85] }, _, _, _, none⟩ (by kernel_rfl) rfl (by kernel_rfl) (fun KC hK => ?_)
      go_wp2_with fail
      refine (eqParcel_n [v0, v1] [u0, u1] x[k].1 x[k].2.1 _ HCS.out.2.2.1 HCS.out.1 HCS.out.2.1).mono ?_
      rintro r w2 ⟨rfl, hb⟩
      have H2 : Hid (Below w.heap.size w w2) := HCS.out.2.2.2.trans (hb.mono HCS.out.2.2.2.size)
      have hbw : Below wr.heap.size wr w2 := (below_drew wr).trans hb
      refine hK.out _ _ ⟨(hbw.cell (p := ⟨g, off + k * 2, none⟩) hgs).trans HCC.out.1, (hbw.cell (p := ⟨g, off + k * 2 + 1, none⟩) hgs).trans HCC.out.2.1, (hbw.cell (p := ⟨g', off' + k * 2, none⟩) hgs').trans HCC.out.2.2.1, (hbw.cell (p := ⟨g', off' + k * 2 + 1, none⟩) hgs').trans HCC.out.2.2.2, hbw⟩ (fun hHeld => ?_)
      clear hK KC
      refine take_v (v := ?_) 9 ⟨some 26, Op.unOp UnOp.not 4 (Operand.tmp 25), _, _, _, none⟩ rfl (fun _ _ _ h => h) ?_ hHeld ?_
      rotate_left
      · (intro W _; go_simp <;> (try with_reducible rfl))
      refine wpAnyH_done (by kernel_rfl) ?_ _
      refine NoPanic.normal ?_
      clear hHeld hb hbw
      go_wp2
      go_roundw
      case rel => exact ⟨k + 1, by omega, by go_num, H2.out⟩
      case measure => simp [intOf]; omega
    · have hkn : k = n := by omega
      subst hkn
      have HB : Hid (Below w.heap.size w wr) := hBr
      clear hBr
      go_wp2
      go_ret
      exact ⟨rfl, HB.out⟩
set_option maxRecDepth 100000 in
set_option maxHeartbeats 4000000 in
theorem eqBank_n (cs cs' : List Value) (x0 : Int) (x1 : Bool) (x2 : Int) (w : World) (hz : szD shBank (x0, x1, x2, ()) ≤ 1073741824) (h : Lies w shBank cs (x0, x1, x2, ())) (h' : Lies w shBank cs' (x0, x1, x2, ())) :
    Calls Try.prog 90 #[.agg cs.toArray, .agg cs'.toArray] w fun r w' => r = .returned (.bool true) ∧ Below w.heap.size w w' := by
  obtain rfl := lies_Bank h
  obtain rfl := lies_Bank h'
  clear h h' hz
  go_enter Try.func90, Try.ntmps90
  go_wp2
  go_ret
  exact ⟨rfl, (by repeat (first | refine Below.setCell ?_ (by (try simp) <;> omega) _ | refine Below.alloc ?_ (by (try simp) <;> omega) _ | refine Below.drew ?_ | assumption | exact Below.refl _ _ | refine Below.trans ?_ (Below.mono (by assumption) (by (try simp) <;> omega))))⟩
set_option maxRecDepth 100000 in
set_option maxHeartbeats 4000000 in
theorem eqBankS_n (a a' : Option Addr) (cap cap' : Nat) (x : List (Sh.T shBank)) (w : World) (hz : szD (.list shBank) x ≤ 1073741824) (h : Lies w (.list shBank) [.slice a x.length cap] x) (h' : Lies w (.list shBank) [.slice a' x.length cap'] x) :
    Calls Try.prog 65 #[.slice a x.length cap, .slice a' x.length cap'] w fun r w' => r = .returned (.bool true) ∧ Below w.heap.size w w' := by
  have HL : Hid (Lies w (.list shBank) [.slice a x.length cap] x ∧ Lies w (.list shBank) [.slice a' x.length cap'] x ∧ szD (.list shBank) x ≤ 1073741824) := ⟨h, h', hz⟩
  have hn : x.length ≤ 1073741824 := by simp only [szD] at hz; omega
  clear h h' hz
  obtain ⟨n, hnn⟩ : ∃ n, n = x.length := ⟨_, rfl⟩
  have HN : Hid (n = x.length) := hnn
  rw [← hnn] at hn ⊢
  clear hnn
  go_enter Try.func65, Try.ntmps65
  go_wp2
  go_loopw [5] (fun i wr => ∃ k : Nat, k ≤ n ∧ i = .int .i64 k ∧ Below w.heap.size w wr) (fun i _ => n - (intOf i).toNat)
  case atStart => exact ⟨0, Nat.zero_le _, rfl, Below.refl _ _⟩
  case round =>
    obtain ⟨k, hk, rfl, hBr⟩ := hrel
    by_cases hlt : k < n
    · have hlx : k < x.length := by have := HN.out; omega
      obtain ⟨g, off, hgo, hgs, ec, hel, hec, hle⟩ := Lies.elem (HL.out.1.next hBr) hlx
      subst hgo
      obtain ⟨g', off', hgo, hgs', ec', hel', hec', hle'⟩ := Lies.elem (HL.out.2.1.next hBr) hlx
      subst hgo
      have hlt' : (k : Int) < (n : Int) := by omega
      have HCS : Hid (Lies wr.drew shBank ec x[k] ∧ Lies wr.drew shBank ec' x[k] ∧ szD shBank x[k] ≤ 1073741824 ∧ Below w.heap.size w wr.drew) := ⟨hle.next (below_drew _), hle'.next (below_drew _), by have := sz_mem (List.getElem_mem hlx); have := HL.out.2.2; omega, hBr.trans ((below_drew _).mono hBr.size)⟩
      obtain ⟨v0, v1, v2, hev⟩ := list_of3 hel
      subst hev
      obtain ⟨u0, u1, u2, hev⟩ := list_of3 hel'
      subst hev
      have HCC : Hid (wr.cell? ⟨g, off + k * 3, none⟩ = some v0 ∧ wr.cell? ⟨g, off + k * 3 + 1, none⟩ = some v1 ∧ wr.cell? ⟨g, off + k * 3 + 2, none⟩ = some v2 ∧ wr.cell? ⟨g', off' + k * 3, none⟩ = some u0 ∧ wr.cell? ⟨g', off' + k * 3 + 1, none⟩ = some u1 ∧ wr.cell? ⟨g', off' + k * 3 + 2, none⟩ = some u2) := ⟨hec 0 (by simp), hec 1 (by simp), hec 2 (by simp), hec' 0 (by simp), hec' 1 (by simp), hec' 2 (by simp)⟩
      clear hec hec' hle hle' hel hel' hBr
      go_upto_region 6 with fail
      refine wp_region_noPanic ?_
      refine wp_region_held_drew (S := fun W => W.cell? ⟨g, off + k * 3, none⟩ = some v0 ∧ W.cell? ⟨g, off + k * 3 + 1, none⟩ = some v1 ∧ W.cell? ⟨g, off + k * 3 + 2, none⟩ = some v2 ∧ W.cell? ⟨g', off' + k * 3, none⟩ = some u0 ∧ W.cell? ⟨g', off' + k * 3 + 1, none⟩ = some u1 ∧ W.cell? ⟨g', off' + k * 3 + 2, none⟩ = some u2 ∧ Below wr.heap.size wr W) (by kernel_rfl) ⟨HCC.out.1, HCC.out.2.1, HCC.out.2.2.1, HCC.out.2.2.2.1, HCC.out.2.2.2.2.1, HCC.out.2.2.2.2.2, below_drew _⟩ (fun hHeld => ?_)
      refine take_v (v := ?_) 0 ⟨some 17, Op.move (Operand.tmp 0), _, _, _, none⟩ rfl (fun _ _ _ h => h) ?_ hHeld ?_
      rotate_left
      · (intro W _; go_simp <;> (try with_reducible rfl))
      refine take_v (v := ?_) 1 ⟨some 18, Op.move (Operand.tmp 5), _, _, _, none⟩ rfl (fun _ _ _ h => h) ?_ hHeld ?_
      rotate_left
      · (intro W _; go_simp <;> (try with_reducible rfl))
      refine take_v (v := ?_) 2 ⟨some 19, Op.indexAddr 27 (Operand.tmp 17) (Operand.tmp 18), _, _, _, none⟩ rfl (fun _ _ _ h => h) ?_ hHeld ?_
      rotate_left
      · (intro W _; go_simp <;> (try with_reducible rfl))
      refine take_v (v := ?_) 3 ⟨some 20, Op.load 80 (Operand.tmp 19), _, _, _, none⟩ rfl (fun _ _ _ h => h) ?_ hHeld ?_
      rotate_left
      · (intro W hSW; obtain ⟨sw0, sw1, sw2, sw3, sw4, sw5, sw6⟩ := hSW; go_simp <;> (try with_reducible rfl))
      refine take_v (v := ?_) 4 ⟨some 21, Op.move (Operand.tmp 1), _, _, _, none⟩ rfl (fun _ _ _ h => h) ?_ hHeld ?_
      rotate_left
      · (intro W _; go_simp <;> (try with_reducible rfl))
      refine take_v (v := ?_) 5 ⟨some 22, Op.move (Operand.tmp 5), _, _, _, none⟩ rfl (fun _ _ _ h => h) ?_ hHeld ?_
      rotate_left
      · (intro W _; go_simp <;> (try with_reducible rfl))
      refine take_v (v := ?_) 6 ⟨some 23, Op.indexAddr 27 (Operand.tmp 21) (Operand.tmp 22), _, _, _, none⟩ rfl (fun _ _ _ h => h) ?_ hHeld ?_
      rotate_left
      · (intro W _; go_simp <;> (try with_reducible rfl))
      refine take_v (v := ?_) 7 ⟨some 24, Op.load 80 (Operand.tmp 23), _, _, _, none⟩ rfl (fun _ _ _ h => h) ?_ hHeld ?_
      rotate_left
      · (intro W hSW; obtain ⟨sw0, sw1, sw2, sw3, sw4, sw5, sw6⟩ := hSW; go_simp <;> (try with_reducible rfl))
      refine ready_call 8 ⟨some 25, Op.call { callee := Callee.value (Operand.func 90), args := #[Operand.tmp 20, Operand.tmp 24], argTypes := #[80, 80] }, _, _, _, none⟩ (by kernel_rfl) rfl (by kernel_rfl) (fun KC hK => ?_)
      go_wp2_with fail
      refine (eqBank_n [v0, v1, v2] [u0, u1, u2] x[k].1 x[k].2.1 x[k].2.2.1 _ HCS.out.2.2.1 HCS.out.1 HCS.out.2.1).mono ?_
      rintro r w2 ⟨rfl, hb⟩
      have H2 : Hid (Below w.heap.size w w2) := HCS.out.2.2.2.trans (hb.mono HCS.out.2.2.2.size)
      have hbw : Below wr.heap.size wr w2 := (below_drew wr).trans hb
      refine hK.out _ _ ⟨(hbw.cell (p := ⟨g, off + k * 3, none⟩) hgs).trans HCC.out.1, (hbw.cell (p := ⟨g, off + k * 3 + 1, none⟩) hgs).trans HCC.out.2.1, (hbw.cell (p := ⟨g, off + k * 3 + 2, none⟩) hgs).trans HCC.out.2.2.1, (hbw.cell (p := ⟨g', off' + k * 3, none⟩) hgs').trans HCC.out.2.2.2.1, (hbw.cell (p := ⟨g', off' + k * 3 + 1, none⟩) hgs').trans HCC.out.2.2.2.2.1, (hbw.cell (p := ⟨g', off' + k * 3 + 2, none⟩) hgs').trans HCC.out.2.2.2.2.2, hbw⟩ (fun hHeld => ?_)
      clear hK KC
      refine take_v (v := ?_) 9 ⟨some 26, Op.unOp UnOp.not 4 (Operand.tmp 25), _, _, _, none⟩ rfl (fun _ _ _ h => h) ?_ hHeld ?_
      rotate_left
      · (intro W _; go_simp <;> (try with_reducible rfl))
      refine wpAnyH_done (by kernel_rfl) ?_ _
      refine NoPanic.normal ?_
      clear hHeld hb hbw
      go_wp2
      go_roundw
      case rel => exact ⟨k + 1, by omega, by go_num, H2.out⟩
      case measure => simp [intOf]; omega
    · have hkn : k = n := by omega
      subst hkn
      have HB : Hid (Below w.heap.size w wr) := hBr
      clear hBr
      go_wp2
      go_ret
      exact ⟨rfl, HB.out⟩
set_option maxRecDepth 100000 in
set_option maxHeartbeats 4000000 in
theorem eqWay_n (cs cs' : List Value) (x0 : Int) (x1 : Int) (x2 : List (Sh.T shParcel)) (x3 : Bool) (x4 : List (Sh.T .int)) (w : World) (hz : szD shWay (x0, x1, x2, x3, x4, ()) ≤ 1073741824) (h : Lies w shWay cs (x0, x1, x2, x3, x4, ())) (h' : Lies w shWay cs' (x0, x1, x2, x3, x4, ())) :
    Calls Try.prog 91 #[.agg cs.toArray, .agg cs'.toArray] w fun r w' => r = .returned (.bool true) ∧ Below w.heap.size w w' := by
  obtain ⟨a1, k1, a2, k2, rfl, h1, h2⟩ := lies_Way h
  obtain ⟨b1, m1, b2, m2, rfl, q1, q2⟩ := lies_Way h'
  have HE : Hid (szD shWay (x0, x1, x2, x3, x4, ()) = (0 + (0 + (szD (.list shParcel) x2 + (0 + (szD (.list .int) x4 + 0)))))) := rfl
  have HZ : Hid (szD shWay (x0, x1, x2, x3, x4, ()) ≤ 1073741824) := hz
  have HL : Hid (True ∧ Lies w (.list shParcel) [.slice a1 x2.length k1] x2 ∧ Lies w (.list .int) [.slice a2 x4.length k2] x4) := ⟨trivial, h1, h2⟩
  have HQ : Hid (True ∧ Lies w (.list shParcel) [.slice b1 x2.length m1] x2 ∧ Lies w (.list .int) [.slice b2 x4.length m2] x4) := ⟨trivial, q1, q2⟩
  clear h h' hz h1 q1 h2 q2
  go_enter Try.func91, Try.ntmps91
  go_wp2_with fail
  obtain ⟨w0, hW⟩ : ∃ x, x = (w.alloc (.cells #[.int .i64 x0, .int .i64 x1, .slice a1 x2.length k1, .bool x3, .slice a2 x4.length k2] 83)).alloc (.cells #[.int .i64 x0, .int .i64 x1, .slice b1 x2.length m1, .bool x3, .slice b2 x4.length m2] 83) := ⟨_, rfl⟩
  have HB0 : Hid (Below w.heap.size w w0 ∧ Bx w0 w.heap.size [.int .i64 x0, .int .i64 x1, .slice a1 x2.length k1, .bool x3, .slice a2 x4.length k2] ∧ Bx w0 (w.heap.size + 1) [.int .i64 x0, .int .i64 x1, .slice b1 x2.length m1, .bool x3, .slice b2 x4.length m2]) := hW ▸ ⟨((Below.refl _ _).alloc (Nat.le_refl _) _).alloc (by simp) _, (Bx.new w [.int .i64 x0, .int .i64 x1, .slice a1 x2.length k1, .bool x3, .slice a2 x4.length k2] _).alloc _, Bx.newAt (by simp)⟩
  rw [← hW]
  clear hW
  refine (eqParcelS_n _ _ _ _ x2 _ (by have := HZ.out; rw [HE.out] at this; omega) (HL.out.2.1.next HB0.out.1) (HQ.out.2.1.next HB0.out.1)).mono ?_
  rintro r w1 ⟨rfl, hb⟩
  have HB1 : Hid (Below w.heap.size w w1 ∧ Bx w1 w.heap.size [.int .i64 x0, .int .i64 x1, .slice a1 x2.length k1, .bool x3, .slice a2 x4.length k2] ∧ Bx w1 (w.heap.size + 1) [.int .i64 x0, .int .i64 x1, .slice b1 x2.length m1, .bool x3, .slice b2 x4.length m2]) := ⟨HB0.out.1.trans (hb.mono HB0.out.1.size), HB0.out.2.1.next hb, HB0.out.2.2.next hb⟩
  clear hb HB0
  have d0 := HB1.out.2.1.cell 0 rfl
  have d1 := HB1.out.2.1.cell 1 rfl
  have d2 := HB1.out.2.1.cell 2 rfl
  have d3 := HB1.out.2.1.cell 3 rfl
  have d4 := HB1.out.2.1.cell 4 rfl
  have dz := HB1.out.2.1.2
  have e0 := HB1.out.2.2.cell 0 rfl
  have e1 := HB1.out.2.2.cell 1 rfl
  have e2 := HB1.out.2.2.cell 2 rfl
  have e3 := HB1.out.2.2.cell 3 rfl
  have e4 := HB1.out.2.2.cell 4 rfl
  have ez := HB1.out.2.2.2
  go_wp2_with fail
  refine (eqIntS_n _ _ _ _ x4 _ (by have := HZ.out; rw [HE.out] at this; omega) (HL.out.2.2.next HB1.out.1) (HQ.out.2.2.next HB1.out.1)).mono ?_
  rintro r w2 ⟨rfl, hb⟩
  have HB2 : Hid (Below w.heap.size w w2 ∧ Bx w2 w.heap.size [.int .i64 x0, .int .i64 x1, .slice a1 x2.length k1, .bool x3, .slice a2 x4.length k2] ∧ Bx w2 (w.heap.size + 1) [.int .i64 x0, .int .i64 x1, .slice b1 x2.length m1, .bool x3, .slice b2 x4.length m2]) := ⟨HB1.out.1.trans (hb.mono HB1.out.1.size), HB1.out.2.1.next hb, HB1.out.2.2.next hb⟩
  clear hb HB1 dz ez d0 e0 d1 e1 d2 e2 d3 e3 d4 e4
  have d0 := HB2.out.2.1.cell 0 rfl
  have d1 := HB2.out.2.1.cell 1 rfl
  have d2 := HB2.out.2.1.cell 2 rfl
  have d3 := HB2.out.2.1.cell 3 rfl
  have d4 := HB2.out.2.1.cell 4 rfl
  have dz := HB2.out.2.1.2
  have e0 := HB2.out.2.2.cell 0 rfl
  have e1 := HB2.out.2.2.cell 1 rfl
  have e2 := HB2.out.2.2.cell 2 rfl
  have e3 := HB2.out.2.2.cell 3 rfl
  have e4 := HB2.out.2.2.cell 4 rfl
  have ez := HB2.out.2.2.2
  go_wp2
  go_ret
  exact ⟨rfl, HB2.out.1⟩
set_option maxRecDepth 100000 in
set_option maxHeartbeats 4000000 in
theorem eqWayS_n (a a' : Option Addr) (cap cap' : Nat) (x : List (Sh.T shWay)) (w : World) (hz : szD (.list shWay) x ≤ 1073741824) (h : Lies w (.list shWay) [.slice a x.length cap] x) (h' : Lies w (.list shWay) [.slice a' x.length cap'] x) :
    Calls Try.prog 66 #[.slice a x.length cap, .slice a' x.length cap'] w fun r w' => r = .returned (.bool true) ∧ Below w.heap.size w w' := by
  have HL : Hid (Lies w (.list shWay) [.slice a x.length cap] x ∧ Lies w (.list shWay) [.slice a' x.length cap'] x ∧ szD (.list shWay) x ≤ 1073741824) := ⟨h, h', hz⟩
  have hn : x.length ≤ 1073741824 := by simp only [szD] at hz; omega
  clear h h' hz
  obtain ⟨n, hnn⟩ : ∃ n, n = x.length := ⟨_, rfl⟩
  have HN : Hid (n = x.length) := hnn
  rw [← hnn] at hn ⊢
  clear hnn
  go_enter Try.func66, Try.ntmps66
  go_wp2
  go_loopw [5] (fun i wr => ∃ k : Nat, k ≤ n ∧ i = .int .i64 k ∧ Below w.heap.size w wr) (fun i _ => n - (intOf i).toNat)
  case atStart => exact ⟨0, Nat.zero_le _, rfl, Below.refl _ _⟩
  case round =>
    obtain ⟨k, hk, rfl, hBr⟩ := hrel
    by_cases hlt : k < n
    · have hlx : k < x.length := by have := HN.out; omega
      obtain ⟨g, off, hgo, hgs, ec, hel, hec, hle⟩ := Lies.elem (HL.out.1.next hBr) hlx
      subst hgo
      obtain ⟨g', off', hgo, hgs', ec', hel', hec', hle'⟩ := Lies.elem (HL.out.2.1.next hBr) hlx
      subst hgo
      have hlt' : (k : Int) < (n : Int) := by omega
      have HCS : Hid (Lies wr.drew shWay ec x[k] ∧ Lies wr.drew shWay ec' x[k] ∧ szD shWay x[k] ≤ 1073741824 ∧ Below w.heap.size w wr.drew) := ⟨hle.next (below_drew _), hle'.next (below_drew _), by have := sz_mem (List.getElem_mem hlx); have := HL.out.2.2; omega, hBr.trans ((below_drew _).mono hBr.size)⟩
      obtain ⟨v0, v1, v2, v3, v4, hev⟩ := list_of5 hel
      subst hev
      obtain ⟨u0, u1, u2, u3, u4, hev⟩ := list_of5 hel'
      subst hev
      have HCC : Hid (wr.cell? ⟨g, off + k * 5, none⟩ = some v0 ∧ wr.cell? ⟨g, off + k * 5 + 1, none⟩ = some v1 ∧ wr.cell? ⟨g, off + k * 5 + 2, none⟩ = some v2 ∧ wr.cell? ⟨g, off + k * 5 + 3, none⟩ = some v3 ∧ wr.cell? ⟨g, off + k * 5 + 4, none⟩ = some v4 ∧ wr.cell? ⟨g', off' + k * 5, none⟩ = some u0 ∧ wr.cell? ⟨g', off' + k * 5 + 1, none⟩ = some u1 ∧ wr.cell? ⟨g', off' + k * 5 + 2, none⟩ = some u2 ∧ wr.cell? ⟨g', off' + k * 5 + 3, none⟩ = some u3 ∧ wr.cell? ⟨g', off' + k * 5 + 4, none⟩ = some u4) := ⟨hec 0 (by simp), hec 1 (by simp), hec 2 (by simp), hec 3 (by simp), hec 4 (by simp), hec' 0 (by simp), hec' 1 (by simp), hec' 2 (by simp), hec' 3 (by simp), hec' 4 (by simp)⟩
      clear hec hec' hle hle' hel hel' hBr
      go_upto_region 6 with fail
      refine wp_region_noPanic ?_
      refine wp_region_held_drew (S := fun W => W.cell? ⟨g, off + k * 5, none⟩ = some v0 ∧ W.cell? ⟨g, off + k * 5 + 1, none⟩ = some v1 ∧ W.cell? ⟨g, off + k * 5 + 2, none⟩ = some v2 ∧ W.cell? ⟨g, off + k * 5 + 3, none⟩ = some v3 ∧ W.cell? ⟨g, off + k * 5 + 4, none⟩ = some v4 ∧ W.cell? ⟨g', off' + k * 5, none⟩ = some u0 ∧ W.cell? ⟨g', off' + k * 5 + 1, none⟩ = some u1 ∧ W.cell? ⟨g', off' + k * 5 + 2, none⟩ = some u2 ∧ W.cell? ⟨g', off' + k * 5 + 3, none⟩ = some u3 ∧ W.cell? ⟨g', off' + k * 5 + 4, none⟩ = some u4 ∧ Below wr.heap.size wr W) (by kernel_rfl) ⟨HCC.out.1, HCC.out.2.1, HCC.out.2.2.1, HCC.out.2.2.2.1, HCC.out.2.2.2.2.1, HCC.out.2.2.2.2.2.1, HCC.out.2.2.2.2.2.2.1, HCC.out.2.2.2.2.2.2.2.1, HCC.out.2.2.2.2.2.2.2.2.1, HCC.out.2.2.2.2.2.2.2.2.2, below_drew _⟩ (fun hHeld => ?_)
      refine take_v (v := ?_) 0 ⟨some 17, Op.move (Operand.tmp 0), _, _, _, none⟩ rfl (fun _ _ _ h => h) ?_ hHeld ?_
      rotate_left
      · (intro W _; go_simp <;> (try with_reducible rfl))
      refine take_v (v := ?_) 1 ⟨some 18, Op.move (Operand.tmp 5), _, _, _, none⟩ rfl (fun _ _ _ h => h) ?_ hHeld ?_
      rotate_left
      · (intro W _; go_simp <;> (try with_reducible rfl))
      refine take_v (v := ?_) 2 ⟨some 19, Op.indexAddr 28 (Operand.tmp 17) (Operand.tmp 18), _, _, _, none⟩ rfl (fun _ _ _ h => h) ?_ hHeld ?_
      rotate_left
      · (intro W _; go_simp <;> (try with_reducible rfl))
      refine take_v (v := ?_) 3 ⟨some 20, Op.load 83 (Operand.tmp 19), _, _, _, none⟩ rfl (fun _ _ _ h => h) ?_ hHeld ?_
      rotate_left
      · (intro W hSW; obtain ⟨sw0, sw1, sw2, sw3, sw4, sw5, sw6, sw7, sw8, sw9, sw10⟩ := hSW; go_simp <;> (try with_reducible rfl))
      refine take_v (v := ?_) 4 ⟨some 21, Op.move (Operand.tmp 1), _, _, _, none⟩ rfl (fun _ _ _ h => h) ?_ hHeld ?_
      rotate_left
      · (intro W _; go_simp <;> (try with_reducible rfl))
      refine take_v (v := ?_) 5 ⟨some 22, Op.move (Operand.tmp 5), _, _, _, none⟩ rfl (fun _ _ _ h => h) ?_ hHeld ?_
      rotate_left
      · (intro W _; go_simp <;> (try with_reducible rfl))
      refine take_v (v := ?_) 6 ⟨some 23, Op.indexAddr 28 (Operand.tmp 21) (Operand.tmp 22), _, _, _, none⟩ rfl (fun _ _ _ h => h) ?_ hHeld ?_
      rotate_left
      · (intro W _; go_simp <;> (try with_reducible rfl))
      refine take_v (v := ?_) 7 ⟨some 24, Op.load 83 (Operand.tmp 23), _, _, _, none⟩ rfl (fun _ _ _ h => h) ?_ hHeld ?_
      rotate_left
      · (intro W hSW; obtain ⟨sw0, sw1, sw2, sw3, sw4, sw5, sw6, sw7, sw8, sw9, sw10⟩ := hSW; go_simp <;> (try with_reducible rfl))
      refine ready_call 8 ⟨some 25, Op.call { callee := Callee.value (Operand.func 91), args := #[Operand.tmp 20, Operand.tmp 24], argTypes := #[83, 83] }, _, _, _, none⟩ (by kernel_rfl) rfl (by kernel_rfl) (fun KC hK => ?_)
      go_wp2_with fail
      refine (eqWay_n [v0, v1, v2, v3, v4] [u0, u1, u2, u3, u4] x[k].1 x[k].2.1 x[k].2.2.1 x[k].2.2.2.1 x[k].2.2.2.2.1 _ HCS.out.2.2.1 HCS.out.1 HCS.out.2.1).mono ?_
      rintro r w2 ⟨rfl, hb⟩
      have H2 : Hid (Below w.heap.size w w2) := HCS.out.2.2.2.trans (hb.mono HCS.out.2.2.2.size)
      have hbw : Below wr.heap.size wr w2 := (below_drew wr).trans hb
      refine hK.out _ _ ⟨(hbw.cell (p := ⟨g, off + k * 5, none⟩) hgs).trans HCC.out.1, (hbw.cell (p := ⟨g, off + k * 5 + 1, none⟩) hgs).trans HCC.out.2.1, (hbw.cell (p := ⟨g, off + k * 5 + 2, none⟩) hgs).trans HCC.out.2.2.1, (hbw.cell (p := ⟨g, off + k * 5 + 3, none⟩) hgs).trans HCC.out.2.2.2.1, (hbw.cell (p := ⟨g, off + k * 5 + 4, none⟩) hgs).trans HCC.out.2.2.2.2.1, (hbw.cell (p := ⟨g', off' + k * 5, none⟩) hgs').trans HCC.out.2.2.2.2.2.1, (hbw.cell (p := ⟨g', off' + k * 5 + 1, none⟩) hgs').trans HCC.out.2.2.2.2.2.2.1, (hbw.cell (p := ⟨g', off' + k * 5 + 2, none⟩) hgs').trans HCC.out.2.2.2.2.2.2.2.1, (hbw.cell (p := ⟨g', off' + k * 5 + 3, none⟩) hgs').trans HCC.out.2.2.2.2.2.2.2.2.1, (hbw.cell (p := ⟨g', off' + k * 5 + 4, none⟩) hgs').trans HCC.out.2.2.2.2.2.2.2.2.2, hbw⟩ (fun hHeld => ?_)
      clear hK KC
      refine take_v (v := ?_) 9 ⟨some 26, Op.unOp UnOp.not 4 (Operand.tmp 25), _, _, _, none⟩ rfl (fun _ _ _ h => h) ?_ hHeld ?_
      rotate_left
      · (intro W _; go_simp <;> (try with_reducible rfl))
      refine wpAnyH_done (by kernel_rfl) ?_ _
      refine NoPanic.normal ?_
      clear hHeld hb hbw
      go_wp2
      go_roundw
      case rel => exact ⟨k + 1, by omega, by go_num, H2.out⟩
      case measure => simp [intOf]; omega
    · have hkn : k = n := by omega
      subst hkn
      have HB : Hid (Below w.heap.size w wr) := hBr
      clear hBr
      go_wp2
      go_ret
      exact ⟨rfl, HB.out⟩
set_option maxRecDepth 100000 in
set_option maxHeartbeats 4000000 in
theorem eqNet_n (cs cs' : List Value) (x0 : List (Sh.T shBank)) (x1 : List (Sh.T shWay)) (w : World) (hz : szD shNet (x0, x1, ()) ≤ 1073741824) (h : Lies w shNet cs (x0, x1, ())) (h' : Lies w shNet cs' (x0, x1, ())) :
    Calls Try.prog 30 #[.agg cs.toArray, .agg cs'.toArray] w fun r w' => r = .returned (.bool true) ∧ Below w.heap.size w w' := by
  obtain ⟨a1, k1, a2, k2, rfl, h1, h2⟩ := lies_Net h
  obtain ⟨b1, m1, b2, m2, rfl, q1, q2⟩ := lies_Net h'
  have HE : Hid (szD shNet (x0, x1, ()) = (szD (.list shBank) x0 + (szD (.list shWay) x1 + 0))) := rfl
  have HZ : Hid (szD shNet (x0, x1, ()) ≤ 1073741824) := hz
  have HL : Hid (True ∧ Lies w (.list shBank) [.slice a1 x0.length k1] x0 ∧ Lies w (.list shWay) [.slice a2 x1.length k2] x1) := ⟨trivial, h1, h2⟩
  have HQ : Hid (True ∧ Lies w (.list shBank) [.slice b1 x0.length m1] x0 ∧ Lies w (.list shWay) [.slice b2 x1.length m2] x1) := ⟨trivial, q1, q2⟩
  clear h h' hz h1 q1 h2 q2
  go_enter Try.func30, Try.ntmps30
  go_wp2_with fail
  obtain ⟨w0, hW⟩ : ∃ x, x = (w.alloc (.cells #[.slice a1 x0.length k1, .slice a2 x1.length k2] 30)).alloc (.cells #[.slice b1 x0.length m1, .slice b2 x1.length m2] 30) := ⟨_, rfl⟩
  have HB0 : Hid (Below w.heap.size w w0 ∧ Bx w0 w.heap.size [.slice a1 x0.length k1, .slice a2 x1.length k2] ∧ Bx w0 (w.heap.size + 1) [.slice b1 x0.length m1, .slice b2 x1.length m2]) := hW ▸ ⟨((Below.refl _ _).alloc (Nat.le_refl _) _).alloc (by simp) _, (Bx.new w [.slice a1 x0.length k1, .slice a2 x1.length k2] _).alloc _, Bx.newAt (by simp)⟩
  rw [← hW]
  clear hW
  refine (eqBankS_n _ _ _ _ x0 _ (by have := HZ.out; rw [HE.out] at this; omega) (HL.out.2.1.next HB0.out.1) (HQ.out.2.1.next HB0.out.1)).mono ?_
  rintro r w1 ⟨rfl, hb⟩
  have HB1 : Hid (Below w.heap.size w w1 ∧ Bx w1 w.heap.size [.slice a1 x0.length k1, .slice a2 x1.length k2] ∧ Bx w1 (w.heap.size + 1) [.slice b1 x0.length m1, .slice b2 x1.length m2]) := ⟨HB0.out.1.trans (hb.mono HB0.out.1.size), HB0.out.2.1.next hb, HB0.out.2.2.next hb⟩
  clear hb HB0
  have d0 := HB1.out.2.1.cell 0 rfl
  have d1 := HB1.out.2.1.cell 1 rfl
  have dz := HB1.out.2.1.2
  have e0 := HB1.out.2.2.cell 0 rfl
  have e1 := HB1.out.2.2.cell 1 rfl
  have ez := HB1.out.2.2.2
  go_wp2_with fail
  refine (eqWayS_n _ _ _ _ x1 _ (by have := HZ.out; rw [HE.out] at this; omega) (HL.out.2.2.next HB1.out.1) (HQ.out.2.2.next HB1.out.1)).mono ?_
  rintro r w2 ⟨rfl, hb⟩
  have HB2 : Hid (Below w.heap.size w w2 ∧ Bx w2 w.heap.size [.slice a1 x0.length k1, .slice a2 x1.length k2] ∧ Bx w2 (w.heap.size + 1) [.slice b1 x0.length m1, .slice b2 x1.length m2]) := ⟨HB1.out.1.trans (hb.mono HB1.out.1.size), HB1.out.2.1.next hb, HB1.out.2.2.next hb⟩
  clear hb HB1 dz ez d0 e0 d1 e1
  have d0 := HB2.out.2.1.cell 0 rfl
  have d1 := HB2.out.2.1.cell 1 rfl
  have dz := HB2.out.2.1.2
  have e0 := HB2.out.2.2.cell 0 rfl
  have e1 := HB2.out.2.2.cell 1 rfl
  have ez := HB2.out.2.2.2
  go_wp2
  go_ret
  exact ⟨rfl, HB2.out.1⟩
set_option maxRecDepth 100000 in
set_option maxHeartbeats 4000000 in
theorem eqBankStep_n (cs cs' : List Value) (x0 : Int) (x1 : Int) (x2 : Int) (x3 : Int) (w : World) (hz : szD shBankStep (x0, x1, x2, x3, ()) ≤ 1073741824) (h : Lies w shBankStep cs (x0, x1, x2, x3, ())) (h' : Lies w shBankStep cs' (x0, x1, x2, x3, ())) :
    Calls Try.prog 75 #[.agg cs.toArray, .agg cs'.toArray] w fun r w' => r = .returned (.bool true) ∧ Below w.heap.size w w' := by
  obtain rfl := lies_BankStep h
  obtain rfl := lies_BankStep h'
  clear h h' hz
  go_enter Try.func75, Try.ntmps75
  go_wp2
  go_ret
  exact ⟨rfl, (by repeat (first | refine Below.setCell ?_ (by (try simp) <;> omega) _ | refine Below.alloc ?_ (by (try simp) <;> omega) _ | refine Below.drew ?_ | assumption | exact Below.refl _ _ | refine Below.trans ?_ (Below.mono (by assumption) (by (try simp) <;> omega))))⟩
set_option maxRecDepth 100000 in
set_option maxHeartbeats 4000000 in
theorem eqBankStepS_n (a a' : Option Addr) (cap cap' : Nat) (x : List (Sh.T shBankStep)) (w : World) (hz : szD (.list shBankStep) x ≤ 1073741824) (h : Lies w (.list shBankStep) [.slice a x.length cap] x) (h' : Lies w (.list shBankStep) [.slice a' x.length cap'] x) :
    Calls Try.prog 41 #[.slice a x.length cap, .slice a' x.length cap'] w fun r w' => r = .returned (.bool true) ∧ Below w.heap.size w w' := by
  have HL : Hid (Lies w (.list shBankStep) [.slice a x.length cap] x ∧ Lies w (.list shBankStep) [.slice a' x.length cap'] x ∧ szD (.list shBankStep) x ≤ 1073741824) := ⟨h, h', hz⟩
  have hn : x.length ≤ 1073741824 := by simp only [szD] at hz; omega
  clear h h' hz
  obtain ⟨n, hnn⟩ : ∃ n, n = x.length := ⟨_, rfl⟩
  have HN : Hid (n = x.length) := hnn
  rw [← hnn] at hn ⊢
  clear hnn
  go_enter Try.func41, Try.ntmps41
  go_wp2
  go_loopw [5] (fun i wr => ∃ k : Nat, k ≤ n ∧ i = .int .i64 k ∧ Below w.heap.size w wr) (fun i _ => n - (intOf i).toNat)
  case atStart => exact ⟨0, Nat.zero_le _, rfl, Below.refl _ _⟩
  case round =>
    obtain ⟨k, hk, rfl, hBr⟩ := hrel
    by_cases hlt : k < n
    · have hlx : k < x.length := by have := HN.out; omega
      obtain ⟨g, off, hgo, hgs, ec, hel, hec, hle⟩ := Lies.elem (HL.out.1.next hBr) hlx
      subst hgo
      obtain ⟨g', off', hgo, hgs', ec', hel', hec', hle'⟩ := Lies.elem (HL.out.2.1.next hBr) hlx
      subst hgo
      have hlt' : (k : Int) < (n : Int) := by omega
      have HCS : Hid (Lies wr.drew shBankStep ec x[k] ∧ Lies wr.drew shBankStep ec' x[k] ∧ szD shBankStep x[k] ≤ 1073741824 ∧ Below w.heap.size w wr.drew) := ⟨hle.next (below_drew _), hle'.next (below_drew _), by have := sz_mem (List.getElem_mem hlx); have := HL.out.2.2; omega, hBr.trans ((below_drew _).mono hBr.size)⟩
      obtain ⟨v0, v1, v2, v3, hev⟩ := list_of4 hel
      subst hev
      obtain ⟨u0, u1, u2, u3, hev⟩ := list_of4 hel'
      subst hev
      have HCC : Hid (wr.cell? ⟨g, off + k * 4, none⟩ = some v0 ∧ wr.cell? ⟨g, off + k * 4 + 1, none⟩ = some v1 ∧ wr.cell? ⟨g, off + k * 4 + 2, none⟩ = some v2 ∧ wr.cell? ⟨g, off + k * 4 + 3, none⟩ = some v3 ∧ wr.cell? ⟨g', off' + k * 4, none⟩ = some u0 ∧ wr.cell? ⟨g', off' + k * 4 + 1, none⟩ = some u1 ∧ wr.cell? ⟨g', off' + k * 4 + 2, none⟩ = some u2 ∧ wr.cell? ⟨g', off' + k * 4 + 3, none⟩ = some u3) := ⟨hec 0 (by simp), hec 1 (by simp), hec 2 (by simp), hec 3 (by simp), hec' 0 (by simp), hec' 1 (by simp), hec' 2 (by simp), hec' 3 (by simp)⟩
      clear hec hec' hle hle' hel hel' hBr
      go_upto_region 6 with fail
      refine wp_region_noPanic ?_
      refine wp_region_held_drew (S := fun W => W.cell? ⟨g, off + k * 4, none⟩ = some v0 ∧ W.cell? ⟨g, off + k * 4 + 1, none⟩ = some v1 ∧ W.cell? ⟨g, off + k * 4 + 2, none⟩ = some v2 ∧ W.cell? ⟨g, off + k * 4 + 3, none⟩ = some v3 ∧ W.cell? ⟨g', off' + k * 4, none⟩ = some u0 ∧ W.cell? ⟨g', off' + k * 4 + 1, none⟩ = some u1 ∧ W.cell? ⟨g', off' + k * 4 + 2, none⟩ = some u2 ∧ W.cell? ⟨g', off' + k * 4 + 3, none⟩ = some u3 ∧ Below wr.heap.size wr W) (by kernel_rfl) ⟨HCC.out.1, HCC.out.2.1, HCC.out.2.2.1, HCC.out.2.2.2.1, HCC.out.2.2.2.2.1, HCC.out.2.2.2.2.2.1, HCC.out.2.2.2.2.2.2.1, HCC.out.2.2.2.2.2.2.2, below_drew _⟩ (fun hHeld => ?_)
      refine take_v (v := ?_) 0 ⟨some 17, Op.move (Operand.tmp 0), _, _, _, none⟩ rfl (fun _ _ _ h => h) ?_ hHeld ?_
      rotate_left
      · (intro W _; go_simp <;> (try with_reducible rfl))
      refine take_v (v := ?_) 1 ⟨some 18, Op.move (Operand.tmp 5), _, _, _, none⟩ rfl (fun _ _ _ h => h) ?_ hHeld ?_
      rotate_left
      · (intro W _; go_simp <;> (try with_reducible rfl))
      refine take_v (v := ?_) 2 ⟨some 19, Op.indexAddr 24 (Operand.tmp 17) (Operand.tmp 18), _, _, _, none⟩ rfl (fun _ _ _ h => h) ?_ hHeld ?_
      rotate_left
      · (intro W _; go_simp <;> (try with_reducible rfl))
      refine take_v (v := ?_) 3 ⟨some 20, Op.load 44 (Operand.tmp 19), _, _, _, none⟩ rfl (fun _ _ _ h => h) ?_ hHeld ?_
      rotate_left
      · (intro W hSW; obtain ⟨sw0, sw1, sw2, sw3, sw4, sw5, sw6, sw7, sw8⟩ := hSW; go_simp <;> (try with_reducible rfl))
      refine take_v (v := ?_) 4 ⟨some 21, Op.move (Operand.tmp 1), _, _, _, none⟩ rfl (fun _ _ _ h => h) ?_ hHeld ?_
      rotate_left
      · (intro W _; go_simp <;> (try with_reducible rfl))
      refine take_v (v := ?_) 5 ⟨some 22, Op.move (Operand.tmp 5), _, _, _, none⟩ rfl (fun _ _ _ h => h) ?_ hHeld ?_
      rotate_left
      · (intro W _; go_simp <;> (try with_reducible rfl))
      refine take_v (v := ?_) 6 ⟨some 23, Op.indexAddr 24 (Operand.tmp 21) (Operand.tmp 22), _, _, _, none⟩ rfl (fun _ _ _ h => h) ?_ hHeld ?_
      rotate_left
      · (intro W _; go_simp <;> (try with_reducible rfl))
      refine take_v (v := ?_) 7 ⟨some 24, Op.load 44 (Operand.tmp 23), _, _, _, none⟩ rfl (fun _ _ _ h => h) ?_ hHeld ?_
      rotate_left
      · (intro W hSW; obtain ⟨sw0, sw1, sw2, sw3, sw4, sw5, sw6, sw7, sw8⟩ := hSW; go_simp <;> (try with_reducible rfl))
      refine ready_call 8 ⟨some 25, Op.call { callee := Callee.value (Operand.func 75), args := #[Operand.tmp 20, Operand.tmp 24], argTypes := #[44, 44] }, _, _, _, none⟩ (by kernel_rfl) rfl (by kernel_rfl) (fun KC hK => ?_)
      go_wp2_with fail
      refine (eqBankStep_n [v0, v1, v2, v3] [u0, u1, u2, u3] x[k].1 x[k].2.1 x[k].2.2.1 x[k].2.2.2.1 _ HCS.out.2.2.1 HCS.out.1 HCS.out.2.1).mono ?_
      rintro r w2 ⟨rfl, hb⟩
      have H2 : Hid (Below w.heap.size w w2) := HCS.out.2.2.2.trans (hb.mono HCS.out.2.2.2.size)
      have hbw : Below wr.heap.size wr w2 := (below_drew wr).trans hb
      refine hK.out _ _ ⟨(hbw.cell (p := ⟨g, off + k * 4, none⟩) hgs).trans HCC.out.1, (hbw.cell (p := ⟨g, off + k * 4 + 1, none⟩) hgs).trans HCC.out.2.1, (hbw.cell (p := ⟨g, off + k * 4 + 2, none⟩) hgs).trans HCC.out.2.2.1, (hbw.cell (p := ⟨g, off + k * 4 + 3, none⟩) hgs).trans HCC.out.2.2.2.1, (hbw.cell (p := ⟨g', off' + k * 4, none⟩) hgs').trans HCC.out.2.2.2.2.1, (hbw.cell (p := ⟨g', off' + k * 4 + 1, none⟩) hgs').trans HCC.out.2.2.2.2.2.1, (hbw.cell (p := ⟨g', off' + k * 4 + 2, none⟩) hgs').trans HCC.out.2.2.2.2.2.2.1, (hbw.cell (p := ⟨g', off' + k * 4 + 3, none⟩) hgs').trans HCC.out.2.2.2.2.2.2.2, hbw⟩ (fun hHeld => ?_)
      clear hK KC
      refine take_v (v := ?_) 9 ⟨some 26, Op.unOp UnOp.not 4 (Operand.tmp 25), _, _, _, none⟩ rfl (fun _ _ _ h => h) ?_ hHeld ?_
      rotate_left
      · (intro W _; go_simp <;> (try with_reducible rfl))
      refine wpAnyH_done (by kernel_rfl) ?_ _
      refine NoPanic.normal ?_
      clear hHeld hb hbw
      go_wp2
      go_roundw
      case rel => exact ⟨k + 1, by omega, by go_num, H2.out⟩
      case measure => simp [intOf]; omega
    · have hkn : k = n := by omega
      subst hkn
      have HB : Hid (Below w.heap.size w wr) := hBr
      clear hBr
      go_wp2
      go_ret
      exact ⟨rfl, HB.out⟩
set_option maxRecDepth 100000 in
set_option maxHeartbeats 4000000 in
theorem eqBoolS_n (a a' : Option Addr) (cap cap' : Nat) (x : List (Sh.T .bool)) (w : World) (hz : szD (.list .bool) x ≤ 1073741824) (h : Lies w (.list .bool) [.slice a x.length cap] x) (h' : Lies w (.list .bool) [.slice a' x.length cap'] x) :
    Calls Try.prog 40 #[.slice a x.length cap, .slice a' x.length cap'] w fun r w' => r = .returned (.bool true) ∧ Below w.heap.size w w' := by
  have HL : Hid (Lies w (.list .bool) [.slice a x.length cap] x ∧ Lies w (.list .bool) [.slice a' x.length cap'] x ∧ szD (.list .bool) x ≤ 1073741824) := ⟨h, h', hz⟩
  have hn : x.length ≤ 1073741824 := by simp only [szD] at hz; omega
  clear h h' hz
  obtain ⟨n, hnn⟩ : ∃ n, n = x.length := ⟨_, rfl⟩
  have HN : Hid (n = x.length) := hnn
  rw [← hnn] at hn ⊢
  clear hnn
  go_enter Try.func40, Try.ntmps40
  go_wp2
  go_loopw [5] (fun i wr => ∃ k : Nat, k ≤ n ∧ i = .int .i64 k ∧ Below w.heap.size w wr) (fun i _ => n - (intOf i).toNat)
  case atStart => exact ⟨0, Nat.zero_le _, rfl, Below.refl _ _⟩
  case round =>
    obtain ⟨k, hk, rfl, hBr⟩ := hrel
    by_cases hlt : k < n
    · have hlx : k < x.length := by have := HN.out; omega
      obtain ⟨g, off, hgo, hgs, ec, hel, hec, hle⟩ := Lies.elem (HL.out.1.next hBr) hlx
      subst hgo
      obtain ⟨g', off', hgo, hgs', ec', hel', hec', hle'⟩ := Lies.elem (HL.out.2.1.next hBr) hlx
      subst hgo
      have hlt' : (k : Int) < (n : Int) := by omega
      have hev : ec = [.bool x[k]] := hle
      subst hev
      have hev : ec' = [.bool x[k]] := hle'
      subst hev
      have c0 : wr.cell? ⟨g, off + k, none⟩ = some (.bool x[k]) := by have := hec 0 (by simp); simpa [Sh.c] using this
      have d0 : wr.cell? ⟨g', off' + k, none⟩ = some (.bool x[k]) := by have := hec' 0 (by simp); simpa [Sh.c] using this
      clear hec hec' hle hle' hel hel'
      generalize x[k] = xk at *
      go_upto_region 6 with fail
      go_cut [25] (fun s25 wx => s25 = .bool false ∧ Below w.heap.size w wx)
      case first =>
        go_region
        all_goals (go_wp2_with fail; go_meet; exact ⟨rfl, hBr.drew⟩)
      case rest =>
        obtain ⟨rfl, hb2⟩ := hcut
        go_wp2
        go_roundw
        case rel => exact ⟨k + 1, by omega, by go_num, hb2⟩
        case measure => simp [intOf]; omega
    · have hkn : k = n := by omega
      subst hkn
      have HB : Hid (Below w.heap.size w wr) := hBr
      clear hBr
      go_wp2
      go_ret
      exact ⟨rfl, HB.out⟩
end Go.Proofs.Ytcklpcdgckkahaa
