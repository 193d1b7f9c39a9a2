/- The law's own functions that hold two data against each other. Written by tools/nest.py. -/
import Derived.Test.YtkpobihpcnoemaaDoorGaE
import Derived.Test.YtkpobihpcnoemaaDoorProg
import Derived.Test.YtkpobihpcnoemaaDoorBx
import Derived.WalkKit
import Derived.WalkSpells
import Derived.WalkLawsBesides
import Derived.Test.YtkpobihpcnoemaaDoorGaD
import Derived.Test.YtkpobihpcnoemaaDoorGaC
import Derived.Deep.RegionWith
import Derived.Deep.DeepCutAuto
namespace Go.Proofs.YtkpobihpcnoemaaDoor
open Go.RowKit
set_option linter.unusedVariables false
set_option linter.unusedSimpArgs false

set_option maxRecDepth 100000 in
set_option maxHeartbeats 4000000 in
theorem eqIntS_n (a a' : Option Addr) (cap cap' : Nat) (x : List (Sh.T .int)) (w : World) (hz : szD (.list .int) x ≤ 1073741824) (h : Lies w (.list .int) [.slice a x.length cap] x) (h' : Lies w (.list .int) [.slice a' x.length cap'] x) :
    Calls Tryd.prog 28 #[.slice a x.length cap, .slice a' x.length cap'] w fun r w' => r = .returned (.bool true) ∧ Below w.heap.size w w' := by
  have HL : Hid (Lies w (.list .int) [.slice a x.length cap] x ∧ Lies w (.list .int) [.slice a' x.length cap'] x ∧ szD (.list .int) x ≤ 1073741824) := ⟨h, h', hz⟩
  have hn : x.length ≤ 1073741824 := by simp only [szD] at hz; omega
  clear h h' hz
  obtain ⟨n, hnn⟩ : ∃ n, n = x.length := ⟨_, rfl⟩
  have HN : Hid (n = x.length) := hnn
  rw [← hnn] at hn ⊢
  clear hnn
  go_enter Tryd.func28, Tryd.ntmps28
  go_wp2
  go_loopw [5] (fun i wr => ∃ k : Nat, k ≤ n ∧ i = .int .i64 k ∧ Below w.heap.size w wr) (fun i _ => n - (intOf i).toNat)
  case atStart => exact ⟨0, Nat.zero_le _, rfl, Below.refl _ _⟩
  case round =>
    obtain ⟨k, hk, rfl, hBr⟩ := hrel
    by_cases hlt : k < n
    · have hlx : k < x.length := by have := HN.out; omega
      obtain ⟨g, off, hgo, hgs, ec, hel, hec, hle⟩ := Lies.elem (HL.out.1.next hBr) hlx
      subst hgo
      obtain ⟨g', off', hgo, hgs', ec', hel', hec', hle'⟩ := Lies.elem (HL.out.2.1.next hBr) hlx
      subst hgo
      have hlt' : (k : Int) < (n : Int) := by omega
      have hev : ec = [.int .i64 x[k]] := hle
      subst hev
      have hev : ec' = [.int .i64 x[k]] := hle'
      subst hev
      have c0 : wr.cell? ⟨g, off + k, none⟩ = some (.int .i64 x[k]) := by have := hec 0 (by simp); simpa [Sh.c] using this
      have d0 : wr.cell? ⟨g', off' + k, none⟩ = some (.int .i64 x[k]) := by have := hec' 0 (by simp); simpa [Sh.c] using this
      clear hec hec' hle hle' hel hel'
      generalize x[k] = xk at *
      go_upto_region 6 with fail
      go_cut [25] (fun s25 wx => s25 = .bool false ∧ Below w.heap.size w wx)
      case first =>
        go_region
        all_goals (go_wp2_with fail; go_meet; exact ⟨rfl, hBr.drew⟩)
      case rest =>
        obtain ⟨rfl, hb2⟩ := hcut
        go_wp2
        go_roundw
        case rel => exact ⟨k + 1, by omega, by go_num, hb2⟩
        case measure => simp [intOf]; omega
    · have hkn : k = n := by omega
      subst hkn
      have HB : Hid (Below w.heap.size w wr) := hBr
      clear hBr
      go_wp2
      go_ret
      exact ⟨rfl, HB.out⟩
set_option maxRecDepth 100000 in
set_option maxHeartbeats 4000000 in
theorem eqReplica_n (cs cs' : List Value) (x0 : Bool) (x1 : Int) (w : World) (hz : szD shReplica (x0, x1, ()) ≤ 1073741824) (h : Lies w shReplica cs (x0, x1, ())) (h' : Lies w shReplica cs' (x0, x1, ())) :
    Calls Tryd.prog 95 #[.agg cs.toArray, .agg cs'.toArray] w fun r w' => r = .returned (.bool true) ∧ Below w.heap.size w w' := by
  obtain rfl := lies_Replica h
  obtain rfl := lies_Replica h'
  clear h h' hz
  go_enter Tryd.func95, Tryd.ntmps95
  go_wp2
  go_ret
  exact ⟨rfl, (by repeat (first | refine Below.setCell ?_ (by (try simp) <;> omega) _ | refine Below.alloc ?_ (by (try simp) <;> omega) _ | refine Below.drew ?_ | assumption | exact Below.refl _ _ | refine Below.trans ?_ (Below.mono (by assumption) (by (try simp) <;> omega))))⟩
set_option maxRecDepth 100000 in
set_option maxHeartbeats 4000000 in
theorem eqReplicaS_n (a a' : Option Addr) (cap cap' : Nat) (x : List (Sh.T shReplica)) (w : World) (hz : szD (.list shReplica) x ≤ 1073741824) (h : Lies w (.list shReplica) [.slice a x.length cap] x) (h' : Lies w (.list shReplica) [.slice a' x.length cap'] x) :
    Calls Tryd.prog 88 #[.slice a x.length cap, .slice a' x.length cap'] w fun r w' => r = .returned (.bool true) ∧ Below w.heap.size w w' := by
  have HL : Hid (Lies w (.list shReplica) [.slice a x.length cap] x ∧ Lies w (.list shReplica) [.slice a' x.length cap'] x ∧ szD (.list shReplica) x ≤ 1073741824) := ⟨h, h', hz⟩
  have hn : x.length ≤ 1073741824 := by simp only [szD] at hz; omega
  clear h h' hz
  obtain ⟨n, hnn⟩ : ∃ n, n = x.length := ⟨_, rfl⟩
  have HN : Hid (n = x.length) := hnn
  rw [← hnn] at hn ⊢
  clear hnn
  go_enter Tryd.func88, Tryd.ntmps88
  go_wp2
  go_loopw [5] (fun i wr => ∃ k : Nat, k ≤ n ∧ i = .int .i64 k ∧ Below w.heap.size w wr) (fun i _ => n - (intOf i).toNat)
  case atStart => exact ⟨0, Nat.zero_le _, rfl, Below.refl _ _⟩
  case round =>
    obtain ⟨k, hk, rfl, hBr⟩ := hrel
    by_cases hlt : k < n
    · have hlx : k < x.length := by have := HN.out; omega
      obtain ⟨g, off, hgo, hgs, ec, hel, hec, hle⟩ := Lies.elem (HL.out.1.next hBr) hlx
      subst hgo
      obtain ⟨g', off', hgo, hgs', ec', hel', hec', hle'⟩ := Lies.elem (HL.out.2.1.next hBr) hlx
      subst hgo
      have hlt' : (k : Int) < (n : Int) := by omega
      have HCS : Hid (Lies wr.drew shReplica ec x[k] ∧ Lies wr.drew shReplica ec' x[k] ∧ szD shReplica x[k] ≤ 1073741824 ∧ Below w.heap.size w wr.drew) := ⟨hle.next (below_drew _), hle'.next (below_drew _), by have := sz_mem (List.getElem_mem hlx); have := HL.out.2.2; omega, hBr.trans ((below_drew _).mono hBr.size)⟩
      obtain ⟨v0, v1, hev⟩ := list_of2 hel
      subst hev
      obtain ⟨u0, u1, hev⟩ := list_of2 hel'
      subst hev
      have HCC : Hid (wr.cell? ⟨g, off + k * 2, none⟩ = some v0 ∧ wr.cell? ⟨g, off + k * 2 + 1, none⟩ = some v1 ∧ wr.cell? ⟨g', off' + k * 2, none⟩ = some u0 ∧ wr.cell? ⟨g', off' + k * 2 + 1, none⟩ = some u1) := ⟨hec 0 (by simp), hec 1 (by simp), hec' 0 (by simp), hec' 1 (by simp)⟩
      clear hec hec' hle hle' hel hel' hBr
      go_upto_region 6 with fail
      refine wp_region_noPanic ?_
      refine wp_region_held_drew (S := fun W => W.cell? ⟨g, off + k * 2, none⟩ = some v0 ∧ W.cell? ⟨g, off + k * 2 + 1, none⟩ = some v1 ∧ W.cell? ⟨g', off' + k * 2, none⟩ = some u0 ∧ W.cell? ⟨g', off' + k * 2 + 1, none⟩ = some u1 ∧ Below wr.heap.size wr W) (by kernel_rfl) ⟨HCC.out.1, HCC.out.2.1, HCC.out.2.2.1, HCC.out.2.2.2, below_drew _⟩ (fun hHeld => ?_)
      refine take_v (v := ?_) 0 ⟨some 17, Op.move (Operand.tmp 0), _, _, _, none⟩ rfl (fun _ _ _ h => h) ?_ hHeld ?_
      rotate_left
      · (intro W _; go_simp <;> (try with_reducible rfl))
      refine take_v (v := ?_) 1 ⟨some 18, Op.move (Operand.tmp 5), _, _, _, none⟩ rfl (fun _ _ _ h => h) ?_ hHeld ?_
      rotate_left
      · (intro W _; go_simp <;> (try with_reducible rfl))
      refine take_v (v := ?_) 2 ⟨some 19, Op.indexAddr 40 (Operand.tmp 17) (Operand.tmp 18), _, _, _, none⟩ rfl (fun _ _ _ h => h) ?_ hHeld ?_
      rotate_left
      · (intro W _; go_simp <;> (try with_reducible rfl))
      refine take_v (v := ?_) 3 ⟨some 20, Op.load 44 (Operand.tmp 19), _, _, _, none⟩ rfl (fun _ _ _ h => h) ?_ hHeld ?_
      rotate_left
      · (intro W hSW; obtain ⟨sw0, sw1, sw2, sw3, sw4⟩ := hSW; go_simp <;> (try with_reducible rfl))
      refine take_v (v := ?_) 4 ⟨some 21, Op.move (Operand.tmp 1), _, _, _, none⟩ rfl (fun _ _ _ h => h) ?_ hHeld ?_
      rotate_left
      · (intro W _; go_simp <;> (try with_reducible rfl))
      refine take_v (v := ?_) 5 ⟨some 22, Op.move (Operand.tmp 5), _, _, _, none⟩ rfl (fun _ _ _ h => h) ?_ hHeld ?_
      rotate_left
      · (intro W _; go_simp <;> (try with_reducible rfl))
      refine take_v (v := ?_) 6 ⟨some 23, Op.indexAddr 40 (Operand.tmp 21) (Operand.tmp 22), _, _, _, none⟩ rfl (fun _ _ _ h => h) ?_ hHeld ?_
      rotate_left
      · (intro W _; go_simp <;> (try with_reducible rfl))
      refine take_v (v := ?_) 7 ⟨some 24, Op.load 44 (Operand.tmp 23), _, _, _, none⟩ rfl (fun _ _ _ h => h) ?_ hHeld ?_
      rotate_left
      · (intro W hSW; obtain ⟨sw0, sw1, sw2, sw3, sw4⟩ := hSW; go_simp <;> (try with_reducible rfl))
      refine ready_call 8 ⟨some 25, Op.call { callee := Callee.value (Operand.func 95), args := #[Operand.tmp 20, Operand.tmp 24], argTypes := #[44, 44] }, _, _, _, none⟩ (by kernel_rfl) rfl (by kernel_rfl) (fun KC hK => ?_)
      go_wp2_with fail
      refine (eqReplica_n [v0, v1] [u0, u1] x[k].1 x[k].2.1 _ HCS.out.2.2.1 HCS.out.1 HCS.out.2.1).mono ?_
      rintro r w2 ⟨rfl, hb⟩
      have H2 : Hid (Below w.heap.size w w2) := HCS.out.2.2.2.trans (hb.mono HCS.out.2.2.2.size)
      have hbw : Below wr.heap.size wr w2 := (below_drew wr).trans hb
      refine hK.out _ _ ⟨(hbw.cell (p := ⟨g, off + k * 2, none⟩) hgs).trans HCC.out.1, (hbw.cell (p := ⟨g, off + k * 2 + 1, none⟩) hgs).trans HCC.out.2.1, (hbw.cell (p := ⟨g', off' + k * 2, none⟩) hgs').trans HCC.out.2.2.1, (hbw.cell (p := ⟨g', off' + k * 2 + 1, none⟩) hgs').trans HCC.out.2.2.2, hbw⟩ (fun hHeld => ?_)
      clear hK KC
      refine take_v (v := ?_) 9 ⟨some 26, Op.unOp UnOp.not 4 (Operand.tmp 25), _, _, _, none⟩ rfl (fun _ _ _ h => h) ?_ hHeld ?_
      rotate_left
      · (intro W _; go_simp <;> (try with_reducible rfl))
      refine wpAnyH_done (by kernel_rfl) ?_ _
      refine NoPanic.normal ?_
      clear hHeld hb hbw
      go_wp2
      go_roundw
      case rel => exact ⟨k + 1, by omega, by go_num, H2.out⟩
      case measure => simp [intOf]; omega
    · have hkn : k = n := by omega
      subst hkn
      have HB : Hid (Below w.heap.size w wr) := hBr
      clear hBr
      go_wp2
      go_ret
      exact ⟨rfl, HB.out⟩
set_option maxRecDepth 100000 in
set_option maxHeartbeats 4000000 in
theorem eqShard_n (cs cs' : List Value) (x0 : List (Sh.T shReplica)) (w : World) (hz : szD shShard (x0, ()) ≤ 1073741824) (h : Lies w shShard cs (x0, ())) (h' : Lies w shShard cs' (x0, ())) :
    Calls Tryd.prog 73 #[.agg cs.toArray, .agg cs'.toArray] w fun r w' => r = .returned (.bool true) ∧ Below w.heap.size w w' := by
  obtain ⟨a1, k1, rfl, h1⟩ := lies_Shard h
  obtain ⟨b1, m1, rfl, q1⟩ := lies_Shard h'
  have HE : Hid (szD shShard (x0, ()) = (szD (.list shReplica) x0 + 0)) := rfl
  have HZ : Hid (szD shShard (x0, ()) ≤ 1073741824) := hz
  have HL : Hid (True ∧ Lies w (.list shReplica) [.slice a1 x0.length k1] x0) := ⟨trivial, h1⟩
  have HQ : Hid (True ∧ Lies w (.list shReplica) [.slice b1 x0.length m1] x0) := ⟨trivial, q1⟩
  clear h h' hz h1 q1
  go_enter Tryd.func73, Tryd.ntmps73
  go_wp2_with fail
  obtain ⟨w0, hW⟩ : ∃ x, x = (w.alloc (.cells #[.slice a1 x0.length k1] 42)).alloc (.cells #[.slice b1 x0.length m1] 42) := ⟨_, rfl⟩
  have HB0 : Hid (Below w.heap.size w w0 ∧ Bx w0 w.heap.size [.slice a1 x0.length k1] ∧ Bx w0 (w.heap.size + 1) [.slice b1 x0.length m1]) := hW ▸ ⟨((Below.refl _ _).alloc (Nat.le_refl _) _).alloc (by simp) _, (Bx.new w [.slice a1 x0.length k1] _).alloc _, Bx.newAt (by simp)⟩
  rw [← hW]
  clear hW
  refine (eqReplicaS_n _ _ _ _ x0 _ (by have := HZ.out; rw [HE.out] at this; omega) (HL.out.2.next HB0.out.1) (HQ.out.2.next HB0.out.1)).mono ?_
  rintro r w1 ⟨rfl, hb⟩
  have HB1 : Hid (Below w.heap.size w w1 ∧ Bx w1 w.heap.size [.slice a1 x0.length k1] ∧ Bx w1 (w.heap.size + 1) [.slice b1 x0.length m1]) := ⟨HB0.out.1.trans (hb.mono HB0.out.1.size), HB0.out.2.1.next hb, HB0.out.2.2.next hb⟩
  clear hb HB0
  have d0 := HB1.out.2.1.cell 0 rfl
  have dz := HB1.out.2.1.2
  have e0 := HB1.out.2.2.cell 0 rfl
  have ez := HB1.out.2.2.2
  go_wp2
  go_ret
  exact ⟨rfl, HB1.out.1⟩
set_option maxRecDepth 100000 in
set_option maxHeartbeats 4000000 in
theorem eqShardS_n (a a' : Option Addr) (cap cap' : Nat) (x : List (Sh.T shShard)) (w : World) (hz : szD (.list shShard) x ≤ 1073741824) (h : Lies w (.list shShard) [.slice a x.length cap] x) (h' : Lies w (.list shShard) [.slice a' x.length cap'] x) :
    Calls Tryd.prog 54 #[.slice a x.length cap, .slice a' x.length cap'] w fun r w' => r = .returned (.bool true) ∧ Below w.heap.size w w' := by
  have HL : Hid (Lies w (.list shShard) [.slice a x.length cap] x ∧ Lies w (.list shShard) [.slice a' x.length cap'] x ∧ szD (.list shShard) x ≤ 1073741824) := ⟨h, h', hz⟩
  have hn : x.length ≤ 1073741824 := by simp only [szD] at hz; omega
  clear h h' hz
  obtain ⟨n, hnn⟩ : ∃ n, n = x.length := ⟨_, rfl⟩
  have HN : Hid (n = x.length) := hnn
  rw [← hnn] at hn ⊢
  clear hnn
  go_enter Tryd.func54, Tryd.ntmps54
  go_wp2
  go_loopw [5] (fun i wr => ∃ k : Nat, k ≤ n ∧ i = .int .i64 k ∧ Below w.heap.size w wr) (fun i _ => n - (intOf i).toNat)
  case atStart => exact ⟨0, Nat.zero_le _, rfl, Below.refl _ _⟩
  case round =>
    obtain ⟨k, hk, rfl, hBr⟩ := hrel
    by_cases hlt : k < n
    · have hlx : k < x.length := by have := HN.out; omega
      obtain ⟨g, off, hgo, hgs, ec, hel, hec, hle⟩ := Lies.elem (HL.out.1.next hBr) hlx
      subst hgo
      obtain ⟨g', off', hgo, hgs', ec', hel', hec', hle'⟩ := Lies.elem (HL.out.2.1.next hBr) hlx
      subst hgo
      have hlt' : (k : Int) < (n : Int) := by omega
      have HCS : Hid (Lies wr.drew shShard ec x[k] ∧ Lies wr.drew shShard ec' x[k] ∧ szD shShard x[k] ≤ 1073741824 ∧ Below w.heap.size w wr.drew) := ⟨hle.next (below_drew _), hle'.next (below_drew _), by have := sz_mem (List.getElem_mem hlx); have := HL.out.2.2; omega, hBr.trans ((below_drew _).mono hBr.size)⟩
      obtain ⟨v0, hev⟩ := list_of1 hel
      subst hev
      obtain ⟨u0, hev⟩ := list_of1 hel'
      subst hev
      have HCC : Hid (wr.cell? ⟨g, off + k, none⟩ = some v0 ∧ wr.cell? ⟨g', off' + k, none⟩ = some u0) := ⟨(by have := hec 0 (by simp); simpa [shShard, Sh.c] using this), (by have := hec' 0 (by simp); simpa [shShard, Sh.c] using this)⟩
      clear hec hec' hle hle' hel hel' hBr
      go_upto_region 6 with fail
      refine wp_region_noPanic ?_
      refine wp_region_held_drew (S := fun W => W.cell? ⟨g, off + k, none⟩ = some v0 ∧ W.cell? ⟨g', off' + k, none⟩ = some u0 ∧ Below wr.heap.size wr W) (by kernel_rfl) ⟨HCC.out.1, HCC.out.2, below_drew _⟩ (fun hHeld => ?_)
      refine take_v (v := ?_) 0 ⟨some 17, Op.move (Operand.tmp 0), _, _, _, none⟩ rfl (fun _ _ _ h => h) ?_ hHeld ?_
      rotate_left
      · (intro W _; go_simp <;> (try with_reducible rfl))
      refine take_v (v := ?_) 1 ⟨some 18, Op.move (Operand.tmp 5), _, _, _, none⟩ rfl (fun _ _ _ h => h) ?_ hHeld ?_
      rotate_left
      · (intro W _; go_simp <;> (try with_reducible rfl))
      refine take_v (v := ?_) 2 ⟨some 19, Op.indexAddr 27 (Operand.tmp 17) (Operand.tmp 18), _, _, _, none⟩ rfl (fun _ _ _ h => h) ?_ hHeld ?_
      rotate_left
      · (intro W _; go_simp <;> (try with_reducible rfl))
      refine take_v (v := ?_) 3 ⟨some 20, Op.load 42 (Operand.tmp 19), _, _, _, none⟩ rfl (fun _ _ _ h => h) ?_ hHeld ?_
      rotate_left
      · (intro W hSW; obtain ⟨sw0, sw1, sw2⟩ := hSW; go_simp <;> (try with_reducible rfl))
      refine take_v (v := ?_) 4 ⟨some 21, Op.move (Operand.tmp 1), _, _, _, none⟩ rfl (fun _ _ _ h => h) ?_ hHeld ?_
      rotate_left
      · (intro W _; go_simp <;> (try with_reducible rfl))
      refine take_v (v := ?_) 5 ⟨some 22, Op.move (Operand.tmp 5), _, _, _, none⟩ rfl (fun _ _ _ h => h) ?_ hHeld ?_
      rotate_left
      · (intro W _; go_simp <;> (try with_reducible rfl))
      refine take_v (v := ?_) 6 ⟨some 23, Op.indexAddr 27 (Operand.tmp 21) (Operand.tmp 22), _, _, _, none⟩ rfl (fun _ _ _ h => h) ?_ hHeld ?_
      rotate_left
      · (intro W _; go_simp <;> (try with_reducible rfl))
      refine take_v (v := ?_) 7 ⟨some 24, Op.load 42 (Operand.tmp 23), _, _, _, none⟩ rfl (fun _ _ _ h => h) ?_ hHeld ?_
      rotate_left
      · (intro W hSW; obtain ⟨sw0, sw1, sw2⟩ := hSW; go_simp <;> (try with_reducible rfl))
      refine ready_call 8 ⟨some 25, Op.call { callee := Callee.value (Operand.func 73), args := #[Operand.tmp 20, Operand.tmp 24], argTypes := #[42, 42] }, _, _, _, none⟩ (by kernel_rfl) rfl (by kernel_rfl) (fun KC hK => ?_)
      go_wp2_with fail
      refine (eqShard_n [v0] [u0] x[k].1 _ HCS.out.2.2.1 HCS.out.1 HCS.out.2.1).mono ?_
      rintro r w2 ⟨rfl, hb⟩
      have H2 : Hid (Below w.heap.size w w2) := HCS.out.2.2.2.trans (hb.mono HCS.out.2.2.2.size)
      have hbw : Below wr.heap.size wr w2 := (below_drew wr).trans hb
      refine hK.out _ _ ⟨(hbw.cell (p := ⟨g, off + k, none⟩) hgs).trans HCC.out.1, (hbw.cell (p := ⟨g', off' + k, none⟩) hgs').trans HCC.out.2, hbw⟩ (fun hHeld => ?_)
      clear hK KC
      refine take_v (v := ?_) 9 ⟨some 26, Op.unOp UnOp.not 4 (Operand.tmp 25), _, _, _, none⟩ rfl (fun _ _ _ h => h) ?_ hHeld ?_
      rotate_left
      · (intro W _; go_simp <;> (try with_reducible rfl))
      refine wpAnyH_done (by kernel_rfl) ?_ _
      refine NoPanic.normal ?_
      clear hHeld hb hbw
      go_wp2
      go_roundw
      case rel => exact ⟨k + 1, by omega, by go_num, H2.out⟩
      case measure => simp [intOf]; omega
    · have hkn : k = n := by omega
      subst hkn
      have HB : Hid (Below w.heap.size w wr) := hBr
      clear hBr
      go_wp2
      go_ret
      exact ⟨rfl, HB.out⟩
set_option maxRecDepth 100000 in
set_option maxHeartbeats 4000000 in
theorem eqCommit_n (cs cs' : List Value) (x0 : List (Sh.T shShard)) (x1 : Int) (x2 : Int) (w : World) (hz : szD shCommit (x0, x1, x2, ()) ≤ 1073741824) (h : Lies w shCommit cs (x0, x1, x2, ())) (h' : Lies w shCommit cs' (x0, x1, x2, ())) :
    Calls Tryd.prog 21 #[.agg cs.toArray, .agg cs'.toArray] w fun r w' => r = .returned (.bool true) ∧ Below w.heap.size w w' := by
  obtain ⟨a1, k1, rfl, h1⟩ := lies_Commit h
  obtain ⟨b1, m1, rfl, q1⟩ := lies_Commit h'
  have HE : Hid (szD shCommit (x0, x1, x2, ()) = (szD (.list shShard) x0 + (0 + (0 + 0)))) := rfl
  have HZ : Hid (szD shCommit (x0, x1, x2, ()) ≤ 1073741824) := hz
  have HL : Hid (True ∧ Lies w (.list shShard) [.slice a1 x0.length k1] x0) := ⟨trivial, h1⟩
  have HQ : Hid (True ∧ Lies w (.list shShard) [.slice b1 x0.length m1] x0) := ⟨trivial, q1⟩
  clear h h' hz h1 q1
  go_enter Tryd.func21, Tryd.ntmps21
  go_wp2_with fail
  obtain ⟨w0, hW⟩ : ∃ x, x = (w.alloc (.cells #[.slice a1 x0.length k1, .int .i64 x1, .int .i64 x2] 29)).alloc (.cells #[.slice b1 x0.length m1, .int .i64 x1, .int .i64 x2] 29) := ⟨_, rfl⟩
  have HB0 : Hid (Below w.heap.size w w0 ∧ Bx w0 w.heap.size [.slice a1 x0.length k1, .int .i64 x1, .int .i64 x2] ∧ Bx w0 (w.heap.size + 1) [.slice b1 x0.length m1, .int .i64 x1, .int .i64 x2]) := hW ▸ ⟨((Below.refl _ _).alloc (Nat.le_refl _) _).alloc (by simp) _, (Bx.new w [.slice a1 x0.length k1, .int .i64 x1, .int .i64 x2] _).alloc _, Bx.newAt (by simp)⟩
  rw [← hW]
  clear hW
  refine (eqShardS_n _ _ _ _ x0 _ (by have := HZ.out; rw [HE.out] at this; omega) (HL.out.2.next HB0.out.1) (HQ.out.2.next HB0.out.1)).mono ?_
  rintro r w1 ⟨rfl, hb⟩
  have HB1 : Hid (Below w.heap.size w w1 ∧ Bx w1 w.heap.size [.slice a1 x0.length k1, .int .i64 x1, .int .i64 x2] ∧ Bx w1 (w.heap.size + 1) [.slice b1 x0.length m1, .int .i64 x1, .int .i64 x2]) := ⟨HB0.out.1.trans (hb.mono HB0.out.1.size), HB0.out.2.1.next hb, HB0.out.2.2.next hb⟩
  clear hb HB0
  have d0 := HB1.out.2.1.cell 0 rfl
  have d1 := HB1.out.2.1.cell 1 rfl
  have d2 := HB1.out.2.1.cell 2 rfl
  have dz := HB1.out.2.1.2
  have e0 := HB1.out.2.2.cell 0 rfl
  have e1 := HB1.out.2.2.cell 1 rfl
  have e2 := HB1.out.2.2.cell 2 rfl
  have ez := HB1.out.2.2.2
  go_wp2
  go_ret
  exact ⟨rfl, HB1.out.1⟩
set_option maxRecDepth 100000 in
set_option maxHeartbeats 4000000 in
theorem eqCommitStep_n (cs cs' : List Value) (x0 : Int) (x1 : Int) (x2 : Int) (w : World) (hz : szD shCommitStep (x0, x1, x2, ()) ≤ 1073741824) (h : Lies w shCommitStep cs (x0, x1, x2, ())) (h' : Lies w shCommitStep cs' (x0, x1, x2, ())) :
    Calls Tryd.prog 57 #[.agg cs.toArray, .agg cs'.toArray] w fun r w' => r = .returned (.bool true) ∧ Below w.heap.size w w' := by
  obtain rfl := lies_CommitStep h
  obtain rfl := lies_CommitStep h'
  clear h h' hz
  go_enter Tryd.func57, Tryd.ntmps57
  go_wp2
  go_ret
  exact ⟨rfl, (by repeat (first | refine Below.setCell ?_ (by (try simp) <;> omega) _ | refine Below.alloc ?_ (by (try simp) <;> omega) _ | refine Below.drew ?_ | assumption | exact Below.refl _ _ | refine Below.trans ?_ (Below.mono (by assumption) (by (try simp) <;> omega))))⟩
set_option maxRecDepth 100000 in
set_option maxHeartbeats 4000000 in
theorem eqCommitStepS_n (a a' : Option Addr) (cap cap' : Nat) (x : List (Sh.T shCommitStep)) (w : World) (hz : szD (.list shCommitStep) x ≤ 1073741824) (h : Lies w (.list shCommitStep) [.slice a x.length cap] x) (h' : Lies w (.list shCommitStep) [.slice a' x.length cap'] x) :
    Calls Tryd.prog 29 #[.slice a x.length cap, .slice a' x.length cap'] w fun r w' => r = .returned (.bool true) ∧ Below w.heap.size w w' := by
  have HL : Hid (Lies w (.list shCommitStep) [.slice a x.length cap] x ∧ Lies w (.list shCommitStep) [.slice a' x.length cap'] x ∧ szD (.list shCommitStep) x ≤ 1073741824) := ⟨h, h', hz⟩
  have hn : x.length ≤ 1073741824 := by simp only [szD] at hz; omega
  clear h h' hz
  obtain ⟨n, hnn⟩ : ∃ n, n = x.length := ⟨_, rfl⟩
  have HN : Hid (n = x.length) := hnn
  rw [← hnn] at hn ⊢
  clear hnn
  go_enter Tryd.func29, Tryd.ntmps29
  go_wp2
  go_loopw [5] (fun i wr => ∃ k : Nat, k ≤ n ∧ i = .int .i64 k ∧ Below w.heap.size w wr) (fun i _ => n - (intOf i).toNat)
  case atStart => exact ⟨0, Nat.zero_le _, rfl, Below.refl _ _⟩
  case round =>
    obtain ⟨k, hk, rfl, hBr⟩ := hrel
    by_cases hlt : k < n
    · have hlx : k < x.length := by have := HN.out; omega
      obtain ⟨g, off, hgo, hgs, ec, hel, hec, hle⟩ := Lies.elem (HL.out.1.next hBr) hlx
      subst hgo
      obtain ⟨g', off', hgo, hgs', ec', hel', hec', hle'⟩ := Lies.elem (HL.out.2.1.next hBr) hlx
      subst hgo
      have hlt' : (k : Int) < (n : Int) := by omega
      have HCS : Hid (Lies wr.drew shCommitStep ec x[k] ∧ Lies wr.drew shCommitStep ec' x[k] ∧ szD shCommitStep x[k] ≤ 1073741824 ∧ Below w.heap.size w wr.drew) := ⟨hle.next (below_drew _), hle'.next (below_drew _), by have := sz_mem (List.getElem_mem hlx); have := HL.out.2.2; omega, hBr.trans ((below_drew _).mono hBr.size)⟩
      obtain ⟨v0, v1, v2, hev⟩ := list_of3 hel
      subst hev
      obtain ⟨u0, u1, u2, hev⟩ := list_of3 hel'
      subst hev
      have HCC : Hid (wr.cell? ⟨g, off + k * 3, none⟩ = some v0 ∧ wr.cell? ⟨g, off + k * 3 + 1, none⟩ = some v1 ∧ wr.cell? ⟨g, off + k * 3 + 2, none⟩ = some v2 ∧ wr.cell? ⟨g', off' + k * 3, none⟩ = some u0 ∧ wr.cell? ⟨g', off' + k * 3 + 1, none⟩ = some u1 ∧ wr.cell? ⟨g', off' + k * 3 + 2, none⟩ = some u2) := ⟨hec 0 (by simp), hec 1 (by simp), hec 2 (by simp), hec' 0 (by simp), hec' 1 (by simp), hec' 2 (by simp)⟩
      clear hec hec' hle hle' hel hel' hBr
      go_upto_region 6 with fail
      refine wp_region_noPanic ?_
      refine wp_region_held_drew (S := fun W => W.cell? ⟨g, off + k * 3, none⟩ = some v0 ∧ W.cell? ⟨g, off + k * 3 + 1, none⟩ = some v1 ∧ W.cell? ⟨g, off + k * 3 + 2, none⟩ = some v2 ∧ W.cell? ⟨g', off' + k * 3, none⟩ = some u0 ∧ W.cell? ⟨g', off' + k * 3 + 1, none⟩ = some u1 ∧ W.cell? ⟨g', off' + k * 3 + 2, none⟩ = some u2 ∧ Below wr.heap.size wr W) (by kernel_rfl) ⟨HCC.out.1, HCC.out.2.1, HCC.out.2.2.1, HCC.out.2.2.2.1, HCC.out.2.2.2.2.1, HCC.out.2.2.2.2.2, below_drew _⟩ (fun hHeld => ?_)
      refine take_v (v := ?_) 0 ⟨some 17, Op.move (Operand.tmp 0), _, _, _, none⟩ rfl (fun _ _ _ h => h) ?_ hHeld ?_
      rotate_left
      · (intro W _; go_simp <;> (try with_reducible rfl))
      refine take_v (v := ?_) 1 ⟨some 18, Op.move (Operand.tmp 5), _, _, _, none⟩ rfl (fun _ _ _ h => h) ?_ hHeld ?_
      rotate_left
      · (intro W _; go_simp <;> (try with_reducible rfl))
      refine take_v (v := ?_) 2 ⟨some 19, Op.indexAddr 24 (Operand.tmp 17) (Operand.tmp 18), _, _, _, none⟩ rfl (fun _ _ _ h => h) ?_ hHeld ?_
      rotate_left
      · (intro W _; go_simp <;> (try with_reducible rfl))
      refine take_v (v := ?_) 3 ⟨some 20, Op.load 48 (Operand.tmp 19), _, _, _, none⟩ rfl (fun _ _ _ h => h) ?_ hHeld ?_
      rotate_left
      · (intro W hSW; obtain ⟨sw0, sw1, sw2, sw3, sw4, sw5, sw6⟩ := hSW; go_simp <;> (try with_reducible rfl))
      refine take_v (v := ?_) 4 ⟨some 21, Op.move (Operand.tmp 1), _, _, _, none⟩ rfl (fun _ _ _ h => h) ?_ hHeld ?_
      rotate_left
      · (intro W _; go_simp <;> (try with_reducible rfl))
      refine take_v (v := ?_) 5 ⟨some 22, Op.move (Operand.tmp 5), _, _, _, none⟩ rfl (fun _ _ _ h => h) ?_ hHeld ?_
      rotate_left
      · (intro W _; go_simp <;> (try with_reducible rfl))
      refine take_v (v := ?_) 6 ⟨some 23, Op.indexAddr 24 (Operand.tmp 21) (Operand.tmp 22), _, _, _, none⟩ rfl (fun _ _ _ h => h) ?_ hHeld ?_
      rotate_left
      · (intro W _; go_simp <;> (try with_reducible rfl))
      refine take_v (v := ?_) 7 ⟨some 24, Op.load 48 (Operand.tmp 23), _, _, _, none⟩ rfl (fun _ _ _ h => h) ?_ hHeld ?_
      rotate_left
      · (intro W hSW; obtain ⟨sw0, sw1, sw2, sw3, sw4, sw5, sw6⟩ := hSW; go_simp <;> (try with_reducible rfl))
      refine ready_call 8 ⟨some 25, Op.call { callee := Callee.value (Operand.func 57), args := #[Operand.tmp 20, Operand.tmp 24], argTypes := #[48, 48] }, _, _, _, none⟩ (by kernel_rfl) rfl (by kernel_rfl) (fun KC hK => ?_)
      go_wp2_with fail
      refine (eqCommitStep_n [v0, v1, v2] [u0, u1, u2] x[k].1 x[k].2.1 x[k].2.2.1 _ HCS.out.2.2.1 HCS.out.1 HCS.out.2.1).mono ?_
      rintro r w2 ⟨rfl, hb⟩
      have H2 : Hid (Below w.heap.size w w2) := HCS.out.2.2.2.trans (hb.mono HCS.out.2.2.2.size)
      have hbw : Below wr.heap.size wr w2 := (below_drew wr).trans hb
      refine hK.out _ _ ⟨(hbw.cell (p := ⟨g, off + k * 3, none⟩) hgs).trans HCC.out.1, (hbw.cell (p := ⟨g, off + k * 3 + 1, none⟩) hgs).trans HCC.out.2.1, (hbw.cell (p := ⟨g, off + k * 3 + 2, none⟩) hgs).trans HCC.out.2.2.1, (hbw.cell (p := ⟨g', off' + k * 3, none⟩) hgs').trans HCC.out.2.2.2.1, (hbw.cell (p := ⟨g', off' + k * 3 + 1, none⟩) hgs').trans HCC.out.2.2.2.2.1, (hbw.cell (p := ⟨g', off' + k * 3 + 2, none⟩) hgs').trans HCC.out.2.2.2.2.2, hbw⟩ (fun hHeld => ?_)
      clear hK KC
      refine take_v (v := ?_) 9 ⟨some 26, Op.unOp UnOp.not 4 (Operand.tmp 25), _, _, _, none⟩ rfl (fun _ _ _ h => h) ?_ hHeld ?_
      rotate_left
      · (intro W _; go_simp <;> (try with_reducible rfl))
      refine wpAnyH_done (by kernel_rfl) ?_ _
      refine NoPanic.normal ?_
      clear hHeld hb hbw
      go_wp2
      go_roundw
      case rel => exact ⟨k + 1, by omega, by go_num, H2.out⟩
      case measure => simp [intOf]; omega
    · have hkn : k = n := by omega
      subst hkn
      have HB : Hid (Below w.heap.size w wr) := hBr
      clear hBr
      go_wp2
      go_ret
      exact ⟨rfl, HB.out⟩
set_option maxRecDepth 100000 in
set_option maxHeartbeats 4000000 in
theorem eqBoolS_n (a a' : Option Addr) (cap cap' : Nat) (x : List (Sh.T .bool)) (w : World) (hz : szD (.list .bool) x ≤ 1073741824) (h : Lies w (.list .bool) [.slice a x.length cap] x) (h' : Lies w (.list .bool) [.slice a' x.length cap'] x) :
    Calls Tryd.prog 27 #[.slice a x.length cap, .slice a' x.length cap'] w fun r w' => r = .returned (.bool true) ∧ Below w.heap.size w w' := by
  have HL : Hid (Lies w (.list .bool) [.slice a x.length cap] x ∧ Lies w (.list .bool) [.slice a' x.length cap'] x ∧ szD (.list .bool) x ≤ 1073741824) := ⟨h, h', hz⟩
  have hn : x.length ≤ 1073741824 := by simp only [szD] at hz; omega
  clear h h' hz
  obtain ⟨n, hnn⟩ : ∃ n, n = x.length := ⟨_, rfl⟩
  have HN : Hid (n = x.length) := hnn
  rw [← hnn] at hn ⊢
  clear hnn
  go_enter Tryd.func27, Tryd.ntmps27
  go_wp2
  go_loopw [5] (fun i wr => ∃ k : Nat, k ≤ n ∧ i = .int .i64 k ∧ Below w.heap.size w wr) (fun i _ => n - (intOf i).toNat)
  case atStart => exact ⟨0, Nat.zero_le _, rfl, Below.refl _ _⟩
  case round =>
    obtain ⟨k, hk, rfl, hBr⟩ := hrel
    by_cases hlt : k < n
    · have hlx : k < x.length := by have := HN.out; omega
      obtain ⟨g, off, hgo, hgs, ec, hel, hec, hle⟩ := Lies.elem (HL.out.1.next hBr) hlx
      subst hgo
      obtain ⟨g', off', hgo, hgs', ec', hel', hec', hle'⟩ := Lies.elem (HL.out.2.1.next hBr) hlx
      subst hgo
      have hlt' : (k : Int) < (n : Int) := by omega
      have hev : ec = [.bool x[k]] := hle
      subst hev
      have hev : ec' = [.bool x[k]] := hle'
      subst hev
      have c0 : wr.cell? ⟨g, off + k, none⟩ = some (.bool x[k]) := by have := hec 0 (by simp); simpa [Sh.c] using this
      have d0 : wr.cell? ⟨g', off' + k, none⟩ = some (.bool x[k]) := by have := hec' 0 (by simp); simpa [Sh.c] using this
      clear hec hec' hle hle' hel hel'
      generalize x[k] = xk at *
      go_upto_region 6 with fail
      go_cut [25] (fun s25 wx => s25 = .bool false ∧ Below w.heap.size w wx)
      case first =>
        go_region
        all_goals (go_wp2_with fail; go_meet; exact ⟨rfl, hBr.drew⟩)
      case rest =>
        obtain ⟨rfl, hb2⟩ := hcut
        go_wp2
        go_roundw
        case rel => exact ⟨k + 1, by omega, by go_num, hb2⟩
        case measure => simp [intOf]; omega
    · have hkn : k = n := by omega
      subst hkn
      have HB : Hid (Below w.heap.size w wr) := hBr
      clear hBr
      go_wp2
      go_ret
      exact ⟨rfl, HB.out⟩
end Go.Proofs.YtkpobihpcnoemaaDoor
