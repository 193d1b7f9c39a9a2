/- The law's own functions that hold two data against each other. Written by tools/nest.py. -/
import Derived.Test.YtaofolbnommpgaaMgA
import Derived.Test.YtaofolbnommpgaaProg
import Derived.WalkKit
import Derived.WalkSpells
import Derived.WalkLawsBesides
import Derived.Test.YtaofolbnommpgaaRg2
import Derived.Deep.RegionWith
import Derived.Deep.DeepCutAuto
namespace Go.Proofs.Ytaofolbnommpgaa
open Go.RowKit
set_option linter.unusedVariables false
set_option linter.unusedSimpArgs false

set_option maxRecDepth 100000 in
set_option maxHeartbeats 4000000 in
theorem eqCopy_n (cs cs' : List Value) (x0 : Int) (x1 : Int) (x2 : ByteArray) (w : World) (hz : szD shCopy (x0, x1, x2, ()) ≤ 1073741824) (h : Lies w shCopy cs (x0, x1, x2, ())) (h' : Lies w shCopy cs' (x0, x1, x2, ())) :
    Calls Try.prog 44 #[.agg cs.toArray, .agg cs'.toArray] w fun r w' => r = .returned (.bool true) ∧ Below w.heap.size w w' := by
  obtain rfl := lies_Copy h
  obtain rfl := lies_Copy h'
  clear h h' hz
  go_enter Try.func44, Try.ntmps44
  go_wp2
  go_ret
  exact ⟨rfl, (by repeat (first | refine Below.setCell ?_ (by (try simp) <;> omega) _ | refine Below.alloc ?_ (by (try simp) <;> omega) _ | refine Below.drew ?_ | assumption | exact Below.refl _ _ | refine Below.trans ?_ (Below.mono (by assumption) (by (try simp) <;> omega))))⟩
set_option maxRecDepth 100000 in
set_option maxHeartbeats 4000000 in
theorem eqCopyS_n (a a' : Option Addr) (cap cap' : Nat) (x : List (Sh.T shCopy)) (w : World) (hz : szD (.list shCopy) x ≤ 1073741824) (h : Lies w (.list shCopy) [.slice a x.length cap] x) (h' : Lies w (.list shCopy) [.slice a' x.length cap'] x) :
    Calls Try.prog 73 #[.slice a x.length cap, .slice a' x.length cap'] w fun r w' => r = .returned (.bool true) ∧ Below w.heap.size w w' := by
  have HL : Hid (Lies w (.list shCopy) [.slice a x.length cap] x ∧ Lies w (.list shCopy) [.slice a' x.length cap'] x ∧ szD (.list shCopy) x ≤ 1073741824) := ⟨h, h', hz⟩
  have hn : x.length ≤ 1073741824 := by simp only [szD] at hz; omega
  clear h h' hz
  obtain ⟨n, hnn⟩ : ∃ n, n = x.length := ⟨_, rfl⟩
  have HN : Hid (n = x.length) := hnn
  rw [← hnn] at hn ⊢
  clear hnn
  go_enter Try.func73, Try.ntmps73
  go_wp2
  go_loopw [5] (fun i wr => ∃ k : Nat, k ≤ n ∧ i = .int .i64 k ∧ Below w.heap.size w wr) (fun i _ => n - (intOf i).toNat)
  case atStart => exact ⟨0, Nat.zero_le _, rfl, Below.refl _ _⟩
  case round =>
    obtain ⟨k, hk, rfl, hBr⟩ := hrel
    by_cases hlt : k < n
    · have hlx : k < x.length := by have := HN.out; omega
      obtain ⟨g, off, hgo, hgs, ec, hel, hec, hle⟩ := Lies.elem (HL.out.1.next hBr) hlx
      subst hgo
      obtain ⟨g', off', hgo, hgs', ec', hel', hec', hle'⟩ := Lies.elem (HL.out.2.1.next hBr) hlx
      subst hgo
      have hlt' : (k : Int) < (n : Int) := by omega
      have HCS : Hid (Lies wr.drew shCopy ec x[k] ∧ Lies wr.drew shCopy ec' x[k] ∧ szD shCopy x[k] ≤ 1073741824 ∧ Below w.heap.size w wr.drew) := ⟨hle.next (below_drew _), hle'.next (below_drew _), by have := sz_mem (List.getElem_mem hlx); have := HL.out.2.2; omega, hBr.trans ((below_drew _).mono hBr.size)⟩
      obtain ⟨v0, v1, v2, hev⟩ := list_of3 hel
      subst hev
      obtain ⟨u0, u1, u2, hev⟩ := list_of3 hel'
      subst hev
      have HCC : Hid (wr.cell? ⟨g, off + k * 3, none⟩ = some v0 ∧ wr.cell? ⟨g, off + k * 3 + 1, none⟩ = some v1 ∧ wr.cell? ⟨g, off + k * 3 + 2, none⟩ = some v2 ∧ wr.cell? ⟨g', off' + k * 3, none⟩ = some u0 ∧ wr.cell? ⟨g', off' + k * 3 + 1, none⟩ = some u1 ∧ wr.cell? ⟨g', off' + k * 3 + 2, none⟩ = some u2) := ⟨hec 0 (by simp), hec 1 (by simp), hec 2 (by simp), hec' 0 (by simp), hec' 1 (by simp), hec' 2 (by simp)⟩
      clear hec hec' hle hle' hel hel' hBr
      go_upto_region 6 with fail
      refine wp_region_noPanic ?_
      refine wp_region_held_drew (S := fun W => W.cell? ⟨g, off + k * 3, none⟩ = some v0 ∧ W.cell? ⟨g, off + k * 3 + 1, none⟩ = some v1 ∧ W.cell? ⟨g, off + k * 3 + 2, none⟩ = some v2 ∧ W.cell? ⟨g', off' + k * 3, none⟩ = some u0 ∧ W.cell? ⟨g', off' + k * 3 + 1, none⟩ = some u1 ∧ W.cell? ⟨g', off' + k * 3 + 2, none⟩ = some u2 ∧ Below wr.heap.size wr W) (by kernel_rfl) ⟨HCC.out.1, HCC.out.2.1, HCC.out.2.2.1, HCC.out.2.2.2.1, HCC.out.2.2.2.2.1, HCC.out.2.2.2.2.2, below_drew _⟩ (fun hHeld => ?_)
      refine take_v (v := ?_) 0 ⟨some 17, Op.move (Operand.tmp 0), _, _, _, none⟩ rfl (fun _ _ _ h => h) ?_ hHeld ?_
      rotate_left
      · (intro W _; go_simp <;> (try with_reducible rfl))
      refine take_v (v := ?_) 1 ⟨some 18, Op.move (Operand.tmp 5), _, _, _, none⟩ rfl (fun _ _ _ h => h) ?_ hHeld ?_
      rotate_left
      · (intro W _; go_simp <;> (try with_reducible rfl))
      refine take_v (v := ?_) 2 ⟨some 19, Op.indexAddr 26 (Operand.tmp 17) (Operand.tmp 18), _, _, _, none⟩ rfl (fun _ _ _ h => h) ?_ hHeld ?_
      rotate_left
      · (intro W _; go_simp <;> (try with_reducible rfl))
      refine take_v (v := ?_) 3 ⟨some 20, Op.load 48 (Operand.tmp 19), _, _, _, none⟩ rfl (fun _ _ _ h => h) ?_ hHeld ?_
      rotate_left
      · (intro W hSW; obtain ⟨sw0, sw1, sw2, sw3, sw4, sw5, sw6⟩ := hSW; go_simp <;> (try with_reducible rfl))
      refine take_v (v := ?_) 4 ⟨some 21, Op.move (Operand.tmp 1), _, _, _, none⟩ rfl (fun _ _ _ h => h) ?_ hHeld ?_
      rotate_left
      · (intro W _; go_simp <;> (try with_reducible rfl))
      refine take_v (v := ?_) 5 ⟨some 22, Op.move (Operand.tmp 5), _, _, _, none⟩ rfl (fun _ _ _ h => h) ?_ hHeld ?_
      rotate_left
      · (intro W _; go_simp <;> (try with_reducible rfl))
      refine take_v (v := ?_) 6 ⟨some 23, Op.indexAddr 26 (Operand.tmp 21) (Operand.tmp 22), _, _, _, none⟩ rfl (fun _ _ _ h => h) ?_ hHeld ?_
      rotate_left
      · (intro W _; go_simp <;> (try with_reducible rfl))
      refine take_v (v := ?_) 7 ⟨some 24, Op.load 48 (Operand.tmp 23), _, _, _, none⟩ rfl (fun _ _ _ h => h) ?_ hHeld ?_
      rotate_left
      · (intro W hSW; obtain ⟨sw0, sw1, sw2, sw3, sw4, sw5, sw6⟩ := hSW; go_simp <;> (try with_reducible rfl))
      refine ready_call 8 ⟨some 25, Op.call { callee := Callee.value (Operand.func 44), args := #[Operand.tmp 20, Operand.tmp 24], argTypes := #[48, 48] }, _, _, _, none⟩ (by kernel_rfl) rfl (by kernel_rfl) (fun KC hK => ?_)
      go_wp2_with fail
      refine (eqCopy_n [v0, v1, v2] [u0, u1, u2] x[k].1 x[k].2.1 x[k].2.2.1 _ HCS.out.2.2.1 HCS.out.1 HCS.out.2.1).mono ?_
      rintro r w2 ⟨rfl, hb⟩
      have H2 : Hid (Below w.heap.size w w2) := HCS.out.2.2.2.trans (hb.mono HCS.out.2.2.2.size)
      have hbw : Below wr.heap.size wr w2 := (below_drew wr).trans hb
      refine hK.out _ _ ⟨(hbw.cell (p := ⟨g, off + k * 3, none⟩) hgs).trans HCC.out.1, (hbw.cell (p := ⟨g, off + k * 3 + 1, none⟩) hgs).trans HCC.out.2.1, (hbw.cell (p := ⟨g, off + k * 3 + 2, none⟩) hgs).trans HCC.out.2.2.1, (hbw.cell (p := ⟨g', off' + k * 3, none⟩) hgs').trans HCC.out.2.2.2.1, (hbw.cell (p := ⟨g', off' + k * 3 + 1, none⟩) hgs').trans HCC.out.2.2.2.2.1, (hbw.cell (p := ⟨g', off' + k * 3 + 2, none⟩) hgs').trans HCC.out.2.2.2.2.2, hbw⟩ (fun hHeld => ?_)
      clear hK KC
      refine take_v (v := ?_) 9 ⟨some 26, Op.unOp UnOp.not 4 (Operand.tmp 25), _, _, _, none⟩ rfl (fun _ _ _ h => h) ?_ hHeld ?_
      rotate_left
      · (intro W _; go_simp <;> (try with_reducible rfl))
      refine wpAnyH_done (by kernel_rfl) ?_ _
      refine NoPanic.normal ?_
      clear hHeld hb hbw
      go_wp2
      go_roundw
      case rel => exact ⟨k + 1, by omega, by go_num, H2.out⟩
      case measure => simp [intOf]; omega
    · have hkn : k = n := by omega
      subst hkn
      have HB : Hid (Below w.heap.size w wr) := hBr
      clear hBr
      go_wp2
      go_ret
      exact ⟨rfl, HB.out⟩
set_option maxRecDepth 100000 in
set_option maxHeartbeats 4000000 in
theorem eqIntS_n (a a' : Option Addr) (cap cap' : Nat) (x : List (Sh.T .int)) (w : World) (hz : szD (.list .int) x ≤ 1073741824) (h : Lies w (.list .int) [.slice a x.length cap] x) (h' : Lies w (.list .int) [.slice a' x.length cap'] x) :
    Calls Try.prog 124 #[.slice a x.length cap, .slice a' x.length cap'] w fun r w' => r = .returned (.bool true) ∧ Below w.heap.size w w' := by
  have HL : Hid (Lies w (.list .int) [.slice a x.length cap] x ∧ Lies w (.list .int) [.slice a' x.length cap'] x ∧ szD (.list .int) x ≤ 1073741824) := ⟨h, h', hz⟩
  have hn : x.length ≤ 1073741824 := by simp only [szD] at hz; omega
  clear h h' hz
  obtain ⟨n, hnn⟩ : ∃ n, n = x.length := ⟨_, rfl⟩
  have HN : Hid (n = x.length) := hnn
  rw [← hnn] at hn ⊢
  clear hnn
  go_enter Try.func124, Try.ntmps124
  go_wp2
  go_loopw [5] (fun i wr => ∃ k : Nat, k ≤ n ∧ i = .int .i64 k ∧ Below w.heap.size w wr) (fun i _ => n - (intOf i).toNat)
  case atStart => exact ⟨0, Nat.zero_le _, rfl, Below.refl _ _⟩
  case round =>
    obtain ⟨k, hk, rfl, hBr⟩ := hrel
    by_cases hlt : k < n
    · have hlx : k < x.length := by have := HN.out; omega
      obtain ⟨g, off, hgo, hgs, ec, hel, hec, hle⟩ := Lies.elem (HL.out.1.next hBr) hlx
      subst hgo
      obtain ⟨g', off', hgo, hgs', ec', hel', hec', hle'⟩ := Lies.elem (HL.out.2.1.next hBr) hlx
      subst hgo
      have hlt' : (k : Int) < (n : Int) := by omega
      have hev : ec = [.int .i64 x[k]] := hle
      subst hev
      have hev : ec' = [.int .i64 x[k]] := hle'
      subst hev
      have c0 : wr.cell? ⟨g, off + k, none⟩ = some (.int .i64 x[k]) := by have := hec 0 (by simp); simpa [Sh.c] using this
      have d0 : wr.cell? ⟨g', off' + k, none⟩ = some (.int .i64 x[k]) := by have := hec' 0 (by simp); simpa [Sh.c] using this
      clear hec hec' hle hle' hel hel'
      generalize x[k] = xk at *
      go_upto_region 6 with fail
      go_cut [25] (fun s25 wx => s25 = .bool false ∧ Below w.heap.size w wx)
      case first =>
        go_region
        all_goals (go_wp2_with fail; go_meet; exact ⟨rfl, hBr.drew⟩)
      case rest =>
        obtain ⟨rfl, hb2⟩ := hcut
        go_wp2
        go_roundw
        case rel => exact ⟨k + 1, by omega, by go_num, hb2⟩
        case measure => simp [intOf]; omega
    · have hkn : k = n := by omega
      subst hkn
      have HB : Hid (Below w.heap.size w wr) := hBr
      clear hBr
      go_wp2
      go_ret
      exact ⟨rfl, HB.out⟩
set_option maxRecDepth 100000 in
set_option maxHeartbeats 4000000 in
theorem eqRegOp_n (cs cs' : List Value) (x0 : Int) (x1 : Bool) (x2 : ByteArray) (x3 : Int) (x4 : List (Sh.T .int)) (x5 : Int) (x6 : Int) (x7 : ByteArray) (x8 : Int) (x9 : Int) (w : World) (hz : szD shRegOp (x0, x1, x2, x3, x4, (x5, x6, x7, ()), x8, x9, ()) ≤ 1073741824) (h : Lies w shRegOp cs (x0, x1, x2, x3, x4, (x5, x6, x7, ()), x8, x9, ())) (h' : Lies w shRegOp cs' (x0, x1, x2, x3, x4, (x5, x6, x7, ()), x8, x9, ())) :
    Calls Try.prog 105 #[.agg cs.toArray, .agg cs'.toArray] w fun r w' => r = .returned (.bool true) ∧ Below w.heap.size w w' := by
  obtain ⟨a1, k1, rfl, h1⟩ := lies_RegOp h
  obtain ⟨b1, m1, rfl, q1⟩ := lies_RegOp h'
  have HE : Hid (szD shRegOp (x0, x1, x2, x3, x4, (x5, x6, x7, ()), x8, x9, ()) = (0 + (0 + (x2.size + (0 + (szD (.list .int) x4 + (szD shCopy (x5, x6, x7, ()) + (0 + (0 + 0))))))))) := rfl
  have HZ : Hid (szD shRegOp (x0, x1, x2, x3, x4, (x5, x6, x7, ()), x8, x9, ()) ≤ 1073741824) := hz
  have HL : Hid (True ∧ Lies w (.list .int) [.slice a1 x4.length k1] x4) := ⟨trivial, h1⟩
  have HQ : Hid (True ∧ Lies w (.list .int) [.slice b1 x4.length m1] x4) := ⟨trivial, q1⟩
  clear h h' hz h1 q1
  go_enter Try.func105, Try.ntmps105
  go_wp2_with fail
  obtain ⟨w0, hW⟩ : ∃ x, x = (w.alloc (.cells #[.int .i64 x0, .bool x1, .string x2, .int .i64 x3, .slice a1 x4.length k1, .int .i64 x5, .int .i64 x6, .string x7, .int .i64 x8, .int .i64 x9] 53)).alloc (.cells #[.int .i64 x0, .bool x1, .string x2, .int .i64 x3, .slice b1 x4.length m1, .int .i64 x5, .int .i64 x6, .string x7, .int .i64 x8, .int .i64 x9] 53) := ⟨_, rfl⟩
  have HB0 : Hid (Below w.heap.size w w0 ∧ Bx w0 w.heap.size [.int .i64 x0, .bool x1, .string x2, .int .i64 x3, .slice a1 x4.length k1, .int .i64 x5, .int .i64 x6, .string x7, .int .i64 x8, .int .i64 x9] ∧ Bx w0 (w.heap.size + 1) [.int .i64 x0, .bool x1, .string x2, .int .i64 x3, .slice b1 x4.length m1, .int .i64 x5, .int .i64 x6, .string x7, .int .i64 x8, .int .i64 x9]) := hW ▸ ⟨((Below.refl _ _).alloc (Nat.le_refl _) _).alloc (by simp) _, (Bx.new w [.int .i64 x0, .bool x1, .string x2, .int .i64 x3, .slice a1 x4.length k1, .int .i64 x5, .int .i64 x6, .string x7, .int .i64 x8, .int .i64 x9] _).alloc _, Bx.newAt (by simp)⟩
  rw [← hW]
  clear hW
  refine (eqIntS_n _ _ _ _ x4 _ (by have := HZ.out; rw [HE.out] at this; omega) (HL.out.2.next HB0.out.1) (HQ.out.2.next HB0.out.1)).mono ?_
  rintro r w1 ⟨rfl, hb⟩
  have HB1 : Hid (Below w.heap.size w w1 ∧ Bx w1 w.heap.size [.int .i64 x0, .bool x1, .string x2, .int .i64 x3, .slice a1 x4.length k1, .int .i64 x5, .int .i64 x6, .string x7, .int .i64 x8, .int .i64 x9] ∧ Bx w1 (w.heap.size + 1) [.int .i64 x0, .bool x1, .string x2, .int .i64 x3, .slice b1 x4.length m1, .int .i64 x5, .int .i64 x6, .string x7, .int .i64 x8, .int .i64 x9]) := ⟨HB0.out.1.trans (hb.mono HB0.out.1.size), HB0.out.2.1.next hb, HB0.out.2.2.next hb⟩
  clear hb HB0
  have d0 := HB1.out.2.1.cell 0 rfl
  have d1 := HB1.out.2.1.cell 1 rfl
  have d2 := HB1.out.2.1.cell 2 rfl
  have d3 := HB1.out.2.1.cell 3 rfl
  have d4 := HB1.out.2.1.cell 4 rfl
  have d5 := HB1.out.2.1.cell 5 rfl
  have d6 := HB1.out.2.1.cell 6 rfl
  have d7 := HB1.out.2.1.cell 7 rfl
  have d8 := HB1.out.2.1.cell 8 rfl
  have d9 := HB1.out.2.1.cell 9 rfl
  have dz := HB1.out.2.1.2
  have e0 := HB1.out.2.2.cell 0 rfl
  have e1 := HB1.out.2.2.cell 1 rfl
  have e2 := HB1.out.2.2.cell 2 rfl
  have e3 := HB1.out.2.2.cell 3 rfl
  have e4 := HB1.out.2.2.cell 4 rfl
  have e5 := HB1.out.2.2.cell 5 rfl
  have e6 := HB1.out.2.2.cell 6 rfl
  have e7 := HB1.out.2.2.cell 7 rfl
  have e8 := HB1.out.2.2.cell 8 rfl
  have e9 := HB1.out.2.2.cell 9 rfl
  have ez := HB1.out.2.2.2
  go_wp2_with fail
  refine (eqCopy_n [.int .i64 x5, .int .i64 x6, .string x7] [.int .i64 x5, .int .i64 x6, .string x7] x5 x6 x7 _ (by have := HZ.out; rw [HE.out] at this; omega) mk_Copy mk_Copy).mono ?_
  rintro r w2 ⟨rfl, hb⟩
  have HB2 : Hid (Below w.heap.size w w2 ∧ Bx w2 w.heap.size [.int .i64 x0, .bool x1, .string x2, .int .i64 x3, .slice a1 x4.length k1, .int .i64 x5, .int .i64 x6, .string x7, .int .i64 x8, .int .i64 x9] ∧ Bx w2 (w.heap.size + 1) [.int .i64 x0, .bool x1, .string x2, .int .i64 x3, .slice b1 x4.length m1, .int .i64 x5, .int .i64 x6, .string x7, .int .i64 x8, .int .i64 x9]) := ⟨HB1.out.1.trans (hb.mono HB1.out.1.size), HB1.out.2.1.next hb, HB1.out.2.2.next hb⟩
  clear hb HB1 dz ez d0 e0 d1 e1 d2 e2 d3 e3 d4 e4 d5 e5 d6 e6 d7 e7 d8 e8 d9 e9
  have d0 := HB2.out.2.1.cell 0 rfl
  have d1 := HB2.out.2.1.cell 1 rfl
  have d2 := HB2.out.2.1.cell 2 rfl
  have d3 := HB2.out.2.1.cell 3 rfl
  have d4 := HB2.out.2.1.cell 4 rfl
  have d5 := HB2.out.2.1.cell 5 rfl
  have d6 := HB2.out.2.1.cell 6 rfl
  have d7 := HB2.out.2.1.cell 7 rfl
  have d8 := HB2.out.2.1.cell 8 rfl
  have d9 := HB2.out.2.1.cell 9 rfl
  have dz := HB2.out.2.1.2
  have e0 := HB2.out.2.2.cell 0 rfl
  have e1 := HB2.out.2.2.cell 1 rfl
  have e2 := HB2.out.2.2.cell 2 rfl
  have e3 := HB2.out.2.2.cell 3 rfl
  have e4 := HB2.out.2.2.cell 4 rfl
  have e5 := HB2.out.2.2.cell 5 rfl
  have e6 := HB2.out.2.2.cell 6 rfl
  have e7 := HB2.out.2.2.cell 7 rfl
  have e8 := HB2.out.2.2.cell 8 rfl
  have e9 := HB2.out.2.2.cell 9 rfl
  have ez := HB2.out.2.2.2
  go_wp2
  go_ret
  exact ⟨rfl, HB2.out.1⟩
set_option maxRecDepth 100000 in
set_option maxHeartbeats 4000000 in
theorem eqRegOpS_n (a a' : Option Addr) (cap cap' : Nat) (x : List (Sh.T shRegOp)) (w : World) (hz : szD (.list shRegOp) x ≤ 1073741824) (h : Lies w (.list shRegOp) [.slice a x.length cap] x) (h' : Lies w (.list shRegOp) [.slice a' x.length cap'] x) :
    Calls Try.prog 74 #[.slice a x.length cap, .slice a' x.length cap'] w fun r w' => r = .returned (.bool true) ∧ Below w.heap.size w w' := by
  have HL : Hid (Lies w (.list shRegOp) [.slice a x.length cap] x ∧ Lies w (.list shRegOp) [.slice a' x.length cap'] x ∧ szD (.list shRegOp) x ≤ 1073741824) := ⟨h, h', hz⟩
  have hn : x.length ≤ 1073741824 := by simp only [szD] at hz; omega
  clear h h' hz
  obtain ⟨n, hnn⟩ : ∃ n, n = x.length := ⟨_, rfl⟩
  have HN : Hid (n = x.length) := hnn
  rw [← hnn] at hn ⊢
  clear hnn
  go_enter Try.func74, Try.ntmps74
  go_wp2
  go_loopw [5] (fun i wr => ∃ k : Nat, k ≤ n ∧ i = .int .i64 k ∧ Below w.heap.size w wr) (fun i _ => n - (intOf i).toNat)
  case atStart => exact ⟨0, Nat.zero_le _, rfl, Below.refl _ _⟩
  case round =>
    obtain ⟨k, hk, rfl, hBr⟩ := hrel
    by_cases hlt : k < n
    · have hlx : k < x.length := by have := HN.out; omega
      obtain ⟨g, off, hgo, hgs, ec, hel, hec, hle⟩ := Lies.elem (HL.out.1.next hBr) hlx
      subst hgo
      obtain ⟨g', off', hgo, hgs', ec', hel', hec', hle'⟩ := Lies.elem (HL.out.2.1.next hBr) hlx
      subst hgo
      have hlt' : (k : Int) < (n : Int) := by omega
      have HCS : Hid (Lies wr.drew shRegOp ec x[k] ∧ Lies wr.drew shRegOp ec' x[k] ∧ szD shRegOp x[k] ≤ 1073741824 ∧ Below w.heap.size w wr.drew) := ⟨hle.next (below_drew _), hle'.next (below_drew _), by have := sz_mem (List.getElem_mem hlx); have := HL.out.2.2; omega, hBr.trans ((below_drew _).mono hBr.size)⟩
      obtain ⟨v0, v1, v2, v3, v4, v5, v6, v7, v8, v9, hev⟩ := list_of10 hel
      subst hev
      obtain ⟨u0, u1, u2, u3, u4, u5, u6, u7, u8, u9, hev⟩ := list_of10 hel'
      subst hev
      have HCC : Hid (wr.cell? ⟨g, off + k * 10, none⟩ = some v0 ∧ wr.cell? ⟨g, off + k * 10 + 1, none⟩ = some v1 ∧ wr.cell? ⟨g, off + k * 10 + 2, none⟩ = some v2 ∧ wr.cell? ⟨g, off + k * 10 + 3, none⟩ = some v3 ∧ wr.cell? ⟨g, off + k * 10 + 4, none⟩ = some v4 ∧ wr.cell? ⟨g, off + k * 10 + 5, none⟩ = some v5 ∧ wr.cell? ⟨g, off + k * 10 + 6, none⟩ = some v6 ∧ wr.cell? ⟨g, off + k * 10 + 7, none⟩ = some v7 ∧ wr.cell? ⟨g, off + k * 10 + 8, none⟩ = some v8 ∧ wr.cell? ⟨g, off + k * 10 + 9, none⟩ = some v9 ∧ wr.cell? ⟨g', off' + k * 10, none⟩ = some u0 ∧ wr.cell? ⟨g', off' + k * 10 + 1, none⟩ = some u1 ∧ wr.cell? ⟨g', off' + k * 10 + 2, none⟩ = some u2 ∧ wr.cell? ⟨g', off' + k * 10 + 3, none⟩ = some u3 ∧ wr.cell? ⟨g', off' + k * 10 + 4, none⟩ = some u4 ∧ wr.cell? ⟨g', off' + k * 10 + 5, none⟩ = some u5 ∧ wr.cell? ⟨g', off' + k * 10 + 6, none⟩ = some u6 ∧ wr.cell? ⟨g', off' + k * 10 + 7, none⟩ = some u7 ∧ wr.cell? ⟨g', off' + k * 10 + 8, none⟩ = some u8 ∧ wr.cell? ⟨g', off' + k * 10 + 9, none⟩ = some u9) := ⟨hec 0 (by simp), hec 1 (by simp), hec 2 (by simp), hec 3 (by simp), hec 4 (by simp), hec 5 (by simp), hec 6 (by simp), hec 7 (by simp), hec 8 (by simp), hec 9 (by simp), hec' 0 (by simp), hec' 1 (by simp), hec' 2 (by simp), hec' 3 (by simp), hec' 4 (by simp), hec' 5 (by simp), hec' 6 (by simp), hec' 7 (by simp), hec' 8 (by simp), hec' 9 (by simp)⟩
      clear hec hec' hle hle' hel hel' hBr
      go_upto_region 6 with fail
      refine wp_region_noPanic ?_
      refine wp_region_held_drew (S := fun W => W.cell? ⟨g, off + k * 10, none⟩ = some v0 ∧ W.cell? ⟨g, off + k * 10 + 1, none⟩ = some v1 ∧ W.cell? ⟨g, off + k * 10 + 2, none⟩ = some v2 ∧ W.cell? ⟨g, off + k * 10 + 3, none⟩ = some v3 ∧ W.cell? ⟨g, off + k * 10 + 4, none⟩ = some v4 ∧ W.cell? ⟨g, off + k * 10 + 5, none⟩ = some v5 ∧ W.cell? ⟨g, off + k * 10 + 6, none⟩ = some v6 ∧ W.cell? ⟨g, off + k * 10 + 7, none⟩ = some v7 ∧ W.cell? ⟨g, off + k * 10 + 8, none⟩ = some v8 ∧ W.cell? ⟨g, off + k * 10 + 9, none⟩ = some v9 ∧ W.cell? ⟨g', off' + k * 10, none⟩ = some u0 ∧ W.cell? ⟨g', off' + k * 10 + 1, none⟩ = some u1 ∧ W.cell? ⟨g', off' + k * 10 + 2, none⟩ = some u2 ∧ W.cell? ⟨g', off' + k * 10 + 3, none⟩ = some u3 ∧ W.cell? ⟨g', off' + k * 10 + 4, none⟩ = some u4 ∧ W.cell? ⟨g', off' + k * 10 + 5, none⟩ = some u5 ∧ W.cell? ⟨g', off' + k * 10 + 6, none⟩ = some u6 ∧ W.cell? ⟨g', off' + k * 10 + 7, none⟩ = some u7 ∧ W.cell? ⟨g', off' + k * 10 + 8, none⟩ = some u8 ∧ W.cell? ⟨g', off' + k * 10 + 9, none⟩ = some u9 ∧ Below wr.heap.size wr W) (by kernel_rfl) ⟨HCC.out.1, HCC.out.2.1, HCC.out.2.2.1, HCC.out.2.2.2.1, HCC.out.2.2.2.2.1, HCC.out.2.2.2.2.2.1, HCC.out.2.2.2.2.2.2.1, HCC.out.2.2.2.2.2.2.2.1, HCC.out.2.2.2.2.2.2.2.2.1, HCC.out.2.2.2.2.2.2.2.2.2.1, HCC.out.2.2.2.2.2.2.2.2.2.2.1, HCC.out.2.2.2.2.2.2.2.2.2.2.2.1, HCC.out.2.2.2.2.2.2.2.2.2.2.2.2.1, HCC.out.2.2.2.2.2.2.2.2.2.2.2.2.2.1, HCC.out.2.2.2.2.2.2.2.2.2.2.2.2.2.2.1, HCC.out.2.2.2.2.2.2.2.2.2.2.2.2.2.2.2.1, HCC.out.2.2.2.2.2.2.2.2.2.2.2.2.2.2.2.2.1, HCC.out.2.2.2.2.2.2.2.2.2.2.2.2.2.2.2.2.2.1, HCC.out.2.2.2.2.2.2.2.2.2.2.2.2.2.2.2.2.2.2.1, HCC.out.2.2.2.2.2.2.2.2.2.2.2.2.2.2.2.2.2.2.2, below_drew _⟩ (fun hHeld => ?_)
      refine take_v (v := ?_) 0 ⟨some 17, Op.move (Operand.tmp 0), _, _, _, none⟩ rfl (fun _ _ _ h => h) ?_ hHeld ?_
      rotate_left
      · (intro W _; go_simp <;> (try with_reducible rfl))
      refine take_v (v := ?_) 1 ⟨some 18, Op.move (Operand.tmp 5), _, _, _, none⟩ rfl (fun _ _ _ h => h) ?_ hHeld ?_
      rotate_left
      · (intro W _; go_simp <;> (try with_reducible rfl))
      refine take_v (v := ?_) 2 ⟨some 19, Op.indexAddr 27 (Operand.tmp 17) (Operand.tmp 18), _, _, _, none⟩ rfl (fun _ _ _ h => h) ?_ hHeld ?_
      rotate_left
      · (intro W _; go_simp <;> (try with_reducible rfl))
      refine take_v (v := ?_) 3 ⟨some 20, Op.load 53 (Operand.tmp 19), _, _, _, none⟩ rfl (fun _ _ _ h => h) ?_ hHeld ?_
      rotate_left
      · (intro W hSW; obtain ⟨sw0, sw1, sw2, sw3, sw4, sw5, sw6, sw7, sw8, sw9, sw10, sw11, sw12, sw13, sw14, sw15, sw16, sw17, sw18, sw19, sw20⟩ := hSW; go_simp <;> (try with_reducible rfl))
      refine take_v (v := ?_) 4 ⟨some 21, Op.move (Operand.tmp 1), _, _, _, none⟩ rfl (fun _ _ _ h => h) ?_ hHeld ?_
      rotate_left
      · (intro W _; go_simp <;> (try with_reducible rfl))
      refine take_v (v := ?_) 5 ⟨some 22, Op.move (Operand.tmp 5), _, _, _, none⟩ rfl (fun _ _ _ h => h) ?_ hHeld ?_
      rotate_left
      · (intro W _; go_simp <;> (try with_reducible rfl))
      refine take_v (v := ?_) 6 ⟨some 23, Op.indexAddr 27 (Operand.tmp 21) (Operand.tmp 22), _, _, _, none⟩ rfl (fun _ _ _ h => h) ?_ hHeld ?_
      rotate_left
      · (intro W _; go_simp <;> (try with_reducible rfl))
      refine take_v (v := ?_) 7 ⟨some 24, Op.load 53 (Operand.tmp 23), _, _, _, none⟩ rfl (fun _ _ _ h => h) ?_ hHeld ?_
      rotate_left
      · (intro W hSW; obtain ⟨sw0, sw1, sw2, sw3, sw4, sw5, sw6, sw7, sw8, sw9, sw10, sw11, sw12, sw13, sw14, sw15, sw16, sw17, sw18, sw19, sw20⟩ := hSW; go_simp <;> (try with_reducible rfl))
      refine ready_call 8 ⟨some 25, Op.call { callee := Callee.value (Operand.func 105), args := #[Operand.tmp 20, Operand.tmp 24], argTypes := #[53, 53] }, _, _, _, none⟩ (by kernel_rfl) rfl (by kernel_rfl) (fun KC hK => ?_)
      go_wp2_with fail
      refine (eqRegOp_n [v0, v1, v2, v3, v4, v5, v6, v7, v8, v9] [u0, u1, u2, u3, u4, u5, u6, u7, u8, u9] x[k].1 x[k].2.1 x[k].2.2.1 x[k].2.2.2.1 x[k].2.2.2.2.1 x[k].2.2.2.2.2.1.1 x[k].2.2.2.2.2.1.2.1 x[k].2.2.2.2.2.1.2.2.1 x[k].2.2.2.2.2.2.1 x[k].2.2.2.2.2.2.2.1 _ HCS.out.2.2.1 HCS.out.1 HCS.out.2.1).mono ?_
      rintro r w2 ⟨rfl, hb⟩
      have H2 : Hid (Below w.heap.size w w2) := HCS.out.2.2.2.trans (hb.mono HCS.out.2.2.2.size)
      have hbw : Below wr.heap.size wr w2 := (below_drew wr).trans hb
      refine hK.out _ _ ⟨(hbw.cell (p := ⟨g, off + k * 10, none⟩) hgs).trans HCC.out.1, (hbw.cell (p := ⟨g, off + k * 10 + 1, none⟩) hgs).trans HCC.out.2.1, (hbw.cell (p := ⟨g, off + k * 10 + 2, none⟩) hgs).trans HCC.out.2.2.1, (hbw.cell (p := ⟨g, off + k * 10 + 3, none⟩) hgs).trans HCC.out.2.2.2.1, (hbw.cell (p := ⟨g, off + k * 10 + 4, none⟩) hgs).trans HCC.out.2.2.2.2.1, (hbw.cell (p := ⟨g, off + k * 10 + 5, none⟩) hgs).trans HCC.out.2.2.2.2.2.1, (hbw.cell (p := ⟨g, off + k * 10 + 6, none⟩) hgs).trans HCC.out.2.2.2.2.2.2.1, (hbw.cell (p := ⟨g, off + k * 10 + 7, none⟩) hgs).trans HCC.out.2.2.2.2.2.2.2.1, (hbw.cell (p := ⟨g, off + k * 10 + 8, none⟩) hgs).trans HCC.out.2.2.2.2.2.2.2.2.1, (hbw.cell (p := ⟨g, off + k * 10 + 9, none⟩) hgs).trans HCC.out.2.2.2.2.2.2.2.2.2.1, (hbw.cell (p := ⟨g', off' + k * 10, none⟩) hgs').trans HCC.out.2.2.2.2.2.2.2.2.2.2.1, (hbw.cell (p := ⟨g', off' + k * 10 + 1, none⟩) hgs').trans HCC.out.2.2.2.2.2.2.2.2.2.2.2.1, (hbw.cell (p := ⟨g', off' + k * 10 + 2, none⟩) hgs').trans HCC.out.2.2.2.2.2.2.2.2.2.2.2.2.1, (hbw.cell (p := ⟨g', off' + k * 10 + 3, none⟩) hgs').trans HCC.out.2.2.2.2.2.2.2.2.2.2.2.2.2.1, (hbw.cell (p := ⟨g', off' + k * 10 + 4, none⟩) hgs').trans HCC.out.2.2.2.2.2.2.2.2.2.2.2.2.2.2.1, (hbw.cell (p := ⟨g', off' + k * 10 + 5, none⟩) hgs').trans HCC.out.2.2.2.2.2.2.2.2.2.2.2.2.2.2.2.1, (hbw.cell (p := ⟨g', off' + k * 10 + 6, none⟩) hgs').trans HCC.out.2.2.2.2.2.2.2.2.2.2.2.2.2.2.2.2.1, (hbw.cell (p := ⟨g', off' + k * 10 + 7, none⟩) hgs').trans HCC.out.2.2.2.2.2.2.2.2.2.2.2.2.2.2.2.2.2.1, (hbw.cell (p := ⟨g', off' + k * 10 + 8, none⟩) hgs').trans HCC.out.2.2.2.2.2.2.2.2.2.2.2.2.2.2.2.2.2.2.1, (hbw.cell (p := ⟨g', off' + k * 10 + 9, none⟩) hgs').trans HCC.out.2.2.2.2.2.2.2.2.2.2.2.2.2.2.2.2.2.2.2, hbw⟩ (fun hHeld => ?_)
      clear hK KC
      refine take_v (v := ?_) 9 ⟨some 26, Op.unOp UnOp.not 4 (Operand.tmp 25), _, _, _, none⟩ rfl (fun _ _ _ h => h) ?_ hHeld ?_
      rotate_left
      · (intro W _; go_simp <;> (try with_reducible rfl))
      refine wpAnyH_done (by kernel_rfl) ?_ _
      refine NoPanic.normal ?_
      clear hHeld hb hbw
      go_wp2
      go_roundw
      case rel => exact ⟨k + 1, by omega, by go_num, H2.out⟩
      case measure => simp [intOf]; omega
    · have hkn : k = n := by omega
      subst hkn
      have HB : Hid (Below w.heap.size w wr) := hBr
      clear hBr
      go_wp2
      go_ret
      exact ⟨rfl, HB.out⟩
set_option maxRecDepth 100000 in
set_option maxHeartbeats 4000000 in
theorem eqRegister_n (cs cs' : List Value) (x0 : Int) (x1 : List (Sh.T shCopy)) (x2 : List (Sh.T shRegOp)) (w : World) (hz : szD shRegister (x0, x1, x2, ()) ≤ 1073741824) (h : Lies w shRegister cs (x0, x1, x2, ())) (h' : Lies w shRegister cs' (x0, x1, x2, ())) :
    Calls Try.prog 25 #[.agg cs.toArray, .agg cs'.toArray] w fun r w' => r = .returned (.bool true) ∧ Below w.heap.size w w' := by
  obtain ⟨a1, k1, a2, k2, rfl, h1, h2⟩ := lies_Register h
  obtain ⟨b1, m1, b2, m2, rfl, q1, q2⟩ := lies_Register h'
  have HE : Hid (szD shRegister (x0, x1, x2, ()) = (0 + (szD (.list shCopy) x1 + (szD (.list shRegOp) x2 + 0)))) := rfl
  have HZ : Hid (szD shRegister (x0, x1, x2, ()) ≤ 1073741824) := hz
  have HL : Hid (True ∧ Lies w (.list shCopy) [.slice a1 x1.length k1] x1 ∧ Lies w (.list shRegOp) [.slice a2 x2.length k2] x2) := ⟨trivial, h1, h2⟩
  have HQ : Hid (True ∧ Lies w (.list shCopy) [.slice b1 x1.length m1] x1 ∧ Lies w (.list shRegOp) [.slice b2 x2.length m2] x2) := ⟨trivial, q1, q2⟩
  clear h h' hz h1 q1 h2 q2
  go_enter Try.func25, Try.ntmps25
  go_wp2_with fail
  obtain ⟨w0, hW⟩ : ∃ x, x = (w.alloc (.cells #[.int .i64 x0, .slice a1 x1.length k1, .slice a2 x2.length k2] 29)).alloc (.cells #[.int .i64 x0, .slice b1 x1.length m1, .slice b2 x2.length m2] 29) := ⟨_, rfl⟩
  have HB0 : Hid (Below w.heap.size w w0 ∧ Bx w0 w.heap.size [.int .i64 x0, .slice a1 x1.length k1, .slice a2 x2.length k2] ∧ Bx w0 (w.heap.size + 1) [.int .i64 x0, .slice b1 x1.length m1, .slice b2 x2.length m2]) := hW ▸ ⟨((Below.refl _ _).alloc (Nat.le_refl _) _).alloc (by simp) _, (Bx.new w [.int .i64 x0, .slice a1 x1.length k1, .slice a2 x2.length k2] _).alloc _, Bx.newAt (by simp)⟩
  rw [← hW]
  clear hW
  refine (eqCopyS_n _ _ _ _ x1 _ (by have := HZ.out; rw [HE.out] at this; omega) (HL.out.2.1.next HB0.out.1) (HQ.out.2.1.next HB0.out.1)).mono ?_
  rintro r w1 ⟨rfl, hb⟩
  have HB1 : Hid (Below w.heap.size w w1 ∧ Bx w1 w.heap.size [.int .i64 x0, .slice a1 x1.length k1, .slice a2 x2.length k2] ∧ Bx w1 (w.heap.size + 1) [.int .i64 x0, .slice b1 x1.length m1, .slice b2 x2.length m2]) := ⟨HB0.out.1.trans (hb.mono HB0.out.1.size), HB0.out.2.1.next hb, HB0.out.2.2.next hb⟩
  clear hb HB0
  have d0 := HB1.out.2.1.cell 0 rfl
  have d1 := HB1.out.2.1.cell 1 rfl
  have d2 := HB1.out.2.1.cell 2 rfl
  have dz := HB1.out.2.1.2
  have e0 := HB1.out.2.2.cell 0 rfl
  have e1 := HB1.out.2.2.cell 1 rfl
  have e2 := HB1.out.2.2.cell 2 rfl
  have ez := HB1.out.2.2.2
  go_wp2_with fail
  refine (eqRegOpS_n _ _ _ _ x2 _ (by have := HZ.out; rw [HE.out] at this; omega) (HL.out.2.2.next HB1.out.1) (HQ.out.2.2.next HB1.out.1)).mono ?_
  rintro r w2 ⟨rfl, hb⟩
  have HB2 : Hid (Below w.heap.size w w2 ∧ Bx w2 w.heap.size [.int .i64 x0, .slice a1 x1.length k1, .slice a2 x2.length k2] ∧ Bx w2 (w.heap.size + 1) [.int .i64 x0, .slice b1 x1.length m1, .slice b2 x2.length m2]) := ⟨HB1.out.1.trans (hb.mono HB1.out.1.size), HB1.out.2.1.next hb, HB1.out.2.2.next hb⟩
  clear hb HB1 dz ez d0 e0 d1 e1 d2 e2
  have d0 := HB2.out.2.1.cell 0 rfl
  have d1 := HB2.out.2.1.cell 1 rfl
  have d2 := HB2.out.2.1.cell 2 rfl
  have dz := HB2.out.2.1.2
  have e0 := HB2.out.2.2.cell 0 rfl
  have e1 := HB2.out.2.2.cell 1 rfl
  have e2 := HB2.out.2.2.cell 2 rfl
  have ez := HB2.out.2.2.2
  go_wp2
  go_ret
  exact ⟨rfl, HB2.out.1⟩
set_option maxRecDepth 100000 in
set_option maxHeartbeats 4000000 in
theorem eqRegStep_n (cs cs' : List Value) (x0 : Bool) (x1 : Int) (x2 : Bool) (x3 : ByteArray) (x4 : Int) (x5 : Int) (w : World) (hz : szD shRegStep (x0, x1, x2, x3, x4, x5, ()) ≤ 1073741824) (h : Lies w shRegStep cs (x0, x1, x2, x3, x4, x5, ())) (h' : Lies w shRegStep cs' (x0, x1, x2, x3, x4, x5, ())) :
    Calls Try.prog 83 #[.agg cs.toArray, .agg cs'.toArray] w fun r w' => r = .returned (.bool true) ∧ Below w.heap.size w w' := by
  obtain rfl := lies_RegStep h
  obtain rfl := lies_RegStep h'
  clear h h' hz
  go_enter Try.func83, Try.ntmps83
  go_wp2
  go_ret
  exact ⟨rfl, (by repeat (first | refine Below.setCell ?_ (by (try simp) <;> omega) _ | refine Below.alloc ?_ (by (try simp) <;> omega) _ | refine Below.drew ?_ | assumption | exact Below.refl _ _ | refine Below.trans ?_ (Below.mono (by assumption) (by (try simp) <;> omega))))⟩
end Go.Proofs.Ytaofolbnommpgaa
