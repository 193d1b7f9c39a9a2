/- Registers: CallsOf, on both sides. Written by tools/mkRgX.py. -/
import Derived.Test.YtjebnhbadbhaaaaRgV
import Derived.Test.YtjebnhbadbhaaaaNtE
namespace Go.Proofs.Ytjebnhbadbhaaaa
open Go.RowKit
set_option linter.unusedVariables false
set_option linter.unusedSimpArgs false

theorem inf_Call : (Try.prog.info? 88).map (fun i => (i.zero, i.size, i.bytes)) = some (some (.agg #[.int .i64 0, .bool false, .string ⟨#[]⟩, .string ⟨#[]⟩, .int .i64 0, .int .i64 0]), 6, 64) := by kernel_rfl
/-- A list and a bool are answered; the list is new. -/
def LisP (e : Sh) (l : List e.T) (ok : Bool) (w : World) (r : Ending) (w' : World) : Prop := ∃ a cap, r = .returned (.tuple #[.slice a l.length cap, .bool ok]) ∧ Own w' (.list e) [.slice a l.length cap] l (Btw w.heap.size w'.heap.size) ∧ Below w.heap.size w w'
noncomputable def caA (ck : Int) (cp : List (Sh.T shCopy)) (os : List (Sh.T shRegOp)) : List (Sh.T shCall) := if tf (goodR ck cp os) = true then caK os os.length else []
theorem caA_no {ck : Int} {cp : List (Sh.T shCopy)} {os : List (Sh.T shRegOp)} {w w' : World} (h : ¬ goodR ck cp os) (hb : Below w.heap.size w w') : LisP shCall (caA ck cp os) (tf (goodR ck cp os)) w (.returned (.tuple #[.slice none 0 0, .bool false])) w' := by
  have e1 : caA ck cp os = [] := if_neg (by rw [tf_no h]; simp)
  rw [e1, tf_no h]
  exact ⟨none, 0, rfl, Own.none (Nat.zero_le _), hb⟩
theorem caA_yes {ck : Int} {cp : List (Sh.T shCopy)} {os : List (Sh.T shRegOp)} {w w' : World} {v : Value} (h : goodR ck cp os) (ha : AppB w' w.heap.size 88 shCall v (caK os os.length)) (hb : Below w.heap.size w w') : LisP shCall (caA ck cp os) (tf (goodR ck cp os)) w (.returned (.tuple #[v, .bool true])) w' := by
  have e1 : caA ck cp os = caK os os.length := if_pos (tf_yes h)
  obtain ⟨a, cap, rfl, _, ho⟩ := ha.own
  rw [e1, tf_yes h]
  exact ⟨a, cap, rfl, ho, hb⟩
def mkCl (y0 : Int) (y1 : Bool) (y2 y3 : ByteArray) (y4 y5 : Int) : Sh.T shCall := (y0, y1, y2, y3, y4, y5, ())
theorem AppB.call {b w0 W w' : World} {v v' : Value} {l : List (Sh.T shCall)} {xs : List Value} {B : Nat → Nat → Prop} {y0 : Int} {y1 : Bool} {y2 y3 : ByteArray} {y4 y5 : Int} (h : AppR w0 b.heap.size shCall v l xs B) (ho : w0.ownsRow b.heap.size 88 6 v l.length xs) (hb : Below b.heap.size b w0) (hW : Below w0.heap.size w0 W)
    (h2 : w'.ownsRow b.heap.size 88 6 v' (l.length + 1) (xs ++ [.int .i64 y0, .bool y1, .string y2, .string y3, .int .i64 y4, .int .i64 y5])) (hg : W.grownBy w' v.ownBlock) (hwh : v'.ownBlock = v.ownBlock ∨ v'.ownBlock = some W.heap.size) :
    AppB w' b.heap.size 88 shCall v' (l ++ [mkCl y0 y1 y2 y3 y4 y5]) ∧ Below b.heap.size b w' :=
  ⟨AppR.app (e := shCall) (ec := [.int .i64 y0, .bool y1, .string y2, .string y3, .int .i64 y4, .int .i64 y5]) h ho hW rfl hb.size (mkown_Call (x0 := y0) (x1 := y1) (x2 := y2) (x3 := y3) (x4 := y4) (x5 := y5)) h2 hg hwh, (hb.trans (hW.mono hb.size)).grown hg (Nat.le_trans hb.size hW.size) (fun j hj => (ho.lt j hj).1)⟩

set_option maxRecDepth 100000 in
set_option maxHeartbeats 2000000 in
theorem callsOf_n (cs : List Value) (ck : Int) (cp : List (Sh.T shCopy)) (os : List (Sh.T shRegOp)) (w : World) (hz : szD shRegister (ck, cp, os, ()) ≤ 1073741824) (h : Lies w shRegister cs (ck, cp, os, ())) :
    Calls Try.prog 15 #[.agg cs.toArray] w (LisP shCall (caA ck cp os) (tf (goodR ck cp os)) w) := by
  obtain ⟨a1, k1, a2, k2, rfl, h1, h2⟩ := lies_Register h
  have HL : Hid (Lies w shRegister [.int .i64 ck, .slice a1 cp.length k1, .slice a2 os.length k2] (ck, cp, os, ()) ∧ Lies w (.list shRegOp) [.slice a2 os.length k2] os ∧ szD shRegister (ck, cp, os, ()) ≤ 1073741824) := ⟨h, h2, hz⟩
  clear h h1 h2 hz
  obtain ⟨i0, hi0, hz0, hz1, hz2⟩ := info_parts inf_Call
  obtain ⟨w0, hw0⟩ : ∃ x, x = w.alloc (.cells #[.int .i64 ck, .slice a1 cp.length k1, .slice a2 os.length k2] 29) := ⟨_, rfl⟩
  have HB0 : Hid (Bx w0 w.heap.size [.int .i64 ck, .slice a1 cp.length k1, .slice a2 os.length k2] ∧ Below w.heap.size w w0) := hw0 ▸ ⟨Bx.new w [_, _, _] _, Go.Joins.below_alloc1 _ _⟩
  go_enter Try.func15, Try.ntmps15
  go_wp2_with fail
  rw [← hw0]
  clear hw0
  refine (goodRegister_n _ ck cp os _ HL.out.2.2 (HL.out.1.next HB0.out.2)).mono ?_
  rintro r w1 ⟨rfl, hb⟩
  have HB1 : Hid (Bx w1 w.heap.size [.int .i64 ck, .slice a1 cp.length k1, .slice a2 os.length k2] ∧ Below w.heap.size w w1) := ⟨HB0.out.1.next hb, below_next HB0.out.2 hb⟩
  clear hb HB0
  by_cases hg : goodR ck cp os
  case neg =>
    rw [tf_no hg]
    have HN := (show Hid (LisP shCall (caA ck cp os) (tf (goodR ck cp os)) w (.returned (.tuple #[.slice none 0 0, .bool false])) w1) from caA_no hg HB1.out.2)
    clear hg
    go_wp2
    go_ret2
    exact HN.out
  rw [tf_yes hg]
  have HG : Hid (goodR ck cp os) := hg
  have hol := hg.2.2.1
  clear hg
  obtain ⟨no, hnoE⟩ : ∃ n, n = os.length := ⟨_, rfl⟩
  have HNO : Hid (no = os.length) := hnoE
  rw [← hnoE] at hol HB1
  clear hnoE
  have s0 := (HB1.out.1).cell 0 rfl; have s1 := (HB1.out.1).cell 1 rfl; have s2 := (HB1.out.1).cell 2 rfl; have sz := (HB1.out.1).2
  have HBW : Hid (Below w.heap.size w w1) := HB1.out.2
  clear HB1
  go_wp2
  clear s0 s1 s2 sz
  go_loopw [13, 4] (fun i v wr => ∃ k : Nat, k ≤ no ∧ i = .int .i64 k ∧ AppB wr w.heap.size 88 shCall v (caK os k) ∧ Below w.heap.size w wr) (fun i _ _ => no - (intOf i).toNat)
  case atStart => exact ⟨0, Nat.zero_le _, rfl, AppB.nil _ _ _ _, HBW.out⟩
  case round =>
    obtain ⟨k, hk, rfl, hA, hBr⟩ := hrel
    clear HBW
    have HK : Hid (AppB wr w.heap.size 88 shCall u4 (caK os k) ∧ Below w.heap.size w wr) := ⟨hA, hBr⟩
    clear hA
    by_cases hlt : k < no
    · have hlx : k < os.length := by have := HNO.out; omega
      have hlt' : (k : Int) < (no : Int) := by omega
      have HLE : Hid (Lies wr (.list shRegOp) [.slice a2 os.length k2] os) := HL.out.2.1.next hBr
      obtain ⟨xg, xoff, xgo, xgs, xec, xel, xhec, xle⟩ := Lies.elem (HLE.out) hlx
      subst xgo
      rcases xX : os[k] with ⟨x0, x1, x2, x3, x4, ⟨x5, x6, x7, ⟨⟩⟩, x8, x9, ⟨⟩⟩
      rw [xX] at xle
      have xH : Hid (os[k] = (x0, x1, x2, x3, x4, (x5, x6, x7, ()), x8, x9, ())) := xX
      clear xX
      obtain ⟨xa1, xk1, xev, xq1⟩ := lies_RegOp xle
      subst xev
      have xc0 : wr.cell? ⟨xg, xoff + k * 10, none⟩ = some (.int .i64 x0) := xhec 0 (by simp)
      have xc1 : wr.cell? ⟨xg, xoff + k * 10 + 1, none⟩ = some (.bool x1) := xhec 1 (by simp)
      have xc2 : wr.cell? ⟨xg, xoff + k * 10 + 2, none⟩ = some (.string x2) := xhec 2 (by simp)
      have xc3 : wr.cell? ⟨xg, xoff + k * 10 + 3, none⟩ = some (.int .i64 x3) := xhec 3 (by simp)
      have xc4 : wr.cell? ⟨xg, xoff + k * 10 + 4, none⟩ = some (.slice xa1 x4.length xk1) := xhec 4 (by simp)
      have xc5 : wr.cell? ⟨xg, xoff + k * 10 + 5, none⟩ = some (.int .i64 x5) := xhec 5 (by simp)
      have xc6 : wr.cell? ⟨xg, xoff + k * 10 + 6, none⟩ = some (.int .i64 x6) := xhec 6 (by simp)
      have xc7 : wr.cell? ⟨xg, xoff + k * 10 + 7, none⟩ = some (.string x7) := xhec 7 (by simp)
      have xc8 : wr.cell? ⟨xg, xoff + k * 10 + 8, none⟩ = some (.int .i64 x8) := xhec 8 (by simp)
      have xc9 : wr.cell? ⟨xg, xoff + k * 10 + 9, none⟩ = some (.int .i64 x9) := xhec 9 (by simp)
      clear xhec xel xle
      have hV := (reg_sizes HL.out.2.2).2.1 os[k] (List.getElem_mem hlx)
      rw [xH.out] at hV
      have HV : Hid (x2.size ≤ 1073741824 ∧ x7.size ≤ 1073741824) := ⟨hV.1, hV.2.2⟩
      have hKl := caK_len os k
      clear hBr xq1 HLE hV
      obtain ⟨xs, B, ho, hR⟩ := HK.out.1
      have HYES : Hid (caB x1 x3 = true → caK os (k + 1) = caK os k ++ [mkCl x0 x1 keyX (caV x1 x2 x7) x8 (caE x3 x9 k)]) := Hid.intro (fun e => by
        have h1 := caK_yes hlx (by rw [xH.out]; exact e)
        rw [xH.out] at h1
        exact h1)
      have HNOT : Hid (caB x1 x3 = false → caK os (k + 1) = caK os k) := Hid.intro (fun e => caK_no hlx (by rw [xH.out]; exact e))
      obtain ⟨M, hM⟩ : ∃ M, M = caK os k := ⟨_, rfl⟩
      rw [← hM] at hKl ho hR HYES HNOT HK
      have HR : Hid (AppR wr w.heap.size shCall u4 M xs B ∧ wr.ownsRow w.heap.size 88 6 u4 M.length xs ∧ Below w.heap.size w wr) := ⟨hR, ho, HK.out.2⟩
      have hzw : w.heap.size ≤ wr.heap.size := HK.out.2.size
      clear hR ho hM
      cases x1
      · by_cases e3 : x3 = 3
        · have e3' : (x3 == 3) = true := by simpa using e3
          have hcb : caB false x3 = true := by simp [caB, e3]
          clear e3
          obtain ⟨w2, hw2⟩ : ∃ x, x = wr.alloc (.cells #[.int .i64 x0, .bool false, .string x2, .int .i64 x3, .slice xa1 x4.length xk1, .int .i64 x5, .int .i64 x6, .string x7, .int .i64 x8, .int .i64 x9] 53) := ⟨_, rfl⟩
          have hb2 : Below wr.heap.size wr w2 := hw2 ▸ Go.Joins.below_alloc1 _ _
          have HB2 : Hid (Below wr.heap.size wr w2) := hb2
          have HCV : Hid ((caV false x2 x7).size ≤ 281474976710656) := Hid.intro (by have := HV.out; simp only [caV]; simp; omega)
          go_wp2_with fail
          rw [← hw2]
          clear hw2 hb2 xc0 xc1 xc2 xc3 xc4 xc5 xc6 xc7 xc8 xc9
          refine (callOf_n _ _ _ _ _ _ _ _ _ _ _ _ k _ (by omega)).mono ?_
          rintro r w3 ⟨rfl, hb⟩
          have HB3 : Hid (Below wr.heap.size wr w3) := below_next HB2.out hb
          clear hb HB2
          generalize hcv : caV false x2 x7 = cv at *
          generalize hce : caE x3 x9 k = ce at *
          generalize hkx : keyX = kx at *
          have HKX : Hid (kx.size ≤ 281474976710656) := Hid.intro (by rw [← hkx]; decide)
          clear hcv hce hkx
          go_wp2_with fail
          refine (cloneCall_n _ _ _ _ _ _ _ HKX.out HCV.out).mono ?_
          rintro r w4 ⟨rfl, hb⟩
          have HB4 : Hid (Below wr.heap.size wr w4) := below_next HB3.out hb
          have hz4 : wr.heap.size ≤ w4.heap.size := HB4.out.size
          clear hb HB3
          have HNW : Hid (∀ j u, [Value.int .i64 x0, .bool false, .string kx, .string cv, .int .i64 x8, .int .i64 ce][j]? = some u → (w4.alloc (.cells #[.int .i64 x0, .bool false, .string kx, .string cv, .int .i64 x8, .int .i64 ce] 88)).cell? ((⟨w4.heap.size, 0, none⟩ : Addr).add j) = some u) := cells_new w4 [_, _, _, _, _, _] 88
          have HO2 : Hid ((w4.alloc (.cells #[.int .i64 x0, .bool false, .string kx, .string cv, .int .i64 x8, .int .i64 ce] 88)).ownsRow w.heap.size 88 6 u4 M.length xs) := (ownsRow_next HR.out.2.1 HB4.out).alloc _
          go_wp2_with (first | (at_builtin; refine wpList_append_own_at _ rfl (.tmp 25) (.tmp 30) 34 rfl w.heap.size 88 i0 (.agg #[.int .i64 0, .bool false, .string ⟨#[]⟩, .string ⟨#[]⟩, .int .i64 0, .int .i64 0]) 6 64 Try.underlying34 hi0 hz0 hz1 hz2 rfl (by decide) u4 M.length xs rfl (HO2.out) ⟨w4.heap.size, 0, none⟩ 1 1 [.int .i64 x0, .bool false, .string kx, .string cv, .int .i64 x8, .int .i64 ce] rfl rfl (HNW.out) (by intro u hu; simp at hu; rcases hu with rfl | rfl | rfl | rfl | rfl | rfl <;> rfl) (by unfold maxLen; omega) (by omega) (by simp <;> omega) ?_; intro v9 w9 hown9 hgrow9 hnil9 hwh9; have HF : Hid (AppB w9 w.heap.size 88 shCall v9 (M ++ [mkCl x0 false kx cv x8 ce]) ∧ Below w.heap.size w w9) := AppB.call HR.out.1 HR.out.2.1 HR.out.2.2 (below_next HB4.out (Go.Joins.below_alloc1 _ _)) hown9 hgrow9 hwh9; clear hown9 hgrow9 hnil9 hwh9) | go_in)
          have HF2 : Hid (AppB w9 w.heap.size 88 shCall v9 (caK os (k + 1)) ∧ Below w.heap.size w w9) := Hid.intro (by rw [HYES.out hcb]; exact HF.out)
          go_roundw
          case rel => exact ⟨k + 1, by omega, by go_num, HF2.out⟩
          case measure => simp [intOf]; omega
        · have e3' : (x3 == 3) = false := by simpa using e3
          have hcb : caB false x3 = false := by simpa [caB] using e3
          clear e3
          have HF : Hid (AppB (wr.alloc (.cells #[.int .i64 x0, .bool false, .string x2, .int .i64 x3, .slice xa1 x4.length xk1, .int .i64 x5, .int .i64 x6, .string x7, .int .i64 x8, .int .i64 x9] 53)) w.heap.size 88 shCall u4 (caK os (k + 1)) ∧ Below w.heap.size w (wr.alloc (.cells #[.int .i64 x0, .bool false, .string x2, .int .i64 x3, .slice xa1 x4.length xk1, .int .i64 x5, .int .i64 x6, .string x7, .int .i64 x8, .int .i64 x9] 53))) := Hid.intro ⟨by rw [HNOT.out hcb]; exact HK.out.1.next (Go.Joins.below_alloc1 _ _), HK.out.2.alloc hzw _⟩
          clear HK HR hcb
          go_wp2
          go_roundw
          case rel => exact ⟨k + 1, by omega, by go_num, HF.out⟩
          case measure => simp [intOf]; omega
      · have hcb : caB true x3 = true := by simp [caB]
        obtain ⟨w2, hw2⟩ : ∃ x, x = wr.alloc (.cells #[.int .i64 x0, .bool true, .string x2, .int .i64 x3, .slice xa1 x4.length xk1, .int .i64 x5, .int .i64 x6, .string x7, .int .i64 x8, .int .i64 x9] 53) := ⟨_, rfl⟩
        have hb2 : Below wr.heap.size wr w2 := hw2 ▸ Go.Joins.below_alloc1 _ _
        have HB2 : Hid (Below wr.heap.size wr w2) := hb2
        have HCV : Hid ((caV true x2 x7).size ≤ 281474976710656) := Hid.intro (by have := HV.out; simp only [caV]; simp; omega)
        go_wp2_with fail
        rw [← hw2]
        clear hw2 hb2 xc0 xc1 xc2 xc3 xc4 xc5 xc6 xc7 xc8 xc9
        refine (callOf_n _ _ _ _ _ _ _ _ _ _ _ _ k _ (by omega)).mono ?_
        rintro r w3 ⟨rfl, hb⟩
        have HB3 : Hid (Below wr.heap.size wr w3) := below_next HB2.out hb
        clear hb HB2
        generalize hcv : caV true x2 x7 = cv at *
        generalize hce : caE x3 x9 k = ce at *
        generalize hkx : keyX = kx at *
        have HKX : Hid (kx.size ≤ 281474976710656) := Hid.intro (by rw [← hkx]; decide)
        clear hcv hce hkx
        go_wp2_with fail
        refine (cloneCall_n _ _ _ _ _ _ _ HKX.out HCV.out).mono ?_
        rintro r w4 ⟨rfl, hb⟩
        have HB4 : Hid (Below wr.heap.size wr w4) := below_next HB3.out hb
        have hz4 : wr.heap.size ≤ w4.heap.size := HB4.out.size
        clear hb HB3
        have HNW : Hid (∀ j u, [Value.int .i64 x0, .bool true, .string kx, .string cv, .int .i64 x8, .int .i64 ce][j]? = some u → (w4.alloc (.cells #[.int .i64 x0, .bool true, .string kx, .string cv, .int .i64 x8, .int .i64 ce] 88)).cell? ((⟨w4.heap.size, 0, none⟩ : Addr).add j) = some u) := cells_new w4 [_, _, _, _, _, _] 88
        have HO2 : Hid ((w4.alloc (.cells #[.int .i64 x0, .bool true, .string kx, .string cv, .int .i64 x8, .int .i64 ce] 88)).ownsRow w.heap.size 88 6 u4 M.length xs) := (ownsRow_next HR.out.2.1 HB4.out).alloc _
        go_wp2_with (first | (at_builtin; refine wpList_append_own_at _ rfl (.tmp 25) (.tmp 30) 34 rfl w.heap.size 88 i0 (.agg #[.int .i64 0, .bool false, .string ⟨#[]⟩, .string ⟨#[]⟩, .int .i64 0, .int .i64 0]) 6 64 Try.underlying34 hi0 hz0 hz1 hz2 rfl (by decide) u4 M.length xs rfl (HO2.out) ⟨w4.heap.size, 0, none⟩ 1 1 [.int .i64 x0, .bool true, .string kx, .string cv, .int .i64 x8, .int .i64 ce] rfl rfl (HNW.out) (by intro u hu; simp at hu; rcases hu with rfl | rfl | rfl | rfl | rfl | rfl <;> rfl) (by unfold maxLen; omega) (by omega) (by simp <;> omega) ?_; intro v9 w9 hown9 hgrow9 hnil9 hwh9; have HF : Hid (AppB w9 w.heap.size 88 shCall v9 (M ++ [mkCl x0 true kx cv x8 ce]) ∧ Below w.heap.size w w9) := AppB.call HR.out.1 HR.out.2.1 HR.out.2.2 (below_next HB4.out (Go.Joins.below_alloc1 _ _)) hown9 hgrow9 hwh9; clear hown9 hgrow9 hnil9 hwh9) | go_in)
        have HF2 : Hid (AppB w9 w.heap.size 88 shCall v9 (caK os (k + 1)) ∧ Below w.heap.size w w9) := Hid.intro (by rw [HYES.out hcb]; exact HF.out)
        go_roundw
        case rel => exact ⟨k + 1, by omega, by go_num, HF2.out⟩
        case measure => simp [intOf]; omega
    · have hkn : k = no := by omega
      have HF : Hid (LisP shCall (caA ck cp os) (tf (goodR ck cp os)) w (.returned (.tuple #[u4, .bool true])) wr) := Hid.intro (caA_yes HG.out (by have := HK.out.1; rwa [hkn, HNO.out] at this) HK.out.2)
      clear hkn hBr HK
      go_wp2
      go_ret2
      exact HF.out

set_option maxRecDepth 100000 in
set_option maxHeartbeats 2000000 in
theorem specCallsOf_n (cs : List Value) (ck : Int) (cp : List (Sh.T shCopy)) (os : List (Sh.T shRegOp)) (w : World) (hz : szD shRegister (ck, cp, os, ()) ≤ 1073741824) (h : Lies w shRegister cs (ck, cp, os, ())) :
    Calls Try.prog 39 #[.agg cs.toArray] w (LisP shCall (caA ck cp os) (tf (goodR ck cp os)) w) := by
  obtain ⟨a1, k1, a2, k2, rfl, h1, h2⟩ := lies_Register h
  have HL : Hid (Lies w shRegister [.int .i64 ck, .slice a1 cp.length k1, .slice a2 os.length k2] (ck, cp, os, ()) ∧ Lies w (.list shRegOp) [.slice a2 os.length k2] os ∧ szD shRegister (ck, cp, os, ()) ≤ 1073741824) := ⟨h, h2, hz⟩
  clear h h1 h2 hz
  obtain ⟨i0, hi0, hz0, hz1, hz2⟩ := info_parts inf_Call
  obtain ⟨w0, hw0⟩ : ∃ x, x = w.alloc (.cells #[.int .i64 ck, .slice a1 cp.length k1, .slice a2 os.length k2] 29) := ⟨_, rfl⟩
  have HB0 : Hid (Bx w0 w.heap.size [.int .i64 ck, .slice a1 cp.length k1, .slice a2 os.length k2] ∧ Below w.heap.size w w0) := hw0 ▸ ⟨Bx.new w [_, _, _] _, Go.Joins.below_alloc1 _ _⟩
  go_enter Try.func39, Try.ntmps39
  go_wp2_with fail
  rw [← hw0]
  clear hw0
  refine (specGoodRegister_n _ ck cp os _ HL.out.2.2 (HL.out.1.next HB0.out.2)).mono ?_
  rintro r w1 ⟨rfl, hb⟩
  have HB1 : Hid (Bx w1 w.heap.size [.int .i64 ck, .slice a1 cp.length k1, .slice a2 os.length k2] ∧ Below w.heap.size w w1) := ⟨HB0.out.1.next hb, below_next HB0.out.2 hb⟩
  clear hb HB0
  by_cases hg : goodR ck cp os
  case neg =>
    rw [tf_no hg]
    have HN := (show Hid (LisP shCall (caA ck cp os) (tf (goodR ck cp os)) w (.returned (.tuple #[.slice none 0 0, .bool false])) w1) from caA_no hg HB1.out.2)
    clear hg
    go_wp2
    go_ret2
    exact HN.out
  rw [tf_yes hg]
  have HG : Hid (goodR ck cp os) := hg
  have hol := hg.2.2.1
  clear hg
  obtain ⟨no, hnoE⟩ : ∃ n, n = os.length := ⟨_, rfl⟩
  have HNO : Hid (no = os.length) := hnoE
  rw [← hnoE] at hol HB1
  clear hnoE
  have s0 := (HB1.out.1).cell 0 rfl; have s1 := (HB1.out.1).cell 1 rfl; have s2 := (HB1.out.1).cell 2 rfl; have sz := (HB1.out.1).2
  have HBW : Hid (Below w.heap.size w w1) := HB1.out.2
  clear HB1
  go_wp2
  clear s0 s1 s2 sz
  go_loopw [14, 4] (fun i v wr => ∃ k : Nat, k ≤ no ∧ i = .int .i64 k ∧ AppB wr w.heap.size 88 shCall v (caK os k) ∧ Below w.heap.size w wr) (fun i _ _ => no - (intOf i).toNat)
  case atStart => exact ⟨0, Nat.zero_le _, rfl, AppB.nil _ _ _ _, HBW.out⟩
  case round =>
    obtain ⟨k, hk, rfl, hA, hBr⟩ := hrel
    clear HBW
    have HK : Hid (AppB wr w.heap.size 88 shCall u4 (caK os k) ∧ Below w.heap.size w wr) := ⟨hA, hBr⟩
    clear hA
    by_cases hlt : k < no
    · have hlx : k < os.length := by have := HNO.out; omega
      have hlt' : (k : Int) < (no : Int) := by omega
      have HLE : Hid (Lies wr (.list shRegOp) [.slice a2 os.length k2] os) := HL.out.2.1.next hBr
      obtain ⟨xg, xoff, xgo, xgs, xec, xel, xhec, xle⟩ := Lies.elem (HLE.out) hlx
      subst xgo
      rcases xX : os[k] with ⟨x0, x1, x2, x3, x4, ⟨x5, x6, x7, ⟨⟩⟩, x8, x9, ⟨⟩⟩
      rw [xX] at xle
      have xH : Hid (os[k] = (x0, x1, x2, x3, x4, (x5, x6, x7, ()), x8, x9, ())) := xX
      clear xX
      obtain ⟨xa1, xk1, xev, xq1⟩ := lies_RegOp xle
      subst xev
      have xc0 : wr.cell? ⟨xg, xoff + k * 10, none⟩ = some (.int .i64 x0) := xhec 0 (by simp)
      have xc1 : wr.cell? ⟨xg, xoff + k * 10 + 1, none⟩ = some (.bool x1) := xhec 1 (by simp)
      have xc2 : wr.cell? ⟨xg, xoff + k * 10 + 2, none⟩ = some (.string x2) := xhec 2 (by simp)
      have xc3 : wr.cell? ⟨xg, xoff + k * 10 + 3, none⟩ = some (.int .i64 x3) := xhec 3 (by simp)
      have xc4 : wr.cell? ⟨xg, xoff + k * 10 + 4, none⟩ = some (.slice xa1 x4.length xk1) := xhec 4 (by simp)
      have xc5 : wr.cell? ⟨xg, xoff + k * 10 + 5, none⟩ = some (.int .i64 x5) := xhec 5 (by simp)
      have xc6 : wr.cell? ⟨xg, xoff + k * 10 + 6, none⟩ = some (.int .i64 x6) := xhec 6 (by simp)
      have xc7 : wr.cell? ⟨xg, xoff + k * 10 + 7, none⟩ = some (.string x7) := xhec 7 (by simp)
      have xc8 : wr.cell? ⟨xg, xoff + k * 10 + 8, none⟩ = some (.int .i64 x8) := xhec 8 (by simp)
      have xc9 : wr.cell? ⟨xg, xoff + k * 10 + 9, none⟩ = some (.int .i64 x9) := xhec 9 (by simp)
      clear xhec xel xle
      have hV := (reg_sizes HL.out.2.2).2.1 os[k] (List.getElem_mem hlx)
      rw [xH.out] at hV
      have HV : Hid (x2.size ≤ 1073741824 ∧ x7.size ≤ 1073741824) := ⟨hV.1, hV.2.2⟩
      have hKl := caK_len os k
      clear hBr xq1 HLE hV
      obtain ⟨xs, B, ho, hR⟩ := HK.out.1
      have HYES : Hid (caB x1 x3 = true → caK os (k + 1) = caK os k ++ [mkCl x0 x1 keyX (caV x1 x2 x7) x8 (caE x3 x9 k)]) := Hid.intro (fun e => by
        have h1 := caK_yes hlx (by rw [xH.out]; exact e)
        rw [xH.out] at h1
        exact h1)
      have HNOT : Hid (caB x1 x3 = false → caK os (k + 1) = caK os k) := Hid.intro (fun e => caK_no hlx (by rw [xH.out]; exact e))
      obtain ⟨M, hM⟩ : ∃ M, M = caK os k := ⟨_, rfl⟩
      rw [← hM] at hKl ho hR HYES HNOT HK
      have HR : Hid (AppR wr w.heap.size shCall u4 M xs B ∧ wr.ownsRow w.heap.size 88 6 u4 M.length xs ∧ Below w.heap.size w wr) := ⟨hR, ho, HK.out.2⟩
      have hzw : w.heap.size ≤ wr.heap.size := HK.out.2.size
      clear hR ho hM
      cases x1
      · by_cases e3 : x3 = 3
        · have e3' : (x3 == 3) = true := by simpa using e3
          have hcb : caB false x3 = true := by simp [caB, e3]
          have HEN : Hid (caE x3 x9 k = x9) := if_pos e3
          clear e3
          have HNW : Hid (∀ j u, [Value.int .i64 x0, .bool false, .string ⟨#[120]⟩, .string x7, .int .i64 x8, .int .i64 x9][j]? = some u → (((wr.alloc (.cells #[.int .i64 x0, .bool false, .string x2, .int .i64 x3, .slice xa1 x4.length xk1, .int .i64 x5, .int .i64 x6, .string x7, .int .i64 x8, .int .i64 x9] 53)).alloc (.cells #[.int .i64 x0, .bool false, .string ⟨#[120]⟩, .string x7, .int .i64 x8, .int .i64 x9] 88)).alloc (.cells #[.int .i64 x0, .bool false, .string ⟨#[120]⟩, .string x7, .int .i64 x8, .int .i64 x9] 88)).cell? ((⟨wr.heap.size + 1 + 1, 0, none⟩ : Addr).add j) = some u) := by
            have h1 := cells_new ((wr.alloc (.cells #[.int .i64 x0, .bool false, .string x2, .int .i64 x3, .slice xa1 x4.length xk1, .int .i64 x5, .int .i64 x6, .string x7, .int .i64 x8, .int .i64 x9] 53)).alloc (.cells #[.int .i64 x0, .bool false, .string ⟨#[120]⟩, .string x7, .int .i64 x8, .int .i64 x9] 88)) [.int .i64 x0, .bool false, .string ⟨#[120]⟩, .string x7, .int .i64 x8, .int .i64 x9] 88
            rw [World.size_alloc, World.size_alloc] at h1
            exact h1
          have HO2 : Hid ((((wr.alloc (.cells #[.int .i64 x0, .bool false, .string x2, .int .i64 x3, .slice xa1 x4.length xk1, .int .i64 x5, .int .i64 x6, .string x7, .int .i64 x8, .int .i64 x9] 53)).alloc (.cells #[.int .i64 x0, .bool false, .string ⟨#[120]⟩, .string x7, .int .i64 x8, .int .i64 x9] 88)).alloc (.cells #[.int .i64 x0, .bool false, .string ⟨#[120]⟩, .string x7, .int .i64 x8, .int .i64 x9] 88)).ownsRow w.heap.size 88 6 u4 M.length xs) := ((HR.out.2.1.alloc _).alloc _).alloc _
          have HBW : Hid (Below wr.heap.size wr (((wr.alloc (.cells #[.int .i64 x0, .bool false, .string x2, .int .i64 x3, .slice xa1 x4.length xk1, .int .i64 x5, .int .i64 x6, .string x7, .int .i64 x8, .int .i64 x9] 53)).alloc (.cells #[.int .i64 x0, .bool false, .string ⟨#[120]⟩, .string x7, .int .i64 x8, .int .i64 x9] 88)).alloc (.cells #[.int .i64 x0, .bool false, .string ⟨#[120]⟩, .string x7, .int .i64 x8, .int .i64 x9] 88))) := (((Below.refl _ _).alloc (Nat.le_refl _) _).alloc (by simp) _).alloc (by simp; omega) _
          go_wp2_with (first | (at_builtin; refine wpList_append_own_at _ rfl (.tmp 41) (.tmp 43) 34 rfl w.heap.size 88 i0 (.agg #[.int .i64 0, .bool false, .string ⟨#[]⟩, .string ⟨#[]⟩, .int .i64 0, .int .i64 0]) 6 64 Try.underlying34 hi0 hz0 hz1 hz2 rfl (by decide) u4 M.length xs rfl (HO2.out) ⟨wr.heap.size + 1 + 1, 0, none⟩ 1 1 [.int .i64 x0, .bool false, .string ⟨#[120]⟩, .string x7, .int .i64 x8, .int .i64 x9] rfl rfl (HNW.out) (by intro u hu; simp at hu; rcases hu with rfl | rfl | rfl | rfl | rfl | rfl <;> rfl) (by unfold maxLen; omega) (by omega) (by simp <;> omega) ?_; intro v9 w9 hown9 hgrow9 hnil9 hwh9; have HF : Hid (AppB w9 w.heap.size 88 shCall v9 (M ++ [mkCl x0 false ⟨#[120]⟩ x7 x8 x9]) ∧ Below w.heap.size w w9) := AppB.call HR.out.1 HR.out.2.1 HR.out.2.2 HBW.out hown9 hgrow9 hwh9; clear hown9 hgrow9 hnil9 hwh9) | go_in)
          have HF2 : Hid (AppB w9 w.heap.size 88 shCall v9 (caK os (k + 1)) ∧ Below w.heap.size w w9) := Hid.intro (by rw [HYES.out hcb, HEN.out]; exact HF.out)
          go_roundw
          case rel => exact ⟨k + 1, by omega, by go_num, HF2.out⟩
          case measure => simp [intOf]; omega
        · have e3' : (x3 == 3) = false := by simpa using e3
          have hcb : caB false x3 = false := by simpa [caB] using e3
          clear e3
          have HF : Hid (AppB ((wr.alloc (.cells #[.int .i64 x0, .bool false, .string x2, .int .i64 x3, .slice xa1 x4.length xk1, .int .i64 x5, .int .i64 x6, .string x7, .int .i64 x8, .int .i64 x9] 53)).alloc (.cells #[.int .i64 x0, .bool false, .string ⟨#[120]⟩, .string x2, .int .i64 x8, .int .i64 x9] 88)) w.heap.size 88 shCall u4 (caK os (k + 1)) ∧ Below w.heap.size w ((wr.alloc (.cells #[.int .i64 x0, .bool false, .string x2, .int .i64 x3, .slice xa1 x4.length xk1, .int .i64 x5, .int .i64 x6, .string x7, .int .i64 x8, .int .i64 x9] 53)).alloc (.cells #[.int .i64 x0, .bool false, .string ⟨#[120]⟩, .string x2, .int .i64 x8, .int .i64 x9] 88))) := Hid.intro ⟨by rw [HNOT.out hcb]; exact (HK.out.1.next (Go.Joins.below_alloc1 _ _)).next (Go.Joins.below_alloc1 _ _), (HK.out.2.alloc hzw _).alloc (by simp; omega) _⟩
          clear HK HR hcb
          go_wp2
          go_roundw
          case rel => exact ⟨k + 1, by omega, by go_num, HF.out⟩
          case measure => simp [intOf]; omega
      · have hcb : caB true x3 = true := by simp [caB]
        by_cases e3 : x3 = 3
        · have e3' : (x3 == 3) = true := by simpa using e3
          have HEN : Hid (caE x3 x9 k = x9) := if_pos e3
          clear e3
          have HNW : Hid (∀ j u, [Value.int .i64 x0, .bool true, .string ⟨#[120]⟩, .string x2, .int .i64 x8, .int .i64 x9][j]? = some u → (((wr.alloc (.cells #[.int .i64 x0, .bool true, .string x2, .int .i64 x3, .slice xa1 x4.length xk1, .int .i64 x5, .int .i64 x6, .string x7, .int .i64 x8, .int .i64 x9] 53)).alloc (.cells #[.int .i64 x0, .bool true, .string ⟨#[120]⟩, .string x2, .int .i64 x8, .int .i64 x9] 88)).alloc (.cells #[.int .i64 x0, .bool true, .string ⟨#[120]⟩, .string x2, .int .i64 x8, .int .i64 x9] 88)).cell? ((⟨wr.heap.size + 1 + 1, 0, none⟩ : Addr).add j) = some u) := by
            have h1 := cells_new ((wr.alloc (.cells #[.int .i64 x0, .bool true, .string x2, .int .i64 x3, .slice xa1 x4.length xk1, .int .i64 x5, .int .i64 x6, .string x7, .int .i64 x8, .int .i64 x9] 53)).alloc (.cells #[.int .i64 x0, .bool true, .string ⟨#[120]⟩, .string x2, .int .i64 x8, .int .i64 x9] 88)) [.int .i64 x0, .bool true, .string ⟨#[120]⟩, .string x2, .int .i64 x8, .int .i64 x9] 88
            rw [World.size_alloc, World.size_alloc] at h1
            exact h1
          have HO2 : Hid ((((wr.alloc (.cells #[.int .i64 x0, .bool true, .string x2, .int .i64 x3, .slice xa1 x4.length xk1, .int .i64 x5, .int .i64 x6, .string x7, .int .i64 x8, .int .i64 x9] 53)).alloc (.cells #[.int .i64 x0, .bool true, .string ⟨#[120]⟩, .string x2, .int .i64 x8, .int .i64 x9] 88)).alloc (.cells #[.int .i64 x0, .bool true, .string ⟨#[120]⟩, .string x2, .int .i64 x8, .int .i64 x9] 88)).ownsRow w.heap.size 88 6 u4 M.length xs) := ((HR.out.2.1.alloc _).alloc _).alloc _
          have HBW : Hid (Below wr.heap.size wr (((wr.alloc (.cells #[.int .i64 x0, .bool true, .string x2, .int .i64 x3, .slice xa1 x4.length xk1, .int .i64 x5, .int .i64 x6, .string x7, .int .i64 x8, .int .i64 x9] 53)).alloc (.cells #[.int .i64 x0, .bool true, .string ⟨#[120]⟩, .string x2, .int .i64 x8, .int .i64 x9] 88)).alloc (.cells #[.int .i64 x0, .bool true, .string ⟨#[120]⟩, .string x2, .int .i64 x8, .int .i64 x9] 88))) := (((Below.refl _ _).alloc (Nat.le_refl _) _).alloc (by simp) _).alloc (by simp; omega) _
          go_wp2_with (first | (at_builtin; refine wpList_append_own_at _ rfl (.tmp 41) (.tmp 43) 34 rfl w.heap.size 88 i0 (.agg #[.int .i64 0, .bool false, .string ⟨#[]⟩, .string ⟨#[]⟩, .int .i64 0, .int .i64 0]) 6 64 Try.underlying34 hi0 hz0 hz1 hz2 rfl (by decide) u4 M.length xs rfl (HO2.out) ⟨wr.heap.size + 1 + 1, 0, none⟩ 1 1 [.int .i64 x0, .bool true, .string ⟨#[120]⟩, .string x2, .int .i64 x8, .int .i64 x9] rfl rfl (HNW.out) (by intro u hu; simp at hu; rcases hu with rfl | rfl | rfl | rfl | rfl | rfl <;> rfl) (by unfold maxLen; omega) (by omega) (by simp <;> omega) ?_; intro v9 w9 hown9 hgrow9 hnil9 hwh9; have HF : Hid (AppB w9 w.heap.size 88 shCall v9 (M ++ [mkCl x0 true ⟨#[120]⟩ x2 x8 x9]) ∧ Below w.heap.size w w9) := AppB.call HR.out.1 HR.out.2.1 HR.out.2.2 HBW.out hown9 hgrow9 hwh9; clear hown9 hgrow9 hnil9 hwh9) | go_in)
          have HF2 : Hid (AppB w9 w.heap.size 88 shCall v9 (caK os (k + 1)) ∧ Below w.heap.size w w9) := Hid.intro (by rw [HYES.out hcb, HEN.out]; exact HF.out)
          go_roundw
          case rel => exact ⟨k + 1, by omega, by go_num, HF2.out⟩
          case measure => simp [intOf]; omega
        · have e3' : (x3 == 3) = false := by simpa using e3
          have HEN : Hid (caE x3 x9 k = 999000 + (k : Int)) := if_neg e3
          clear e3
          have HNW : Hid (∀ j u, [Value.int .i64 x0, .bool true, .string ⟨#[120]⟩, .string x2, .int .i64 x8, .int .i64 (999000 + (k : Int))][j]? = some u → (((wr.alloc (.cells #[.int .i64 x0, .bool true, .string x2, .int .i64 x3, .slice xa1 x4.length xk1, .int .i64 x5, .int .i64 x6, .string x7, .int .i64 x8, .int .i64 x9] 53)).alloc (.cells #[.int .i64 x0, .bool true, .string ⟨#[120]⟩, .string x2, .int .i64 x8, .int .i64 (999000 + (k : Int))] 88)).alloc (.cells #[.int .i64 x0, .bool true, .string ⟨#[120]⟩, .string x2, .int .i64 x8, .int .i64 (999000 + (k : Int))] 88)).cell? ((⟨wr.heap.size + 1 + 1, 0, none⟩ : Addr).add j) = some u) := by
            have h1 := cells_new ((wr.alloc (.cells #[.int .i64 x0, .bool true, .string x2, .int .i64 x3, .slice xa1 x4.length xk1, .int .i64 x5, .int .i64 x6, .string x7, .int .i64 x8, .int .i64 x9] 53)).alloc (.cells #[.int .i64 x0, .bool true, .string ⟨#[120]⟩, .string x2, .int .i64 x8, .int .i64 (999000 + (k : Int))] 88)) [.int .i64 x0, .bool true, .string ⟨#[120]⟩, .string x2, .int .i64 x8, .int .i64 (999000 + (k : Int))] 88
            rw [World.size_alloc, World.size_alloc] at h1
            exact h1
          have HO2 : Hid ((((wr.alloc (.cells #[.int .i64 x0, .bool true, .string x2, .int .i64 x3, .slice xa1 x4.length xk1, .int .i64 x5, .int .i64 x6, .string x7, .int .i64 x8, .int .i64 x9] 53)).alloc (.cells #[.int .i64 x0, .bool true, .string ⟨#[120]⟩, .string x2, .int .i64 x8, .int .i64 (999000 + (k : Int))] 88)).alloc (.cells #[.int .i64 x0, .bool true, .string ⟨#[120]⟩, .string x2, .int .i64 x8, .int .i64 (999000 + (k : Int))] 88)).ownsRow w.heap.size 88 6 u4 M.length xs) := ((HR.out.2.1.alloc _).alloc _).alloc _
          have HBW : Hid (Below wr.heap.size wr (((wr.alloc (.cells #[.int .i64 x0, .bool true, .string x2, .int .i64 x3, .slice xa1 x4.length xk1, .int .i64 x5, .int .i64 x6, .string x7, .int .i64 x8, .int .i64 x9] 53)).alloc (.cells #[.int .i64 x0, .bool true, .string ⟨#[120]⟩, .string x2, .int .i64 x8, .int .i64 (999000 + (k : Int))] 88)).alloc (.cells #[.int .i64 x0, .bool true, .string ⟨#[120]⟩, .string x2, .int .i64 x8, .int .i64 (999000 + (k : Int))] 88))) := (((Below.refl _ _).alloc (Nat.le_refl _) _).alloc (by simp) _).alloc (by simp; omega) _
          go_wp2_with (first | (at_builtin; refine wpList_append_own_at _ rfl (.tmp 51) (.tmp 53) 34 rfl w.heap.size 88 i0 (.agg #[.int .i64 0, .bool false, .string ⟨#[]⟩, .string ⟨#[]⟩, .int .i64 0, .int .i64 0]) 6 64 Try.underlying34 hi0 hz0 hz1 hz2 rfl (by decide) u4 M.length xs rfl (HO2.out) ⟨wr.heap.size + 1 + 1, 0, none⟩ 1 1 [.int .i64 x0, .bool true, .string ⟨#[120]⟩, .string x2, .int .i64 x8, .int .i64 (999000 + (k : Int))] rfl rfl (HNW.out) (by intro u hu; simp at hu; rcases hu with rfl | rfl | rfl | rfl | rfl | rfl <;> rfl) (by unfold maxLen; omega) (by omega) (by simp <;> omega) ?_; intro v9 w9 hown9 hgrow9 hnil9 hwh9; have HF : Hid (AppB w9 w.heap.size 88 shCall v9 (M ++ [mkCl x0 true ⟨#[120]⟩ x2 x8 (999000 + (k : Int))]) ∧ Below w.heap.size w w9) := AppB.call HR.out.1 HR.out.2.1 HR.out.2.2 HBW.out hown9 hgrow9 hwh9; clear hown9 hgrow9 hnil9 hwh9) | go_in)
          have HF2 : Hid (AppB w9 w.heap.size 88 shCall v9 (caK os (k + 1)) ∧ Below w.heap.size w w9) := Hid.intro (by rw [HYES.out hcb, HEN.out]; exact HF.out)
          go_roundw
          case rel => exact ⟨k + 1, by omega, by go_num, HF2.out⟩
          case measure => simp [intOf]; omega
    · have hkn : k = no := by omega
      have HF : Hid (LisP shCall (caA ck cp os) (tf (goodR ck cp os)) w (.returned (.tuple #[u4, .bool true])) wr) := Hid.intro (caA_yes HG.out (by have := HK.out.1; rwa [hkn, HNO.out] at this) HK.out.2)
      clear hkn hBr HK
      go_wp2
      go_ret2
      exact HF.out

end Go.Proofs.Ytjebnhbadbhaaaa
