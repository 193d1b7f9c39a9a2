/- The contract of the specification's GoodStore. Written by tools/mkGsP.py. -/
import Derived.Test.YtenfaofhoheleaaGreatGsR
namespace Go.Proofs.YtenfaofhoheleaaGreat
open Go.RowKit
set_option linter.unusedVariables false

def RcH (w : World) (bs rk : List Value) (g b off n : Nat) (R : Nat → RecordV) (W : World) : Prop := Bx W g rk ∧ Bx W w.heap.size bs ∧ Below w.heap.size w W ∧ Elems W b off n 6 (recordF R) ∧ b < W.heap.size
theorem RcH.next {w W W' : World} {bs rk : List Value} {g b off n : Nat} {R : Nat → RecordV} (h : RcH w bs rk g b off n R W) (hb : Below W.heap.size W W') : RcH w bs rk g b off n R W' := ⟨h.1.next hb, h.2.1.next hb, below_next' h.2.2.1 hb, h.2.2.2.1.below hb h.2.2.2.2, Nat.lt_of_lt_of_le h.2.2.2.2 hb.size⟩
theorem l5State_is (A : StA) (S : StV) (x : Int) (q : Nat) (w : World) (hx : x = (q : Int) + 1) (hq : q < S.tn) (hn : S.tn ≤ 1048576) (hs : RuS w A.ta S.tn S.T A.U) :
    Calls Tryz.prog 53 #[.agg #[.int .i64 S.ep, .slice A.ra S.rn A.rc, .slice A.ta S.tn A.tc, .slice A.oa S.on A.oc], .int .i64 x] w fun r w' => r = .returned (.int .i64 (S.T q).st) ∧ Below w.heap.size w w' := by
  subst hx; exact l5State_at A S q w hq hn hs
theorem own_at' {S : StV} {r : RecordV} {q : Nat} (h0 : r.f5 ≠ 0) (hq : r.f5 = (q : Int) + 1) (h : ownP S r) : mayB (S.T q).st = true ∧ writesP (S.T q) r.f0 := by
  rcases h with ⟨h, _⟩ | ⟨_, _, q', h1, h2, h3⟩
  · exact absurd h h0
  · have : q' = q := by omega
    subst this; exact h3
theorem recOk_is (ep : Int) (r : RecordV) : recOk ep r = (keyOk r.f0 && (valOk r.f1 && (goodT r.f2 r.f3 && decide (r.f2 ≤ ep)))) := rfl

theorem idsL_len' (T : Nat → RuV) : ∀ m, (idsL T m).length ≤ m
  | 0 => Nat.le_refl _
  | m + 1 => by
    have := idsL_len' T m
    simp only [idsL]
    split
    · simp; omega
    · omega
set_option maxRecDepth 100000 in
set_option maxHeartbeats 16000000 in
theorem specGoodStore_at (ra : Option Addr) (rc : Nat) (ta : Option Addr) (tc : Nat) (oa : Option Addr) (oc : Nat) (U : Nat → RuA) (S : StV) (w : World) (hl : StLen S) (hok : StOk S) (hs : StAt w ⟨ra, rc, ta, tc, oa, oc, U⟩ S) :
    Calls Tryz.prog 23 #[.agg #[.int .i64 S.ep, .slice ra S.rn rc, .slice ta S.tn tc, .slice oa S.on oc]] w fun r w' => r = .returned (.bool (goodB S)) ∧ Below w.heap.size w w' := by
  have HS : Hid (StAt w ⟨ra, rc, ta, tc, oa, oc, U⟩ S ∧ StLen S ∧ StOk S) := ⟨hs, hl, hok⟩
  clear hs hl hok
  have HX : Hid (Bx (w.alloc (.cells #[.int .i64 S.ep, .slice ra S.rn rc, .slice ta S.tn tc, .slice oa S.on oc] 34)) w.heap.size [.int .i64 S.ep, .slice ra S.rn rc, .slice ta S.tn tc, .slice oa S.on oc] ∧ Below w.heap.size w (w.alloc (.cells #[.int .i64 S.ep, .slice ra S.rn rc, .slice ta S.tn tc, .slice oa S.on oc] 34))) := ⟨Bx.new w [.int .i64 S.ep, .slice ra S.rn rc, .slice ta S.tn tc, .slice oa S.on oc] _, Go.Joins.below_alloc1 _ _⟩
  cases e1 : inR S.ep 1 1000
  · have HN : Hid (goodB S = false) := no_head fun g => by rw [g.1] at e1; cases e1
    go_enter Tryz.func23, Tryz.ntmps23
    go_wp2_with (go_at_call 38; refine (l1In_any _ _ _ _).mono ?_; rintro e w' ⟨rfl, rfl⟩)
    go_ret
    exact ⟨ret_bool HN.out.symm, HX.out.2⟩
  have hrn := HS.out.2.2.1
  have htn := HS.out.2.2.2.1.1
  by_cases h40 : S.rn ≤ 40
  case neg =>
    have h40' : (40 : Int) < (S.rn : Int) := by omega
    have HN : Hid (goodB S = false) := no_head fun g => h40 g.2.1
    go_enter Tryz.func23, Tryz.ntmps23
    go_wp2_with (go_at_call 38; refine (l1In_any _ _ _ _).mono ?_; rintro e w' ⟨rfl, rfl⟩)
    go_ret
    exact ⟨ret_bool HN.out.symm, HX.out.2⟩
  have h40' : decide ((40 : Int) < (S.rn : Int)) = false := by simp; omega
  have h40n : decide (40 < S.rn) = false := by simp; omega
  by_cases h20 : S.tn ≤ 20
  case neg =>
    have h20' : (20 : Int) < (S.tn : Int) := by omega
    have HN : Hid (goodB S = false) := no_head fun g => h20 g.2.2
    go_enter Tryz.func23, Tryz.ntmps23
    go_wp2_with (go_at_call 38; refine (l1In_any _ _ _ _).mono ?_; rintro e w' ⟨rfl, rfl⟩)
    go_ret
    exact ⟨ret_bool HN.out.symm, HX.out.2⟩
  have h20' : decide ((20 : Int) < (S.tn : Int)) = false := by simp; omega
  have h20n : decide (20 < S.tn) = false := by simp; omega
  have HH : Hid (headP S) := ⟨e1, h40, h20⟩
  have HI : Hid (∀ W, Calls Tryz.prog 38 #[.int .i64 S.ep, .int .i64 1, .int .i64 1000] W fun r w' => r = .returned (.bool true) ∧ w' = W) := fun W => by have := l1In_any S.ep 1 1000 W; rw [e1] at this; exact this
  clear e1
  go_enter Tryz.func23, Tryz.ntmps23
  go_wp2_with (go_at_call 38; refine (HI.out _).mono ?_; rintro e w' ⟨rfl, rfl⟩)
  go_loopw [31] (fun i wr => ∃ k : Nat, k ≤ S.rn ∧ i = .int .i64 k ∧ (∀ i, i < k → recP S i) ∧ Bx wr w.heap.size [.int .i64 S.ep, .slice ra S.rn rc, .slice ta S.tn tc, .slice oa S.on oc] ∧ Below w.heap.size w wr) (fun i _ => S.rn - (intOf i).toNat)
  case atStart => exact ⟨0, Nat.zero_le _, rfl, fun i hi => absurd hi (by omega), HX.out.1, HX.out.2⟩
  case round =>
    obtain ⟨k, hk, rfl, hall, hx, hBr⟩ := hrel
    clear HX
    by_cases hlt : k < S.rn
    · have hsl : Sl wr ra S.rn 6 (recordF S.R) := HS.out.1.1.below hBr (Nat.le_refl _)
      rcases hsl with h | ⟨b, off, rfl, hbs, hE⟩
      · omega
      have hlt' : (k : Int) < (S.rn : Int) := by omega
      obtain ⟨c0, c1, c2, c3, c4, c5⟩ := record_cells hE hlt
      have hd : Below wr.heap.size wr (wr.alloc (.cells #[.string (S.R k).f0, .string (S.R k).f1, .int .i64 (S.R k).f2, .int .i64 (S.R k).f3, .bool (S.R k).f4, .int .i64 (S.R k).f5] 52)).drew := (Go.Joins.below_alloc1 _ _).drew
      have H1 : Hid (RcH w [.int .i64 S.ep, .slice (some ⟨b, off, none⟩) S.rn rc, .slice ta S.tn tc, .slice oa S.on oc] [.string (S.R k).f0, .string (S.R k).f1, .int .i64 (S.R k).f2, .int .i64 (S.R k).f3, .bool (S.R k).f4, .int .i64 (S.R k).f5] wr.heap.size b off S.rn S.R (wr.alloc (.cells #[.string (S.R k).f0, .string (S.R k).f1, .int .i64 (S.R k).f2, .int .i64 (S.R k).f3, .bool (S.R k).f4, .int .i64 (S.R k).f5] 52)).drew ∧ (∀ i, i < k → recP S i)) := ⟨⟨(Bx.new wr [.string (S.R k).f0, .string (S.R k).f1, .int .i64 (S.R k).f2, .int .i64 (S.R k).f3, .bool (S.R k).f4, .int .i64 (S.R k).f5] 52).next (Below.refl _ _).drew, hx.next hd, below_next' hBr hd, hE.below hd hbs, Nat.lt_of_lt_of_le hbs hd.size⟩, hall⟩
      clear hall hBr hE hx hd hbs
      have hz := HS.out.2.1.2.2.2.1 k hlt
      have HR0 : Hid (recOk S.ep (S.R k) = (keyOk (S.R k).f0 && (valOk (S.R k).f1 && (goodT (S.R k).f2 (S.R k).f3 && decide ((S.R k).f2 ≤ S.ep))))) := rfl
      have HNR : Hid (recOk S.ep (S.R k) = false → goodB S = false) := fun h => no_rec hlt fun g => by rw [g.1] at h; cases h
      cases e1 : keyOk (S.R k).f0
      · have HK : Hid (∀ W, Calls Tryz.prog 50 #[.string (S.R k).f0] W fun r w' => r = .returned (.bool false) ∧ w' = W) := fun W => by have := l1Key_any (S.R k).f0 W hz.1; rw [e1] at this; exact this
        have HN : Hid (goodB S = false) := HNR.out (by rw [HR0.out, e1]; rfl)
        go_upto_region 6 with fail
        refine wp_region_noPanic ?_
        refine wp_region_held_drew (S := fun W => RcH w [.int .i64 S.ep, .slice (some ⟨b, off, none⟩) S.rn rc, .slice ta S.tn tc, .slice oa S.on oc] [.string (S.R k).f0, .string (S.R k).f1, .int .i64 (S.R k).f2, .int .i64 (S.R k).f3, .bool (S.R k).f4, .int .i64 (S.R k).f5] wr.heap.size b off S.rn S.R W) (by kernel_rfl) H1.out.1 (fun hHeld => ?_)
        refine take_v (v := ?_) 0 ⟨some 36, Op.fieldAddr 52 (Operand.tmp 4) 0, _, _, _, none⟩ rfl (fun _ _ _ h => h) ?_ hHeld ?_
        rotate_left
        · (intro W _; go_simp <;> (try with_reducible rfl))
        refine take_v (v := ?_) 1 ⟨some 37, Op.load 9 (Operand.tmp 36), _, _, _, none⟩ rfl (fun _ _ _ h => h) ?_ hHeld ?_
        rotate_left
        · (intro W hSW; (have s0 := hSW.1.cell 0 rfl; have s1 := hSW.1.cell 1 rfl; have s2 := hSW.1.cell 2 rfl; have s3 := hSW.1.cell 3 rfl; have s4 := hSW.1.cell 4 rfl; have s5 := hSW.1.cell 5 rfl; have s6 := hSW.1.2; have s7 := hSW.2.1.cell 0 rfl; have s8 := hSW.2.1.cell 1 rfl; have s9 := hSW.2.1.2); go_simp <;> (try with_reducible rfl))
        refine ready_call 2 ⟨some 38, Op.call { callee := Callee.value (Operand.func 50), args := #[Operand.tmp 37], argTypes := #[9] }, _, _, _, none⟩ (by kernel_rfl) rfl (by kernel_rfl) (fun KC hK => ?_)
        go_wp2_with fail
        refine (HK.out _).mono ?_
        rintro r w2 ⟨rfl, rfl⟩
        refine hK.out _ _ hHeld (fun hHeld => ?_)
        clear hK KC
        refine take_v (v := ?_) 3 ⟨some 39, Op.unOp UnOp.not 4 (Operand.tmp 38), _, _, _, none⟩ rfl (fun _ _ _ h => h) ?_ hHeld ?_
        rotate_left
        · (intro W _; go_simp <;> (try with_reducible rfl))
        refine take_v (v := ?_) 4 ⟨some 40, Op.move (Operand.tmp 39), _, _, _, none⟩ rfl (fun _ _ _ h => h) ?_ hHeld ?_
        rotate_left
        · (intro W _; go_simp <;> (try with_reducible rfl))
        refine take_n 5 ⟨some 41, Op.fieldAddr 52 (Operand.tmp 4) 1, _, _, _, some (4, false)⟩ rfl (fun _ _ _ h => h) hHeld ?_
        refine take_n 6 ⟨some 42, Op.load 9 (Operand.tmp 41), _, _, _, some (4, false)⟩ rfl (fun _ _ _ h => h) hHeld ?_
        refine take_n 7 ⟨some 43, Op.call { callee := Callee.value (Operand.func 51), args := #[Operand.tmp 42], argTypes := #[9] }, _, _, _, some (4, false)⟩ rfl (fun _ _ _ h => h) hHeld ?_
        refine take_n 8 ⟨some 44, Op.unOp UnOp.not 4 (Operand.tmp 43), _, _, _, some (4, false)⟩ rfl (fun _ _ _ h => h) hHeld ?_
        refine take_v (v := ?_) 9 ⟨some 45, Op.pick (Operand.tmp 40) (Operand.const (Value.bool true)) (Operand.tmp 44), _, _, _, none⟩ rfl (fun _ _ _ h => h) ?_ hHeld ?_
        rotate_left
        · (intro W _; go_simp <;> (try with_reducible rfl))
        refine take_v (v := ?_) 10 ⟨some 46, Op.move (Operand.tmp 45), _, _, _, none⟩ rfl (fun _ _ _ h => h) ?_ hHeld ?_
        rotate_left
        · (intro W _; go_simp <;> (try with_reducible rfl))
        refine take_n 11 ⟨some 47, Op.fieldAddr 52 (Operand.tmp 4) 2, _, _, _, some (10, false)⟩ rfl (fun _ _ _ h => h) hHeld ?_
        refine take_n 12 ⟨some 48, Op.load 50 (Operand.tmp 47), _, _, _, some (10, false)⟩ rfl (fun _ _ _ h => h) hHeld ?_
        refine take_n 13 ⟨some 49, Op.call { callee := Callee.value (Operand.func 52), args := #[Operand.tmp 48], argTypes := #[50] }, _, _, _, some (10, false)⟩ rfl (fun _ _ _ h => h) hHeld ?_
        refine take_n 14 ⟨some 50, Op.unOp UnOp.not 4 (Operand.tmp 49), _, _, _, some (10, false)⟩ rfl (fun _ _ _ h => h) hHeld ?_
        refine take_v (v := ?_) 15 ⟨some 51, Op.pick (Operand.tmp 46) (Operand.const (Value.bool true)) (Operand.tmp 50), _, _, _, none⟩ rfl (fun _ _ _ h => h) ?_ hHeld ?_
        rotate_left
        · (intro W _; go_simp <;> (try with_reducible rfl))
        refine take_v (v := ?_) 16 ⟨some 52, Op.move (Operand.tmp 51), _, _, _, none⟩ rfl (fun _ _ _ h => h) ?_ hHeld ?_
        rotate_left
        · (intro W _; go_simp <;> (try with_reducible rfl))
        refine take_n 17 ⟨some 53, Op.fieldAddr 52 (Operand.tmp 4) 2, _, _, _, some (16, false)⟩ rfl (fun _ _ _ h => h) hHeld ?_
        refine take_n 18 ⟨some 54, Op.fieldAddr 50 (Operand.tmp 53) 0, _, _, _, some (16, false)⟩ rfl (fun _ _ _ h => h) hHeld ?_
        refine take_n 19 ⟨some 55, Op.load 3 (Operand.tmp 54), _, _, _, some (16, false)⟩ rfl (fun _ _ _ h => h) hHeld ?_
        refine take_n 20 ⟨some 56, Op.fieldAddr 34 (Operand.tmp 1) 0, _, _, _, some (16, false)⟩ rfl (fun _ _ _ h => h) hHeld ?_
        refine take_n 21 ⟨some 57, Op.load 3 (Operand.tmp 56), _, _, _, some (16, false)⟩ rfl (fun _ _ _ h => h) hHeld ?_
        refine take_n 22 ⟨some 58, Op.binOp BinOp.gtr 3 (Operand.tmp 55) (Operand.tmp 57) 3, _, _, _, some (16, false)⟩ rfl (fun _ _ _ h => h) hHeld ?_
        refine take_v (v := ?_) 23 ⟨some 59, Op.pick (Operand.tmp 52) (Operand.const (Value.bool true)) (Operand.tmp 58), _, _, _, none⟩ rfl (fun _ _ _ h => h) ?_ hHeld ?_
        rotate_left
        · (intro W _; go_simp <;> (try with_reducible rfl))
        refine take_v (v := ?_) 24 ⟨some 60, Op.move (Operand.tmp 59), _, _, _, none⟩ rfl (fun _ _ _ h => h) ?_ hHeld ?_
        rotate_left
        · (intro W _; go_simp <;> (try with_reducible rfl))
        refine take_n 25 ⟨some 61, Op.fieldAddr 52 (Operand.tmp 4) 2, _, _, _, some (24, false)⟩ rfl (fun _ _ _ h => h) hHeld ?_
        refine take_n 26 ⟨some 62, Op.fieldAddr 50 (Operand.tmp 61) 2, _, _, _, some (24, false)⟩ rfl (fun _ _ _ h => h) hHeld ?_
        refine take_n 27 ⟨some 63, Op.load 4 (Operand.tmp 62), _, _, _, some (24, false)⟩ rfl (fun _ _ _ h => h) hHeld ?_
        refine take_n 28 ⟨some 64, Op.fieldAddr 52 (Operand.tmp 4) 3, _, _, _, some (24, false)⟩ rfl (fun _ _ _ h => h) hHeld ?_
        refine take_n 29 ⟨some 65, Op.load 3 (Operand.tmp 64), _, _, _, some (24, false)⟩ rfl (fun _ _ _ h => h) hHeld ?_
        refine take_n 30 ⟨some 66, Op.binOp BinOp.neq 3 (Operand.tmp 65) (Operand.const (Value.int IntKind.i64 0)) 3, _, _, _, some (24, false)⟩ rfl (fun _ _ _ h => h) hHeld ?_
        refine take_n 31 ⟨some 67, Op.binOp BinOp.neq 4 (Operand.tmp 63) (Operand.tmp 66) 4, _, _, _, some (24, false)⟩ rfl (fun _ _ _ h => h) hHeld ?_
        refine take_v (v := ?_) 32 ⟨some 68, Op.pick (Operand.tmp 60) (Operand.const (Value.bool true)) (Operand.tmp 67), _, _, _, none⟩ rfl (fun _ _ _ h => h) ?_ hHeld ?_
        rotate_left
        · (intro W _; go_simp <;> (try with_reducible rfl))
        refine take_v (v := ?_) 33 ⟨some 69, Op.move (Operand.tmp 68), _, _, _, none⟩ rfl (fun _ _ _ h => h) ?_ hHeld ?_
        rotate_left
        · (intro W _; go_simp <;> (try with_reducible rfl))
        refine take_n 34 ⟨some 70, Op.move (Operand.tmp 3), _, _, _, some (33, false)⟩ rfl (fun _ _ _ h => h) hHeld ?_
        refine take_n 35 ⟨some 71, Op.binOp BinOp.gtr 3 (Operand.tmp 70) (Operand.const (Value.int IntKind.i64 0)) 3, _, _, _, some (33, false)⟩ rfl (fun _ _ _ h => h) hHeld ?_
        refine take_n 36 ⟨some 72, Op.move (Operand.tmp 71), _, _, _, some (33, false)⟩ rfl (fun _ _ _ h => h) hHeld ?_
        refine take_n 37 ⟨some 73, Op.fieldAddr 34 (Operand.tmp 1) 1, _, _, _, some (36, true)⟩ rfl (fun _ _ _ h => h) hHeld ?_
        refine take_n 38 ⟨some 74, Op.load 31 (Operand.tmp 73), _, _, _, some (36, true)⟩ rfl (fun _ _ _ h => h) hHeld ?_
        refine take_n 39 ⟨some 75, Op.move (Operand.tmp 3), _, _, _, some (36, true)⟩ rfl (fun _ _ _ h => h) hHeld ?_
        refine take_n 40 ⟨some 76, Op.binOp BinOp.sub 3 (Operand.tmp 75) (Operand.const (Value.int IntKind.i64 1)) 3, _, _, _, some (36, true)⟩ rfl (fun _ _ _ h => h) hHeld ?_
        refine take_n 41 ⟨some 77, Op.indexAddr 31 (Operand.tmp 74) (Operand.tmp 76), _, _, _, some (36, true)⟩ rfl (fun _ _ _ h => h) hHeld ?_
        refine take_n 42 ⟨some 78, Op.fieldAddr 52 (Operand.tmp 77) 0, _, _, _, some (36, true)⟩ rfl (fun _ _ _ h => h) hHeld ?_
        refine take_n 43 ⟨some 79, Op.load 9 (Operand.tmp 78), _, _, _, some (36, true)⟩ rfl (fun _ _ _ h => h) hHeld ?_
        refine take_n 44 ⟨some 80, Op.fieldAddr 52 (Operand.tmp 4) 0, _, _, _, some (36, true)⟩ rfl (fun _ _ _ h => h) hHeld ?_
        refine take_n 45 ⟨some 81, Op.load 9 (Operand.tmp 80), _, _, _, some (36, true)⟩ rfl (fun _ _ _ h => h) hHeld ?_
        refine take_n 46 ⟨some 82, Op.binOp BinOp.geq 9 (Operand.tmp 79) (Operand.tmp 81) 9, _, _, _, some (36, true)⟩ rfl (fun _ _ _ h => h) hHeld ?_
        refine take_n 47 ⟨some 83, Op.pick (Operand.tmp 72) (Operand.tmp 82) (Operand.const (Value.bool false)), _, _, _, some (33, false)⟩ rfl (fun _ _ _ h => h) hHeld ?_
        refine take_v (v := ?_) 48 ⟨some 84, Op.pick (Operand.tmp 69) (Operand.const (Value.bool true)) (Operand.tmp 83), _, _, _, none⟩ rfl (fun _ _ _ h => h) ?_ hHeld ?_
        rotate_left
        · (intro W _; go_simp <;> (try with_reducible rfl))
        refine wpAnyH_done (by kernel_rfl) ?_ _
        refine NoPanic.normal ?_
        have HE := (show Hid _ from hHeld)
        clear hHeld
        go_wp2
        go_ret
        exact ⟨ret_bool HN.out.symm, HE.out.2.2.1⟩
      have HK : Hid (∀ W, Calls Tryz.prog 50 #[.string (S.R k).f0] W fun r w' => r = .returned (.bool true) ∧ w' = W) := fun W => by have := l1Key_any (S.R k).f0 W hz.1; rw [e1] at this; exact this
      cases e2 : valOk (S.R k).f1
      · have HL : Hid (∀ W, Calls Tryz.prog 51 #[.string (S.R k).f1] W fun r w' => r = .returned (.bool false) ∧ w' = W) := fun W => by have := l1Value_any (S.R k).f1 W hz.2; rw [e2] at this; exact this
        have HN : Hid (goodB S = false) := HNR.out (by rw [HR0.out, e1, e2]; rfl)
        go_upto_region 6 with fail
        refine wp_region_noPanic ?_
        refine wp_region_held_drew (S := fun W => RcH w [.int .i64 S.ep, .slice (some ⟨b, off, none⟩) S.rn rc, .slice ta S.tn tc, .slice oa S.on oc] [.string (S.R k).f0, .string (S.R k).f1, .int .i64 (S.R k).f2, .int .i64 (S.R k).f3, .bool (S.R k).f4, .int .i64 (S.R k).f5] wr.heap.size b off S.rn S.R W) (by kernel_rfl) H1.out.1 (fun hHeld => ?_)
        refine take_v (v := ?_) 0 ⟨some 36, Op.fieldAddr 52 (Operand.tmp 4) 0, _, _, _, none⟩ rfl (fun _ _ _ h => h) ?_ hHeld ?_
        rotate_left
        · (intro W _; go_simp <;> (try with_reducible rfl))
        refine take_v (v := ?_) 1 ⟨some 37, Op.load 9 (Operand.tmp 36), _, _, _, none⟩ rfl (fun _ _ _ h => h) ?_ hHeld ?_
        rotate_left
        · (intro W hSW; (have s0 := hSW.1.cell 0 rfl; have s1 := hSW.1.cell 1 rfl; have s2 := hSW.1.cell 2 rfl; have s3 := hSW.1.cell 3 rfl; have s4 := hSW.1.cell 4 rfl; have s5 := hSW.1.cell 5 rfl; have s6 := hSW.1.2; have s7 := hSW.2.1.cell 0 rfl; have s8 := hSW.2.1.cell 1 rfl; have s9 := hSW.2.1.2); go_simp <;> (try with_reducible rfl))
        refine ready_call 2 ⟨some 38, Op.call { callee := Callee.value (Operand.func 50), args := #[Operand.tmp 37], argTypes := #[9] }, _, _, _, none⟩ (by kernel_rfl) rfl (by kernel_rfl) (fun KC hK => ?_)
        go_wp2_with fail
        refine (HK.out _).mono ?_
        rintro r w2 ⟨rfl, rfl⟩
        refine hK.out _ _ hHeld (fun hHeld => ?_)
        clear hK KC
        refine take_v (v := ?_) 3 ⟨some 39, Op.unOp UnOp.not 4 (Operand.tmp 38), _, _, _, none⟩ rfl (fun _ _ _ h => h) ?_ hHeld ?_
        rotate_left
        · (intro W _; go_simp <;> (try with_reducible rfl))
        refine take_v (v := ?_) 4 ⟨some 40, Op.move (Operand.tmp 39), _, _, _, none⟩ rfl (fun _ _ _ h => h) ?_ hHeld ?_
        rotate_left
        · (intro W _; go_simp <;> (try with_reducible rfl))
        refine take_v (v := ?_) 5 ⟨some 41, Op.fieldAddr 52 (Operand.tmp 4) 1, _, _, _, some (4, false)⟩ rfl (fun _ _ _ h => h) ?_ hHeld ?_
        rotate_left
        · (intro W _; go_simp <;> (try with_reducible rfl))
        refine take_v (v := ?_) 6 ⟨some 42, Op.load 9 (Operand.tmp 41), _, _, _, some (4, false)⟩ rfl (fun _ _ _ h => h) ?_ hHeld ?_
        rotate_left
        · (intro W hSW; (have s0 := hSW.1.cell 0 rfl; have s1 := hSW.1.cell 1 rfl; have s2 := hSW.1.cell 2 rfl; have s3 := hSW.1.cell 3 rfl; have s4 := hSW.1.cell 4 rfl; have s5 := hSW.1.cell 5 rfl; have s6 := hSW.1.2; have s7 := hSW.2.1.cell 0 rfl; have s8 := hSW.2.1.cell 1 rfl; have s9 := hSW.2.1.2); go_simp <;> (try with_reducible rfl))
        refine ready_call 7 ⟨some 43, Op.call { callee := Callee.value (Operand.func 51), args := #[Operand.tmp 42], argTypes := #[9] }, _, _, _, some (4, false)⟩ (by kernel_rfl) rfl (by kernel_rfl) (fun KC hK => ?_)
        go_wp2_with fail
        refine (HL.out _).mono ?_
        rintro r w2 ⟨rfl, rfl⟩
        refine hK.out _ _ hHeld (fun hHeld => ?_)
        clear hK KC
        refine take_v (v := ?_) 8 ⟨some 44, Op.unOp UnOp.not 4 (Operand.tmp 43), _, _, _, some (4, false)⟩ rfl (fun _ _ _ h => h) ?_ hHeld ?_
        rotate_left
        · (intro W _; go_simp <;> (try with_reducible rfl))
        refine take_v (v := ?_) 9 ⟨some 45, Op.pick (Operand.tmp 40) (Operand.const (Value.bool true)) (Operand.tmp 44), _, _, _, none⟩ rfl (fun _ _ _ h => h) ?_ hHeld ?_
        rotate_left
        · (intro W _; go_simp <;> (try with_reducible rfl))
        refine take_v (v := ?_) 10 ⟨some 46, Op.move (Operand.tmp 45), _, _, _, none⟩ rfl (fun _ _ _ h => h) ?_ hHeld ?_
        rotate_left
        · (intro W _; go_simp <;> (try with_reducible rfl))
        refine take_n 11 ⟨some 47, Op.fieldAddr 52 (Operand.tmp 4) 2, _, _, _, some (10, false)⟩ rfl (fun _ _ _ h => h) hHeld ?_
        refine take_n 12 ⟨some 48, Op.load 50 (Operand.tmp 47), _, _, _, some (10, false)⟩ rfl (fun _ _ _ h => h) hHeld ?_
        refine take_n 13 ⟨some 49, Op.call { callee := Callee.value (Operand.func 52), args := #[Operand.tmp 48], argTypes := #[50] }, _, _, _, some (10, false)⟩ rfl (fun _ _ _ h => h) hHeld ?_
        refine take_n 14 ⟨some 50, Op.unOp UnOp.not 4 (Operand.tmp 49), _, _, _, some (10, false)⟩ rfl (fun _ _ _ h => h) hHeld ?_
        refine take_v (v := ?_) 15 ⟨some 51, Op.pick (Operand.tmp 46) (Operand.const (Value.bool true)) (Operand.tmp 50), _, _, _, none⟩ rfl (fun _ _ _ h => h) ?_ hHeld ?_
        rotate_left
        · (intro W _; go_simp <;> (try with_reducible rfl))
        refine take_v (v := ?_) 16 ⟨some 52, Op.move (Operand.tmp 51), _, _, _, none⟩ rfl (fun _ _ _ h => h) ?_ hHeld ?_
        rotate_left
        · (intro W _; go_simp <;> (try with_reducible rfl))
        refine take_n 17 ⟨some 53, Op.fieldAddr 52 (Operand.tmp 4) 2, _, _, _, some (16, false)⟩ rfl (fun _ _ _ h => h) hHeld ?_
        refine take_n 18 ⟨some 54, Op.fieldAddr 50 (Operand.tmp 53) 0, _, _, _, some (16, false)⟩ rfl (fun _ _ _ h => h) hHeld ?_
        refine take_n 19 ⟨some 55, Op.load 3 (Operand.tmp 54), _, _, _, some (16, false)⟩ rfl (fun _ _ _ h => h) hHeld ?_
        refine take_n 20 ⟨some 56, Op.fieldAddr 34 (Operand.tmp 1) 0, _, _, _, some (16, false)⟩ rfl (fun _ _ _ h => h) hHeld ?_
        refine take_n 21 ⟨some 57, Op.load 3 (Operand.tmp 56), _, _, _, some (16, false)⟩ rfl (fun _ _ _ h => h) hHeld ?_
        refine take_n 22 ⟨some 58, Op.binOp BinOp.gtr 3 (Operand.tmp 55) (Operand.tmp 57) 3, _, _, _, some (16, false)⟩ rfl (fun _ _ _ h => h) hHeld ?_
        refine take_v (v := ?_) 23 ⟨some 59, Op.pick (Operand.tmp 52) (Operand.const (Value.bool true)) (Operand.tmp 58), _, _, _, none⟩ rfl (fun _ _ _ h => h) ?_ hHeld ?_
        rotate_left
        · (intro W _; go_simp <;> (try with_reducible rfl))
        refine take_v (v := ?_) 24 ⟨some 60, Op.move (Operand.tmp 59), _, _, _, none⟩ rfl (fun _ _ _ h => h) ?_ hHeld ?_
        rotate_left
        · (intro W _; go_simp <;> (try with_reducible rfl))
        refine take_n 25 ⟨some 61, Op.fieldAddr 52 (Operand.tmp 4) 2, _, _, _, some (24, false)⟩ rfl (fun _ _ _ h => h) hHeld ?_
        refine take_n 26 ⟨some 62, Op.fieldAddr 50 (Operand.tmp 61) 2, _, _, _, some (24, false)⟩ rfl (fun _ _ _ h => h) hHeld ?_
        refine take_n 27 ⟨some 63, Op.load 4 (Operand.tmp 62), _, _, _, some (24, false)⟩ rfl (fun _ _ _ h => h) hHeld ?_
        refine take_n 28 ⟨some 64, Op.fieldAddr 52 (Operand.tmp 4) 3, _, _, _, some (24, false)⟩ rfl (fun _ _ _ h => h) hHeld ?_
        refine take_n 29 ⟨some 65, Op.load 3 (Operand.tmp 64), _, _, _, some (24, false)⟩ rfl (fun _ _ _ h => h) hHeld ?_
        refine take_n 30 ⟨some 66, Op.binOp BinOp.neq 3 (Operand.tmp 65) (Operand.const (Value.int IntKind.i64 0)) 3, _, _, _, some (24, false)⟩ rfl (fun _ _ _ h => h) hHeld ?_
        refine take_n 31 ⟨some 67, Op.binOp BinOp.neq 4 (Operand.tmp 63) (Operand.tmp 66) 4, _, _, _, some (24, false)⟩ rfl (fun _ _ _ h => h) hHeld ?_
        refine take_v (v := ?_) 32 ⟨some 68, Op.pick (Operand.tmp 60) (Operand.const (Value.bool true)) (Operand.tmp 67), _, _, _, none⟩ rfl (fun _ _ _ h => h) ?_ hHeld ?_
        rotate_left
        · (intro W _; go_simp <;> (try with_reducible rfl))
        refine take_v (v := ?_) 33 ⟨some 69, Op.move (Operand.tmp 68), _, _, _, none⟩ rfl (fun _ _ _ h => h) ?_ hHeld ?_
        rotate_left
        · (intro W _; go_simp <;> (try with_reducible rfl))
        refine take_n 34 ⟨some 70, Op.move (Operand.tmp 3), _, _, _, some (33, false)⟩ rfl (fun _ _ _ h => h) hHeld ?_
        refine take_n 35 ⟨some 71, Op.binOp BinOp.gtr 3 (Operand.tmp 70) (Operand.const (Value.int IntKind.i64 0)) 3, _, _, _, some (33, false)⟩ rfl (fun _ _ _ h => h) hHeld ?_
        refine take_n 36 ⟨some 72, Op.move (Operand.tmp 71), _, _, _, some (33, false)⟩ rfl (fun _ _ _ h => h) hHeld ?_
        refine take_n 37 ⟨some 73, Op.fieldAddr 34 (Operand.tmp 1) 1, _, _, _, some (36, true)⟩ rfl (fun _ _ _ h => h) hHeld ?_
        refine take_n 38 ⟨some 74, Op.load 31 (Operand.tmp 73), _, _, _, some (36, true)⟩ rfl (fun _ _ _ h => h) hHeld ?_
        refine take_n 39 ⟨some 75, Op.move (Operand.tmp 3), _, _, _, some (36, true)⟩ rfl (fun _ _ _ h => h) hHeld ?_
        refine take_n 40 ⟨some 76, Op.binOp BinOp.sub 3 (Operand.tmp 75) (Operand.const (Value.int IntKind.i64 1)) 3, _, _, _, some (36, true)⟩ rfl (fun _ _ _ h => h) hHeld ?_
        refine take_n 41 ⟨some 77, Op.indexAddr 31 (Operand.tmp 74) (Operand.tmp 76), _, _, _, some (36, true)⟩ rfl (fun _ _ _ h => h) hHeld ?_
        refine take_n 42 ⟨some 78, Op.fieldAddr 52 (Operand.tmp 77) 0, _, _, _, some (36, true)⟩ rfl (fun _ _ _ h => h) hHeld ?_
        refine take_n 43 ⟨some 79, Op.load 9 (Operand.tmp 78), _, _, _, some (36, true)⟩ rfl (fun _ _ _ h => h) hHeld ?_
        refine take_n 44 ⟨some 80, Op.fieldAddr 52 (Operand.tmp 4) 0, _, _, _, some (36, true)⟩ rfl (fun _ _ _ h => h) hHeld ?_
        refine take_n 45 ⟨some 81, Op.load 9 (Operand.tmp 80), _, _, _, some (36, true)⟩ rfl (fun _ _ _ h => h) hHeld ?_
        refine take_n 46 ⟨some 82, Op.binOp BinOp.geq 9 (Operand.tmp 79) (Operand.tmp 81) 9, _, _, _, some (36, true)⟩ rfl (fun _ _ _ h => h) hHeld ?_
        refine take_n 47 ⟨some 83, Op.pick (Operand.tmp 72) (Operand.tmp 82) (Operand.const (Value.bool false)), _, _, _, some (33, false)⟩ rfl (fun _ _ _ h => h) hHeld ?_
        refine take_v (v := ?_) 48 ⟨some 84, Op.pick (Operand.tmp 69) (Operand.const (Value.bool true)) (Operand.tmp 83), _, _, _, none⟩ rfl (fun _ _ _ h => h) ?_ hHeld ?_
        rotate_left
        · (intro W _; go_simp <;> (try with_reducible rfl))
        refine wpAnyH_done (by kernel_rfl) ?_ _
        refine NoPanic.normal ?_
        have HE := (show Hid _ from hHeld)
        clear hHeld
        go_wp2
        go_ret
        exact ⟨ret_bool HN.out.symm, HE.out.2.2.1⟩
      have HL : Hid (∀ W, Calls Tryz.prog 51 #[.string (S.R k).f1] W fun r w' => r = .returned (.bool true) ∧ w' = W) := fun W => by have := l1Value_any (S.R k).f1 W hz.2; rw [e2] at this; exact this
      cases eT : goodT (S.R k).f2 (S.R k).f3
      · have HTd : Hid (∀ W, Calls Tryz.prog 52 #[.agg #[.int .i64 (S.R k).f2, .int .i64 (S.R k).f3, .bool (S.R k).f4]] W fun r w' => r = .returned (.bool false) ∧ Below W.heap.size W w') := fun W => by have := l1Tid_any (S.R k).f2 (S.R k).f3 (S.R k).f4 W; rw [eT] at this; exact this
        have HN : Hid (goodB S = false) := HNR.out (by rw [HR0.out, e1, e2, eT]; rfl)
        go_upto_region 6 with fail
        refine wp_region_noPanic ?_
        refine wp_region_held_drew (S := fun W => RcH w [.int .i64 S.ep, .slice (some ⟨b, off, none⟩) S.rn rc, .slice ta S.tn tc, .slice oa S.on oc] [.string (S.R k).f0, .string (S.R k).f1, .int .i64 (S.R k).f2, .int .i64 (S.R k).f3, .bool (S.R k).f4, .int .i64 (S.R k).f5] wr.heap.size b off S.rn S.R W) (by kernel_rfl) H1.out.1 (fun hHeld => ?_)
        refine take_v (v := ?_) 0 ⟨some 36, Op.fieldAddr 52 (Operand.tmp 4) 0, _, _, _, none⟩ rfl (fun _ _ _ h => h) ?_ hHeld ?_
        rotate_left
        · (intro W _; go_simp <;> (try with_reducible rfl))
        refine take_v (v := ?_) 1 ⟨some 37, Op.load 9 (Operand.tmp 36), _, _, _, none⟩ rfl (fun _ _ _ h => h) ?_ hHeld ?_
        rotate_left
        · (intro W hSW; (have s0 := hSW.1.cell 0 rfl; have s1 := hSW.1.cell 1 rfl; have s2 := hSW.1.cell 2 rfl; have s3 := hSW.1.cell 3 rfl; have s4 := hSW.1.cell 4 rfl; have s5 := hSW.1.cell 5 rfl; have s6 := hSW.1.2; have s7 := hSW.2.1.cell 0 rfl; have s8 := hSW.2.1.cell 1 rfl; have s9 := hSW.2.1.2); go_simp <;> (try with_reducible rfl))
        refine ready_call 2 ⟨some 38, Op.call { callee := Callee.value (Operand.func 50), args := #[Operand.tmp 37], argTypes := #[9] }, _, _, _, none⟩ (by kernel_rfl) rfl (by kernel_rfl) (fun KC hK => ?_)
        go_wp2_with fail
        refine (HK.out _).mono ?_
        rintro r w2 ⟨rfl, rfl⟩
        refine hK.out _ _ hHeld (fun hHeld => ?_)
        clear hK KC
        refine take_v (v := ?_) 3 ⟨some 39, Op.unOp UnOp.not 4 (Operand.tmp 38), _, _, _, none⟩ rfl (fun _ _ _ h => h) ?_ hHeld ?_
        rotate_left
        · (intro W _; go_simp <;> (try with_reducible rfl))
        refine take_v (v := ?_) 4 ⟨some 40, Op.move (Operand.tmp 39), _, _, _, none⟩ rfl (fun _ _ _ h => h) ?_ hHeld ?_
        rotate_left
        · (intro W _; go_simp <;> (try with_reducible rfl))
        refine take_v (v := ?_) 5 ⟨some 41, Op.fieldAddr 52 (Operand.tmp 4) 1, _, _, _, some (4, false)⟩ rfl (fun _ _ _ h => h) ?_ hHeld ?_
        rotate_left
        · (intro W _; go_simp <;> (try with_reducible rfl))
        refine take_v (v := ?_) 6 ⟨some 42, Op.load 9 (Operand.tmp 41), _, _, _, some (4, false)⟩ rfl (fun _ _ _ h => h) ?_ hHeld ?_
        rotate_left
        · (intro W hSW; (have s0 := hSW.1.cell 0 rfl; have s1 := hSW.1.cell 1 rfl; have s2 := hSW.1.cell 2 rfl; have s3 := hSW.1.cell 3 rfl; have s4 := hSW.1.cell 4 rfl; have s5 := hSW.1.cell 5 rfl; have s6 := hSW.1.2; have s7 := hSW.2.1.cell 0 rfl; have s8 := hSW.2.1.cell 1 rfl; have s9 := hSW.2.1.2); go_simp <;> (try with_reducible rfl))
        refine ready_call 7 ⟨some 43, Op.call { callee := Callee.value (Operand.func 51), args := #[Operand.tmp 42], argTypes := #[9] }, _, _, _, some (4, false)⟩ (by kernel_rfl) rfl (by kernel_rfl) (fun KC hK => ?_)
        go_wp2_with fail
        refine (HL.out _).mono ?_
        rintro r w2 ⟨rfl, rfl⟩
        refine hK.out _ _ hHeld (fun hHeld => ?_)
        clear hK KC
        refine take_v (v := ?_) 8 ⟨some 44, Op.unOp UnOp.not 4 (Operand.tmp 43), _, _, _, some (4, false)⟩ rfl (fun _ _ _ h => h) ?_ hHeld ?_
        rotate_left
        · (intro W _; go_simp <;> (try with_reducible rfl))
        refine take_v (v := ?_) 9 ⟨some 45, Op.pick (Operand.tmp 40) (Operand.const (Value.bool true)) (Operand.tmp 44), _, _, _, none⟩ rfl (fun _ _ _ h => h) ?_ hHeld ?_
        rotate_left
        · (intro W _; go_simp <;> (try with_reducible rfl))
        refine take_v (v := ?_) 10 ⟨some 46, Op.move (Operand.tmp 45), _, _, _, none⟩ rfl (fun _ _ _ h => h) ?_ hHeld ?_
        rotate_left
        · (intro W _; go_simp <;> (try with_reducible rfl))
        refine take_v (v := ?_) 11 ⟨some 47, Op.fieldAddr 52 (Operand.tmp 4) 2, _, _, _, some (10, false)⟩ rfl (fun _ _ _ h => h) ?_ hHeld ?_
        rotate_left
        · (intro W _; go_simp <;> (try with_reducible rfl))
        refine take_v (v := ?_) 12 ⟨some 48, Op.load 50 (Operand.tmp 47), _, _, _, some (10, false)⟩ rfl (fun _ _ _ h => h) ?_ hHeld ?_
        rotate_left
        · (intro W hSW; (have s0 := hSW.1.cell 0 rfl; have s1 := hSW.1.cell 1 rfl; have s2 := hSW.1.cell 2 rfl; have s3 := hSW.1.cell 3 rfl; have s4 := hSW.1.cell 4 rfl; have s5 := hSW.1.cell 5 rfl; have s6 := hSW.1.2; have s7 := hSW.2.1.cell 0 rfl; have s8 := hSW.2.1.cell 1 rfl; have s9 := hSW.2.1.2); go_simp <;> (try with_reducible rfl))
        refine ready_call 13 ⟨some 49, Op.call { callee := Callee.value (Operand.func 52), args := #[Operand.tmp 48], argTypes := #[50] }, _, _, _, some (10, false)⟩ (by kernel_rfl) rfl (by kernel_rfl) (fun KC hK => ?_)
        go_wp2_with fail
        refine (HTd.out _).mono ?_
        rintro r w2 ⟨rfl, hb⟩
        have h2 := hHeld.next hb
        clear hb
        refine hK.out _ _ h2 (fun hHeld => ?_)
        clear hK KC
        refine take_v (v := ?_) 14 ⟨some 50, Op.unOp UnOp.not 4 (Operand.tmp 49), _, _, _, some (10, false)⟩ rfl (fun _ _ _ h => h) ?_ hHeld ?_
        rotate_left
        · (intro W _; go_simp <;> (try with_reducible rfl))
        refine take_v (v := ?_) 15 ⟨some 51, Op.pick (Operand.tmp 46) (Operand.const (Value.bool true)) (Operand.tmp 50), _, _, _, none⟩ rfl (fun _ _ _ h => h) ?_ hHeld ?_
        rotate_left
        · (intro W _; go_simp <;> (try with_reducible rfl))
        refine take_v (v := ?_) 16 ⟨some 52, Op.move (Operand.tmp 51), _, _, _, none⟩ rfl (fun _ _ _ h => h) ?_ hHeld ?_
        rotate_left
        · (intro W _; go_simp <;> (try with_reducible rfl))
        refine take_n 17 ⟨some 53, Op.fieldAddr 52 (Operand.tmp 4) 2, _, _, _, some (16, false)⟩ rfl (fun _ _ _ h => h) hHeld ?_
        refine take_n 18 ⟨some 54, Op.fieldAddr 50 (Operand.tmp 53) 0, _, _, _, some (16, false)⟩ rfl (fun _ _ _ h => h) hHeld ?_
        refine take_n 19 ⟨some 55, Op.load 3 (Operand.tmp 54), _, _, _, some (16, false)⟩ rfl (fun _ _ _ h => h) hHeld ?_
        refine take_n 20 ⟨some 56, Op.fieldAddr 34 (Operand.tmp 1) 0, _, _, _, some (16, false)⟩ rfl (fun _ _ _ h => h) hHeld ?_
        refine take_n 21 ⟨some 57, Op.load 3 (Operand.tmp 56), _, _, _, some (16, false)⟩ rfl (fun _ _ _ h => h) hHeld ?_
        refine take_n 22 ⟨some 58, Op.binOp BinOp.gtr 3 (Operand.tmp 55) (Operand.tmp 57) 3, _, _, _, some (16, false)⟩ rfl (fun _ _ _ h => h) hHeld ?_
        refine take_v (v := ?_) 23 ⟨some 59, Op.pick (Operand.tmp 52) (Operand.const (Value.bool true)) (Operand.tmp 58), _, _, _, none⟩ rfl (fun _ _ _ h => h) ?_ hHeld ?_
        rotate_left
        · (intro W _; go_simp <;> (try with_reducible rfl))
        refine take_v (v := ?_) 24 ⟨some 60, Op.move (Operand.tmp 59), _, _, _, none⟩ rfl (fun _ _ _ h => h) ?_ hHeld ?_
        rotate_left
        · (intro W _; go_simp <;> (try with_reducible rfl))
        refine take_n 25 ⟨some 61, Op.fieldAddr 52 (Operand.tmp 4) 2, _, _, _, some (24, false)⟩ rfl (fun _ _ _ h => h) hHeld ?_
        refine take_n 26 ⟨some 62, Op.fieldAddr 50 (Operand.tmp 61) 2, _, _, _, some (24, false)⟩ rfl (fun _ _ _ h => h) hHeld ?_
        refine take_n 27 ⟨some 63, Op.load 4 (Operand.tmp 62), _, _, _, some (24, false)⟩ rfl (fun _ _ _ h => h) hHeld ?_
        refine take_n 28 ⟨some 64, Op.fieldAddr 52 (Operand.tmp 4) 3, _, _, _, some (24, false)⟩ rfl (fun _ _ _ h => h) hHeld ?_
        refine take_n 29 ⟨some 65, Op.load 3 (Operand.tmp 64), _, _, _, some (24, false)⟩ rfl (fun _ _ _ h => h) hHeld ?_
        refine take_n 30 ⟨some 66, Op.binOp BinOp.neq 3 (Operand.tmp 65) (Operand.const (Value.int IntKind.i64 0)) 3, _, _, _, some (24, false)⟩ rfl (fun _ _ _ h => h) hHeld ?_
        refine take_n 31 ⟨some 67, Op.binOp BinOp.neq 4 (Operand.tmp 63) (Operand.tmp 66) 4, _, _, _, some (24, false)⟩ rfl (fun _ _ _ h => h) hHeld ?_
        refine take_v (v := ?_) 32 ⟨some 68, Op.pick (Operand.tmp 60) (Operand.const (Value.bool true)) (Operand.tmp 67), _, _, _, none⟩ rfl (fun _ _ _ h => h) ?_ hHeld ?_
        rotate_left
        · (intro W _; go_simp <;> (try with_reducible rfl))
        refine take_v (v := ?_) 33 ⟨some 69, Op.move (Operand.tmp 68), _, _, _, none⟩ rfl (fun _ _ _ h => h) ?_ hHeld ?_
        rotate_left
        · (intro W _; go_simp <;> (try with_reducible rfl))
        refine take_n 34 ⟨some 70, Op.move (Operand.tmp 3), _, _, _, some (33, false)⟩ rfl (fun _ _ _ h => h) hHeld ?_
        refine take_n 35 ⟨some 71, Op.binOp BinOp.gtr 3 (Operand.tmp 70) (Operand.const (Value.int IntKind.i64 0)) 3, _, _, _, some (33, false)⟩ rfl (fun _ _ _ h => h) hHeld ?_
        refine take_n 36 ⟨some 72, Op.move (Operand.tmp 71), _, _, _, some (33, false)⟩ rfl (fun _ _ _ h => h) hHeld ?_
        refine take_n 37 ⟨some 73, Op.fieldAddr 34 (Operand.tmp 1) 1, _, _, _, some (36, true)⟩ rfl (fun _ _ _ h => h) hHeld ?_
        refine take_n 38 ⟨some 74, Op.load 31 (Operand.tmp 73), _, _, _, some (36, true)⟩ rfl (fun _ _ _ h => h) hHeld ?_
        refine take_n 39 ⟨some 75, Op.move (Operand.tmp 3), _, _, _, some (36, true)⟩ rfl (fun _ _ _ h => h) hHeld ?_
        refine take_n 40 ⟨some 76, Op.binOp BinOp.sub 3 (Operand.tmp 75) (Operand.const (Value.int IntKind.i64 1)) 3, _, _, _, some (36, true)⟩ rfl (fun _ _ _ h => h) hHeld ?_
        refine take_n 41 ⟨some 77, Op.indexAddr 31 (Operand.tmp 74) (Operand.tmp 76), _, _, _, some (36, true)⟩ rfl (fun _ _ _ h => h) hHeld ?_
        refine take_n 42 ⟨some 78, Op.fieldAddr 52 (Operand.tmp 77) 0, _, _, _, some (36, true)⟩ rfl (fun _ _ _ h => h) hHeld ?_
        refine take_n 43 ⟨some 79, Op.load 9 (Operand.tmp 78), _, _, _, some (36, true)⟩ rfl (fun _ _ _ h => h) hHeld ?_
        refine take_n 44 ⟨some 80, Op.fieldAddr 52 (Operand.tmp 4) 0, _, _, _, some (36, true)⟩ rfl (fun _ _ _ h => h) hHeld ?_
        refine take_n 45 ⟨some 81, Op.load 9 (Operand.tmp 80), _, _, _, some (36, true)⟩ rfl (fun _ _ _ h => h) hHeld ?_
        refine take_n 46 ⟨some 82, Op.binOp BinOp.geq 9 (Operand.tmp 79) (Operand.tmp 81) 9, _, _, _, some (36, true)⟩ rfl (fun _ _ _ h => h) hHeld ?_
        refine take_n 47 ⟨some 83, Op.pick (Operand.tmp 72) (Operand.tmp 82) (Operand.const (Value.bool false)), _, _, _, some (33, false)⟩ rfl (fun _ _ _ h => h) hHeld ?_
        refine take_v (v := ?_) 48 ⟨some 84, Op.pick (Operand.tmp 69) (Operand.const (Value.bool true)) (Operand.tmp 83), _, _, _, none⟩ rfl (fun _ _ _ h => h) ?_ hHeld ?_
        rotate_left
        · (intro W _; go_simp <;> (try with_reducible rfl))
        refine wpAnyH_done (by kernel_rfl) ?_ _
        refine NoPanic.normal ?_
        have HE := (show Hid _ from hHeld)
        clear hHeld
        go_wp2
        go_ret
        exact ⟨ret_bool HN.out.symm, HE.out.2.2.1⟩
      by_cases eE : (S.R k).f2 ≤ S.ep
      case neg =>
        have HTd : Hid (∀ W, Calls Tryz.prog 52 #[.agg #[.int .i64 (S.R k).f2, .int .i64 (S.R k).f3, .bool (S.R k).f4]] W fun r w' => r = .returned (.bool true) ∧ Below W.heap.size W w') := fun W => by have := l1Tid_any (S.R k).f2 (S.R k).f3 (S.R k).f4 W; rw [eT] at this; exact this
        have eE' : decide (S.ep < (S.R k).f2) = true := by simp; omega
        have HN : Hid (goodB S = false) := HNR.out (by rw [HR0.out, e1, e2, eT, decide_eq_false eE]; rfl)
        clear eE
        go_upto_region 6 with fail
        refine wp_region_noPanic ?_
        refine wp_region_held_drew (S := fun W => RcH w [.int .i64 S.ep, .slice (some ⟨b, off, none⟩) S.rn rc, .slice ta S.tn tc, .slice oa S.on oc] [.string (S.R k).f0, .string (S.R k).f1, .int .i64 (S.R k).f2, .int .i64 (S.R k).f3, .bool (S.R k).f4, .int .i64 (S.R k).f5] wr.heap.size b off S.rn S.R W) (by kernel_rfl) H1.out.1 (fun hHeld => ?_)
        refine take_v (v := ?_) 0 ⟨some 36, Op.fieldAddr 52 (Operand.tmp 4) 0, _, _, _, none⟩ rfl (fun _ _ _ h => h) ?_ hHeld ?_
        rotate_left
        · (intro W _; go_simp <;> (try with_reducible rfl))
        refine take_v (v := ?_) 1 ⟨some 37, Op.load 9 (Operand.tmp 36), _, _, _, none⟩ rfl (fun _ _ _ h => h) ?_ hHeld ?_
        rotate_left
        · (intro W hSW; (have s0 := hSW.1.cell 0 rfl; have s1 := hSW.1.cell 1 rfl; have s2 := hSW.1.cell 2 rfl; have s3 := hSW.1.cell 3 rfl; have s4 := hSW.1.cell 4 rfl; have s5 := hSW.1.cell 5 rfl; have s6 := hSW.1.2; have s7 := hSW.2.1.cell 0 rfl; have s8 := hSW.2.1.cell 1 rfl; have s9 := hSW.2.1.2); go_simp <;> (try with_reducible rfl))
        refine ready_call 2 ⟨some 38, Op.call { callee := Callee.value (Operand.func 50), args := #[Operand.tmp 37], argTypes := #[9] }, _, _, _, none⟩ (by kernel_rfl) rfl (by kernel_rfl) (fun KC hK => ?_)
        go_wp2_with fail
        refine (HK.out _).mono ?_
        rintro r w2 ⟨rfl, rfl⟩
        refine hK.out _ _ hHeld (fun hHeld => ?_)
        clear hK KC
        refine take_v (v := ?_) 3 ⟨some 39, Op.unOp UnOp.not 4 (Operand.tmp 38), _, _, _, none⟩ rfl (fun _ _ _ h => h) ?_ hHeld ?_
        rotate_left
        · (intro W _; go_simp <;> (try with_reducible rfl))
        refine take_v (v := ?_) 4 ⟨some 40, Op.move (Operand.tmp 39), _, _, _, none⟩ rfl (fun _ _ _ h => h) ?_ hHeld ?_
        rotate_left
        · (intro W _; go_simp <;> (try with_reducible rfl))
        refine take_v (v := ?_) 5 ⟨some 41, Op.fieldAddr 52 (Operand.tmp 4) 1, _, _, _, some (4, false)⟩ rfl (fun _ _ _ h => h) ?_ hHeld ?_
        rotate_left
        · (intro W _; go_simp <;> (try with_reducible rfl))
        refine take_v (v := ?_) 6 ⟨some 42, Op.load 9 (Operand.tmp 41), _, _, _, some (4, false)⟩ rfl (fun _ _ _ h => h) ?_ hHeld ?_
        rotate_left
        · (intro W hSW; (have s0 := hSW.1.cell 0 rfl; have s1 := hSW.1.cell 1 rfl; have s2 := hSW.1.cell 2 rfl; have s3 := hSW.1.cell 3 rfl; have s4 := hSW.1.cell 4 rfl; have s5 := hSW.1.cell 5 rfl; have s6 := hSW.1.2; have s7 := hSW.2.1.cell 0 rfl; have s8 := hSW.2.1.cell 1 rfl; have s9 := hSW.2.1.2); go_simp <;> (try with_reducible rfl))
        refine ready_call 7 ⟨some 43, Op.call { callee := Callee.value (Operand.func 51), args := #[Operand.tmp 42], argTypes := #[9] }, _, _, _, some (4, false)⟩ (by kernel_rfl) rfl (by kernel_rfl) (fun KC hK => ?_)
        go_wp2_with fail
        refine (HL.out _).mono ?_
        rintro r w2 ⟨rfl, rfl⟩
        refine hK.out _ _ hHeld (fun hHeld => ?_)
        clear hK KC
        refine take_v (v := ?_) 8 ⟨some 44, Op.unOp UnOp.not 4 (Operand.tmp 43), _, _, _, some (4, false)⟩ rfl (fun _ _ _ h => h) ?_ hHeld ?_
        rotate_left
        · (intro W _; go_simp <;> (try with_reducible rfl))
        refine take_v (v := ?_) 9 ⟨some 45, Op.pick (Operand.tmp 40) (Operand.const (Value.bool true)) (Operand.tmp 44), _, _, _, none⟩ rfl (fun _ _ _ h => h) ?_ hHeld ?_
        rotate_left
        · (intro W _; go_simp <;> (try with_reducible rfl))
        refine take_v (v := ?_) 10 ⟨some 46, Op.move (Operand.tmp 45), _, _, _, none⟩ rfl (fun _ _ _ h => h) ?_ hHeld ?_
        rotate_left
        · (intro W _; go_simp <;> (try with_reducible rfl))
        refine take_v (v := ?_) 11 ⟨some 47, Op.fieldAddr 52 (Operand.tmp 4) 2, _, _, _, some (10, false)⟩ rfl (fun _ _ _ h => h) ?_ hHeld ?_
        rotate_left
        · (intro W _; go_simp <;> (try with_reducible rfl))
        refine take_v (v := ?_) 12 ⟨some 48, Op.load 50 (Operand.tmp 47), _, _, _, some (10, false)⟩ rfl (fun _ _ _ h => h) ?_ hHeld ?_
        rotate_left
        · (intro W hSW; (have s0 := hSW.1.cell 0 rfl; have s1 := hSW.1.cell 1 rfl; have s2 := hSW.1.cell 2 rfl; have s3 := hSW.1.cell 3 rfl; have s4 := hSW.1.cell 4 rfl; have s5 := hSW.1.cell 5 rfl; have s6 := hSW.1.2; have s7 := hSW.2.1.cell 0 rfl; have s8 := hSW.2.1.cell 1 rfl; have s9 := hSW.2.1.2); go_simp <;> (try with_reducible rfl))
        refine ready_call 13 ⟨some 49, Op.call { callee := Callee.value (Operand.func 52), args := #[Operand.tmp 48], argTypes := #[50] }, _, _, _, some (10, false)⟩ (by kernel_rfl) rfl (by kernel_rfl) (fun KC hK => ?_)
        go_wp2_with fail
        refine (HTd.out _).mono ?_
        rintro r w2 ⟨rfl, hb⟩
        have h2 := hHeld.next hb
        clear hb
        refine hK.out _ _ h2 (fun hHeld => ?_)
        clear hK KC
        refine take_v (v := ?_) 14 ⟨some 50, Op.unOp UnOp.not 4 (Operand.tmp 49), _, _, _, some (10, false)⟩ rfl (fun _ _ _ h => h) ?_ hHeld ?_
        rotate_left
        · (intro W _; go_simp <;> (try with_reducible rfl))
        refine take_v (v := ?_) 15 ⟨some 51, Op.pick (Operand.tmp 46) (Operand.const (Value.bool true)) (Operand.tmp 50), _, _, _, none⟩ rfl (fun _ _ _ h => h) ?_ hHeld ?_
        rotate_left
        · (intro W _; go_simp <;> (try with_reducible rfl))
        refine take_v (v := ?_) 16 ⟨some 52, Op.move (Operand.tmp 51), _, _, _, none⟩ rfl (fun _ _ _ h => h) ?_ hHeld ?_
        rotate_left
        · (intro W _; go_simp <;> (try with_reducible rfl))
        refine take_v (v := ?_) 17 ⟨some 53, Op.fieldAddr 52 (Operand.tmp 4) 2, _, _, _, some (16, false)⟩ rfl (fun _ _ _ h => h) ?_ hHeld ?_
        rotate_left
        · (intro W _; go_simp <;> (try with_reducible rfl))
        refine take_v (v := ?_) 18 ⟨some 54, Op.fieldAddr 50 (Operand.tmp 53) 0, _, _, _, some (16, false)⟩ rfl (fun _ _ _ h => h) ?_ hHeld ?_
        rotate_left
        · (intro W _; go_simp <;> (try with_reducible rfl))
        refine take_v (v := ?_) 19 ⟨some 55, Op.load 3 (Operand.tmp 54), _, _, _, some (16, false)⟩ rfl (fun _ _ _ h => h) ?_ hHeld ?_
        rotate_left
        · (intro W hSW; (have s0 := hSW.1.cell 0 rfl; have s1 := hSW.1.cell 1 rfl; have s2 := hSW.1.cell 2 rfl; have s3 := hSW.1.cell 3 rfl; have s4 := hSW.1.cell 4 rfl; have s5 := hSW.1.cell 5 rfl; have s6 := hSW.1.2; have s7 := hSW.2.1.cell 0 rfl; have s8 := hSW.2.1.cell 1 rfl; have s9 := hSW.2.1.2); go_simp <;> (try with_reducible rfl))
        refine take_v (v := ?_) 20 ⟨some 56, Op.fieldAddr 34 (Operand.tmp 1) 0, _, _, _, some (16, false)⟩ rfl (fun _ _ _ h => h) ?_ hHeld ?_
        rotate_left
        · (intro W _; go_simp <;> (try with_reducible rfl))
        refine take_v (v := ?_) 21 ⟨some 57, Op.load 3 (Operand.tmp 56), _, _, _, some (16, false)⟩ rfl (fun _ _ _ h => h) ?_ hHeld ?_
        rotate_left
        · (intro W hSW; (have s0 := hSW.1.cell 0 rfl; have s1 := hSW.1.cell 1 rfl; have s2 := hSW.1.cell 2 rfl; have s3 := hSW.1.cell 3 rfl; have s4 := hSW.1.cell 4 rfl; have s5 := hSW.1.cell 5 rfl; have s6 := hSW.1.2; have s7 := hSW.2.1.cell 0 rfl; have s8 := hSW.2.1.cell 1 rfl; have s9 := hSW.2.1.2); go_simp <;> (try with_reducible rfl))
        refine take_v (v := ?_) 22 ⟨some 58, Op.binOp BinOp.gtr 3 (Operand.tmp 55) (Operand.tmp 57) 3, _, _, _, some (16, false)⟩ rfl (fun _ _ _ h => h) ?_ hHeld ?_
        rotate_left
        · (intro W _; go_simp <;> (try with_reducible rfl))
        refine take_v (v := ?_) 23 ⟨some 59, Op.pick (Operand.tmp 52) (Operand.const (Value.bool true)) (Operand.tmp 58), _, _, _, none⟩ rfl (fun _ _ _ h => h) ?_ hHeld ?_
        rotate_left
        · (intro W _; go_simp <;> (try with_reducible rfl))
        refine take_v (v := ?_) 24 ⟨some 60, Op.move (Operand.tmp 59), _, _, _, none⟩ rfl (fun _ _ _ h => h) ?_ hHeld ?_
        rotate_left
        · (intro W _; go_simp <;> (try with_reducible rfl))
        refine take_n 25 ⟨some 61, Op.fieldAddr 52 (Operand.tmp 4) 2, _, _, _, some (24, false)⟩ rfl (fun _ _ _ h => h) hHeld ?_
        refine take_n 26 ⟨some 62, Op.fieldAddr 50 (Operand.tmp 61) 2, _, _, _, some (24, false)⟩ rfl (fun _ _ _ h => h) hHeld ?_
        refine take_n 27 ⟨some 63, Op.load 4 (Operand.tmp 62), _, _, _, some (24, false)⟩ rfl (fun _ _ _ h => h) hHeld ?_
        refine take_n 28 ⟨some 64, Op.fieldAddr 52 (Operand.tmp 4) 3, _, _, _, some (24, false)⟩ rfl (fun _ _ _ h => h) hHeld ?_
        refine take_n 29 ⟨some 65, Op.load 3 (Operand.tmp 64), _, _, _, some (24, false)⟩ rfl (fun _ _ _ h => h) hHeld ?_
        refine take_n 30 ⟨some 66, Op.binOp BinOp.neq 3 (Operand.tmp 65) (Operand.const (Value.int IntKind.i64 0)) 3, _, _, _, some (24, false)⟩ rfl (fun _ _ _ h => h) hHeld ?_
        refine take_n 31 ⟨some 67, Op.binOp BinOp.neq 4 (Operand.tmp 63) (Operand.tmp 66) 4, _, _, _, some (24, false)⟩ rfl (fun _ _ _ h => h) hHeld ?_
        refine take_v (v := ?_) 32 ⟨some 68, Op.pick (Operand.tmp 60) (Operand.const (Value.bool true)) (Operand.tmp 67), _, _, _, none⟩ rfl (fun _ _ _ h => h) ?_ hHeld ?_
        rotate_left
        · (intro W _; go_simp <;> (try with_reducible rfl))
        refine take_v (v := ?_) 33 ⟨some 69, Op.move (Operand.tmp 68), _, _, _, none⟩ rfl (fun _ _ _ h => h) ?_ hHeld ?_
        rotate_left
        · (intro W _; go_simp <;> (try with_reducible rfl))
        refine take_n 34 ⟨some 70, Op.move (Operand.tmp 3), _, _, _, some (33, false)⟩ rfl (fun _ _ _ h => h) hHeld ?_
        refine take_n 35 ⟨some 71, Op.binOp BinOp.gtr 3 (Operand.tmp 70) (Operand.const (Value.int IntKind.i64 0)) 3, _, _, _, some (33, false)⟩ rfl (fun _ _ _ h => h) hHeld ?_
        refine take_n 36 ⟨some 72, Op.move (Operand.tmp 71), _, _, _, some (33, false)⟩ rfl (fun _ _ _ h => h) hHeld ?_
        refine take_n 37 ⟨some 73, Op.fieldAddr 34 (Operand.tmp 1) 1, _, _, _, some (36, true)⟩ rfl (fun _ _ _ h => h) hHeld ?_
        refine take_n 38 ⟨some 74, Op.load 31 (Operand.tmp 73), _, _, _, some (36, true)⟩ rfl (fun _ _ _ h => h) hHeld ?_
        refine take_n 39 ⟨some 75, Op.move (Operand.tmp 3), _, _, _, some (36, true)⟩ rfl (fun _ _ _ h => h) hHeld ?_
        refine take_n 40 ⟨some 76, Op.binOp BinOp.sub 3 (Operand.tmp 75) (Operand.const (Value.int IntKind.i64 1)) 3, _, _, _, some (36, true)⟩ rfl (fun _ _ _ h => h) hHeld ?_
        refine take_n 41 ⟨some 77, Op.indexAddr 31 (Operand.tmp 74) (Operand.tmp 76), _, _, _, some (36, true)⟩ rfl (fun _ _ _ h => h) hHeld ?_
        refine take_n 42 ⟨some 78, Op.fieldAddr 52 (Operand.tmp 77) 0, _, _, _, some (36, true)⟩ rfl (fun _ _ _ h => h) hHeld ?_
        refine take_n 43 ⟨some 79, Op.load 9 (Operand.tmp 78), _, _, _, some (36, true)⟩ rfl (fun _ _ _ h => h) hHeld ?_
        refine take_n 44 ⟨some 80, Op.fieldAddr 52 (Operand.tmp 4) 0, _, _, _, some (36, true)⟩ rfl (fun _ _ _ h => h) hHeld ?_
        refine take_n 45 ⟨some 81, Op.load 9 (Operand.tmp 80), _, _, _, some (36, true)⟩ rfl (fun _ _ _ h => h) hHeld ?_
        refine take_n 46 ⟨some 82, Op.binOp BinOp.geq 9 (Operand.tmp 79) (Operand.tmp 81) 9, _, _, _, some (36, true)⟩ rfl (fun _ _ _ h => h) hHeld ?_
        refine take_n 47 ⟨some 83, Op.pick (Operand.tmp 72) (Operand.tmp 82) (Operand.const (Value.bool false)), _, _, _, some (33, false)⟩ rfl (fun _ _ _ h => h) hHeld ?_
        refine take_v (v := ?_) 48 ⟨some 84, Op.pick (Operand.tmp 69) (Operand.const (Value.bool true)) (Operand.tmp 83), _, _, _, none⟩ rfl (fun _ _ _ h => h) ?_ hHeld ?_
        rotate_left
        · (intro W _; go_simp <;> (try with_reducible rfl))
        refine wpAnyH_done (by kernel_rfl) ?_ _
        refine NoPanic.normal ?_
        have HE := (show Hid _ from hHeld)
        clear hHeld
        go_wp2
        go_ret
        exact ⟨ret_bool HN.out.symm, HE.out.2.2.1⟩
      have eE' : decide (S.ep < (S.R k).f2) = false := by simp; omega
      have e0 : recOk S.ep (S.R k) = true := by rw [HR0.out, e1, e2, eT, decide_eq_true eE]; rfl
      clear eE
      cases e5 : ((S.R k).f5 == 0)
      · have H5 : Hid ((S.R k).f5 ≠ 0) := by show _ ≠ _; simpa using e5
        have e5' : ((S.R k).f5 != 0) = true := by rw [bne, e5]; rfl
        cases e4 : (S.R k).f4
        · have HN : Hid (goodB S = false) := no_rec hlt fun g => by
            rcases g.2.1 with ⟨g, _⟩ | ⟨_, g, _⟩
            · exact H5.out g
            · rw [e4] at g; cases g
          have HTd : Hid (∀ W, Calls Tryz.prog 52 #[.agg #[.int .i64 (S.R k).f2, .int .i64 (S.R k).f3, .bool false]] W fun r w' => r = .returned (.bool true) ∧ Below W.heap.size W w') := fun W => by have := l1Tid_any (S.R k).f2 (S.R k).f3 false W; rw [eT] at this; exact this
          rw [e4] at H1 c4
          go_upto_region 6 with fail
          refine wp_region_noPanic ?_
          refine wp_region_held_drew (S := fun W => RcH w [.int .i64 S.ep, .slice (some ⟨b, off, none⟩) S.rn rc, .slice ta S.tn tc, .slice oa S.on oc] [.string (S.R k).f0, .string (S.R k).f1, .int .i64 (S.R k).f2, .int .i64 (S.R k).f3, .bool false, .int .i64 (S.R k).f5] wr.heap.size b off S.rn S.R W) (by kernel_rfl) H1.out.1 (fun hHeld => ?_)
          refine take_v (v := ?_) 0 ⟨some 36, Op.fieldAddr 52 (Operand.tmp 4) 0, _, _, _, none⟩ rfl (fun _ _ _ h => h) ?_ hHeld ?_
          rotate_left
          · (intro W _; go_simp <;> (try with_reducible rfl))
          refine take_v (v := ?_) 1 ⟨some 37, Op.load 9 (Operand.tmp 36), _, _, _, none⟩ rfl (fun _ _ _ h => h) ?_ hHeld ?_
          rotate_left
          · (intro W hSW; (have s0 := hSW.1.cell 0 rfl; have s1 := hSW.1.cell 1 rfl; have s2 := hSW.1.cell 2 rfl; have s3 := hSW.1.cell 3 rfl; have s4 := hSW.1.cell 4 rfl; have s5 := hSW.1.cell 5 rfl; have s6 := hSW.1.2; have s7 := hSW.2.1.cell 0 rfl; have s8 := hSW.2.1.cell 1 rfl; have s9 := hSW.2.1.2); go_simp <;> (try with_reducible rfl))
          refine ready_call 2 ⟨some 38, Op.call { callee := Callee.value (Operand.func 50), args := #[Operand.tmp 37], argTypes := #[9] }, _, _, _, none⟩ (by kernel_rfl) rfl (by kernel_rfl) (fun KC hK => ?_)
          go_wp2_with fail
          refine (HK.out _).mono ?_
          rintro r w2 ⟨rfl, rfl⟩
          refine hK.out _ _ hHeld (fun hHeld => ?_)
          clear hK KC
          refine take_v (v := ?_) 3 ⟨some 39, Op.unOp UnOp.not 4 (Operand.tmp 38), _, _, _, none⟩ rfl (fun _ _ _ h => h) ?_ hHeld ?_
          rotate_left
          · (intro W _; go_simp <;> (try with_reducible rfl))
          refine take_v (v := ?_) 4 ⟨some 40, Op.move (Operand.tmp 39), _, _, _, none⟩ rfl (fun _ _ _ h => h) ?_ hHeld ?_
          rotate_left
          · (intro W _; go_simp <;> (try with_reducible rfl))
          refine take_v (v := ?_) 5 ⟨some 41, Op.fieldAddr 52 (Operand.tmp 4) 1, _, _, _, some (4, false)⟩ rfl (fun _ _ _ h => h) ?_ hHeld ?_
          rotate_left
          · (intro W _; go_simp <;> (try with_reducible rfl))
          refine take_v (v := ?_) 6 ⟨some 42, Op.load 9 (Operand.tmp 41), _, _, _, some (4, false)⟩ rfl (fun _ _ _ h => h) ?_ hHeld ?_
          rotate_left
          · (intro W hSW; (have s0 := hSW.1.cell 0 rfl; have s1 := hSW.1.cell 1 rfl; have s2 := hSW.1.cell 2 rfl; have s3 := hSW.1.cell 3 rfl; have s4 := hSW.1.cell 4 rfl; have s5 := hSW.1.cell 5 rfl; have s6 := hSW.1.2; have s7 := hSW.2.1.cell 0 rfl; have s8 := hSW.2.1.cell 1 rfl; have s9 := hSW.2.1.2); go_simp <;> (try with_reducible rfl))
          refine ready_call 7 ⟨some 43, Op.call { callee := Callee.value (Operand.func 51), args := #[Operand.tmp 42], argTypes := #[9] }, _, _, _, some (4, false)⟩ (by kernel_rfl) rfl (by kernel_rfl) (fun KC hK => ?_)
          go_wp2_with fail
          refine (HL.out _).mono ?_
          rintro r w2 ⟨rfl, rfl⟩
          refine hK.out _ _ hHeld (fun hHeld => ?_)
          clear hK KC
          refine take_v (v := ?_) 8 ⟨some 44, Op.unOp UnOp.not 4 (Operand.tmp 43), _, _, _, some (4, false)⟩ rfl (fun _ _ _ h => h) ?_ hHeld ?_
          rotate_left
          · (intro W _; go_simp <;> (try with_reducible rfl))
          refine take_v (v := ?_) 9 ⟨some 45, Op.pick (Operand.tmp 40) (Operand.const (Value.bool true)) (Operand.tmp 44), _, _, _, none⟩ rfl (fun _ _ _ h => h) ?_ hHeld ?_
          rotate_left
          · (intro W _; go_simp <;> (try with_reducible rfl))
          refine take_v (v := ?_) 10 ⟨some 46, Op.move (Operand.tmp 45), _, _, _, none⟩ rfl (fun _ _ _ h => h) ?_ hHeld ?_
          rotate_left
          · (intro W _; go_simp <;> (try with_reducible rfl))
          refine take_v (v := ?_) 11 ⟨some 47, Op.fieldAddr 52 (Operand.tmp 4) 2, _, _, _, some (10, false)⟩ rfl (fun _ _ _ h => h) ?_ hHeld ?_
          rotate_left
          · (intro W _; go_simp <;> (try with_reducible rfl))
          refine take_v (v := ?_) 12 ⟨some 48, Op.load 50 (Operand.tmp 47), _, _, _, some (10, false)⟩ rfl (fun _ _ _ h => h) ?_ hHeld ?_
          rotate_left
          · (intro W hSW; (have s0 := hSW.1.cell 0 rfl; have s1 := hSW.1.cell 1 rfl; have s2 := hSW.1.cell 2 rfl; have s3 := hSW.1.cell 3 rfl; have s4 := hSW.1.cell 4 rfl; have s5 := hSW.1.cell 5 rfl; have s6 := hSW.1.2; have s7 := hSW.2.1.cell 0 rfl; have s8 := hSW.2.1.cell 1 rfl; have s9 := hSW.2.1.2); go_simp <;> (try with_reducible rfl))
          refine ready_call 13 ⟨some 49, Op.call { callee := Callee.value (Operand.func 52), args := #[Operand.tmp 48], argTypes := #[50] }, _, _, _, some (10, false)⟩ (by kernel_rfl) rfl (by kernel_rfl) (fun KC hK => ?_)
          go_wp2_with fail
          refine (HTd.out _).mono ?_
          rintro r w2 ⟨rfl, hb⟩
          have h2 := hHeld.next hb
          clear hb
          refine hK.out _ _ h2 (fun hHeld => ?_)
          clear hK KC
          refine take_v (v := ?_) 14 ⟨some 50, Op.unOp UnOp.not 4 (Operand.tmp 49), _, _, _, some (10, false)⟩ rfl (fun _ _ _ h => h) ?_ hHeld ?_
          rotate_left
          · (intro W _; go_simp <;> (try with_reducible rfl))
          refine take_v (v := ?_) 15 ⟨some 51, Op.pick (Operand.tmp 46) (Operand.const (Value.bool true)) (Operand.tmp 50), _, _, _, none⟩ rfl (fun _ _ _ h => h) ?_ hHeld ?_
          rotate_left
          · (intro W _; go_simp <;> (try with_reducible rfl))
          refine take_v (v := ?_) 16 ⟨some 52, Op.move (Operand.tmp 51), _, _, _, none⟩ rfl (fun _ _ _ h => h) ?_ hHeld ?_
          rotate_left
          · (intro W _; go_simp <;> (try with_reducible rfl))
          refine take_v (v := ?_) 17 ⟨some 53, Op.fieldAddr 52 (Operand.tmp 4) 2, _, _, _, some (16, false)⟩ rfl (fun _ _ _ h => h) ?_ hHeld ?_
          rotate_left
          · (intro W _; go_simp <;> (try with_reducible rfl))
          refine take_v (v := ?_) 18 ⟨some 54, Op.fieldAddr 50 (Operand.tmp 53) 0, _, _, _, some (16, false)⟩ rfl (fun _ _ _ h => h) ?_ hHeld ?_
          rotate_left
          · (intro W _; go_simp <;> (try with_reducible rfl))
          refine take_v (v := ?_) 19 ⟨some 55, Op.load 3 (Operand.tmp 54), _, _, _, some (16, false)⟩ rfl (fun _ _ _ h => h) ?_ hHeld ?_
          rotate_left
          · (intro W hSW; (have s0 := hSW.1.cell 0 rfl; have s1 := hSW.1.cell 1 rfl; have s2 := hSW.1.cell 2 rfl; have s3 := hSW.1.cell 3 rfl; have s4 := hSW.1.cell 4 rfl; have s5 := hSW.1.cell 5 rfl; have s6 := hSW.1.2; have s7 := hSW.2.1.cell 0 rfl; have s8 := hSW.2.1.cell 1 rfl; have s9 := hSW.2.1.2); go_simp <;> (try with_reducible rfl))
          refine take_v (v := ?_) 20 ⟨some 56, Op.fieldAddr 34 (Operand.tmp 1) 0, _, _, _, some (16, false)⟩ rfl (fun _ _ _ h => h) ?_ hHeld ?_
          rotate_left
          · (intro W _; go_simp <;> (try with_reducible rfl))
          refine take_v (v := ?_) 21 ⟨some 57, Op.load 3 (Operand.tmp 56), _, _, _, some (16, false)⟩ rfl (fun _ _ _ h => h) ?_ hHeld ?_
          rotate_left
          · (intro W hSW; (have s0 := hSW.1.cell 0 rfl; have s1 := hSW.1.cell 1 rfl; have s2 := hSW.1.cell 2 rfl; have s3 := hSW.1.cell 3 rfl; have s4 := hSW.1.cell 4 rfl; have s5 := hSW.1.cell 5 rfl; have s6 := hSW.1.2; have s7 := hSW.2.1.cell 0 rfl; have s8 := hSW.2.1.cell 1 rfl; have s9 := hSW.2.1.2); go_simp <;> (try with_reducible rfl))
          refine take_v (v := ?_) 22 ⟨some 58, Op.binOp BinOp.gtr 3 (Operand.tmp 55) (Operand.tmp 57) 3, _, _, _, some (16, false)⟩ rfl (fun _ _ _ h => h) ?_ hHeld ?_
          rotate_left
          · (intro W _; go_simp <;> (try with_reducible rfl))
          refine take_v (v := ?_) 23 ⟨some 59, Op.pick (Operand.tmp 52) (Operand.const (Value.bool true)) (Operand.tmp 58), _, _, _, none⟩ rfl (fun _ _ _ h => h) ?_ hHeld ?_
          rotate_left
          · (intro W _; go_simp <;> (try with_reducible rfl))
          refine take_v (v := ?_) 24 ⟨some 60, Op.move (Operand.tmp 59), _, _, _, none⟩ rfl (fun _ _ _ h => h) ?_ hHeld ?_
          rotate_left
          · (intro W _; go_simp <;> (try with_reducible rfl))
          refine take_v (v := ?_) 25 ⟨some 61, Op.fieldAddr 52 (Operand.tmp 4) 2, _, _, _, some (24, false)⟩ rfl (fun _ _ _ h => h) ?_ hHeld ?_
          rotate_left
          · (intro W _; go_simp <;> (try with_reducible rfl))
          refine take_v (v := ?_) 26 ⟨some 62, Op.fieldAddr 50 (Operand.tmp 61) 2, _, _, _, some (24, false)⟩ rfl (fun _ _ _ h => h) ?_ hHeld ?_
          rotate_left
          · (intro W _; go_simp <;> (try with_reducible rfl))
          refine take_v (v := ?_) 27 ⟨some 63, Op.load 4 (Operand.tmp 62), _, _, _, some (24, false)⟩ rfl (fun _ _ _ h => h) ?_ hHeld ?_
          rotate_left
          · (intro W hSW; (have s0 := hSW.1.cell 0 rfl; have s1 := hSW.1.cell 1 rfl; have s2 := hSW.1.cell 2 rfl; have s3 := hSW.1.cell 3 rfl; have s4 := hSW.1.cell 4 rfl; have s5 := hSW.1.cell 5 rfl; have s6 := hSW.1.2; have s7 := hSW.2.1.cell 0 rfl; have s8 := hSW.2.1.cell 1 rfl; have s9 := hSW.2.1.2); go_simp <;> (try with_reducible rfl))
          refine take_v (v := ?_) 28 ⟨some 64, Op.fieldAddr 52 (Operand.tmp 4) 3, _, _, _, some (24, false)⟩ rfl (fun _ _ _ h => h) ?_ hHeld ?_
          rotate_left
          · (intro W _; go_simp <;> (try with_reducible rfl))
          refine take_v (v := ?_) 29 ⟨some 65, Op.load 3 (Operand.tmp 64), _, _, _, some (24, false)⟩ rfl (fun _ _ _ h => h) ?_ hHeld ?_
          rotate_left
          · (intro W hSW; (have s0 := hSW.1.cell 0 rfl; have s1 := hSW.1.cell 1 rfl; have s2 := hSW.1.cell 2 rfl; have s3 := hSW.1.cell 3 rfl; have s4 := hSW.1.cell 4 rfl; have s5 := hSW.1.cell 5 rfl; have s6 := hSW.1.2; have s7 := hSW.2.1.cell 0 rfl; have s8 := hSW.2.1.cell 1 rfl; have s9 := hSW.2.1.2); go_simp <;> (try with_reducible rfl))
          refine take_v (v := ?_) 30 ⟨some 66, Op.binOp BinOp.neq 3 (Operand.tmp 65) (Operand.const (Value.int IntKind.i64 0)) 3, _, _, _, some (24, false)⟩ rfl (fun _ _ _ h => h) ?_ hHeld ?_
          rotate_left
          · (intro W _; go_simp <;> (try with_reducible rfl))
          refine take_v (v := ?_) 31 ⟨some 67, Op.binOp BinOp.neq 4 (Operand.tmp 63) (Operand.tmp 66) 4, _, _, _, some (24, false)⟩ rfl (fun _ _ _ h => h) ?_ hHeld ?_
          rotate_left
          · (intro W _; go_simp <;> (try with_reducible rfl))
          refine take_v (v := ?_) 32 ⟨some 68, Op.pick (Operand.tmp 60) (Operand.const (Value.bool true)) (Operand.tmp 67), _, _, _, none⟩ rfl (fun _ _ _ h => h) ?_ hHeld ?_
          rotate_left
          · (intro W _; go_simp <;> (try with_reducible rfl))
          refine take_v (v := ?_) 33 ⟨some 69, Op.move (Operand.tmp 68), _, _, _, none⟩ rfl (fun _ _ _ h => h) ?_ hHeld ?_
          rotate_left
          · (intro W _; go_simp <;> (try with_reducible rfl))
          refine take_n 34 ⟨some 70, Op.move (Operand.tmp 3), _, _, _, some (33, false)⟩ rfl (fun _ _ _ h => h) hHeld ?_
          refine take_n 35 ⟨some 71, Op.binOp BinOp.gtr 3 (Operand.tmp 70) (Operand.const (Value.int IntKind.i64 0)) 3, _, _, _, some (33, false)⟩ rfl (fun _ _ _ h => h) hHeld ?_
          refine take_n 36 ⟨some 72, Op.move (Operand.tmp 71), _, _, _, some (33, false)⟩ rfl (fun _ _ _ h => h) hHeld ?_
          refine take_n 37 ⟨some 73, Op.fieldAddr 34 (Operand.tmp 1) 1, _, _, _, some (36, true)⟩ rfl (fun _ _ _ h => h) hHeld ?_
          refine take_n 38 ⟨some 74, Op.load 31 (Operand.tmp 73), _, _, _, some (36, true)⟩ rfl (fun _ _ _ h => h) hHeld ?_
          refine take_n 39 ⟨some 75, Op.move (Operand.tmp 3), _, _, _, some (36, true)⟩ rfl (fun _ _ _ h => h) hHeld ?_
          refine take_n 40 ⟨some 76, Op.binOp BinOp.sub 3 (Operand.tmp 75) (Operand.const (Value.int IntKind.i64 1)) 3, _, _, _, some (36, true)⟩ rfl (fun _ _ _ h => h) hHeld ?_
          refine take_n 41 ⟨some 77, Op.indexAddr 31 (Operand.tmp 74) (Operand.tmp 76), _, _, _, some (36, true)⟩ rfl (fun _ _ _ h => h) hHeld ?_
          refine take_n 42 ⟨some 78, Op.fieldAddr 52 (Operand.tmp 77) 0, _, _, _, some (36, true)⟩ rfl (fun _ _ _ h => h) hHeld ?_
          refine take_n 43 ⟨some 79, Op.load 9 (Operand.tmp 78), _, _, _, some (36, true)⟩ rfl (fun _ _ _ h => h) hHeld ?_
          refine take_n 44 ⟨some 80, Op.fieldAddr 52 (Operand.tmp 4) 0, _, _, _, some (36, true)⟩ rfl (fun _ _ _ h => h) hHeld ?_
          refine take_n 45 ⟨some 81, Op.load 9 (Operand.tmp 80), _, _, _, some (36, true)⟩ rfl (fun _ _ _ h => h) hHeld ?_
          refine take_n 46 ⟨some 82, Op.binOp BinOp.geq 9 (Operand.tmp 79) (Operand.tmp 81) 9, _, _, _, some (36, true)⟩ rfl (fun _ _ _ h => h) hHeld ?_
          refine take_n 47 ⟨some 83, Op.pick (Operand.tmp 72) (Operand.tmp 82) (Operand.const (Value.bool false)), _, _, _, some (33, false)⟩ rfl (fun _ _ _ h => h) hHeld ?_
          refine take_v (v := ?_) 48 ⟨some 84, Op.pick (Operand.tmp 69) (Operand.const (Value.bool true)) (Operand.tmp 83), _, _, _, none⟩ rfl (fun _ _ _ h => h) ?_ hHeld ?_
          rotate_left
          · (intro W _; go_simp <;> (try with_reducible rfl))
          refine wpAnyH_done (by kernel_rfl) ?_ _
          refine NoPanic.normal ?_
          have HE := (show Hid _ from hHeld)
          clear hHeld
          go_wp2
          go_ret
          exact ⟨ret_bool HN.out.symm, HE.out.2.2.1⟩
        · have HTd : Hid (∀ W, Calls Tryz.prog 52 #[.agg #[.int .i64 (S.R k).f2, .int .i64 (S.R k).f3, .bool true]] W fun r w' => r = .returned (.bool true) ∧ Below W.heap.size W w') := fun W => by have := l1Tid_any (S.R k).f2 (S.R k).f3 true W; rw [eT] at this; exact this
          rw [e4] at H1 c4
          by_cases hk0 : k = 0
          · have hk0' : decide ((0 : Int) < (k : Int)) = false := by simp; omega
            have hk0n : decide (0 < k) = false := by simp; omega
            have HRi : Hid (riseAt S.R k) := fun h => absurd h (by omega)

            clear hk0
            go_upto_region 6 with fail
            refine wp_region_noPanic ?_
            refine wp_region_held_drew (S := fun W => RcH w [.int .i64 S.ep, .slice (some ⟨b, off, none⟩) S.rn rc, .slice ta S.tn tc, .slice oa S.on oc] [.string (S.R k).f0, .string (S.R k).f1, .int .i64 (S.R k).f2, .int .i64 (S.R k).f3, .bool true, .int .i64 (S.R k).f5] wr.heap.size b off S.rn S.R W) (by kernel_rfl) H1.out.1 (fun hHeld => ?_)
            refine take_v (v := ?_) 0 ⟨some 36, Op.fieldAddr 52 (Operand.tmp 4) 0, _, _, _, none⟩ rfl (fun _ _ _ h => h) ?_ hHeld ?_
            rotate_left
            · (intro W _; go_simp <;> (try with_reducible rfl))
            refine take_v (v := ?_) 1 ⟨some 37, Op.load 9 (Operand.tmp 36), _, _, _, none⟩ rfl (fun _ _ _ h => h) ?_ hHeld ?_
            rotate_left
            · (intro W hSW; (have s0 := hSW.1.cell 0 rfl; have s1 := hSW.1.cell 1 rfl; have s2 := hSW.1.cell 2 rfl; have s3 := hSW.1.cell 3 rfl; have s4 := hSW.1.cell 4 rfl; have s5 := hSW.1.cell 5 rfl; have s6 := hSW.1.2; have s7 := hSW.2.1.cell 0 rfl; have s8 := hSW.2.1.cell 1 rfl; have s9 := hSW.2.1.2); go_simp <;> (try with_reducible rfl))
            refine ready_call 2 ⟨some 38, Op.call { callee := Callee.value (Operand.func 50), args := #[Operand.tmp 37], argTypes := #[9] }, _, _, _, none⟩ (by kernel_rfl) rfl (by kernel_rfl) (fun KC hK => ?_)
            go_wp2_with fail
            refine (HK.out _).mono ?_
            rintro r w2 ⟨rfl, rfl⟩
            refine hK.out _ _ hHeld (fun hHeld => ?_)
            clear hK KC
            refine take_v (v := ?_) 3 ⟨some 39, Op.unOp UnOp.not 4 (Operand.tmp 38), _, _, _, none⟩ rfl (fun _ _ _ h => h) ?_ hHeld ?_
            rotate_left
            · (intro W _; go_simp <;> (try with_reducible rfl))
            refine take_v (v := ?_) 4 ⟨some 40, Op.move (Operand.tmp 39), _, _, _, none⟩ rfl (fun _ _ _ h => h) ?_ hHeld ?_
            rotate_left
            · (intro W _; go_simp <;> (try with_reducible rfl))
            refine take_v (v := ?_) 5 ⟨some 41, Op.fieldAddr 52 (Operand.tmp 4) 1, _, _, _, some (4, false)⟩ rfl (fun _ _ _ h => h) ?_ hHeld ?_
            rotate_left
            · (intro W _; go_simp <;> (try with_reducible rfl))
            refine take_v (v := ?_) 6 ⟨some 42, Op.load 9 (Operand.tmp 41), _, _, _, some (4, false)⟩ rfl (fun _ _ _ h => h) ?_ hHeld ?_
            rotate_left
            · (intro W hSW; (have s0 := hSW.1.cell 0 rfl; have s1 := hSW.1.cell 1 rfl; have s2 := hSW.1.cell 2 rfl; have s3 := hSW.1.cell 3 rfl; have s4 := hSW.1.cell 4 rfl; have s5 := hSW.1.cell 5 rfl; have s6 := hSW.1.2; have s7 := hSW.2.1.cell 0 rfl; have s8 := hSW.2.1.cell 1 rfl; have s9 := hSW.2.1.2); go_simp <;> (try with_reducible rfl))
            refine ready_call 7 ⟨some 43, Op.call { callee := Callee.value (Operand.func 51), args := #[Operand.tmp 42], argTypes := #[9] }, _, _, _, some (4, false)⟩ (by kernel_rfl) rfl (by kernel_rfl) (fun KC hK => ?_)
            go_wp2_with fail
            refine (HL.out _).mono ?_
            rintro r w2 ⟨rfl, rfl⟩
            refine hK.out _ _ hHeld (fun hHeld => ?_)
            clear hK KC
            refine take_v (v := ?_) 8 ⟨some 44, Op.unOp UnOp.not 4 (Operand.tmp 43), _, _, _, some (4, false)⟩ rfl (fun _ _ _ h => h) ?_ hHeld ?_
            rotate_left
            · (intro W _; go_simp <;> (try with_reducible rfl))
            refine take_v (v := ?_) 9 ⟨some 45, Op.pick (Operand.tmp 40) (Operand.const (Value.bool true)) (Operand.tmp 44), _, _, _, none⟩ rfl (fun _ _ _ h => h) ?_ hHeld ?_
            rotate_left
            · (intro W _; go_simp <;> (try with_reducible rfl))
            refine take_v (v := ?_) 10 ⟨some 46, Op.move (Operand.tmp 45), _, _, _, none⟩ rfl (fun _ _ _ h => h) ?_ hHeld ?_
            rotate_left
            · (intro W _; go_simp <;> (try with_reducible rfl))
            refine take_v (v := ?_) 11 ⟨some 47, Op.fieldAddr 52 (Operand.tmp 4) 2, _, _, _, some (10, false)⟩ rfl (fun _ _ _ h => h) ?_ hHeld ?_
            rotate_left
            · (intro W _; go_simp <;> (try with_reducible rfl))
            refine take_v (v := ?_) 12 ⟨some 48, Op.load 50 (Operand.tmp 47), _, _, _, some (10, false)⟩ rfl (fun _ _ _ h => h) ?_ hHeld ?_
            rotate_left
            · (intro W hSW; (have s0 := hSW.1.cell 0 rfl; have s1 := hSW.1.cell 1 rfl; have s2 := hSW.1.cell 2 rfl; have s3 := hSW.1.cell 3 rfl; have s4 := hSW.1.cell 4 rfl; have s5 := hSW.1.cell 5 rfl; have s6 := hSW.1.2; have s7 := hSW.2.1.cell 0 rfl; have s8 := hSW.2.1.cell 1 rfl; have s9 := hSW.2.1.2); go_simp <;> (try with_reducible rfl))
            refine ready_call 13 ⟨some 49, Op.call { callee := Callee.value (Operand.func 52), args := #[Operand.tmp 48], argTypes := #[50] }, _, _, _, some (10, false)⟩ (by kernel_rfl) rfl (by kernel_rfl) (fun KC hK => ?_)
            go_wp2_with fail
            refine (HTd.out _).mono ?_
            rintro r w2 ⟨rfl, hb⟩
            have h2 := hHeld.next hb
            clear hb
            refine hK.out _ _ h2 (fun hHeld => ?_)
            clear hK KC
            refine take_v (v := ?_) 14 ⟨some 50, Op.unOp UnOp.not 4 (Operand.tmp 49), _, _, _, some (10, false)⟩ rfl (fun _ _ _ h => h) ?_ hHeld ?_
            rotate_left
            · (intro W _; go_simp <;> (try with_reducible rfl))
            refine take_v (v := ?_) 15 ⟨some 51, Op.pick (Operand.tmp 46) (Operand.const (Value.bool true)) (Operand.tmp 50), _, _, _, none⟩ rfl (fun _ _ _ h => h) ?_ hHeld ?_
            rotate_left
            · (intro W _; go_simp <;> (try with_reducible rfl))
            refine take_v (v := ?_) 16 ⟨some 52, Op.move (Operand.tmp 51), _, _, _, none⟩ rfl (fun _ _ _ h => h) ?_ hHeld ?_
            rotate_left
            · (intro W _; go_simp <;> (try with_reducible rfl))
            refine take_v (v := ?_) 17 ⟨some 53, Op.fieldAddr 52 (Operand.tmp 4) 2, _, _, _, some (16, false)⟩ rfl (fun _ _ _ h => h) ?_ hHeld ?_
            rotate_left
            · (intro W _; go_simp <;> (try with_reducible rfl))
            refine take_v (v := ?_) 18 ⟨some 54, Op.fieldAddr 50 (Operand.tmp 53) 0, _, _, _, some (16, false)⟩ rfl (fun _ _ _ h => h) ?_ hHeld ?_
            rotate_left
            · (intro W _; go_simp <;> (try with_reducible rfl))
            refine take_v (v := ?_) 19 ⟨some 55, Op.load 3 (Operand.tmp 54), _, _, _, some (16, false)⟩ rfl (fun _ _ _ h => h) ?_ hHeld ?_
            rotate_left
            · (intro W hSW; (have s0 := hSW.1.cell 0 rfl; have s1 := hSW.1.cell 1 rfl; have s2 := hSW.1.cell 2 rfl; have s3 := hSW.1.cell 3 rfl; have s4 := hSW.1.cell 4 rfl; have s5 := hSW.1.cell 5 rfl; have s6 := hSW.1.2; have s7 := hSW.2.1.cell 0 rfl; have s8 := hSW.2.1.cell 1 rfl; have s9 := hSW.2.1.2); go_simp <;> (try with_reducible rfl))
            refine take_v (v := ?_) 20 ⟨some 56, Op.fieldAddr 34 (Operand.tmp 1) 0, _, _, _, some (16, false)⟩ rfl (fun _ _ _ h => h) ?_ hHeld ?_
            rotate_left
            · (intro W _; go_simp <;> (try with_reducible rfl))
            refine take_v (v := ?_) 21 ⟨some 57, Op.load 3 (Operand.tmp 56), _, _, _, some (16, false)⟩ rfl (fun _ _ _ h => h) ?_ hHeld ?_
            rotate_left
            · (intro W hSW; (have s0 := hSW.1.cell 0 rfl; have s1 := hSW.1.cell 1 rfl; have s2 := hSW.1.cell 2 rfl; have s3 := hSW.1.cell 3 rfl; have s4 := hSW.1.cell 4 rfl; have s5 := hSW.1.cell 5 rfl; have s6 := hSW.1.2; have s7 := hSW.2.1.cell 0 rfl; have s8 := hSW.2.1.cell 1 rfl; have s9 := hSW.2.1.2); go_simp <;> (try with_reducible rfl))
            refine take_v (v := ?_) 22 ⟨some 58, Op.binOp BinOp.gtr 3 (Operand.tmp 55) (Operand.tmp 57) 3, _, _, _, some (16, false)⟩ rfl (fun _ _ _ h => h) ?_ hHeld ?_
            rotate_left
            · (intro W _; go_simp <;> (try with_reducible rfl))
            refine take_v (v := ?_) 23 ⟨some 59, Op.pick (Operand.tmp 52) (Operand.const (Value.bool true)) (Operand.tmp 58), _, _, _, none⟩ rfl (fun _ _ _ h => h) ?_ hHeld ?_
            rotate_left
            · (intro W _; go_simp <;> (try with_reducible rfl))
            refine take_v (v := ?_) 24 ⟨some 60, Op.move (Operand.tmp 59), _, _, _, none⟩ rfl (fun _ _ _ h => h) ?_ hHeld ?_
            rotate_left
            · (intro W _; go_simp <;> (try with_reducible rfl))
            refine take_v (v := ?_) 25 ⟨some 61, Op.fieldAddr 52 (Operand.tmp 4) 2, _, _, _, some (24, false)⟩ rfl (fun _ _ _ h => h) ?_ hHeld ?_
            rotate_left
            · (intro W _; go_simp <;> (try with_reducible rfl))
            refine take_v (v := ?_) 26 ⟨some 62, Op.fieldAddr 50 (Operand.tmp 61) 2, _, _, _, some (24, false)⟩ rfl (fun _ _ _ h => h) ?_ hHeld ?_
            rotate_left
            · (intro W _; go_simp <;> (try with_reducible rfl))
            refine take_v (v := ?_) 27 ⟨some 63, Op.load 4 (Operand.tmp 62), _, _, _, some (24, false)⟩ rfl (fun _ _ _ h => h) ?_ hHeld ?_
            rotate_left
            · (intro W hSW; (have s0 := hSW.1.cell 0 rfl; have s1 := hSW.1.cell 1 rfl; have s2 := hSW.1.cell 2 rfl; have s3 := hSW.1.cell 3 rfl; have s4 := hSW.1.cell 4 rfl; have s5 := hSW.1.cell 5 rfl; have s6 := hSW.1.2; have s7 := hSW.2.1.cell 0 rfl; have s8 := hSW.2.1.cell 1 rfl; have s9 := hSW.2.1.2); go_simp <;> (try with_reducible rfl))
            refine take_v (v := ?_) 28 ⟨some 64, Op.fieldAddr 52 (Operand.tmp 4) 3, _, _, _, some (24, false)⟩ rfl (fun _ _ _ h => h) ?_ hHeld ?_
            rotate_left
            · (intro W _; go_simp <;> (try with_reducible rfl))
            refine take_v (v := ?_) 29 ⟨some 65, Op.load 3 (Operand.tmp 64), _, _, _, some (24, false)⟩ rfl (fun _ _ _ h => h) ?_ hHeld ?_
            rotate_left
            · (intro W hSW; (have s0 := hSW.1.cell 0 rfl; have s1 := hSW.1.cell 1 rfl; have s2 := hSW.1.cell 2 rfl; have s3 := hSW.1.cell 3 rfl; have s4 := hSW.1.cell 4 rfl; have s5 := hSW.1.cell 5 rfl; have s6 := hSW.1.2; have s7 := hSW.2.1.cell 0 rfl; have s8 := hSW.2.1.cell 1 rfl; have s9 := hSW.2.1.2); go_simp <;> (try with_reducible rfl))
            refine take_v (v := ?_) 30 ⟨some 66, Op.binOp BinOp.neq 3 (Operand.tmp 65) (Operand.const (Value.int IntKind.i64 0)) 3, _, _, _, some (24, false)⟩ rfl (fun _ _ _ h => h) ?_ hHeld ?_
            rotate_left
            · (intro W _; go_simp <;> (try with_reducible rfl))
            refine take_v (v := ?_) 31 ⟨some 67, Op.binOp BinOp.neq 4 (Operand.tmp 63) (Operand.tmp 66) 4, _, _, _, some (24, false)⟩ rfl (fun _ _ _ h => h) ?_ hHeld ?_
            rotate_left
            · (intro W _; go_simp <;> (try with_reducible rfl))
            refine take_v (v := ?_) 32 ⟨some 68, Op.pick (Operand.tmp 60) (Operand.const (Value.bool true)) (Operand.tmp 67), _, _, _, none⟩ rfl (fun _ _ _ h => h) ?_ hHeld ?_
            rotate_left
            · (intro W _; go_simp <;> (try with_reducible rfl))
            refine take_v (v := ?_) 33 ⟨some 69, Op.move (Operand.tmp 68), _, _, _, none⟩ rfl (fun _ _ _ h => h) ?_ hHeld ?_
            rotate_left
            · (intro W _; go_simp <;> (try with_reducible rfl))
            refine take_v (v := ?_) 34 ⟨some 70, Op.move (Operand.tmp 3), _, _, _, some (33, false)⟩ rfl (fun _ _ _ h => h) ?_ hHeld ?_
            rotate_left
            · (intro W _; go_simp <;> (try with_reducible rfl))
            refine take_v (v := ?_) 35 ⟨some 71, Op.binOp BinOp.gtr 3 (Operand.tmp 70) (Operand.const (Value.int IntKind.i64 0)) 3, _, _, _, some (33, false)⟩ rfl (fun _ _ _ h => h) ?_ hHeld ?_
            rotate_left
            · (intro W _; go_simp <;> (try with_reducible rfl))
            refine take_v (v := ?_) 36 ⟨some 72, Op.move (Operand.tmp 71), _, _, _, some (33, false)⟩ rfl (fun _ _ _ h => h) ?_ hHeld ?_
            rotate_left
            · (intro W _; go_simp <;> (try with_reducible rfl))
            refine take_n 37 ⟨some 73, Op.fieldAddr 34 (Operand.tmp 1) 1, _, _, _, some (36, true)⟩ rfl (fun _ _ _ h => h) hHeld ?_
            refine take_n 38 ⟨some 74, Op.load 31 (Operand.tmp 73), _, _, _, some (36, true)⟩ rfl (fun _ _ _ h => h) hHeld ?_
            refine take_n 39 ⟨some 75, Op.move (Operand.tmp 3), _, _, _, some (36, true)⟩ rfl (fun _ _ _ h => h) hHeld ?_
            refine take_n 40 ⟨some 76, Op.binOp BinOp.sub 3 (Operand.tmp 75) (Operand.const (Value.int IntKind.i64 1)) 3, _, _, _, some (36, true)⟩ rfl (fun _ _ _ h => h) hHeld ?_
            refine take_n 41 ⟨some 77, Op.indexAddr 31 (Operand.tmp 74) (Operand.tmp 76), _, _, _, some (36, true)⟩ rfl (fun _ _ _ h => h) hHeld ?_
            refine take_n 42 ⟨some 78, Op.fieldAddr 52 (Operand.tmp 77) 0, _, _, _, some (36, true)⟩ rfl (fun _ _ _ h => h) hHeld ?_
            refine take_n 43 ⟨some 79, Op.load 9 (Operand.tmp 78), _, _, _, some (36, true)⟩ rfl (fun _ _ _ h => h) hHeld ?_
            refine take_n 44 ⟨some 80, Op.fieldAddr 52 (Operand.tmp 4) 0, _, _, _, some (36, true)⟩ rfl (fun _ _ _ h => h) hHeld ?_
            refine take_n 45 ⟨some 81, Op.load 9 (Operand.tmp 80), _, _, _, some (36, true)⟩ rfl (fun _ _ _ h => h) hHeld ?_
            refine take_n 46 ⟨some 82, Op.binOp BinOp.geq 9 (Operand.tmp 79) (Operand.tmp 81) 9, _, _, _, some (36, true)⟩ rfl (fun _ _ _ h => h) hHeld ?_
            refine take_v (v := ?_) 47 ⟨some 83, Op.pick (Operand.tmp 72) (Operand.tmp 82) (Operand.const (Value.bool false)), _, _, _, some (33, false)⟩ rfl (fun _ _ _ h => h) ?_ hHeld ?_
            rotate_left
            · (intro W _; go_simp <;> (try with_reducible rfl))
            refine take_v (v := ?_) 48 ⟨some 84, Op.pick (Operand.tmp 69) (Operand.const (Value.bool true)) (Operand.tmp 83), _, _, _, none⟩ rfl (fun _ _ _ h => h) ?_ hHeld ?_
            rotate_left
            · (intro W _; go_simp <;> (try with_reducible rfl))
            refine wpAnyH_done (by kernel_rfl) ?_ _
            refine NoPanic.normal ?_
            have HE := (show Hid (RcH w [.int .i64 S.ep, .slice (some ⟨b, off, none⟩) S.rn rc, .slice ta S.tn tc, .slice oa S.on oc] [.string (S.R k).f0, .string (S.R k).f1, .int .i64 (S.R k).f2, .int .i64 (S.R k).f3, .bool true, .int .i64 (S.R k).f5] wr.heap.size b off S.rn S.R _) from hHeld)
            clear hHeld
            have s0' := HE.out.2.1.cell 0 rfl
            have s1' := HE.out.2.1.cell 1 rfl
            have s2' := HE.out.2.1.cell 2 rfl
            have s3' := HE.out.2.1.cell 3 rfl
            have sz' := HE.out.2.1.2
            have s5 := HE.out.1.cell 5 rfl
            have s6 := HE.out.1.2
            cases eO : inR (S.R k).f5 1 (S.tn : Int)
            · have HN : Hid (goodB S = false) := no_rec hlt fun g => by
                rcases g.2.1 with ⟨g, _⟩ | ⟨_, _, q, g1, g2, _⟩
                · exact H5.out g
                · rw [inR_iff.2 ⟨by omega, by omega⟩] at eO; cases eO
              go_wp2_with fail
              refine (l5State_no ⟨(some ⟨b, off, none⟩), rc, ta, tc, oa, oc, U⟩ S (S.R k).f5 _ eO).mono ?_
              rintro r w3 ⟨rfl, hb⟩
              have H3d : Hid (RcH w [.int .i64 S.ep, .slice (some ⟨b, off, none⟩) S.rn rc, .slice ta S.tn tc, .slice oa S.on oc] [.string (S.R k).f0, .string (S.R k).f1, .int .i64 (S.R k).f2, .int .i64 (S.R k).f3, .bool true, .int .i64 (S.R k).f5] wr.heap.size b off S.rn S.R w3.drew ∧ True) := ⟨(HE.out.next hb).next (Below.refl _ _).drew, trivial⟩
              clear hb H1 HE s0' s1' s2' s3' sz' s5 s6
              go_upto_region 10 with fail
              refine wp_region_noPanic ?_
              refine wp_region_held_drew (S := fun W => RcH w [.int .i64 S.ep, .slice (some ⟨b, off, none⟩) S.rn rc, .slice ta S.tn tc, .slice oa S.on oc] [.string (S.R k).f0, .string (S.R k).f1, .int .i64 (S.R k).f2, .int .i64 (S.R k).f3, .bool true, .int .i64 (S.R k).f5] wr.heap.size b off S.rn S.R W) (by kernel_rfl) H3d.out.1 (fun hHeld => ?_)
              refine take_v (v := ?_) 0 ⟨some 92, Op.move (Operand.tmp 5), _, _, _, none⟩ rfl (fun _ _ _ h => h) ?_ hHeld ?_
              rotate_left
              · (intro W _; go_simp <;> (try with_reducible rfl))
              refine take_v (v := ?_) 1 ⟨some 93, Op.binOp BinOp.neq 3 (Operand.tmp 92) (Operand.const (Value.int IntKind.i64 2)) 3, _, _, _, none⟩ rfl (fun _ _ _ h => h) ?_ hHeld ?_
              rotate_left
              · (intro W _; go_simp <;> (try with_reducible rfl))
              refine take_v (v := ?_) 2 ⟨some 94, Op.move (Operand.tmp 93), _, _, _, none⟩ rfl (fun _ _ _ h => h) ?_ hHeld ?_
              rotate_left
              · (intro W _; go_simp <;> (try with_reducible rfl))
              refine take_v (v := ?_) 3 ⟨some 95, Op.move (Operand.tmp 5), _, _, _, some (2, true)⟩ rfl (fun _ _ _ h => h) ?_ hHeld ?_
              rotate_left
              · (intro W _; go_simp <;> (try with_reducible rfl))
              refine take_v (v := ?_) 4 ⟨some 96, Op.binOp BinOp.neq 3 (Operand.tmp 95) (Operand.const (Value.int IntKind.i64 3)) 3, _, _, _, some (2, true)⟩ rfl (fun _ _ _ h => h) ?_ hHeld ?_
              rotate_left
              · (intro W _; go_simp <;> (try with_reducible rfl))
              refine take_v (v := ?_) 5 ⟨some 97, Op.pick (Operand.tmp 94) (Operand.tmp 96) (Operand.const (Value.bool false)), _, _, _, none⟩ rfl (fun _ _ _ h => h) ?_ hHeld ?_
              rotate_left
              · (intro W _; go_simp <;> (try with_reducible rfl))
              refine take_v (v := ?_) 6 ⟨some 98, Op.move (Operand.tmp 97), _, _, _, none⟩ rfl (fun _ _ _ h => h) ?_ hHeld ?_
              rotate_left
              · (intro W _; go_simp <;> (try with_reducible rfl))
              refine take_n 7 ⟨some 99, Op.fieldAddr 34 (Operand.tmp 1) 2, _, _, _, some (6, false)⟩ rfl (fun _ _ _ h => h) hHeld ?_
              refine take_n 8 ⟨some 100, Op.load 32 (Operand.tmp 99), _, _, _, some (6, false)⟩ rfl (fun _ _ _ h => h) hHeld ?_
              refine take_n 9 ⟨some 101, Op.fieldAddr 52 (Operand.tmp 4) 3, _, _, _, some (6, false)⟩ rfl (fun _ _ _ h => h) hHeld ?_
              refine take_n 10 ⟨some 102, Op.load 3 (Operand.tmp 101), _, _, _, some (6, false)⟩ rfl (fun _ _ _ h => h) hHeld ?_
              refine take_n 11 ⟨some 103, Op.binOp BinOp.sub 3 (Operand.tmp 102) (Operand.const (Value.int IntKind.i64 1)) 3, _, _, _, some (6, false)⟩ rfl (fun _ _ _ h => h) hHeld ?_
              refine take_n 12 ⟨some 104, Op.indexAddr 32 (Operand.tmp 100) (Operand.tmp 103), _, _, _, some (6, false)⟩ rfl (fun _ _ _ h => h) hHeld ?_
              refine take_n 13 ⟨some 105, Op.load 71 (Operand.tmp 104), _, _, _, some (6, false)⟩ rfl (fun _ _ _ h => h) hHeld ?_
              refine take_n 14 ⟨some 106, Op.fieldAddr 52 (Operand.tmp 4) 0, _, _, _, some (6, false)⟩ rfl (fun _ _ _ h => h) hHeld ?_
              refine take_n 15 ⟨some 107, Op.load 9 (Operand.tmp 106), _, _, _, some (6, false)⟩ rfl (fun _ _ _ h => h) hHeld ?_
              refine take_n 16 ⟨some 108, Op.call { callee := Callee.value (Operand.func 54), args := #[Operand.tmp 105, Operand.tmp 107], argTypes := #[71, 9] }, _, _, _, some (6, false)⟩ rfl (fun _ _ _ h => h) hHeld ?_
              refine take_n 17 ⟨some 109, Op.unOp UnOp.not 4 (Operand.tmp 108), _, _, _, some (6, false)⟩ rfl (fun _ _ _ h => h) hHeld ?_
              refine take_v (v := ?_) 18 ⟨some 110, Op.pick (Operand.tmp 98) (Operand.const (Value.bool true)) (Operand.tmp 109), _, _, _, none⟩ rfl (fun _ _ _ h => h) ?_ hHeld ?_
              rotate_left
              · (intro W _; go_simp <;> (try with_reducible rfl))
              refine wpAnyH_done (by kernel_rfl) ?_ _
              refine NoPanic.normal ?_
              have HE := (show Hid _ from hHeld)
              clear hHeld
              go_wp2
              go_ret
              exact ⟨ret_bool HN.out.symm, HE.out.2.2.1⟩
            have hb := inR_iff.1 eO
            obtain ⟨q, hq⟩ : ∃ q : Nat, (S.R k).f5 = (q : Int) + 1 := ⟨((S.R k).f5 - 1).toNat, by omega⟩
            have hqn : q < S.tn := by omega
            have hqn' : (q : Int) < (S.tn : Int) := by omega
            have hsub : IntKind.i64.wrap ((S.R k).f5 - 1) = (q : Int) := by rw [IntKind.wrap_i64]; omega
            have HQ : Hid ((S.R k).f5 = (q : Int) + 1) := hq
            have hst : RuS w ta S.tn S.T U := HS.out.1.2.1
            rcases hst.1 with h | ⟨b2, o2, rfl, hbs2, hE2⟩
            · omega
            have HE2 : Hid (Elems w b2 o2 S.tn 7 (ruF S.T U) ∧ b2 < w.heap.size) := ⟨hE2, hbs2⟩
            clear hb hq hst hE2 hbs2 eO
            go_wp2_with fail
            refine (l5State_is ⟨(some ⟨b, off, none⟩), rc, (some ⟨b2, o2, none⟩), tc, oa, oc, U⟩ S (S.R k).f5 q _ HQ.out hqn htn (HS.out.1.next HE.out.2.2.1).2.1).mono ?_
            rintro r w3 ⟨rfl, hb⟩
            have hbd : Below w.heap.size w w3.drew := (below_next' HE.out.2.2.1 hb).drew
            have H3d : Hid (RcH w [.int .i64 S.ep, .slice (some ⟨b, off, none⟩) S.rn rc, .slice (some ⟨b2, o2, none⟩) S.tn tc, .slice oa S.on oc] [.string (S.R k).f0, .string (S.R k).f1, .int .i64 (S.R k).f2, .int .i64 (S.R k).f3, .bool true, .int .i64 (S.R k).f5] wr.heap.size b off S.rn S.R w3.drew ∧ (∀ i, i < k → recP S i) ∧ Elems w3.drew b2 o2 S.tn 7 (ruF S.T U) ∧ b2 < w3.drew.heap.size) := ⟨(HE.out.next hb).next (Below.refl _ _).drew, H1.out.2, HE2.out.1.below hbd HE2.out.2, Nat.lt_of_lt_of_le HE2.out.2 hbd.size⟩
            clear hb hbd H1 HE HE2 s0' s1' s2' s3' sz' s5 s6
            have HOw : Hid (recP S k → mayB (S.T q).st = true ∧ writesP (S.T q) (S.R k).f0) := fun g => own_at' H5.out HQ.out g.2.1
            rcases st_cases (S.T q).st with ⟨e2', e3', e4'⟩ | ⟨e2', e3', e4'⟩ | ⟨e2', e3', e4'⟩ | ⟨e2', e3', e4'⟩

            · have x2 : ((S.T q).st != 2) = false := by rw [bne, e2']; rfl
              have x3 : ((S.T q).st != 3) = true := by rw [bne, e3']; rfl
              have HM : Hid (mayB (S.T q).st = true) := by show _ = _; rw [mayB, e2', e3']; rfl
              have HWa : Hid (∀ W, Below w.heap.size w W → Calls Tryz.prog 54 #[.agg #[.int .i64 (S.T q).id, .int .i64 (S.T q).st, .slice (U q).la (S.T q).ln (U q).lc, .slice (U q).ca (S.T q).cn (U q).cc, .int .i64 (S.T q).e, .int .i64 (S.T q).s, .bool (S.T q).b], .string (S.R k).f0] W fun r w' => r = .returned (.bool (clB (writesP (S.T q) (S.R k).f0))) ∧ Below W.heap.size W w') := fun W hW => l5Writes_any (S.T q) _ _ _ _ _ _ (HS.out.2.2.2.1.2 q hqn).2 ((HS.out.1.next hW).2.1.2 q hqn).2.1
              cases e6 : clB (writesP (S.T q) (S.R k).f0)
              · have HWr : Hid (∀ W, Below w.heap.size w W → Calls Tryz.prog 54 #[.agg #[.int .i64 (S.T q).id, .int .i64 (S.T q).st, .slice (U q).la (S.T q).ln (U q).lc, .slice (U q).ca (S.T q).cn (U q).cc, .int .i64 (S.T q).e, .int .i64 (S.T q).s, .bool (S.T q).b], .string (S.R k).f0] W fun r w' => r = .returned (.bool false) ∧ Below W.heap.size W w') := fun W hW => by have := HWa.out W hW; rw [e6] at this; exact this
                have HN : Hid (goodB S = false) := no_rec hlt fun g => clB_not e6 (HOw.out g).2
                clear HWa
                go_upto_region 10 with fail
                refine wp_region_noPanic ?_
                refine wp_region_held_drew (S := fun W => RcH w [.int .i64 S.ep, .slice (some ⟨b, off, none⟩) S.rn rc, .slice (some ⟨b2, o2, none⟩) S.tn tc, .slice oa S.on oc] [.string (S.R k).f0, .string (S.R k).f1, .int .i64 (S.R k).f2, .int .i64 (S.R k).f3, .bool true, .int .i64 (S.R k).f5] wr.heap.size b off S.rn S.R W ∧ Elems W b2 o2 S.tn 7 (ruF S.T U) ∧ b2 < W.heap.size) (by kernel_rfl) ⟨H3d.out.1, H3d.out.2.2⟩ (fun hHeld => ?_)
                refine take_v (v := ?_) 0 ⟨some 92, Op.move (Operand.tmp 5), _, _, _, none⟩ rfl (fun _ _ _ h => h) ?_ hHeld ?_
                rotate_left
                · (intro W _; go_simp <;> (try with_reducible rfl))
                refine take_v (v := ?_) 1 ⟨some 93, Op.binOp BinOp.neq 3 (Operand.tmp 92) (Operand.const (Value.int IntKind.i64 2)) 3, _, _, _, none⟩ rfl (fun _ _ _ h => h) ?_ hHeld ?_
                rotate_left
                · (intro W _; go_simp <;> (try with_reducible rfl))
                refine take_v (v := ?_) 2 ⟨some 94, Op.move (Operand.tmp 93), _, _, _, none⟩ rfl (fun _ _ _ h => h) ?_ hHeld ?_
                rotate_left
                · (intro W _; go_simp <;> (try with_reducible rfl))
                refine take_n 3 ⟨some 95, Op.move (Operand.tmp 5), _, _, _, some (2, true)⟩ rfl (fun _ _ _ h => h) hHeld ?_
                refine take_n 4 ⟨some 96, Op.binOp BinOp.neq 3 (Operand.tmp 95) (Operand.const (Value.int IntKind.i64 3)) 3, _, _, _, some (2, true)⟩ rfl (fun _ _ _ h => h) hHeld ?_
                refine take_v (v := ?_) 5 ⟨some 97, Op.pick (Operand.tmp 94) (Operand.tmp 96) (Operand.const (Value.bool false)), _, _, _, none⟩ rfl (fun _ _ _ h => h) ?_ hHeld ?_
                rotate_left
                · (intro W _; go_simp <;> (try with_reducible rfl))
                refine take_v (v := ?_) 6 ⟨some 98, Op.move (Operand.tmp 97), _, _, _, none⟩ rfl (fun _ _ _ h => h) ?_ hHeld ?_
                rotate_left
                · (intro W _; go_simp <;> (try with_reducible rfl))
                refine take_v (v := ?_) 7 ⟨some 99, Op.fieldAddr 34 (Operand.tmp 1) 2, _, _, _, some (6, false)⟩ rfl (fun _ _ _ h => h) ?_ hHeld ?_
                rotate_left
                · (intro W _; go_simp <;> (try with_reducible rfl))
                refine take_v (v := ?_) 8 ⟨some 100, Op.load 32 (Operand.tmp 99), _, _, _, some (6, false)⟩ rfl (fun _ _ _ h => h) ?_ hHeld ?_
                rotate_left
                · (intro W hSW; (have s0 := hSW.1.1.cell 0 rfl; have s5 := hSW.1.1.cell 5 rfl; have s6 := hSW.1.1.2; have s8 := hSW.1.2.1.cell 2 rfl; have s9 := hSW.1.2.1.2; obtain ⟨y0, y1, y2, y3, y4, y5, y6⟩ := ru_cells hSW.2.1 hqn); go_simp <;> (try with_reducible rfl))
                refine take_v (v := ?_) 9 ⟨some 101, Op.fieldAddr 52 (Operand.tmp 4) 3, _, _, _, some (6, false)⟩ rfl (fun _ _ _ h => h) ?_ hHeld ?_
                rotate_left
                · (intro W _; go_simp <;> (try with_reducible rfl))
                refine take_v (v := ?_) 10 ⟨some 102, Op.load 3 (Operand.tmp 101), _, _, _, some (6, false)⟩ rfl (fun _ _ _ h => h) ?_ hHeld ?_
                rotate_left
                · (intro W hSW; (have s0 := hSW.1.1.cell 0 rfl; have s5 := hSW.1.1.cell 5 rfl; have s6 := hSW.1.1.2; have s8 := hSW.1.2.1.cell 2 rfl; have s9 := hSW.1.2.1.2; obtain ⟨y0, y1, y2, y3, y4, y5, y6⟩ := ru_cells hSW.2.1 hqn); go_simp <;> (try with_reducible rfl))
                refine take_v (v := ?_) 11 ⟨some 103, Op.binOp BinOp.sub 3 (Operand.tmp 102) (Operand.const (Value.int IntKind.i64 1)) 3, _, _, _, some (6, false)⟩ rfl (fun _ _ _ h => h) ?_ hHeld ?_
                rotate_left
                · (intro W _; go_simp <;> (try with_reducible rfl))
                refine take_v (v := ?_) 12 ⟨some 104, Op.indexAddr 32 (Operand.tmp 100) (Operand.tmp 103), _, _, _, some (6, false)⟩ rfl (fun _ _ _ h => h) ?_ hHeld ?_
                rotate_left
                · (intro W _; go_simp <;> (try with_reducible rfl))
                refine take_v (v := ?_) 13 ⟨some 105, Op.load 71 (Operand.tmp 104), _, _, _, some (6, false)⟩ rfl (fun _ _ _ h => h) ?_ hHeld ?_
                rotate_left
                · (intro W hSW; (have s0 := hSW.1.1.cell 0 rfl; have s5 := hSW.1.1.cell 5 rfl; have s6 := hSW.1.1.2; have s8 := hSW.1.2.1.cell 2 rfl; have s9 := hSW.1.2.1.2; obtain ⟨y0, y1, y2, y3, y4, y5, y6⟩ := ru_cells hSW.2.1 hqn); go_simp <;> (try with_reducible rfl))
                refine take_v (v := ?_) 14 ⟨some 106, Op.fieldAddr 52 (Operand.tmp 4) 0, _, _, _, some (6, false)⟩ rfl (fun _ _ _ h => h) ?_ hHeld ?_
                rotate_left
                · (intro W _; go_simp <;> (try with_reducible rfl))
                refine take_v (v := ?_) 15 ⟨some 107, Op.load 9 (Operand.tmp 106), _, _, _, some (6, false)⟩ rfl (fun _ _ _ h => h) ?_ hHeld ?_
                rotate_left
                · (intro W hSW; (have s0 := hSW.1.1.cell 0 rfl; have s5 := hSW.1.1.cell 5 rfl; have s6 := hSW.1.1.2; have s8 := hSW.1.2.1.cell 2 rfl; have s9 := hSW.1.2.1.2; obtain ⟨y0, y1, y2, y3, y4, y5, y6⟩ := ru_cells hSW.2.1 hqn); go_simp <;> (try with_reducible rfl))
                refine ready_call 16 ⟨some 108, Op.call { callee := Callee.value (Operand.func 54), args := #[Operand.tmp 105, Operand.tmp 107], argTypes := #[71, 9] }, _, _, _, some (6, false)⟩ (by kernel_rfl) rfl (by kernel_rfl) (fun KC hK => ?_)
                go_wp2_with fail
                refine (HWr.out _ hHeld.1.2.2.1).mono ?_
                rintro r w4 ⟨rfl, hb⟩
                have h4 := (⟨hHeld.1.next hb, hHeld.2.1.below hb hHeld.2.2, Nat.lt_of_lt_of_le hHeld.2.2 hb.size⟩ : _ ∧ _ ∧ _)
                clear hb
                refine hK.out _ _ h4 (fun hHeld => ?_)
                clear hK KC
                refine take_v (v := ?_) 17 ⟨some 109, Op.unOp UnOp.not 4 (Operand.tmp 108), _, _, _, some (6, false)⟩ rfl (fun _ _ _ h => h) ?_ hHeld ?_
                rotate_left
                · (intro W _; go_simp <;> (try with_reducible rfl))
                refine take_v (v := ?_) 18 ⟨some 110, Op.pick (Operand.tmp 98) (Operand.const (Value.bool true)) (Operand.tmp 109), _, _, _, none⟩ rfl (fun _ _ _ h => h) ?_ hHeld ?_
                rotate_left
                · (intro W _; go_simp <;> (try with_reducible rfl))
                refine wpAnyH_done (by kernel_rfl) ?_ _
                refine NoPanic.normal ?_
                have HE := (show Hid _ from hHeld)
                clear hHeld
                go_wp2
                go_ret
                exact ⟨ret_bool HN.out.symm, HE.out.1.2.2.1⟩
              · have HWr : Hid (∀ W, Below w.heap.size w W → Calls Tryz.prog 54 #[.agg #[.int .i64 (S.T q).id, .int .i64 (S.T q).st, .slice (U q).la (S.T q).ln (U q).lc, .slice (U q).ca (S.T q).cn (U q).cc, .int .i64 (S.T q).e, .int .i64 (S.T q).s, .bool (S.T q).b], .string (S.R k).f0] W fun r w' => r = .returned (.bool true) ∧ Below W.heap.size W w') := fun W hW => by have := HWa.out W hW; rw [e6] at this; exact this
                have HY : Hid (recP S k) := ⟨e0, Or.inr ⟨H5.out, e4, q, hqn, HQ.out, HM.out, clB_iff.1 e6⟩, HRi.out⟩
                have HRs : Hid (∀ i, i < k → recP S i) := H3d.out.2.1
                clear HWa
                go_upto_region 10 with fail
                refine wp_region_noPanic ?_
                refine wp_region_held_drew (S := fun W => RcH w [.int .i64 S.ep, .slice (some ⟨b, off, none⟩) S.rn rc, .slice (some ⟨b2, o2, none⟩) S.tn tc, .slice oa S.on oc] [.string (S.R k).f0, .string (S.R k).f1, .int .i64 (S.R k).f2, .int .i64 (S.R k).f3, .bool true, .int .i64 (S.R k).f5] wr.heap.size b off S.rn S.R W ∧ Elems W b2 o2 S.tn 7 (ruF S.T U) ∧ b2 < W.heap.size) (by kernel_rfl) ⟨H3d.out.1, H3d.out.2.2⟩ (fun hHeld => ?_)
                refine take_v (v := ?_) 0 ⟨some 92, Op.move (Operand.tmp 5), _, _, _, none⟩ rfl (fun _ _ _ h => h) ?_ hHeld ?_
                rotate_left
                · (intro W _; go_simp <;> (try with_reducible rfl))
                refine take_v (v := ?_) 1 ⟨some 93, Op.binOp BinOp.neq 3 (Operand.tmp 92) (Operand.const (Value.int IntKind.i64 2)) 3, _, _, _, none⟩ rfl (fun _ _ _ h => h) ?_ hHeld ?_
                rotate_left
                · (intro W _; go_simp <;> (try with_reducible rfl))
                refine take_v (v := ?_) 2 ⟨some 94, Op.move (Operand.tmp 93), _, _, _, none⟩ rfl (fun _ _ _ h => h) ?_ hHeld ?_
                rotate_left
                · (intro W _; go_simp <;> (try with_reducible rfl))
                refine take_n 3 ⟨some 95, Op.move (Operand.tmp 5), _, _, _, some (2, true)⟩ rfl (fun _ _ _ h => h) hHeld ?_
                refine take_n 4 ⟨some 96, Op.binOp BinOp.neq 3 (Operand.tmp 95) (Operand.const (Value.int IntKind.i64 3)) 3, _, _, _, some (2, true)⟩ rfl (fun _ _ _ h => h) hHeld ?_
                refine take_v (v := ?_) 5 ⟨some 97, Op.pick (Operand.tmp 94) (Operand.tmp 96) (Operand.const (Value.bool false)), _, _, _, none⟩ rfl (fun _ _ _ h => h) ?_ hHeld ?_
                rotate_left
                · (intro W _; go_simp <;> (try with_reducible rfl))
                refine take_v (v := ?_) 6 ⟨some 98, Op.move (Operand.tmp 97), _, _, _, none⟩ rfl (fun _ _ _ h => h) ?_ hHeld ?_
                rotate_left
                · (intro W _; go_simp <;> (try with_reducible rfl))
                refine take_v (v := ?_) 7 ⟨some 99, Op.fieldAddr 34 (Operand.tmp 1) 2, _, _, _, some (6, false)⟩ rfl (fun _ _ _ h => h) ?_ hHeld ?_
                rotate_left
                · (intro W _; go_simp <;> (try with_reducible rfl))
                refine take_v (v := ?_) 8 ⟨some 100, Op.load 32 (Operand.tmp 99), _, _, _, some (6, false)⟩ rfl (fun _ _ _ h => h) ?_ hHeld ?_
                rotate_left
                · (intro W hSW; (have s0 := hSW.1.1.cell 0 rfl; have s5 := hSW.1.1.cell 5 rfl; have s6 := hSW.1.1.2; have s8 := hSW.1.2.1.cell 2 rfl; have s9 := hSW.1.2.1.2; obtain ⟨y0, y1, y2, y3, y4, y5, y6⟩ := ru_cells hSW.2.1 hqn); go_simp <;> (try with_reducible rfl))
                refine take_v (v := ?_) 9 ⟨some 101, Op.fieldAddr 52 (Operand.tmp 4) 3, _, _, _, some (6, false)⟩ rfl (fun _ _ _ h => h) ?_ hHeld ?_
                rotate_left
                · (intro W _; go_simp <;> (try with_reducible rfl))
                refine take_v (v := ?_) 10 ⟨some 102, Op.load 3 (Operand.tmp 101), _, _, _, some (6, false)⟩ rfl (fun _ _ _ h => h) ?_ hHeld ?_
                rotate_left
                · (intro W hSW; (have s0 := hSW.1.1.cell 0 rfl; have s5 := hSW.1.1.cell 5 rfl; have s6 := hSW.1.1.2; have s8 := hSW.1.2.1.cell 2 rfl; have s9 := hSW.1.2.1.2; obtain ⟨y0, y1, y2, y3, y4, y5, y6⟩ := ru_cells hSW.2.1 hqn); go_simp <;> (try with_reducible rfl))
                refine take_v (v := ?_) 11 ⟨some 103, Op.binOp BinOp.sub 3 (Operand.tmp 102) (Operand.const (Value.int IntKind.i64 1)) 3, _, _, _, some (6, false)⟩ rfl (fun _ _ _ h => h) ?_ hHeld ?_
                rotate_left
                · (intro W _; go_simp <;> (try with_reducible rfl))
                refine take_v (v := ?_) 12 ⟨some 104, Op.indexAddr 32 (Operand.tmp 100) (Operand.tmp 103), _, _, _, some (6, false)⟩ rfl (fun _ _ _ h => h) ?_ hHeld ?_
                rotate_left
                · (intro W _; go_simp <;> (try with_reducible rfl))
                refine take_v (v := ?_) 13 ⟨some 105, Op.load 71 (Operand.tmp 104), _, _, _, some (6, false)⟩ rfl (fun _ _ _ h => h) ?_ hHeld ?_
                rotate_left
                · (intro W hSW; (have s0 := hSW.1.1.cell 0 rfl; have s5 := hSW.1.1.cell 5 rfl; have s6 := hSW.1.1.2; have s8 := hSW.1.2.1.cell 2 rfl; have s9 := hSW.1.2.1.2; obtain ⟨y0, y1, y2, y3, y4, y5, y6⟩ := ru_cells hSW.2.1 hqn); go_simp <;> (try with_reducible rfl))
                refine take_v (v := ?_) 14 ⟨some 106, Op.fieldAddr 52 (Operand.tmp 4) 0, _, _, _, some (6, false)⟩ rfl (fun _ _ _ h => h) ?_ hHeld ?_
                rotate_left
                · (intro W _; go_simp <;> (try with_reducible rfl))
                refine take_v (v := ?_) 15 ⟨some 107, Op.load 9 (Operand.tmp 106), _, _, _, some (6, false)⟩ rfl (fun _ _ _ h => h) ?_ hHeld ?_
                rotate_left
                · (intro W hSW; (have s0 := hSW.1.1.cell 0 rfl; have s5 := hSW.1.1.cell 5 rfl; have s6 := hSW.1.1.2; have s8 := hSW.1.2.1.cell 2 rfl; have s9 := hSW.1.2.1.2; obtain ⟨y0, y1, y2, y3, y4, y5, y6⟩ := ru_cells hSW.2.1 hqn); go_simp <;> (try with_reducible rfl))
                refine ready_call 16 ⟨some 108, Op.call { callee := Callee.value (Operand.func 54), args := #[Operand.tmp 105, Operand.tmp 107], argTypes := #[71, 9] }, _, _, _, some (6, false)⟩ (by kernel_rfl) rfl (by kernel_rfl) (fun KC hK => ?_)
                go_wp2_with fail
                refine (HWr.out _ hHeld.1.2.2.1).mono ?_
                rintro r w4 ⟨rfl, hb⟩
                have h4 := (⟨hHeld.1.next hb, hHeld.2.1.below hb hHeld.2.2, Nat.lt_of_lt_of_le hHeld.2.2 hb.size⟩ : _ ∧ _ ∧ _)
                clear hb
                refine hK.out _ _ h4 (fun hHeld => ?_)
                clear hK KC
                refine take_v (v := ?_) 17 ⟨some 109, Op.unOp UnOp.not 4 (Operand.tmp 108), _, _, _, some (6, false)⟩ rfl (fun _ _ _ h => h) ?_ hHeld ?_
                rotate_left
                · (intro W _; go_simp <;> (try with_reducible rfl))
                refine take_v (v := ?_) 18 ⟨some 110, Op.pick (Operand.tmp 98) (Operand.const (Value.bool true)) (Operand.tmp 109), _, _, _, none⟩ rfl (fun _ _ _ h => h) ?_ hHeld ?_
                rotate_left
                · (intro W _; go_simp <;> (try with_reducible rfl))
                refine wpAnyH_done (by kernel_rfl) ?_ _
                refine NoPanic.normal ?_
                have HE := (show Hid (_ ∧ _) from hHeld)
                clear hHeld
                go_wp2
                go_roundw
                case rel => exact ⟨k + 1, by omega, by go_num, upto_succ HRs.out HY.out, HE.out.1.2.1, HE.out.1.2.2.1⟩
                case measure => simp [intOf]; omega

            · have x2 : ((S.T q).st != 2) = true := by rw [bne, e2']; rfl
              have x3 : ((S.T q).st != 3) = false := by rw [bne, e3']; rfl
              have HM : Hid (mayB (S.T q).st = true) := by show _ = _; rw [mayB, e2', e3']; rfl
              have HWa : Hid (∀ W, Below w.heap.size w W → Calls Tryz.prog 54 #[.agg #[.int .i64 (S.T q).id, .int .i64 (S.T q).st, .slice (U q).la (S.T q).ln (U q).lc, .slice (U q).ca (S.T q).cn (U q).cc, .int .i64 (S.T q).e, .int .i64 (S.T q).s, .bool (S.T q).b], .string (S.R k).f0] W fun r w' => r = .returned (.bool (clB (writesP (S.T q) (S.R k).f0))) ∧ Below W.heap.size W w') := fun W hW => l5Writes_any (S.T q) _ _ _ _ _ _ (HS.out.2.2.2.1.2 q hqn).2 ((HS.out.1.next hW).2.1.2 q hqn).2.1
              cases e6 : clB (writesP (S.T q) (S.R k).f0)
              · have HWr : Hid (∀ W, Below w.heap.size w W → Calls Tryz.prog 54 #[.agg #[.int .i64 (S.T q).id, .int .i64 (S.T q).st, .slice (U q).la (S.T q).ln (U q).lc, .slice (U q).ca (S.T q).cn (U q).cc, .int .i64 (S.T q).e, .int .i64 (S.T q).s, .bool (S.T q).b], .string (S.R k).f0] W fun r w' => r = .returned (.bool false) ∧ Below W.heap.size W w') := fun W hW => by have := HWa.out W hW; rw [e6] at this; exact this
                have HN : Hid (goodB S = false) := no_rec hlt fun g => clB_not e6 (HOw.out g).2
                clear HWa
                go_upto_region 10 with fail
                refine wp_region_noPanic ?_
                refine wp_region_held_drew (S := fun W => RcH w [.int .i64 S.ep, .slice (some ⟨b, off, none⟩) S.rn rc, .slice (some ⟨b2, o2, none⟩) S.tn tc, .slice oa S.on oc] [.string (S.R k).f0, .string (S.R k).f1, .int .i64 (S.R k).f2, .int .i64 (S.R k).f3, .bool true, .int .i64 (S.R k).f5] wr.heap.size b off S.rn S.R W ∧ Elems W b2 o2 S.tn 7 (ruF S.T U) ∧ b2 < W.heap.size) (by kernel_rfl) ⟨H3d.out.1, H3d.out.2.2⟩ (fun hHeld => ?_)
                refine take_v (v := ?_) 0 ⟨some 92, Op.move (Operand.tmp 5), _, _, _, none⟩ rfl (fun _ _ _ h => h) ?_ hHeld ?_
                rotate_left
                · (intro W _; go_simp <;> (try with_reducible rfl))
                refine take_v (v := ?_) 1 ⟨some 93, Op.binOp BinOp.neq 3 (Operand.tmp 92) (Operand.const (Value.int IntKind.i64 2)) 3, _, _, _, none⟩ rfl (fun _ _ _ h => h) ?_ hHeld ?_
                rotate_left
                · (intro W _; go_simp <;> (try with_reducible rfl))
                refine take_v (v := ?_) 2 ⟨some 94, Op.move (Operand.tmp 93), _, _, _, none⟩ rfl (fun _ _ _ h => h) ?_ hHeld ?_
                rotate_left
                · (intro W _; go_simp <;> (try with_reducible rfl))
                refine take_v (v := ?_) 3 ⟨some 95, Op.move (Operand.tmp 5), _, _, _, some (2, true)⟩ rfl (fun _ _ _ h => h) ?_ hHeld ?_
                rotate_left
                · (intro W _; go_simp <;> (try with_reducible rfl))
                refine take_v (v := ?_) 4 ⟨some 96, Op.binOp BinOp.neq 3 (Operand.tmp 95) (Operand.const (Value.int IntKind.i64 3)) 3, _, _, _, some (2, true)⟩ rfl (fun _ _ _ h => h) ?_ hHeld ?_
                rotate_left
                · (intro W _; go_simp <;> (try with_reducible rfl))
                refine take_v (v := ?_) 5 ⟨some 97, Op.pick (Operand.tmp 94) (Operand.tmp 96) (Operand.const (Value.bool false)), _, _, _, none⟩ rfl (fun _ _ _ h => h) ?_ hHeld ?_
                rotate_left
                · (intro W _; go_simp <;> (try with_reducible rfl))
                refine take_v (v := ?_) 6 ⟨some 98, Op.move (Operand.tmp 97), _, _, _, none⟩ rfl (fun _ _ _ h => h) ?_ hHeld ?_
                rotate_left
                · (intro W _; go_simp <;> (try with_reducible rfl))
                refine take_v (v := ?_) 7 ⟨some 99, Op.fieldAddr 34 (Operand.tmp 1) 2, _, _, _, some (6, false)⟩ rfl (fun _ _ _ h => h) ?_ hHeld ?_
                rotate_left
                · (intro W _; go_simp <;> (try with_reducible rfl))
                refine take_v (v := ?_) 8 ⟨some 100, Op.load 32 (Operand.tmp 99), _, _, _, some (6, false)⟩ rfl (fun _ _ _ h => h) ?_ hHeld ?_
                rotate_left
                · (intro W hSW; (have s0 := hSW.1.1.cell 0 rfl; have s5 := hSW.1.1.cell 5 rfl; have s6 := hSW.1.1.2; have s8 := hSW.1.2.1.cell 2 rfl; have s9 := hSW.1.2.1.2; obtain ⟨y0, y1, y2, y3, y4, y5, y6⟩ := ru_cells hSW.2.1 hqn); go_simp <;> (try with_reducible rfl))
                refine take_v (v := ?_) 9 ⟨some 101, Op.fieldAddr 52 (Operand.tmp 4) 3, _, _, _, some (6, false)⟩ rfl (fun _ _ _ h => h) ?_ hHeld ?_
                rotate_left
                · (intro W _; go_simp <;> (try with_reducible rfl))
                refine take_v (v := ?_) 10 ⟨some 102, Op.load 3 (Operand.tmp 101), _, _, _, some (6, false)⟩ rfl (fun _ _ _ h => h) ?_ hHeld ?_
                rotate_left
                · (intro W hSW; (have s0 := hSW.1.1.cell 0 rfl; have s5 := hSW.1.1.cell 5 rfl; have s6 := hSW.1.1.2; have s8 := hSW.1.2.1.cell 2 rfl; have s9 := hSW.1.2.1.2; obtain ⟨y0, y1, y2, y3, y4, y5, y6⟩ := ru_cells hSW.2.1 hqn); go_simp <;> (try with_reducible rfl))
                refine take_v (v := ?_) 11 ⟨some 103, Op.binOp BinOp.sub 3 (Operand.tmp 102) (Operand.const (Value.int IntKind.i64 1)) 3, _, _, _, some (6, false)⟩ rfl (fun _ _ _ h => h) ?_ hHeld ?_
                rotate_left
                · (intro W _; go_simp <;> (try with_reducible rfl))
                refine take_v (v := ?_) 12 ⟨some 104, Op.indexAddr 32 (Operand.tmp 100) (Operand.tmp 103), _, _, _, some (6, false)⟩ rfl (fun _ _ _ h => h) ?_ hHeld ?_
                rotate_left
                · (intro W _; go_simp <;> (try with_reducible rfl))
                refine take_v (v := ?_) 13 ⟨some 105, Op.load 71 (Operand.tmp 104), _, _, _, some (6, false)⟩ rfl (fun _ _ _ h => h) ?_ hHeld ?_
                rotate_left
                · (intro W hSW; (have s0 := hSW.1.1.cell 0 rfl; have s5 := hSW.1.1.cell 5 rfl; have s6 := hSW.1.1.2; have s8 := hSW.1.2.1.cell 2 rfl; have s9 := hSW.1.2.1.2; obtain ⟨y0, y1, y2, y3, y4, y5, y6⟩ := ru_cells hSW.2.1 hqn); go_simp <;> (try with_reducible rfl))
                refine take_v (v := ?_) 14 ⟨some 106, Op.fieldAddr 52 (Operand.tmp 4) 0, _, _, _, some (6, false)⟩ rfl (fun _ _ _ h => h) ?_ hHeld ?_
                rotate_left
                · (intro W _; go_simp <;> (try with_reducible rfl))
                refine take_v (v := ?_) 15 ⟨some 107, Op.load 9 (Operand.tmp 106), _, _, _, some (6, false)⟩ rfl (fun _ _ _ h => h) ?_ hHeld ?_
                rotate_left
                · (intro W hSW; (have s0 := hSW.1.1.cell 0 rfl; have s5 := hSW.1.1.cell 5 rfl; have s6 := hSW.1.1.2; have s8 := hSW.1.2.1.cell 2 rfl; have s9 := hSW.1.2.1.2; obtain ⟨y0, y1, y2, y3, y4, y5, y6⟩ := ru_cells hSW.2.1 hqn); go_simp <;> (try with_reducible rfl))
                refine ready_call 16 ⟨some 108, Op.call { callee := Callee.value (Operand.func 54), args := #[Operand.tmp 105, Operand.tmp 107], argTypes := #[71, 9] }, _, _, _, some (6, false)⟩ (by kernel_rfl) rfl (by kernel_rfl) (fun KC hK => ?_)
                go_wp2_with fail
                refine (HWr.out _ hHeld.1.2.2.1).mono ?_
                rintro r w4 ⟨rfl, hb⟩
                have h4 := (⟨hHeld.1.next hb, hHeld.2.1.below hb hHeld.2.2, Nat.lt_of_lt_of_le hHeld.2.2 hb.size⟩ : _ ∧ _ ∧ _)
                clear hb
                refine hK.out _ _ h4 (fun hHeld => ?_)
                clear hK KC
                refine take_v (v := ?_) 17 ⟨some 109, Op.unOp UnOp.not 4 (Operand.tmp 108), _, _, _, some (6, false)⟩ rfl (fun _ _ _ h => h) ?_ hHeld ?_
                rotate_left
                · (intro W _; go_simp <;> (try with_reducible rfl))
                refine take_v (v := ?_) 18 ⟨some 110, Op.pick (Operand.tmp 98) (Operand.const (Value.bool true)) (Operand.tmp 109), _, _, _, none⟩ rfl (fun _ _ _ h => h) ?_ hHeld ?_
                rotate_left
                · (intro W _; go_simp <;> (try with_reducible rfl))
                refine wpAnyH_done (by kernel_rfl) ?_ _
                refine NoPanic.normal ?_
                have HE := (show Hid _ from hHeld)
                clear hHeld
                go_wp2
                go_ret
                exact ⟨ret_bool HN.out.symm, HE.out.1.2.2.1⟩
              · have HWr : Hid (∀ W, Below w.heap.size w W → Calls Tryz.prog 54 #[.agg #[.int .i64 (S.T q).id, .int .i64 (S.T q).st, .slice (U q).la (S.T q).ln (U q).lc, .slice (U q).ca (S.T q).cn (U q).cc, .int .i64 (S.T q).e, .int .i64 (S.T q).s, .bool (S.T q).b], .string (S.R k).f0] W fun r w' => r = .returned (.bool true) ∧ Below W.heap.size W w') := fun W hW => by have := HWa.out W hW; rw [e6] at this; exact this
                have HY : Hid (recP S k) := ⟨e0, Or.inr ⟨H5.out, e4, q, hqn, HQ.out, HM.out, clB_iff.1 e6⟩, HRi.out⟩
                have HRs : Hid (∀ i, i < k → recP S i) := H3d.out.2.1
                clear HWa
                go_upto_region 10 with fail
                refine wp_region_noPanic ?_
                refine wp_region_held_drew (S := fun W => RcH w [.int .i64 S.ep, .slice (some ⟨b, off, none⟩) S.rn rc, .slice (some ⟨b2, o2, none⟩) S.tn tc, .slice oa S.on oc] [.string (S.R k).f0, .string (S.R k).f1, .int .i64 (S.R k).f2, .int .i64 (S.R k).f3, .bool true, .int .i64 (S.R k).f5] wr.heap.size b off S.rn S.R W ∧ Elems W b2 o2 S.tn 7 (ruF S.T U) ∧ b2 < W.heap.size) (by kernel_rfl) ⟨H3d.out.1, H3d.out.2.2⟩ (fun hHeld => ?_)
                refine take_v (v := ?_) 0 ⟨some 92, Op.move (Operand.tmp 5), _, _, _, none⟩ rfl (fun _ _ _ h => h) ?_ hHeld ?_
                rotate_left
                · (intro W _; go_simp <;> (try with_reducible rfl))
                refine take_v (v := ?_) 1 ⟨some 93, Op.binOp BinOp.neq 3 (Operand.tmp 92) (Operand.const (Value.int IntKind.i64 2)) 3, _, _, _, none⟩ rfl (fun _ _ _ h => h) ?_ hHeld ?_
                rotate_left
                · (intro W _; go_simp <;> (try with_reducible rfl))
                refine take_v (v := ?_) 2 ⟨some 94, Op.move (Operand.tmp 93), _, _, _, none⟩ rfl (fun _ _ _ h => h) ?_ hHeld ?_
                rotate_left
                · (intro W _; go_simp <;> (try with_reducible rfl))
                refine take_v (v := ?_) 3 ⟨some 95, Op.move (Operand.tmp 5), _, _, _, some (2, true)⟩ rfl (fun _ _ _ h => h) ?_ hHeld ?_
                rotate_left
                · (intro W _; go_simp <;> (try with_reducible rfl))
                refine take_v (v := ?_) 4 ⟨some 96, Op.binOp BinOp.neq 3 (Operand.tmp 95) (Operand.const (Value.int IntKind.i64 3)) 3, _, _, _, some (2, true)⟩ rfl (fun _ _ _ h => h) ?_ hHeld ?_
                rotate_left
                · (intro W _; go_simp <;> (try with_reducible rfl))
                refine take_v (v := ?_) 5 ⟨some 97, Op.pick (Operand.tmp 94) (Operand.tmp 96) (Operand.const (Value.bool false)), _, _, _, none⟩ rfl (fun _ _ _ h => h) ?_ hHeld ?_
                rotate_left
                · (intro W _; go_simp <;> (try with_reducible rfl))
                refine take_v (v := ?_) 6 ⟨some 98, Op.move (Operand.tmp 97), _, _, _, none⟩ rfl (fun _ _ _ h => h) ?_ hHeld ?_
                rotate_left
                · (intro W _; go_simp <;> (try with_reducible rfl))
                refine take_v (v := ?_) 7 ⟨some 99, Op.fieldAddr 34 (Operand.tmp 1) 2, _, _, _, some (6, false)⟩ rfl (fun _ _ _ h => h) ?_ hHeld ?_
                rotate_left
                · (intro W _; go_simp <;> (try with_reducible rfl))
                refine take_v (v := ?_) 8 ⟨some 100, Op.load 32 (Operand.tmp 99), _, _, _, some (6, false)⟩ rfl (fun _ _ _ h => h) ?_ hHeld ?_
                rotate_left
                · (intro W hSW; (have s0 := hSW.1.1.cell 0 rfl; have s5 := hSW.1.1.cell 5 rfl; have s6 := hSW.1.1.2; have s8 := hSW.1.2.1.cell 2 rfl; have s9 := hSW.1.2.1.2; obtain ⟨y0, y1, y2, y3, y4, y5, y6⟩ := ru_cells hSW.2.1 hqn); go_simp <;> (try with_reducible rfl))
                refine take_v (v := ?_) 9 ⟨some 101, Op.fieldAddr 52 (Operand.tmp 4) 3, _, _, _, some (6, false)⟩ rfl (fun _ _ _ h => h) ?_ hHeld ?_
                rotate_left
                · (intro W _; go_simp <;> (try with_reducible rfl))
                refine take_v (v := ?_) 10 ⟨some 102, Op.load 3 (Operand.tmp 101), _, _, _, some (6, false)⟩ rfl (fun _ _ _ h => h) ?_ hHeld ?_
                rotate_left
                · (intro W hSW; (have s0 := hSW.1.1.cell 0 rfl; have s5 := hSW.1.1.cell 5 rfl; have s6 := hSW.1.1.2; have s8 := hSW.1.2.1.cell 2 rfl; have s9 := hSW.1.2.1.2; obtain ⟨y0, y1, y2, y3, y4, y5, y6⟩ := ru_cells hSW.2.1 hqn); go_simp <;> (try with_reducible rfl))
                refine take_v (v := ?_) 11 ⟨some 103, Op.binOp BinOp.sub 3 (Operand.tmp 102) (Operand.const (Value.int IntKind.i64 1)) 3, _, _, _, some (6, false)⟩ rfl (fun _ _ _ h => h) ?_ hHeld ?_
                rotate_left
                · (intro W _; go_simp <;> (try with_reducible rfl))
                refine take_v (v := ?_) 12 ⟨some 104, Op.indexAddr 32 (Operand.tmp 100) (Operand.tmp 103), _, _, _, some (6, false)⟩ rfl (fun _ _ _ h => h) ?_ hHeld ?_
                rotate_left
                · (intro W _; go_simp <;> (try with_reducible rfl))
                refine take_v (v := ?_) 13 ⟨some 105, Op.load 71 (Operand.tmp 104), _, _, _, some (6, false)⟩ rfl (fun _ _ _ h => h) ?_ hHeld ?_
                rotate_left
                · (intro W hSW; (have s0 := hSW.1.1.cell 0 rfl; have s5 := hSW.1.1.cell 5 rfl; have s6 := hSW.1.1.2; have s8 := hSW.1.2.1.cell 2 rfl; have s9 := hSW.1.2.1.2; obtain ⟨y0, y1, y2, y3, y4, y5, y6⟩ := ru_cells hSW.2.1 hqn); go_simp <;> (try with_reducible rfl))
                refine take_v (v := ?_) 14 ⟨some 106, Op.fieldAddr 52 (Operand.tmp 4) 0, _, _, _, some (6, false)⟩ rfl (fun _ _ _ h => h) ?_ hHeld ?_
                rotate_left
                · (intro W _; go_simp <;> (try with_reducible rfl))
                refine take_v (v := ?_) 15 ⟨some 107, Op.load 9 (Operand.tmp 106), _, _, _, some (6, false)⟩ rfl (fun _ _ _ h => h) ?_ hHeld ?_
                rotate_left
                · (intro W hSW; (have s0 := hSW.1.1.cell 0 rfl; have s5 := hSW.1.1.cell 5 rfl; have s6 := hSW.1.1.2; have s8 := hSW.1.2.1.cell 2 rfl; have s9 := hSW.1.2.1.2; obtain ⟨y0, y1, y2, y3, y4, y5, y6⟩ := ru_cells hSW.2.1 hqn); go_simp <;> (try with_reducible rfl))
                refine ready_call 16 ⟨some 108, Op.call { callee := Callee.value (Operand.func 54), args := #[Operand.tmp 105, Operand.tmp 107], argTypes := #[71, 9] }, _, _, _, some (6, false)⟩ (by kernel_rfl) rfl (by kernel_rfl) (fun KC hK => ?_)
                go_wp2_with fail
                refine (HWr.out _ hHeld.1.2.2.1).mono ?_
                rintro r w4 ⟨rfl, hb⟩
                have h4 := (⟨hHeld.1.next hb, hHeld.2.1.below hb hHeld.2.2, Nat.lt_of_lt_of_le hHeld.2.2 hb.size⟩ : _ ∧ _ ∧ _)
                clear hb
                refine hK.out _ _ h4 (fun hHeld => ?_)
                clear hK KC
                refine take_v (v := ?_) 17 ⟨some 109, Op.unOp UnOp.not 4 (Operand.tmp 108), _, _, _, some (6, false)⟩ rfl (fun _ _ _ h => h) ?_ hHeld ?_
                rotate_left
                · (intro W _; go_simp <;> (try with_reducible rfl))
                refine take_v (v := ?_) 18 ⟨some 110, Op.pick (Operand.tmp 98) (Operand.const (Value.bool true)) (Operand.tmp 109), _, _, _, none⟩ rfl (fun _ _ _ h => h) ?_ hHeld ?_
                rotate_left
                · (intro W _; go_simp <;> (try with_reducible rfl))
                refine wpAnyH_done (by kernel_rfl) ?_ _
                refine NoPanic.normal ?_
                have HE := (show Hid (_ ∧ _) from hHeld)
                clear hHeld
                go_wp2
                go_roundw
                case rel => exact ⟨k + 1, by omega, by go_num, upto_succ HRs.out HY.out, HE.out.1.2.1, HE.out.1.2.2.1⟩
                case measure => simp [intOf]; omega

            · have x2 : ((S.T q).st != 2) = true := by rw [bne, e2']; rfl
              have x3 : ((S.T q).st != 3) = true := by rw [bne, e3']; rfl
              have HN : Hid (goodB S = false) := no_rec hlt fun g => by
                have := (HOw.out g).1
                rw [mayB, e2', e3'] at this; cases this
              go_upto_region 10 with fail
              refine wp_region_noPanic ?_
              refine wp_region_held_drew (S := fun W => RcH w [.int .i64 S.ep, .slice (some ⟨b, off, none⟩) S.rn rc, .slice (some ⟨b2, o2, none⟩) S.tn tc, .slice oa S.on oc] [.string (S.R k).f0, .string (S.R k).f1, .int .i64 (S.R k).f2, .int .i64 (S.R k).f3, .bool true, .int .i64 (S.R k).f5] wr.heap.size b off S.rn S.R W) (by kernel_rfl) H3d.out.1 (fun hHeld => ?_)
              refine take_v (v := ?_) 0 ⟨some 92, Op.move (Operand.tmp 5), _, _, _, none⟩ rfl (fun _ _ _ h => h) ?_ hHeld ?_
              rotate_left
              · (intro W _; go_simp <;> (try with_reducible rfl))
              refine take_v (v := ?_) 1 ⟨some 93, Op.binOp BinOp.neq 3 (Operand.tmp 92) (Operand.const (Value.int IntKind.i64 2)) 3, _, _, _, none⟩ rfl (fun _ _ _ h => h) ?_ hHeld ?_
              rotate_left
              · (intro W _; go_simp <;> (try with_reducible rfl))
              refine take_v (v := ?_) 2 ⟨some 94, Op.move (Operand.tmp 93), _, _, _, none⟩ rfl (fun _ _ _ h => h) ?_ hHeld ?_
              rotate_left
              · (intro W _; go_simp <;> (try with_reducible rfl))
              refine take_v (v := ?_) 3 ⟨some 95, Op.move (Operand.tmp 5), _, _, _, some (2, true)⟩ rfl (fun _ _ _ h => h) ?_ hHeld ?_
              rotate_left
              · (intro W _; go_simp <;> (try with_reducible rfl))
              refine take_v (v := ?_) 4 ⟨some 96, Op.binOp BinOp.neq 3 (Operand.tmp 95) (Operand.const (Value.int IntKind.i64 3)) 3, _, _, _, some (2, true)⟩ rfl (fun _ _ _ h => h) ?_ hHeld ?_
              rotate_left
              · (intro W _; go_simp <;> (try with_reducible rfl))
              refine take_v (v := ?_) 5 ⟨some 97, Op.pick (Operand.tmp 94) (Operand.tmp 96) (Operand.const (Value.bool false)), _, _, _, none⟩ rfl (fun _ _ _ h => h) ?_ hHeld ?_
              rotate_left
              · (intro W _; go_simp <;> (try with_reducible rfl))
              refine take_v (v := ?_) 6 ⟨some 98, Op.move (Operand.tmp 97), _, _, _, none⟩ rfl (fun _ _ _ h => h) ?_ hHeld ?_
              rotate_left
              · (intro W _; go_simp <;> (try with_reducible rfl))
              refine take_n 7 ⟨some 99, Op.fieldAddr 34 (Operand.tmp 1) 2, _, _, _, some (6, false)⟩ rfl (fun _ _ _ h => h) hHeld ?_
              refine take_n 8 ⟨some 100, Op.load 32 (Operand.tmp 99), _, _, _, some (6, false)⟩ rfl (fun _ _ _ h => h) hHeld ?_
              refine take_n 9 ⟨some 101, Op.fieldAddr 52 (Operand.tmp 4) 3, _, _, _, some (6, false)⟩ rfl (fun _ _ _ h => h) hHeld ?_
              refine take_n 10 ⟨some 102, Op.load 3 (Operand.tmp 101), _, _, _, some (6, false)⟩ rfl (fun _ _ _ h => h) hHeld ?_
              refine take_n 11 ⟨some 103, Op.binOp BinOp.sub 3 (Operand.tmp 102) (Operand.const (Value.int IntKind.i64 1)) 3, _, _, _, some (6, false)⟩ rfl (fun _ _ _ h => h) hHeld ?_
              refine take_n 12 ⟨some 104, Op.indexAddr 32 (Operand.tmp 100) (Operand.tmp 103), _, _, _, some (6, false)⟩ rfl (fun _ _ _ h => h) hHeld ?_
              refine take_n 13 ⟨some 105, Op.load 71 (Operand.tmp 104), _, _, _, some (6, false)⟩ rfl (fun _ _ _ h => h) hHeld ?_
              refine take_n 14 ⟨some 106, Op.fieldAddr 52 (Operand.tmp 4) 0, _, _, _, some (6, false)⟩ rfl (fun _ _ _ h => h) hHeld ?_
              refine take_n 15 ⟨some 107, Op.load 9 (Operand.tmp 106), _, _, _, some (6, false)⟩ rfl (fun _ _ _ h => h) hHeld ?_
              refine take_n 16 ⟨some 108, Op.call { callee := Callee.value (Operand.func 54), args := #[Operand.tmp 105, Operand.tmp 107], argTypes := #[71, 9] }, _, _, _, some (6, false)⟩ rfl (fun _ _ _ h => h) hHeld ?_
              refine take_n 17 ⟨some 109, Op.unOp UnOp.not 4 (Operand.tmp 108), _, _, _, some (6, false)⟩ rfl (fun _ _ _ h => h) hHeld ?_
              refine take_v (v := ?_) 18 ⟨some 110, Op.pick (Operand.tmp 98) (Operand.const (Value.bool true)) (Operand.tmp 109), _, _, _, none⟩ rfl (fun _ _ _ h => h) ?_ hHeld ?_
              rotate_left
              · (intro W _; go_simp <;> (try with_reducible rfl))
              refine wpAnyH_done (by kernel_rfl) ?_ _
              refine NoPanic.normal ?_
              have HE := (show Hid _ from hHeld)
              clear hHeld
              go_wp2
              go_ret
              exact ⟨ret_bool HN.out.symm, HE.out.2.2.1⟩

            · have x2 : ((S.T q).st != 2) = true := by rw [bne, e2']; rfl
              have x3 : ((S.T q).st != 3) = true := by rw [bne, e3']; rfl
              have HN : Hid (goodB S = false) := no_rec hlt fun g => by
                have := (HOw.out g).1
                rw [mayB, e2', e3'] at this; cases this
              go_upto_region 10 with fail
              refine wp_region_noPanic ?_
              refine wp_region_held_drew (S := fun W => RcH w [.int .i64 S.ep, .slice (some ⟨b, off, none⟩) S.rn rc, .slice (some ⟨b2, o2, none⟩) S.tn tc, .slice oa S.on oc] [.string (S.R k).f0, .string (S.R k).f1, .int .i64 (S.R k).f2, .int .i64 (S.R k).f3, .bool true, .int .i64 (S.R k).f5] wr.heap.size b off S.rn S.R W) (by kernel_rfl) H3d.out.1 (fun hHeld => ?_)
              refine take_v (v := ?_) 0 ⟨some 92, Op.move (Operand.tmp 5), _, _, _, none⟩ rfl (fun _ _ _ h => h) ?_ hHeld ?_
              rotate_left
              · (intro W _; go_simp <;> (try with_reducible rfl))
              refine take_v (v := ?_) 1 ⟨some 93, Op.binOp BinOp.neq 3 (Operand.tmp 92) (Operand.const (Value.int IntKind.i64 2)) 3, _, _, _, none⟩ rfl (fun _ _ _ h => h) ?_ hHeld ?_
              rotate_left
              · (intro W _; go_simp <;> (try with_reducible rfl))
              refine take_v (v := ?_) 2 ⟨some 94, Op.move (Operand.tmp 93), _, _, _, none⟩ rfl (fun _ _ _ h => h) ?_ hHeld ?_
              rotate_left
              · (intro W _; go_simp <;> (try with_reducible rfl))
              refine take_v (v := ?_) 3 ⟨some 95, Op.move (Operand.tmp 5), _, _, _, some (2, true)⟩ rfl (fun _ _ _ h => h) ?_ hHeld ?_
              rotate_left
              · (intro W _; go_simp <;> (try with_reducible rfl))
              refine take_v (v := ?_) 4 ⟨some 96, Op.binOp BinOp.neq 3 (Operand.tmp 95) (Operand.const (Value.int IntKind.i64 3)) 3, _, _, _, some (2, true)⟩ rfl (fun _ _ _ h => h) ?_ hHeld ?_
              rotate_left
              · (intro W _; go_simp <;> (try with_reducible rfl))
              refine take_v (v := ?_) 5 ⟨some 97, Op.pick (Operand.tmp 94) (Operand.tmp 96) (Operand.const (Value.bool false)), _, _, _, none⟩ rfl (fun _ _ _ h => h) ?_ hHeld ?_
              rotate_left
              · (intro W _; go_simp <;> (try with_reducible rfl))
              refine take_v (v := ?_) 6 ⟨some 98, Op.move (Operand.tmp 97), _, _, _, none⟩ rfl (fun _ _ _ h => h) ?_ hHeld ?_
              rotate_left
              · (intro W _; go_simp <;> (try with_reducible rfl))
              refine take_n 7 ⟨some 99, Op.fieldAddr 34 (Operand.tmp 1) 2, _, _, _, some (6, false)⟩ rfl (fun _ _ _ h => h) hHeld ?_
              refine take_n 8 ⟨some 100, Op.load 32 (Operand.tmp 99), _, _, _, some (6, false)⟩ rfl (fun _ _ _ h => h) hHeld ?_
              refine take_n 9 ⟨some 101, Op.fieldAddr 52 (Operand.tmp 4) 3, _, _, _, some (6, false)⟩ rfl (fun _ _ _ h => h) hHeld ?_
              refine take_n 10 ⟨some 102, Op.load 3 (Operand.tmp 101), _, _, _, some (6, false)⟩ rfl (fun _ _ _ h => h) hHeld ?_
              refine take_n 11 ⟨some 103, Op.binOp BinOp.sub 3 (Operand.tmp 102) (Operand.const (Value.int IntKind.i64 1)) 3, _, _, _, some (6, false)⟩ rfl (fun _ _ _ h => h) hHeld ?_
              refine take_n 12 ⟨some 104, Op.indexAddr 32 (Operand.tmp 100) (Operand.tmp 103), _, _, _, some (6, false)⟩ rfl (fun _ _ _ h => h) hHeld ?_
              refine take_n 13 ⟨some 105, Op.load 71 (Operand.tmp 104), _, _, _, some (6, false)⟩ rfl (fun _ _ _ h => h) hHeld ?_
              refine take_n 14 ⟨some 106, Op.fieldAddr 52 (Operand.tmp 4) 0, _, _, _, some (6, false)⟩ rfl (fun _ _ _ h => h) hHeld ?_
              refine take_n 15 ⟨some 107, Op.load 9 (Operand.tmp 106), _, _, _, some (6, false)⟩ rfl (fun _ _ _ h => h) hHeld ?_
              refine take_n 16 ⟨some 108, Op.call { callee := Callee.value (Operand.func 54), args := #[Operand.tmp 105, Operand.tmp 107], argTypes := #[71, 9] }, _, _, _, some (6, false)⟩ rfl (fun _ _ _ h => h) hHeld ?_
              refine take_n 17 ⟨some 109, Op.unOp UnOp.not 4 (Operand.tmp 108), _, _, _, some (6, false)⟩ rfl (fun _ _ _ h => h) hHeld ?_
              refine take_v (v := ?_) 18 ⟨some 110, Op.pick (Operand.tmp 98) (Operand.const (Value.bool true)) (Operand.tmp 109), _, _, _, none⟩ rfl (fun _ _ _ h => h) ?_ hHeld ?_
              rotate_left
              · (intro W _; go_simp <;> (try with_reducible rfl))
              refine wpAnyH_done (by kernel_rfl) ?_ _
              refine NoPanic.normal ?_
              have HE := (show Hid _ from hHeld)
              clear hHeld
              go_wp2
              go_ret
              exact ⟨ret_bool HN.out.symm, HE.out.2.2.1⟩
          · obtain ⟨q0, hq0⟩ : ∃ q0, q0 = k - 1 := ⟨_, rfl⟩
            have hwq : IntKind.i64.wrap ((k : Int) - 1) = (q0 : Int) := by rw [IntKind.wrap_i64]; omega
            have HQ0 : Hid (k = q0 + 1) := by show k = q0 + 1; omega
            have hk0' : (0 : Int) < (k : Int) := by omega
            have hk0n : decide (0 < k) = true := by simp; omega
            have hqlt : q0 < S.rn := by omega
            have hqlt' : (q0 : Int) < (S.rn : Int) := by omega
            have HC : Hid (riseAt S.R k ↔ Op.bytesLess (S.R q0).f0.toList (S.R k).f0.toList = true) := by
              show _ ↔ _
              have : k - 1 = q0 := by have := HQ0.out; omega
              constructor
              · intro g; have := g (by omega); rwa [‹k - 1 = q0›] at this
              · intro g _; rw [‹k - 1 = q0›]; exact g
            clear hk0 hq0
            cases e3 : Op.bytesLess (S.R q0).f0.toList (S.R k).f0.toList
            · have HN : Hid (goodB S = false) := no_rec hlt (fun g => by rw [HC.out.1 g.2.2] at e3; cases e3)
              go_upto_region 6 with fail
              refine wp_region_noPanic ?_
              refine wp_region_held_drew (S := fun W => RcH w [.int .i64 S.ep, .slice (some ⟨b, off, none⟩) S.rn rc, .slice ta S.tn tc, .slice oa S.on oc] [.string (S.R k).f0, .string (S.R k).f1, .int .i64 (S.R k).f2, .int .i64 (S.R k).f3, .bool true, .int .i64 (S.R k).f5] wr.heap.size b off S.rn S.R W) (by kernel_rfl) H1.out.1 (fun hHeld => ?_)
              refine take_v (v := ?_) 0 ⟨some 36, Op.fieldAddr 52 (Operand.tmp 4) 0, _, _, _, none⟩ rfl (fun _ _ _ h => h) ?_ hHeld ?_
              rotate_left
              · (intro W _; go_simp <;> (try with_reducible rfl))
              refine take_v (v := ?_) 1 ⟨some 37, Op.load 9 (Operand.tmp 36), _, _, _, none⟩ rfl (fun _ _ _ h => h) ?_ hHeld ?_
              rotate_left
              · (intro W hSW; (have s0 := hSW.1.cell 0 rfl; have s1 := hSW.1.cell 1 rfl; have s2 := hSW.1.cell 2 rfl; have s3 := hSW.1.cell 3 rfl; have s4 := hSW.1.cell 4 rfl; have s5 := hSW.1.cell 5 rfl; have s6 := hSW.1.2; have s7 := hSW.2.1.cell 0 rfl; have s8 := hSW.2.1.cell 1 rfl; have s9 := hSW.2.1.2; have sp := (record_cells hSW.2.2.2.1 hqlt).1); go_simp <;> (try with_reducible rfl))
              refine ready_call 2 ⟨some 38, Op.call { callee := Callee.value (Operand.func 50), args := #[Operand.tmp 37], argTypes := #[9] }, _, _, _, none⟩ (by kernel_rfl) rfl (by kernel_rfl) (fun KC hK => ?_)
              go_wp2_with fail
              refine (HK.out _).mono ?_
              rintro r w2 ⟨rfl, rfl⟩
              refine hK.out _ _ hHeld (fun hHeld => ?_)
              clear hK KC
              refine take_v (v := ?_) 3 ⟨some 39, Op.unOp UnOp.not 4 (Operand.tmp 38), _, _, _, none⟩ rfl (fun _ _ _ h => h) ?_ hHeld ?_
              rotate_left
              · (intro W _; go_simp <;> (try with_reducible rfl))
              refine take_v (v := ?_) 4 ⟨some 40, Op.move (Operand.tmp 39), _, _, _, none⟩ rfl (fun _ _ _ h => h) ?_ hHeld ?_
              rotate_left
              · (intro W _; go_simp <;> (try with_reducible rfl))
              refine take_v (v := ?_) 5 ⟨some 41, Op.fieldAddr 52 (Operand.tmp 4) 1, _, _, _, some (4, false)⟩ rfl (fun _ _ _ h => h) ?_ hHeld ?_
              rotate_left
              · (intro W _; go_simp <;> (try with_reducible rfl))
              refine take_v (v := ?_) 6 ⟨some 42, Op.load 9 (Operand.tmp 41), _, _, _, some (4, false)⟩ rfl (fun _ _ _ h => h) ?_ hHeld ?_
              rotate_left
              · (intro W hSW; (have s0 := hSW.1.cell 0 rfl; have s1 := hSW.1.cell 1 rfl; have s2 := hSW.1.cell 2 rfl; have s3 := hSW.1.cell 3 rfl; have s4 := hSW.1.cell 4 rfl; have s5 := hSW.1.cell 5 rfl; have s6 := hSW.1.2; have s7 := hSW.2.1.cell 0 rfl; have s8 := hSW.2.1.cell 1 rfl; have s9 := hSW.2.1.2; have sp := (record_cells hSW.2.2.2.1 hqlt).1); go_simp <;> (try with_reducible rfl))
              refine ready_call 7 ⟨some 43, Op.call { callee := Callee.value (Operand.func 51), args := #[Operand.tmp 42], argTypes := #[9] }, _, _, _, some (4, false)⟩ (by kernel_rfl) rfl (by kernel_rfl) (fun KC hK => ?_)
              go_wp2_with fail
              refine (HL.out _).mono ?_
              rintro r w2 ⟨rfl, rfl⟩
              refine hK.out _ _ hHeld (fun hHeld => ?_)
              clear hK KC
              refine take_v (v := ?_) 8 ⟨some 44, Op.unOp UnOp.not 4 (Operand.tmp 43), _, _, _, some (4, false)⟩ rfl (fun _ _ _ h => h) ?_ hHeld ?_
              rotate_left
              · (intro W _; go_simp <;> (try with_reducible rfl))
              refine take_v (v := ?_) 9 ⟨some 45, Op.pick (Operand.tmp 40) (Operand.const (Value.bool true)) (Operand.tmp 44), _, _, _, none⟩ rfl (fun _ _ _ h => h) ?_ hHeld ?_
              rotate_left
              · (intro W _; go_simp <;> (try with_reducible rfl))
              refine take_v (v := ?_) 10 ⟨some 46, Op.move (Operand.tmp 45), _, _, _, none⟩ rfl (fun _ _ _ h => h) ?_ hHeld ?_
              rotate_left
              · (intro W _; go_simp <;> (try with_reducible rfl))
              refine take_v (v := ?_) 11 ⟨some 47, Op.fieldAddr 52 (Operand.tmp 4) 2, _, _, _, some (10, false)⟩ rfl (fun _ _ _ h => h) ?_ hHeld ?_
              rotate_left
              · (intro W _; go_simp <;> (try with_reducible rfl))
              refine take_v (v := ?_) 12 ⟨some 48, Op.load 50 (Operand.tmp 47), _, _, _, some (10, false)⟩ rfl (fun _ _ _ h => h) ?_ hHeld ?_
              rotate_left
              · (intro W hSW; (have s0 := hSW.1.cell 0 rfl; have s1 := hSW.1.cell 1 rfl; have s2 := hSW.1.cell 2 rfl; have s3 := hSW.1.cell 3 rfl; have s4 := hSW.1.cell 4 rfl; have s5 := hSW.1.cell 5 rfl; have s6 := hSW.1.2; have s7 := hSW.2.1.cell 0 rfl; have s8 := hSW.2.1.cell 1 rfl; have s9 := hSW.2.1.2; have sp := (record_cells hSW.2.2.2.1 hqlt).1); go_simp <;> (try with_reducible rfl))
              refine ready_call 13 ⟨some 49, Op.call { callee := Callee.value (Operand.func 52), args := #[Operand.tmp 48], argTypes := #[50] }, _, _, _, some (10, false)⟩ (by kernel_rfl) rfl (by kernel_rfl) (fun KC hK => ?_)
              go_wp2_with fail
              refine (HTd.out _).mono ?_
              rintro r w2 ⟨rfl, hb⟩
              have h2 := hHeld.next hb
              clear hb
              refine hK.out _ _ h2 (fun hHeld => ?_)
              clear hK KC
              refine take_v (v := ?_) 14 ⟨some 50, Op.unOp UnOp.not 4 (Operand.tmp 49), _, _, _, some (10, false)⟩ rfl (fun _ _ _ h => h) ?_ hHeld ?_
              rotate_left
              · (intro W _; go_simp <;> (try with_reducible rfl))
              refine take_v (v := ?_) 15 ⟨some 51, Op.pick (Operand.tmp 46) (Operand.const (Value.bool true)) (Operand.tmp 50), _, _, _, none⟩ rfl (fun _ _ _ h => h) ?_ hHeld ?_
              rotate_left
              · (intro W _; go_simp <;> (try with_reducible rfl))
              refine take_v (v := ?_) 16 ⟨some 52, Op.move (Operand.tmp 51), _, _, _, none⟩ rfl (fun _ _ _ h => h) ?_ hHeld ?_
              rotate_left
              · (intro W _; go_simp <;> (try with_reducible rfl))
              refine take_v (v := ?_) 17 ⟨some 53, Op.fieldAddr 52 (Operand.tmp 4) 2, _, _, _, some (16, false)⟩ rfl (fun _ _ _ h => h) ?_ hHeld ?_
              rotate_left
              · (intro W _; go_simp <;> (try with_reducible rfl))
              refine take_v (v := ?_) 18 ⟨some 54, Op.fieldAddr 50 (Operand.tmp 53) 0, _, _, _, some (16, false)⟩ rfl (fun _ _ _ h => h) ?_ hHeld ?_
              rotate_left
              · (intro W _; go_simp <;> (try with_reducible rfl))
              refine take_v (v := ?_) 19 ⟨some 55, Op.load 3 (Operand.tmp 54), _, _, _, some (16, false)⟩ rfl (fun _ _ _ h => h) ?_ hHeld ?_
              rotate_left
              · (intro W hSW; (have s0 := hSW.1.cell 0 rfl; have s1 := hSW.1.cell 1 rfl; have s2 := hSW.1.cell 2 rfl; have s3 := hSW.1.cell 3 rfl; have s4 := hSW.1.cell 4 rfl; have s5 := hSW.1.cell 5 rfl; have s6 := hSW.1.2; have s7 := hSW.2.1.cell 0 rfl; have s8 := hSW.2.1.cell 1 rfl; have s9 := hSW.2.1.2; have sp := (record_cells hSW.2.2.2.1 hqlt).1); go_simp <;> (try with_reducible rfl))
              refine take_v (v := ?_) 20 ⟨some 56, Op.fieldAddr 34 (Operand.tmp 1) 0, _, _, _, some (16, false)⟩ rfl (fun _ _ _ h => h) ?_ hHeld ?_
              rotate_left
              · (intro W _; go_simp <;> (try with_reducible rfl))
              refine take_v (v := ?_) 21 ⟨some 57, Op.load 3 (Operand.tmp 56), _, _, _, some (16, false)⟩ rfl (fun _ _ _ h => h) ?_ hHeld ?_
              rotate_left
              · (intro W hSW; (have s0 := hSW.1.cell 0 rfl; have s1 := hSW.1.cell 1 rfl; have s2 := hSW.1.cell 2 rfl; have s3 := hSW.1.cell 3 rfl; have s4 := hSW.1.cell 4 rfl; have s5 := hSW.1.cell 5 rfl; have s6 := hSW.1.2; have s7 := hSW.2.1.cell 0 rfl; have s8 := hSW.2.1.cell 1 rfl; have s9 := hSW.2.1.2; have sp := (record_cells hSW.2.2.2.1 hqlt).1); go_simp <;> (try with_reducible rfl))
              refine take_v (v := ?_) 22 ⟨some 58, Op.binOp BinOp.gtr 3 (Operand.tmp 55) (Operand.tmp 57) 3, _, _, _, some (16, false)⟩ rfl (fun _ _ _ h => h) ?_ hHeld ?_
              rotate_left
              · (intro W _; go_simp <;> (try with_reducible rfl))
              refine take_v (v := ?_) 23 ⟨some 59, Op.pick (Operand.tmp 52) (Operand.const (Value.bool true)) (Operand.tmp 58), _, _, _, none⟩ rfl (fun _ _ _ h => h) ?_ hHeld ?_
              rotate_left
              · (intro W _; go_simp <;> (try with_reducible rfl))
              refine take_v (v := ?_) 24 ⟨some 60, Op.move (Operand.tmp 59), _, _, _, none⟩ rfl (fun _ _ _ h => h) ?_ hHeld ?_
              rotate_left
              · (intro W _; go_simp <;> (try with_reducible rfl))
              refine take_v (v := ?_) 25 ⟨some 61, Op.fieldAddr 52 (Operand.tmp 4) 2, _, _, _, some (24, false)⟩ rfl (fun _ _ _ h => h) ?_ hHeld ?_
              rotate_left
              · (intro W _; go_simp <;> (try with_reducible rfl))
              refine take_v (v := ?_) 26 ⟨some 62, Op.fieldAddr 50 (Operand.tmp 61) 2, _, _, _, some (24, false)⟩ rfl (fun _ _ _ h => h) ?_ hHeld ?_
              rotate_left
              · (intro W _; go_simp <;> (try with_reducible rfl))
              refine take_v (v := ?_) 27 ⟨some 63, Op.load 4 (Operand.tmp 62), _, _, _, some (24, false)⟩ rfl (fun _ _ _ h => h) ?_ hHeld ?_
              rotate_left
              · (intro W hSW; (have s0 := hSW.1.cell 0 rfl; have s1 := hSW.1.cell 1 rfl; have s2 := hSW.1.cell 2 rfl; have s3 := hSW.1.cell 3 rfl; have s4 := hSW.1.cell 4 rfl; have s5 := hSW.1.cell 5 rfl; have s6 := hSW.1.2; have s7 := hSW.2.1.cell 0 rfl; have s8 := hSW.2.1.cell 1 rfl; have s9 := hSW.2.1.2; have sp := (record_cells hSW.2.2.2.1 hqlt).1); go_simp <;> (try with_reducible rfl))
              refine take_v (v := ?_) 28 ⟨some 64, Op.fieldAddr 52 (Operand.tmp 4) 3, _, _, _, some (24, false)⟩ rfl (fun _ _ _ h => h) ?_ hHeld ?_
              rotate_left
              · (intro W _; go_simp <;> (try with_reducible rfl))
              refine take_v (v := ?_) 29 ⟨some 65, Op.load 3 (Operand.tmp 64), _, _, _, some (24, false)⟩ rfl (fun _ _ _ h => h) ?_ hHeld ?_
              rotate_left
              · (intro W hSW; (have s0 := hSW.1.cell 0 rfl; have s1 := hSW.1.cell 1 rfl; have s2 := hSW.1.cell 2 rfl; have s3 := hSW.1.cell 3 rfl; have s4 := hSW.1.cell 4 rfl; have s5 := hSW.1.cell 5 rfl; have s6 := hSW.1.2; have s7 := hSW.2.1.cell 0 rfl; have s8 := hSW.2.1.cell 1 rfl; have s9 := hSW.2.1.2; have sp := (record_cells hSW.2.2.2.1 hqlt).1); go_simp <;> (try with_reducible rfl))
              refine take_v (v := ?_) 30 ⟨some 66, Op.binOp BinOp.neq 3 (Operand.tmp 65) (Operand.const (Value.int IntKind.i64 0)) 3, _, _, _, some (24, false)⟩ rfl (fun _ _ _ h => h) ?_ hHeld ?_
              rotate_left
              · (intro W _; go_simp <;> (try with_reducible rfl))
              refine take_v (v := ?_) 31 ⟨some 67, Op.binOp BinOp.neq 4 (Operand.tmp 63) (Operand.tmp 66) 4, _, _, _, some (24, false)⟩ rfl (fun _ _ _ h => h) ?_ hHeld ?_
              rotate_left
              · (intro W _; go_simp <;> (try with_reducible rfl))
              refine take_v (v := ?_) 32 ⟨some 68, Op.pick (Operand.tmp 60) (Operand.const (Value.bool true)) (Operand.tmp 67), _, _, _, none⟩ rfl (fun _ _ _ h => h) ?_ hHeld ?_
              rotate_left
              · (intro W _; go_simp <;> (try with_reducible rfl))
              refine take_v (v := ?_) 33 ⟨some 69, Op.move (Operand.tmp 68), _, _, _, none⟩ rfl (fun _ _ _ h => h) ?_ hHeld ?_
              rotate_left
              · (intro W _; go_simp <;> (try with_reducible rfl))
              refine take_v (v := ?_) 34 ⟨some 70, Op.move (Operand.tmp 3), _, _, _, some (33, false)⟩ rfl (fun _ _ _ h => h) ?_ hHeld ?_
              rotate_left
              · (intro W _; go_simp <;> (try with_reducible rfl))
              refine take_v (v := ?_) 35 ⟨some 71, Op.binOp BinOp.gtr 3 (Operand.tmp 70) (Operand.const (Value.int IntKind.i64 0)) 3, _, _, _, some (33, false)⟩ rfl (fun _ _ _ h => h) ?_ hHeld ?_
              rotate_left
              · (intro W _; go_simp <;> (try with_reducible rfl))
              refine take_v (v := ?_) 36 ⟨some 72, Op.move (Operand.tmp 71), _, _, _, some (33, false)⟩ rfl (fun _ _ _ h => h) ?_ hHeld ?_
              rotate_left
              · (intro W _; go_simp <;> (try with_reducible rfl))
              refine take_v (v := ?_) 37 ⟨some 73, Op.fieldAddr 34 (Operand.tmp 1) 1, _, _, _, some (36, true)⟩ rfl (fun _ _ _ h => h) ?_ hHeld ?_
              rotate_left
              · (intro W _; go_simp <;> (try with_reducible rfl))
              refine take_v (v := ?_) 38 ⟨some 74, Op.load 31 (Operand.tmp 73), _, _, _, some (36, true)⟩ rfl (fun _ _ _ h => h) ?_ hHeld ?_
              rotate_left
              · (intro W hSW; (have s0 := hSW.1.cell 0 rfl; have s1 := hSW.1.cell 1 rfl; have s2 := hSW.1.cell 2 rfl; have s3 := hSW.1.cell 3 rfl; have s4 := hSW.1.cell 4 rfl; have s5 := hSW.1.cell 5 rfl; have s6 := hSW.1.2; have s7 := hSW.2.1.cell 0 rfl; have s8 := hSW.2.1.cell 1 rfl; have s9 := hSW.2.1.2; have sp := (record_cells hSW.2.2.2.1 hqlt).1); go_simp <;> (try with_reducible rfl))
              refine take_v (v := ?_) 39 ⟨some 75, Op.move (Operand.tmp 3), _, _, _, some (36, true)⟩ rfl (fun _ _ _ h => h) ?_ hHeld ?_
              rotate_left
              · (intro W _; go_simp <;> (try with_reducible rfl))
              refine take_v (v := ?_) 40 ⟨some 76, Op.binOp BinOp.sub 3 (Operand.tmp 75) (Operand.const (Value.int IntKind.i64 1)) 3, _, _, _, some (36, true)⟩ rfl (fun _ _ _ h => h) ?_ hHeld ?_
              rotate_left
              · (intro W _; go_simp <;> (try with_reducible rfl))
              refine take_v (v := ?_) 41 ⟨some 77, Op.indexAddr 31 (Operand.tmp 74) (Operand.tmp 76), _, _, _, some (36, true)⟩ rfl (fun _ _ _ h => h) ?_ hHeld ?_
              rotate_left
              · (intro W _; go_simp <;> (try with_reducible rfl))
              refine take_v (v := ?_) 42 ⟨some 78, Op.fieldAddr 52 (Operand.tmp 77) 0, _, _, _, some (36, true)⟩ rfl (fun _ _ _ h => h) ?_ hHeld ?_
              rotate_left
              · (intro W _; go_simp <;> (try with_reducible rfl))
              refine take_v (v := ?_) 43 ⟨some 79, Op.load 9 (Operand.tmp 78), _, _, _, some (36, true)⟩ rfl (fun _ _ _ h => h) ?_ hHeld ?_
              rotate_left
              · (intro W hSW; (have s0 := hSW.1.cell 0 rfl; have s1 := hSW.1.cell 1 rfl; have s2 := hSW.1.cell 2 rfl; have s3 := hSW.1.cell 3 rfl; have s4 := hSW.1.cell 4 rfl; have s5 := hSW.1.cell 5 rfl; have s6 := hSW.1.2; have s7 := hSW.2.1.cell 0 rfl; have s8 := hSW.2.1.cell 1 rfl; have s9 := hSW.2.1.2; have sp := (record_cells hSW.2.2.2.1 hqlt).1); go_simp <;> (try with_reducible rfl))
              refine take_v (v := ?_) 44 ⟨some 80, Op.fieldAddr 52 (Operand.tmp 4) 0, _, _, _, some (36, true)⟩ rfl (fun _ _ _ h => h) ?_ hHeld ?_
              rotate_left
              · (intro W _; go_simp <;> (try with_reducible rfl))
              refine take_v (v := ?_) 45 ⟨some 81, Op.load 9 (Operand.tmp 80), _, _, _, some (36, true)⟩ rfl (fun _ _ _ h => h) ?_ hHeld ?_
              rotate_left
              · (intro W hSW; (have s0 := hSW.1.cell 0 rfl; have s1 := hSW.1.cell 1 rfl; have s2 := hSW.1.cell 2 rfl; have s3 := hSW.1.cell 3 rfl; have s4 := hSW.1.cell 4 rfl; have s5 := hSW.1.cell 5 rfl; have s6 := hSW.1.2; have s7 := hSW.2.1.cell 0 rfl; have s8 := hSW.2.1.cell 1 rfl; have s9 := hSW.2.1.2; have sp := (record_cells hSW.2.2.2.1 hqlt).1); go_simp <;> (try with_reducible rfl))
              refine take_v (v := ?_) 46 ⟨some 82, Op.binOp BinOp.geq 9 (Operand.tmp 79) (Operand.tmp 81) 9, _, _, _, some (36, true)⟩ rfl (fun _ _ _ h => h) ?_ hHeld ?_
              rotate_left
              · (intro W _; go_simp <;> (try with_reducible rfl))
              refine take_v (v := ?_) 47 ⟨some 83, Op.pick (Operand.tmp 72) (Operand.tmp 82) (Operand.const (Value.bool false)), _, _, _, some (33, false)⟩ rfl (fun _ _ _ h => h) ?_ hHeld ?_
              rotate_left
              · (intro W _; go_simp <;> (try with_reducible rfl))
              refine take_v (v := ?_) 48 ⟨some 84, Op.pick (Operand.tmp 69) (Operand.const (Value.bool true)) (Operand.tmp 83), _, _, _, none⟩ rfl (fun _ _ _ h => h) ?_ hHeld ?_
              rotate_left
              · (intro W _; go_simp <;> (try with_reducible rfl))
              refine wpAnyH_done (by kernel_rfl) ?_ _
              refine NoPanic.normal ?_
              have HE := (show Hid _ from hHeld)
              clear hHeld
              go_wp2
              go_ret
              exact ⟨ret_bool HN.out.symm, HE.out.2.2.1⟩
            · have HRi : Hid (riseAt S.R k) := HC.out.2 e3

              go_upto_region 6 with fail
              refine wp_region_noPanic ?_
              refine wp_region_held_drew (S := fun W => RcH w [.int .i64 S.ep, .slice (some ⟨b, off, none⟩) S.rn rc, .slice ta S.tn tc, .slice oa S.on oc] [.string (S.R k).f0, .string (S.R k).f1, .int .i64 (S.R k).f2, .int .i64 (S.R k).f3, .bool true, .int .i64 (S.R k).f5] wr.heap.size b off S.rn S.R W) (by kernel_rfl) H1.out.1 (fun hHeld => ?_)
              refine take_v (v := ?_) 0 ⟨some 36, Op.fieldAddr 52 (Operand.tmp 4) 0, _, _, _, none⟩ rfl (fun _ _ _ h => h) ?_ hHeld ?_
              rotate_left
              · (intro W _; go_simp <;> (try with_reducible rfl))
              refine take_v (v := ?_) 1 ⟨some 37, Op.load 9 (Operand.tmp 36), _, _, _, none⟩ rfl (fun _ _ _ h => h) ?_ hHeld ?_
              rotate_left
              · (intro W hSW; (have s0 := hSW.1.cell 0 rfl; have s1 := hSW.1.cell 1 rfl; have s2 := hSW.1.cell 2 rfl; have s3 := hSW.1.cell 3 rfl; have s4 := hSW.1.cell 4 rfl; have s5 := hSW.1.cell 5 rfl; have s6 := hSW.1.2; have s7 := hSW.2.1.cell 0 rfl; have s8 := hSW.2.1.cell 1 rfl; have s9 := hSW.2.1.2; have sp := (record_cells hSW.2.2.2.1 hqlt).1); go_simp <;> (try with_reducible rfl))
              refine ready_call 2 ⟨some 38, Op.call { callee := Callee.value (Operand.func 50), args := #[Operand.tmp 37], argTypes := #[9] }, _, _, _, none⟩ (by kernel_rfl) rfl (by kernel_rfl) (fun KC hK => ?_)
              go_wp2_with fail
              refine (HK.out _).mono ?_
              rintro r w2 ⟨rfl, rfl⟩
              refine hK.out _ _ hHeld (fun hHeld => ?_)
              clear hK KC
              refine take_v (v := ?_) 3 ⟨some 39, Op.unOp UnOp.not 4 (Operand.tmp 38), _, _, _, none⟩ rfl (fun _ _ _ h => h) ?_ hHeld ?_
              rotate_left
              · (intro W _; go_simp <;> (try with_reducible rfl))
              refine take_v (v := ?_) 4 ⟨some 40, Op.move (Operand.tmp 39), _, _, _, none⟩ rfl (fun _ _ _ h => h) ?_ hHeld ?_
              rotate_left
              · (intro W _; go_simp <;> (try with_reducible rfl))
              refine take_v (v := ?_) 5 ⟨some 41, Op.fieldAddr 52 (Operand.tmp 4) 1, _, _, _, some (4, false)⟩ rfl (fun _ _ _ h => h) ?_ hHeld ?_
              rotate_left
              · (intro W _; go_simp <;> (try with_reducible rfl))
              refine take_v (v := ?_) 6 ⟨some 42, Op.load 9 (Operand.tmp 41), _, _, _, some (4, false)⟩ rfl (fun _ _ _ h => h) ?_ hHeld ?_
              rotate_left
              · (intro W hSW; (have s0 := hSW.1.cell 0 rfl; have s1 := hSW.1.cell 1 rfl; have s2 := hSW.1.cell 2 rfl; have s3 := hSW.1.cell 3 rfl; have s4 := hSW.1.cell 4 rfl; have s5 := hSW.1.cell 5 rfl; have s6 := hSW.1.2; have s7 := hSW.2.1.cell 0 rfl; have s8 := hSW.2.1.cell 1 rfl; have s9 := hSW.2.1.2; have sp := (record_cells hSW.2.2.2.1 hqlt).1); go_simp <;> (try with_reducible rfl))
              refine ready_call 7 ⟨some 43, Op.call { callee := Callee.value (Operand.func 51), args := #[Operand.tmp 42], argTypes := #[9] }, _, _, _, some (4, false)⟩ (by kernel_rfl) rfl (by kernel_rfl) (fun KC hK => ?_)
              go_wp2_with fail
              refine (HL.out _).mono ?_
              rintro r w2 ⟨rfl, rfl⟩
              refine hK.out _ _ hHeld (fun hHeld => ?_)
              clear hK KC
              refine take_v (v := ?_) 8 ⟨some 44, Op.unOp UnOp.not 4 (Operand.tmp 43), _, _, _, some (4, false)⟩ rfl (fun _ _ _ h => h) ?_ hHeld ?_
              rotate_left
              · (intro W _; go_simp <;> (try with_reducible rfl))
              refine take_v (v := ?_) 9 ⟨some 45, Op.pick (Operand.tmp 40) (Operand.const (Value.bool true)) (Operand.tmp 44), _, _, _, none⟩ rfl (fun _ _ _ h => h) ?_ hHeld ?_
              rotate_left
              · (intro W _; go_simp <;> (try with_reducible rfl))
              refine take_v (v := ?_) 10 ⟨some 46, Op.move (Operand.tmp 45), _, _, _, none⟩ rfl (fun _ _ _ h => h) ?_ hHeld ?_
              rotate_left
              · (intro W _; go_simp <;> (try with_reducible rfl))
              refine take_v (v := ?_) 11 ⟨some 47, Op.fieldAddr 52 (Operand.tmp 4) 2, _, _, _, some (10, false)⟩ rfl (fun _ _ _ h => h) ?_ hHeld ?_
              rotate_left
              · (intro W _; go_simp <;> (try with_reducible rfl))
              refine take_v (v := ?_) 12 ⟨some 48, Op.load 50 (Operand.tmp 47), _, _, _, some (10, false)⟩ rfl (fun _ _ _ h => h) ?_ hHeld ?_
              rotate_left
              · (intro W hSW; (have s0 := hSW.1.cell 0 rfl; have s1 := hSW.1.cell 1 rfl; have s2 := hSW.1.cell 2 rfl; have s3 := hSW.1.cell 3 rfl; have s4 := hSW.1.cell 4 rfl; have s5 := hSW.1.cell 5 rfl; have s6 := hSW.1.2; have s7 := hSW.2.1.cell 0 rfl; have s8 := hSW.2.1.cell 1 rfl; have s9 := hSW.2.1.2; have sp := (record_cells hSW.2.2.2.1 hqlt).1); go_simp <;> (try with_reducible rfl))
              refine ready_call 13 ⟨some 49, Op.call { callee := Callee.value (Operand.func 52), args := #[Operand.tmp 48], argTypes := #[50] }, _, _, _, some (10, false)⟩ (by kernel_rfl) rfl (by kernel_rfl) (fun KC hK => ?_)
              go_wp2_with fail
              refine (HTd.out _).mono ?_
              rintro r w2 ⟨rfl, hb⟩
              have h2 := hHeld.next hb
              clear hb
              refine hK.out _ _ h2 (fun hHeld => ?_)
              clear hK KC
              refine take_v (v := ?_) 14 ⟨some 50, Op.unOp UnOp.not 4 (Operand.tmp 49), _, _, _, some (10, false)⟩ rfl (fun _ _ _ h => h) ?_ hHeld ?_
              rotate_left
              · (intro W _; go_simp <;> (try with_reducible rfl))
              refine take_v (v := ?_) 15 ⟨some 51, Op.pick (Operand.tmp 46) (Operand.const (Value.bool true)) (Operand.tmp 50), _, _, _, none⟩ rfl (fun _ _ _ h => h) ?_ hHeld ?_
              rotate_left
              · (intro W _; go_simp <;> (try with_reducible rfl))
              refine take_v (v := ?_) 16 ⟨some 52, Op.move (Operand.tmp 51), _, _, _, none⟩ rfl (fun _ _ _ h => h) ?_ hHeld ?_
              rotate_left
              · (intro W _; go_simp <;> (try with_reducible rfl))
              refine take_v (v := ?_) 17 ⟨some 53, Op.fieldAddr 52 (Operand.tmp 4) 2, _, _, _, some (16, false)⟩ rfl (fun _ _ _ h => h) ?_ hHeld ?_
              rotate_left
              · (intro W _; go_simp <;> (try with_reducible rfl))
              refine take_v (v := ?_) 18 ⟨some 54, Op.fieldAddr 50 (Operand.tmp 53) 0, _, _, _, some (16, false)⟩ rfl (fun _ _ _ h => h) ?_ hHeld ?_
              rotate_left
              · (intro W _; go_simp <;> (try with_reducible rfl))
              refine take_v (v := ?_) 19 ⟨some 55, Op.load 3 (Operand.tmp 54), _, _, _, some (16, false)⟩ rfl (fun _ _ _ h => h) ?_ hHeld ?_
              rotate_left
              · (intro W hSW; (have s0 := hSW.1.cell 0 rfl; have s1 := hSW.1.cell 1 rfl; have s2 := hSW.1.cell 2 rfl; have s3 := hSW.1.cell 3 rfl; have s4 := hSW.1.cell 4 rfl; have s5 := hSW.1.cell 5 rfl; have s6 := hSW.1.2; have s7 := hSW.2.1.cell 0 rfl; have s8 := hSW.2.1.cell 1 rfl; have s9 := hSW.2.1.2; have sp := (record_cells hSW.2.2.2.1 hqlt).1); go_simp <;> (try with_reducible rfl))
              refine take_v (v := ?_) 20 ⟨some 56, Op.fieldAddr 34 (Operand.tmp 1) 0, _, _, _, some (16, false)⟩ rfl (fun _ _ _ h => h) ?_ hHeld ?_
              rotate_left
              · (intro W _; go_simp <;> (try with_reducible rfl))
              refine take_v (v := ?_) 21 ⟨some 57, Op.load 3 (Operand.tmp 56), _, _, _, some (16, false)⟩ rfl (fun _ _ _ h => h) ?_ hHeld ?_
              rotate_left
              · (intro W hSW; (have s0 := hSW.1.cell 0 rfl; have s1 := hSW.1.cell 1 rfl; have s2 := hSW.1.cell 2 rfl; have s3 := hSW.1.cell 3 rfl; have s4 := hSW.1.cell 4 rfl; have s5 := hSW.1.cell 5 rfl; have s6 := hSW.1.2; have s7 := hSW.2.1.cell 0 rfl; have s8 := hSW.2.1.cell 1 rfl; have s9 := hSW.2.1.2; have sp := (record_cells hSW.2.2.2.1 hqlt).1); go_simp <;> (try with_reducible rfl))
              refine take_v (v := ?_) 22 ⟨some 58, Op.binOp BinOp.gtr 3 (Operand.tmp 55) (Operand.tmp 57) 3, _, _, _, some (16, false)⟩ rfl (fun _ _ _ h => h) ?_ hHeld ?_
              rotate_left
              · (intro W _; go_simp <;> (try with_reducible rfl))
              refine take_v (v := ?_) 23 ⟨some 59, Op.pick (Operand.tmp 52) (Operand.const (Value.bool true)) (Operand.tmp 58), _, _, _, none⟩ rfl (fun _ _ _ h => h) ?_ hHeld ?_
              rotate_left
              · (intro W _; go_simp <;> (try with_reducible rfl))
              refine take_v (v := ?_) 24 ⟨some 60, Op.move (Operand.tmp 59), _, _, _, none⟩ rfl (fun _ _ _ h => h) ?_ hHeld ?_
              rotate_left
              · (intro W _; go_simp <;> (try with_reducible rfl))
              refine take_v (v := ?_) 25 ⟨some 61, Op.fieldAddr 52 (Operand.tmp 4) 2, _, _, _, some (24, false)⟩ rfl (fun _ _ _ h => h) ?_ hHeld ?_
              rotate_left
              · (intro W _; go_simp <;> (try with_reducible rfl))
              refine take_v (v := ?_) 26 ⟨some 62, Op.fieldAddr 50 (Operand.tmp 61) 2, _, _, _, some (24, false)⟩ rfl (fun _ _ _ h => h) ?_ hHeld ?_
              rotate_left
              · (intro W _; go_simp <;> (try with_reducible rfl))
              refine take_v (v := ?_) 27 ⟨some 63, Op.load 4 (Operand.tmp 62), _, _, _, some (24, false)⟩ rfl (fun _ _ _ h => h) ?_ hHeld ?_
              rotate_left
              · (intro W hSW; (have s0 := hSW.1.cell 0 rfl; have s1 := hSW.1.cell 1 rfl; have s2 := hSW.1.cell 2 rfl; have s3 := hSW.1.cell 3 rfl; have s4 := hSW.1.cell 4 rfl; have s5 := hSW.1.cell 5 rfl; have s6 := hSW.1.2; have s7 := hSW.2.1.cell 0 rfl; have s8 := hSW.2.1.cell 1 rfl; have s9 := hSW.2.1.2; have sp := (record_cells hSW.2.2.2.1 hqlt).1); go_simp <;> (try with_reducible rfl))
              refine take_v (v := ?_) 28 ⟨some 64, Op.fieldAddr 52 (Operand.tmp 4) 3, _, _, _, some (24, false)⟩ rfl (fun _ _ _ h => h) ?_ hHeld ?_
              rotate_left
              · (intro W _; go_simp <;> (try with_reducible rfl))
              refine take_v (v := ?_) 29 ⟨some 65, Op.load 3 (Operand.tmp 64), _, _, _, some (24, false)⟩ rfl (fun _ _ _ h => h) ?_ hHeld ?_
              rotate_left
              · (intro W hSW; (have s0 := hSW.1.cell 0 rfl; have s1 := hSW.1.cell 1 rfl; have s2 := hSW.1.cell 2 rfl; have s3 := hSW.1.cell 3 rfl; have s4 := hSW.1.cell 4 rfl; have s5 := hSW.1.cell 5 rfl; have s6 := hSW.1.2; have s7 := hSW.2.1.cell 0 rfl; have s8 := hSW.2.1.cell 1 rfl; have s9 := hSW.2.1.2; have sp := (record_cells hSW.2.2.2.1 hqlt).1); go_simp <;> (try with_reducible rfl))
              refine take_v (v := ?_) 30 ⟨some 66, Op.binOp BinOp.neq 3 (Operand.tmp 65) (Operand.const (Value.int IntKind.i64 0)) 3, _, _, _, some (24, false)⟩ rfl (fun _ _ _ h => h) ?_ hHeld ?_
              rotate_left
              · (intro W _; go_simp <;> (try with_reducible rfl))
              refine take_v (v := ?_) 31 ⟨some 67, Op.binOp BinOp.neq 4 (Operand.tmp 63) (Operand.tmp 66) 4, _, _, _, some (24, false)⟩ rfl (fun _ _ _ h => h) ?_ hHeld ?_
              rotate_left
              · (intro W _; go_simp <;> (try with_reducible rfl))
              refine take_v (v := ?_) 32 ⟨some 68, Op.pick (Operand.tmp 60) (Operand.const (Value.bool true)) (Operand.tmp 67), _, _, _, none⟩ rfl (fun _ _ _ h => h) ?_ hHeld ?_
              rotate_left
              · (intro W _; go_simp <;> (try with_reducible rfl))
              refine take_v (v := ?_) 33 ⟨some 69, Op.move (Operand.tmp 68), _, _, _, none⟩ rfl (fun _ _ _ h => h) ?_ hHeld ?_
              rotate_left
              · (intro W _; go_simp <;> (try with_reducible rfl))
              refine take_v (v := ?_) 34 ⟨some 70, Op.move (Operand.tmp 3), _, _, _, some (33, false)⟩ rfl (fun _ _ _ h => h) ?_ hHeld ?_
              rotate_left
              · (intro W _; go_simp <;> (try with_reducible rfl))
              refine take_v (v := ?_) 35 ⟨some 71, Op.binOp BinOp.gtr 3 (Operand.tmp 70) (Operand.const (Value.int IntKind.i64 0)) 3, _, _, _, some (33, false)⟩ rfl (fun _ _ _ h => h) ?_ hHeld ?_
              rotate_left
              · (intro W _; go_simp <;> (try with_reducible rfl))
              refine take_v (v := ?_) 36 ⟨some 72, Op.move (Operand.tmp 71), _, _, _, some (33, false)⟩ rfl (fun _ _ _ h => h) ?_ hHeld ?_
              rotate_left
              · (intro W _; go_simp <;> (try with_reducible rfl))
              refine take_v (v := ?_) 37 ⟨some 73, Op.fieldAddr 34 (Operand.tmp 1) 1, _, _, _, some (36, true)⟩ rfl (fun _ _ _ h => h) ?_ hHeld ?_
              rotate_left
              · (intro W _; go_simp <;> (try with_reducible rfl))
              refine take_v (v := ?_) 38 ⟨some 74, Op.load 31 (Operand.tmp 73), _, _, _, some (36, true)⟩ rfl (fun _ _ _ h => h) ?_ hHeld ?_
              rotate_left
              · (intro W hSW; (have s0 := hSW.1.cell 0 rfl; have s1 := hSW.1.cell 1 rfl; have s2 := hSW.1.cell 2 rfl; have s3 := hSW.1.cell 3 rfl; have s4 := hSW.1.cell 4 rfl; have s5 := hSW.1.cell 5 rfl; have s6 := hSW.1.2; have s7 := hSW.2.1.cell 0 rfl; have s8 := hSW.2.1.cell 1 rfl; have s9 := hSW.2.1.2; have sp := (record_cells hSW.2.2.2.1 hqlt).1); go_simp <;> (try with_reducible rfl))
              refine take_v (v := ?_) 39 ⟨some 75, Op.move (Operand.tmp 3), _, _, _, some (36, true)⟩ rfl (fun _ _ _ h => h) ?_ hHeld ?_
              rotate_left
              · (intro W _; go_simp <;> (try with_reducible rfl))
              refine take_v (v := ?_) 40 ⟨some 76, Op.binOp BinOp.sub 3 (Operand.tmp 75) (Operand.const (Value.int IntKind.i64 1)) 3, _, _, _, some (36, true)⟩ rfl (fun _ _ _ h => h) ?_ hHeld ?_
              rotate_left
              · (intro W _; go_simp <;> (try with_reducible rfl))
              refine take_v (v := ?_) 41 ⟨some 77, Op.indexAddr 31 (Operand.tmp 74) (Operand.tmp 76), _, _, _, some (36, true)⟩ rfl (fun _ _ _ h => h) ?_ hHeld ?_
              rotate_left
              · (intro W _; go_simp <;> (try with_reducible rfl))
              refine take_v (v := ?_) 42 ⟨some 78, Op.fieldAddr 52 (Operand.tmp 77) 0, _, _, _, some (36, true)⟩ rfl (fun _ _ _ h => h) ?_ hHeld ?_
              rotate_left
              · (intro W _; go_simp <;> (try with_reducible rfl))
              refine take_v (v := ?_) 43 ⟨some 79, Op.load 9 (Operand.tmp 78), _, _, _, some (36, true)⟩ rfl (fun _ _ _ h => h) ?_ hHeld ?_
              rotate_left
              · (intro W hSW; (have s0 := hSW.1.cell 0 rfl; have s1 := hSW.1.cell 1 rfl; have s2 := hSW.1.cell 2 rfl; have s3 := hSW.1.cell 3 rfl; have s4 := hSW.1.cell 4 rfl; have s5 := hSW.1.cell 5 rfl; have s6 := hSW.1.2; have s7 := hSW.2.1.cell 0 rfl; have s8 := hSW.2.1.cell 1 rfl; have s9 := hSW.2.1.2; have sp := (record_cells hSW.2.2.2.1 hqlt).1); go_simp <;> (try with_reducible rfl))
              refine take_v (v := ?_) 44 ⟨some 80, Op.fieldAddr 52 (Operand.tmp 4) 0, _, _, _, some (36, true)⟩ rfl (fun _ _ _ h => h) ?_ hHeld ?_
              rotate_left
              · (intro W _; go_simp <;> (try with_reducible rfl))
              refine take_v (v := ?_) 45 ⟨some 81, Op.load 9 (Operand.tmp 80), _, _, _, some (36, true)⟩ rfl (fun _ _ _ h => h) ?_ hHeld ?_
              rotate_left
              · (intro W hSW; (have s0 := hSW.1.cell 0 rfl; have s1 := hSW.1.cell 1 rfl; have s2 := hSW.1.cell 2 rfl; have s3 := hSW.1.cell 3 rfl; have s4 := hSW.1.cell 4 rfl; have s5 := hSW.1.cell 5 rfl; have s6 := hSW.1.2; have s7 := hSW.2.1.cell 0 rfl; have s8 := hSW.2.1.cell 1 rfl; have s9 := hSW.2.1.2; have sp := (record_cells hSW.2.2.2.1 hqlt).1); go_simp <;> (try with_reducible rfl))
              refine take_v (v := ?_) 46 ⟨some 82, Op.binOp BinOp.geq 9 (Operand.tmp 79) (Operand.tmp 81) 9, _, _, _, some (36, true)⟩ rfl (fun _ _ _ h => h) ?_ hHeld ?_
              rotate_left
              · (intro W _; go_simp <;> (try with_reducible rfl))
              refine take_v (v := ?_) 47 ⟨some 83, Op.pick (Operand.tmp 72) (Operand.tmp 82) (Operand.const (Value.bool false)), _, _, _, some (33, false)⟩ rfl (fun _ _ _ h => h) ?_ hHeld ?_
              rotate_left
              · (intro W _; go_simp <;> (try with_reducible rfl))
              refine take_v (v := ?_) 48 ⟨some 84, Op.pick (Operand.tmp 69) (Operand.const (Value.bool true)) (Operand.tmp 83), _, _, _, none⟩ rfl (fun _ _ _ h => h) ?_ hHeld ?_
              rotate_left
              · (intro W _; go_simp <;> (try with_reducible rfl))
              refine wpAnyH_done (by kernel_rfl) ?_ _
              refine NoPanic.normal ?_
              clear hwq
              have HE := (show Hid (RcH w [.int .i64 S.ep, .slice (some ⟨b, off, none⟩) S.rn rc, .slice ta S.tn tc, .slice oa S.on oc] [.string (S.R k).f0, .string (S.R k).f1, .int .i64 (S.R k).f2, .int .i64 (S.R k).f3, .bool true, .int .i64 (S.R k).f5] wr.heap.size b off S.rn S.R _) from hHeld)
              clear hHeld
              have s0' := HE.out.2.1.cell 0 rfl
              have s1' := HE.out.2.1.cell 1 rfl
              have s2' := HE.out.2.1.cell 2 rfl
              have s3' := HE.out.2.1.cell 3 rfl
              have sz' := HE.out.2.1.2
              have s5 := HE.out.1.cell 5 rfl
              have s6 := HE.out.1.2
              cases eO : inR (S.R k).f5 1 (S.tn : Int)
              · have HN : Hid (goodB S = false) := no_rec hlt fun g => by
                  rcases g.2.1 with ⟨g, _⟩ | ⟨_, _, q, g1, g2, _⟩
                  · exact H5.out g
                  · rw [inR_iff.2 ⟨by omega, by omega⟩] at eO; cases eO
                go_wp2_with fail
                refine (l5State_no ⟨(some ⟨b, off, none⟩), rc, ta, tc, oa, oc, U⟩ S (S.R k).f5 _ eO).mono ?_
                rintro r w3 ⟨rfl, hb⟩
                have H3d : Hid (RcH w [.int .i64 S.ep, .slice (some ⟨b, off, none⟩) S.rn rc, .slice ta S.tn tc, .slice oa S.on oc] [.string (S.R k).f0, .string (S.R k).f1, .int .i64 (S.R k).f2, .int .i64 (S.R k).f3, .bool true, .int .i64 (S.R k).f5] wr.heap.size b off S.rn S.R w3.drew ∧ True) := ⟨(HE.out.next hb).next (Below.refl _ _).drew, trivial⟩
                clear hb H1 HE s0' s1' s2' s3' sz' s5 s6
                go_upto_region 10 with fail
                refine wp_region_noPanic ?_
                refine wp_region_held_drew (S := fun W => RcH w [.int .i64 S.ep, .slice (some ⟨b, off, none⟩) S.rn rc, .slice ta S.tn tc, .slice oa S.on oc] [.string (S.R k).f0, .string (S.R k).f1, .int .i64 (S.R k).f2, .int .i64 (S.R k).f3, .bool true, .int .i64 (S.R k).f5] wr.heap.size b off S.rn S.R W) (by kernel_rfl) H3d.out.1 (fun hHeld => ?_)
                refine take_v (v := ?_) 0 ⟨some 92, Op.move (Operand.tmp 5), _, _, _, none⟩ rfl (fun _ _ _ h => h) ?_ hHeld ?_
                rotate_left
                · (intro W _; go_simp <;> (try with_reducible rfl))
                refine take_v (v := ?_) 1 ⟨some 93, Op.binOp BinOp.neq 3 (Operand.tmp 92) (Operand.const (Value.int IntKind.i64 2)) 3, _, _, _, none⟩ rfl (fun _ _ _ h => h) ?_ hHeld ?_
                rotate_left
                · (intro W _; go_simp <;> (try with_reducible rfl))
                refine take_v (v := ?_) 2 ⟨some 94, Op.move (Operand.tmp 93), _, _, _, none⟩ rfl (fun _ _ _ h => h) ?_ hHeld ?_
                rotate_left
                · (intro W _; go_simp <;> (try with_reducible rfl))
                refine take_v (v := ?_) 3 ⟨some 95, Op.move (Operand.tmp 5), _, _, _, some (2, true)⟩ rfl (fun _ _ _ h => h) ?_ hHeld ?_
                rotate_left
                · (intro W _; go_simp <;> (try with_reducible rfl))
                refine take_v (v := ?_) 4 ⟨some 96, Op.binOp BinOp.neq 3 (Operand.tmp 95) (Operand.const (Value.int IntKind.i64 3)) 3, _, _, _, some (2, true)⟩ rfl (fun _ _ _ h => h) ?_ hHeld ?_
                rotate_left
                · (intro W _; go_simp <;> (try with_reducible rfl))
                refine take_v (v := ?_) 5 ⟨some 97, Op.pick (Operand.tmp 94) (Operand.tmp 96) (Operand.const (Value.bool false)), _, _, _, none⟩ rfl (fun _ _ _ h => h) ?_ hHeld ?_
                rotate_left
                · (intro W _; go_simp <;> (try with_reducible rfl))
                refine take_v (v := ?_) 6 ⟨some 98, Op.move (Operand.tmp 97), _, _, _, none⟩ rfl (fun _ _ _ h => h) ?_ hHeld ?_
                rotate_left
                · (intro W _; go_simp <;> (try with_reducible rfl))
                refine take_n 7 ⟨some 99, Op.fieldAddr 34 (Operand.tmp 1) 2, _, _, _, some (6, false)⟩ rfl (fun _ _ _ h => h) hHeld ?_
                refine take_n 8 ⟨some 100, Op.load 32 (Operand.tmp 99), _, _, _, some (6, false)⟩ rfl (fun _ _ _ h => h) hHeld ?_
                refine take_n 9 ⟨some 101, Op.fieldAddr 52 (Operand.tmp 4) 3, _, _, _, some (6, false)⟩ rfl (fun _ _ _ h => h) hHeld ?_
                refine take_n 10 ⟨some 102, Op.load 3 (Operand.tmp 101), _, _, _, some (6, false)⟩ rfl (fun _ _ _ h => h) hHeld ?_
                refine take_n 11 ⟨some 103, Op.binOp BinOp.sub 3 (Operand.tmp 102) (Operand.const (Value.int IntKind.i64 1)) 3, _, _, _, some (6, false)⟩ rfl (fun _ _ _ h => h) hHeld ?_
                refine take_n 12 ⟨some 104, Op.indexAddr 32 (Operand.tmp 100) (Operand.tmp 103), _, _, _, some (6, false)⟩ rfl (fun _ _ _ h => h) hHeld ?_
                refine take_n 13 ⟨some 105, Op.load 71 (Operand.tmp 104), _, _, _, some (6, false)⟩ rfl (fun _ _ _ h => h) hHeld ?_
                refine take_n 14 ⟨some 106, Op.fieldAddr 52 (Operand.tmp 4) 0, _, _, _, some (6, false)⟩ rfl (fun _ _ _ h => h) hHeld ?_
                refine take_n 15 ⟨some 107, Op.load 9 (Operand.tmp 106), _, _, _, some (6, false)⟩ rfl (fun _ _ _ h => h) hHeld ?_
                refine take_n 16 ⟨some 108, Op.call { callee := Callee.value (Operand.func 54), args := #[Operand.tmp 105, Operand.tmp 107], argTypes := #[71, 9] }, _, _, _, some (6, false)⟩ rfl (fun _ _ _ h => h) hHeld ?_
                refine take_n 17 ⟨some 109, Op.unOp UnOp.not 4 (Operand.tmp 108), _, _, _, some (6, false)⟩ rfl (fun _ _ _ h => h) hHeld ?_
                refine take_v (v := ?_) 18 ⟨some 110, Op.pick (Operand.tmp 98) (Operand.const (Value.bool true)) (Operand.tmp 109), _, _, _, none⟩ rfl (fun _ _ _ h => h) ?_ hHeld ?_
                rotate_left
                · (intro W _; go_simp <;> (try with_reducible rfl))
                refine wpAnyH_done (by kernel_rfl) ?_ _
                refine NoPanic.normal ?_
                have HE := (show Hid _ from hHeld)
                clear hHeld
                go_wp2
                go_ret
                exact ⟨ret_bool HN.out.symm, HE.out.2.2.1⟩
              have hb := inR_iff.1 eO
              obtain ⟨q, hq⟩ : ∃ q : Nat, (S.R k).f5 = (q : Int) + 1 := ⟨((S.R k).f5 - 1).toNat, by omega⟩
              have hqn : q < S.tn := by omega
              have hqn' : (q : Int) < (S.tn : Int) := by omega
              have hsub : IntKind.i64.wrap ((S.R k).f5 - 1) = (q : Int) := by rw [IntKind.wrap_i64]; omega
              have HQ : Hid ((S.R k).f5 = (q : Int) + 1) := hq
              have hst : RuS w ta S.tn S.T U := HS.out.1.2.1
              rcases hst.1 with h | ⟨b2, o2, rfl, hbs2, hE2⟩
              · omega
              have HE2 : Hid (Elems w b2 o2 S.tn 7 (ruF S.T U) ∧ b2 < w.heap.size) := ⟨hE2, hbs2⟩
              clear hb hq hst hE2 hbs2 eO
              go_wp2_with fail
              refine (l5State_is ⟨(some ⟨b, off, none⟩), rc, (some ⟨b2, o2, none⟩), tc, oa, oc, U⟩ S (S.R k).f5 q _ HQ.out hqn htn (HS.out.1.next HE.out.2.2.1).2.1).mono ?_
              rintro r w3 ⟨rfl, hb⟩
              have hbd : Below w.heap.size w w3.drew := (below_next' HE.out.2.2.1 hb).drew
              have H3d : Hid (RcH w [.int .i64 S.ep, .slice (some ⟨b, off, none⟩) S.rn rc, .slice (some ⟨b2, o2, none⟩) S.tn tc, .slice oa S.on oc] [.string (S.R k).f0, .string (S.R k).f1, .int .i64 (S.R k).f2, .int .i64 (S.R k).f3, .bool true, .int .i64 (S.R k).f5] wr.heap.size b off S.rn S.R w3.drew ∧ (∀ i, i < k → recP S i) ∧ Elems w3.drew b2 o2 S.tn 7 (ruF S.T U) ∧ b2 < w3.drew.heap.size) := ⟨(HE.out.next hb).next (Below.refl _ _).drew, H1.out.2, HE2.out.1.below hbd HE2.out.2, Nat.lt_of_lt_of_le HE2.out.2 hbd.size⟩
              clear hb hbd H1 HE HE2 s0' s1' s2' s3' sz' s5 s6
              have HOw : Hid (recP S k → mayB (S.T q).st = true ∧ writesP (S.T q) (S.R k).f0) := fun g => own_at' H5.out HQ.out g.2.1
              rcases st_cases (S.T q).st with ⟨e2', e3', e4'⟩ | ⟨e2', e3', e4'⟩ | ⟨e2', e3', e4'⟩ | ⟨e2', e3', e4'⟩

              · have x2 : ((S.T q).st != 2) = false := by rw [bne, e2']; rfl
                have x3 : ((S.T q).st != 3) = true := by rw [bne, e3']; rfl
                have HM : Hid (mayB (S.T q).st = true) := by show _ = _; rw [mayB, e2', e3']; rfl
                have HWa : Hid (∀ W, Below w.heap.size w W → Calls Tryz.prog 54 #[.agg #[.int .i64 (S.T q).id, .int .i64 (S.T q).st, .slice (U q).la (S.T q).ln (U q).lc, .slice (U q).ca (S.T q).cn (U q).cc, .int .i64 (S.T q).e, .int .i64 (S.T q).s, .bool (S.T q).b], .string (S.R k).f0] W fun r w' => r = .returned (.bool (clB (writesP (S.T q) (S.R k).f0))) ∧ Below W.heap.size W w') := fun W hW => l5Writes_any (S.T q) _ _ _ _ _ _ (HS.out.2.2.2.1.2 q hqn).2 ((HS.out.1.next hW).2.1.2 q hqn).2.1
                cases e6 : clB (writesP (S.T q) (S.R k).f0)
                · have HWr : Hid (∀ W, Below w.heap.size w W → Calls Tryz.prog 54 #[.agg #[.int .i64 (S.T q).id, .int .i64 (S.T q).st, .slice (U q).la (S.T q).ln (U q).lc, .slice (U q).ca (S.T q).cn (U q).cc, .int .i64 (S.T q).e, .int .i64 (S.T q).s, .bool (S.T q).b], .string (S.R k).f0] W fun r w' => r = .returned (.bool false) ∧ Below W.heap.size W w') := fun W hW => by have := HWa.out W hW; rw [e6] at this; exact this
                  have HN : Hid (goodB S = false) := no_rec hlt fun g => clB_not e6 (HOw.out g).2
                  clear HWa
                  go_upto_region 10 with fail
                  refine wp_region_noPanic ?_
                  refine wp_region_held_drew (S := fun W => RcH w [.int .i64 S.ep, .slice (some ⟨b, off, none⟩) S.rn rc, .slice (some ⟨b2, o2, none⟩) S.tn tc, .slice oa S.on oc] [.string (S.R k).f0, .string (S.R k).f1, .int .i64 (S.R k).f2, .int .i64 (S.R k).f3, .bool true, .int .i64 (S.R k).f5] wr.heap.size b off S.rn S.R W ∧ Elems W b2 o2 S.tn 7 (ruF S.T U) ∧ b2 < W.heap.size) (by kernel_rfl) ⟨H3d.out.1, H3d.out.2.2⟩ (fun hHeld => ?_)
                  refine take_v (v := ?_) 0 ⟨some 92, Op.move (Operand.tmp 5), _, _, _, none⟩ rfl (fun _ _ _ h => h) ?_ hHeld ?_
                  rotate_left
                  · (intro W _; go_simp <;> (try with_reducible rfl))
                  refine take_v (v := ?_) 1 ⟨some 93, Op.binOp BinOp.neq 3 (Operand.tmp 92) (Operand.const (Value.int IntKind.i64 2)) 3, _, _, _, none⟩ rfl (fun _ _ _ h => h) ?_ hHeld ?_
                  rotate_left
                  · (intro W _; go_simp <;> (try with_reducible rfl))
                  refine take_v (v := ?_) 2 ⟨some 94, Op.move (Operand.tmp 93), _, _, _, none⟩ rfl (fun _ _ _ h => h) ?_ hHeld ?_
                  rotate_left
                  · (intro W _; go_simp <;> (try with_reducible rfl))
                  refine take_n 3 ⟨some 95, Op.move (Operand.tmp 5), _, _, _, some (2, true)⟩ rfl (fun _ _ _ h => h) hHeld ?_
                  refine take_n 4 ⟨some 96, Op.binOp BinOp.neq 3 (Operand.tmp 95) (Operand.const (Value.int IntKind.i64 3)) 3, _, _, _, some (2, true)⟩ rfl (fun _ _ _ h => h) hHeld ?_
                  refine take_v (v := ?_) 5 ⟨some 97, Op.pick (Operand.tmp 94) (Operand.tmp 96) (Operand.const (Value.bool false)), _, _, _, none⟩ rfl (fun _ _ _ h => h) ?_ hHeld ?_
                  rotate_left
                  · (intro W _; go_simp <;> (try with_reducible rfl))
                  refine take_v (v := ?_) 6 ⟨some 98, Op.move (Operand.tmp 97), _, _, _, none⟩ rfl (fun _ _ _ h => h) ?_ hHeld ?_
                  rotate_left
                  · (intro W _; go_simp <;> (try with_reducible rfl))
                  refine take_v (v := ?_) 7 ⟨some 99, Op.fieldAddr 34 (Operand.tmp 1) 2, _, _, _, some (6, false)⟩ rfl (fun _ _ _ h => h) ?_ hHeld ?_
                  rotate_left
                  · (intro W _; go_simp <;> (try with_reducible rfl))
                  refine take_v (v := ?_) 8 ⟨some 100, Op.load 32 (Operand.tmp 99), _, _, _, some (6, false)⟩ rfl (fun _ _ _ h => h) ?_ hHeld ?_
                  rotate_left
                  · (intro W hSW; (have s0 := hSW.1.1.cell 0 rfl; have s5 := hSW.1.1.cell 5 rfl; have s6 := hSW.1.1.2; have s8 := hSW.1.2.1.cell 2 rfl; have s9 := hSW.1.2.1.2; obtain ⟨y0, y1, y2, y3, y4, y5, y6⟩ := ru_cells hSW.2.1 hqn); go_simp <;> (try with_reducible rfl))
                  refine take_v (v := ?_) 9 ⟨some 101, Op.fieldAddr 52 (Operand.tmp 4) 3, _, _, _, some (6, false)⟩ rfl (fun _ _ _ h => h) ?_ hHeld ?_
                  rotate_left
                  · (intro W _; go_simp <;> (try with_reducible rfl))
                  refine take_v (v := ?_) 10 ⟨some 102, Op.load 3 (Operand.tmp 101), _, _, _, some (6, false)⟩ rfl (fun _ _ _ h => h) ?_ hHeld ?_
                  rotate_left
                  · (intro W hSW; (have s0 := hSW.1.1.cell 0 rfl; have s5 := hSW.1.1.cell 5 rfl; have s6 := hSW.1.1.2; have s8 := hSW.1.2.1.cell 2 rfl; have s9 := hSW.1.2.1.2; obtain ⟨y0, y1, y2, y3, y4, y5, y6⟩ := ru_cells hSW.2.1 hqn); go_simp <;> (try with_reducible rfl))
                  refine take_v (v := ?_) 11 ⟨some 103, Op.binOp BinOp.sub 3 (Operand.tmp 102) (Operand.const (Value.int IntKind.i64 1)) 3, _, _, _, some (6, false)⟩ rfl (fun _ _ _ h => h) ?_ hHeld ?_
                  rotate_left
                  · (intro W _; go_simp <;> (try with_reducible rfl))
                  refine take_v (v := ?_) 12 ⟨some 104, Op.indexAddr 32 (Operand.tmp 100) (Operand.tmp 103), _, _, _, some (6, false)⟩ rfl (fun _ _ _ h => h) ?_ hHeld ?_
                  rotate_left
                  · (intro W _; go_simp <;> (try with_reducible rfl))
                  refine take_v (v := ?_) 13 ⟨some 105, Op.load 71 (Operand.tmp 104), _, _, _, some (6, false)⟩ rfl (fun _ _ _ h => h) ?_ hHeld ?_
                  rotate_left
                  · (intro W hSW; (have s0 := hSW.1.1.cell 0 rfl; have s5 := hSW.1.1.cell 5 rfl; have s6 := hSW.1.1.2; have s8 := hSW.1.2.1.cell 2 rfl; have s9 := hSW.1.2.1.2; obtain ⟨y0, y1, y2, y3, y4, y5, y6⟩ := ru_cells hSW.2.1 hqn); go_simp <;> (try with_reducible rfl))
                  refine take_v (v := ?_) 14 ⟨some 106, Op.fieldAddr 52 (Operand.tmp 4) 0, _, _, _, some (6, false)⟩ rfl (fun _ _ _ h => h) ?_ hHeld ?_
                  rotate_left
                  · (intro W _; go_simp <;> (try with_reducible rfl))
                  refine take_v (v := ?_) 15 ⟨some 107, Op.load 9 (Operand.tmp 106), _, _, _, some (6, false)⟩ rfl (fun _ _ _ h => h) ?_ hHeld ?_
                  rotate_left
                  · (intro W hSW; (have s0 := hSW.1.1.cell 0 rfl; have s5 := hSW.1.1.cell 5 rfl; have s6 := hSW.1.1.2; have s8 := hSW.1.2.1.cell 2 rfl; have s9 := hSW.1.2.1.2; obtain ⟨y0, y1, y2, y3, y4, y5, y6⟩ := ru_cells hSW.2.1 hqn); go_simp <;> (try with_reducible rfl))
                  refine ready_call 16 ⟨some 108, Op.call { callee := Callee.value (Operand.func 54), args := #[Operand.tmp 105, Operand.tmp 107], argTypes := #[71, 9] }, _, _, _, some (6, false)⟩ (by kernel_rfl) rfl (by kernel_rfl) (fun KC hK => ?_)
                  go_wp2_with fail
                  refine (HWr.out _ hHeld.1.2.2.1).mono ?_
                  rintro r w4 ⟨rfl, hb⟩
                  have h4 := (⟨hHeld.1.next hb, hHeld.2.1.below hb hHeld.2.2, Nat.lt_of_lt_of_le hHeld.2.2 hb.size⟩ : _ ∧ _ ∧ _)
                  clear hb
                  refine hK.out _ _ h4 (fun hHeld => ?_)
                  clear hK KC
                  refine take_v (v := ?_) 17 ⟨some 109, Op.unOp UnOp.not 4 (Operand.tmp 108), _, _, _, some (6, false)⟩ rfl (fun _ _ _ h => h) ?_ hHeld ?_
                  rotate_left
                  · (intro W _; go_simp <;> (try with_reducible rfl))
                  refine take_v (v := ?_) 18 ⟨some 110, Op.pick (Operand.tmp 98) (Operand.const (Value.bool true)) (Operand.tmp 109), _, _, _, none⟩ rfl (fun _ _ _ h => h) ?_ hHeld ?_
                  rotate_left
                  · (intro W _; go_simp <;> (try with_reducible rfl))
                  refine wpAnyH_done (by kernel_rfl) ?_ _
                  refine NoPanic.normal ?_
                  have HE := (show Hid _ from hHeld)
                  clear hHeld
                  go_wp2
                  go_ret
                  exact ⟨ret_bool HN.out.symm, HE.out.1.2.2.1⟩
                · have HWr : Hid (∀ W, Below w.heap.size w W → Calls Tryz.prog 54 #[.agg #[.int .i64 (S.T q).id, .int .i64 (S.T q).st, .slice (U q).la (S.T q).ln (U q).lc, .slice (U q).ca (S.T q).cn (U q).cc, .int .i64 (S.T q).e, .int .i64 (S.T q).s, .bool (S.T q).b], .string (S.R k).f0] W fun r w' => r = .returned (.bool true) ∧ Below W.heap.size W w') := fun W hW => by have := HWa.out W hW; rw [e6] at this; exact this
                  have HY : Hid (recP S k) := ⟨e0, Or.inr ⟨H5.out, e4, q, hqn, HQ.out, HM.out, clB_iff.1 e6⟩, HRi.out⟩
                  have HRs : Hid (∀ i, i < k → recP S i) := H3d.out.2.1
                  clear HWa
                  go_upto_region 10 with fail
                  refine wp_region_noPanic ?_
                  refine wp_region_held_drew (S := fun W => RcH w [.int .i64 S.ep, .slice (some ⟨b, off, none⟩) S.rn rc, .slice (some ⟨b2, o2, none⟩) S.tn tc, .slice oa S.on oc] [.string (S.R k).f0, .string (S.R k).f1, .int .i64 (S.R k).f2, .int .i64 (S.R k).f3, .bool true, .int .i64 (S.R k).f5] wr.heap.size b off S.rn S.R W ∧ Elems W b2 o2 S.tn 7 (ruF S.T U) ∧ b2 < W.heap.size) (by kernel_rfl) ⟨H3d.out.1, H3d.out.2.2⟩ (fun hHeld => ?_)
                  refine take_v (v := ?_) 0 ⟨some 92, Op.move (Operand.tmp 5), _, _, _, none⟩ rfl (fun _ _ _ h => h) ?_ hHeld ?_
                  rotate_left
                  · (intro W _; go_simp <;> (try with_reducible rfl))
                  refine take_v (v := ?_) 1 ⟨some 93, Op.binOp BinOp.neq 3 (Operand.tmp 92) (Operand.const (Value.int IntKind.i64 2)) 3, _, _, _, none⟩ rfl (fun _ _ _ h => h) ?_ hHeld ?_
                  rotate_left
                  · (intro W _; go_simp <;> (try with_reducible rfl))
                  refine take_v (v := ?_) 2 ⟨some 94, Op.move (Operand.tmp 93), _, _, _, none⟩ rfl (fun _ _ _ h => h) ?_ hHeld ?_
                  rotate_left
                  · (intro W _; go_simp <;> (try with_reducible rfl))
                  refine take_n 3 ⟨some 95, Op.move (Operand.tmp 5), _, _, _, some (2, true)⟩ rfl (fun _ _ _ h => h) hHeld ?_
                  refine take_n 4 ⟨some 96, Op.binOp BinOp.neq 3 (Operand.tmp 95) (Operand.const (Value.int IntKind.i64 3)) 3, _, _, _, some (2, true)⟩ rfl (fun _ _ _ h => h) hHeld ?_
                  refine take_v (v := ?_) 5 ⟨some 97, Op.pick (Operand.tmp 94) (Operand.tmp 96) (Operand.const (Value.bool false)), _, _, _, none⟩ rfl (fun _ _ _ h => h) ?_ hHeld ?_
                  rotate_left
                  · (intro W _; go_simp <;> (try with_reducible rfl))
                  refine take_v (v := ?_) 6 ⟨some 98, Op.move (Operand.tmp 97), _, _, _, none⟩ rfl (fun _ _ _ h => h) ?_ hHeld ?_
                  rotate_left
                  · (intro W _; go_simp <;> (try with_reducible rfl))
                  refine take_v (v := ?_) 7 ⟨some 99, Op.fieldAddr 34 (Operand.tmp 1) 2, _, _, _, some (6, false)⟩ rfl (fun _ _ _ h => h) ?_ hHeld ?_
                  rotate_left
                  · (intro W _; go_simp <;> (try with_reducible rfl))
                  refine take_v (v := ?_) 8 ⟨some 100, Op.load 32 (Operand.tmp 99), _, _, _, some (6, false)⟩ rfl (fun _ _ _ h => h) ?_ hHeld ?_
                  rotate_left
                  · (intro W hSW; (have s0 := hSW.1.1.cell 0 rfl; have s5 := hSW.1.1.cell 5 rfl; have s6 := hSW.1.1.2; have s8 := hSW.1.2.1.cell 2 rfl; have s9 := hSW.1.2.1.2; obtain ⟨y0, y1, y2, y3, y4, y5, y6⟩ := ru_cells hSW.2.1 hqn); go_simp <;> (try with_reducible rfl))
                  refine take_v (v := ?_) 9 ⟨some 101, Op.fieldAddr 52 (Operand.tmp 4) 3, _, _, _, some (6, false)⟩ rfl (fun _ _ _ h => h) ?_ hHeld ?_
                  rotate_left
                  · (intro W _; go_simp <;> (try with_reducible rfl))
                  refine take_v (v := ?_) 10 ⟨some 102, Op.load 3 (Operand.tmp 101), _, _, _, some (6, false)⟩ rfl (fun _ _ _ h => h) ?_ hHeld ?_
                  rotate_left
                  · (intro W hSW; (have s0 := hSW.1.1.cell 0 rfl; have s5 := hSW.1.1.cell 5 rfl; have s6 := hSW.1.1.2; have s8 := hSW.1.2.1.cell 2 rfl; have s9 := hSW.1.2.1.2; obtain ⟨y0, y1, y2, y3, y4, y5, y6⟩ := ru_cells hSW.2.1 hqn); go_simp <;> (try with_reducible rfl))
                  refine take_v (v := ?_) 11 ⟨some 103, Op.binOp BinOp.sub 3 (Operand.tmp 102) (Operand.const (Value.int IntKind.i64 1)) 3, _, _, _, some (6, false)⟩ rfl (fun _ _ _ h => h) ?_ hHeld ?_
                  rotate_left
                  · (intro W _; go_simp <;> (try with_reducible rfl))
                  refine take_v (v := ?_) 12 ⟨some 104, Op.indexAddr 32 (Operand.tmp 100) (Operand.tmp 103), _, _, _, some (6, false)⟩ rfl (fun _ _ _ h => h) ?_ hHeld ?_
                  rotate_left
                  · (intro W _; go_simp <;> (try with_reducible rfl))
                  refine take_v (v := ?_) 13 ⟨some 105, Op.load 71 (Operand.tmp 104), _, _, _, some (6, false)⟩ rfl (fun _ _ _ h => h) ?_ hHeld ?_
                  rotate_left
                  · (intro W hSW; (have s0 := hSW.1.1.cell 0 rfl; have s5 := hSW.1.1.cell 5 rfl; have s6 := hSW.1.1.2; have s8 := hSW.1.2.1.cell 2 rfl; have s9 := hSW.1.2.1.2; obtain ⟨y0, y1, y2, y3, y4, y5, y6⟩ := ru_cells hSW.2.1 hqn); go_simp <;> (try with_reducible rfl))
                  refine take_v (v := ?_) 14 ⟨some 106, Op.fieldAddr 52 (Operand.tmp 4) 0, _, _, _, some (6, false)⟩ rfl (fun _ _ _ h => h) ?_ hHeld ?_
                  rotate_left
                  · (intro W _; go_simp <;> (try with_reducible rfl))
                  refine take_v (v := ?_) 15 ⟨some 107, Op.load 9 (Operand.tmp 106), _, _, _, some (6, false)⟩ rfl (fun _ _ _ h => h) ?_ hHeld ?_
                  rotate_left
                  · (intro W hSW; (have s0 := hSW.1.1.cell 0 rfl; have s5 := hSW.1.1.cell 5 rfl; have s6 := hSW.1.1.2; have s8 := hSW.1.2.1.cell 2 rfl; have s9 := hSW.1.2.1.2; obtain ⟨y0, y1, y2, y3, y4, y5, y6⟩ := ru_cells hSW.2.1 hqn); go_simp <;> (try with_reducible rfl))
                  refine ready_call 16 ⟨some 108, Op.call { callee := Callee.value (Operand.func 54), args := #[Operand.tmp 105, Operand.tmp 107], argTypes := #[71, 9] }, _, _, _, some (6, false)⟩ (by kernel_rfl) rfl (by kernel_rfl) (fun KC hK => ?_)
                  go_wp2_with fail
                  refine (HWr.out _ hHeld.1.2.2.1).mono ?_
                  rintro r w4 ⟨rfl, hb⟩
                  have h4 := (⟨hHeld.1.next hb, hHeld.2.1.below hb hHeld.2.2, Nat.lt_of_lt_of_le hHeld.2.2 hb.size⟩ : _ ∧ _ ∧ _)
                  clear hb
                  refine hK.out _ _ h4 (fun hHeld => ?_)
                  clear hK KC
                  refine take_v (v := ?_) 17 ⟨some 109, Op.unOp UnOp.not 4 (Operand.tmp 108), _, _, _, some (6, false)⟩ rfl (fun _ _ _ h => h) ?_ hHeld ?_
                  rotate_left
                  · (intro W _; go_simp <;> (try with_reducible rfl))
                  refine take_v (v := ?_) 18 ⟨some 110, Op.pick (Operand.tmp 98) (Operand.const (Value.bool true)) (Operand.tmp 109), _, _, _, none⟩ rfl (fun _ _ _ h => h) ?_ hHeld ?_
                  rotate_left
                  · (intro W _; go_simp <;> (try with_reducible rfl))
                  refine wpAnyH_done (by kernel_rfl) ?_ _
                  refine NoPanic.normal ?_
                  have HE := (show Hid (_ ∧ _) from hHeld)
                  clear hHeld
                  go_wp2
                  go_roundw
                  case rel => exact ⟨k + 1, by omega, by go_num, upto_succ HRs.out HY.out, HE.out.1.2.1, HE.out.1.2.2.1⟩
                  case measure => simp [intOf]; omega

              · have x2 : ((S.T q).st != 2) = true := by rw [bne, e2']; rfl
                have x3 : ((S.T q).st != 3) = false := by rw [bne, e3']; rfl
                have HM : Hid (mayB (S.T q).st = true) := by show _ = _; rw [mayB, e2', e3']; rfl
                have HWa : Hid (∀ W, Below w.heap.size w W → Calls Tryz.prog 54 #[.agg #[.int .i64 (S.T q).id, .int .i64 (S.T q).st, .slice (U q).la (S.T q).ln (U q).lc, .slice (U q).ca (S.T q).cn (U q).cc, .int .i64 (S.T q).e, .int .i64 (S.T q).s, .bool (S.T q).b], .string (S.R k).f0] W fun r w' => r = .returned (.bool (clB (writesP (S.T q) (S.R k).f0))) ∧ Below W.heap.size W w') := fun W hW => l5Writes_any (S.T q) _ _ _ _ _ _ (HS.out.2.2.2.1.2 q hqn).2 ((HS.out.1.next hW).2.1.2 q hqn).2.1
                cases e6 : clB (writesP (S.T q) (S.R k).f0)
                · have HWr : Hid (∀ W, Below w.heap.size w W → Calls Tryz.prog 54 #[.agg #[.int .i64 (S.T q).id, .int .i64 (S.T q).st, .slice (U q).la (S.T q).ln (U q).lc, .slice (U q).ca (S.T q).cn (U q).cc, .int .i64 (S.T q).e, .int .i64 (S.T q).s, .bool (S.T q).b], .string (S.R k).f0] W fun r w' => r = .returned (.bool false) ∧ Below W.heap.size W w') := fun W hW => by have := HWa.out W hW; rw [e6] at this; exact this
                  have HN : Hid (goodB S = false) := no_rec hlt fun g => clB_not e6 (HOw.out g).2
                  clear HWa
                  go_upto_region 10 with fail
                  refine wp_region_noPanic ?_
                  refine wp_region_held_drew (S := fun W => RcH w [.int .i64 S.ep, .slice (some ⟨b, off, none⟩) S.rn rc, .slice (some ⟨b2, o2, none⟩) S.tn tc, .slice oa S.on oc] [.string (S.R k).f0, .string (S.R k).f1, .int .i64 (S.R k).f2, .int .i64 (S.R k).f3, .bool true, .int .i64 (S.R k).f5] wr.heap.size b off S.rn S.R W ∧ Elems W b2 o2 S.tn 7 (ruF S.T U) ∧ b2 < W.heap.size) (by kernel_rfl) ⟨H3d.out.1, H3d.out.2.2⟩ (fun hHeld => ?_)
                  refine take_v (v := ?_) 0 ⟨some 92, Op.move (Operand.tmp 5), _, _, _, none⟩ rfl (fun _ _ _ h => h) ?_ hHeld ?_
                  rotate_left
                  · (intro W _; go_simp <;> (try with_reducible rfl))
                  refine take_v (v := ?_) 1 ⟨some 93, Op.binOp BinOp.neq 3 (Operand.tmp 92) (Operand.const (Value.int IntKind.i64 2)) 3, _, _, _, none⟩ rfl (fun _ _ _ h => h) ?_ hHeld ?_
                  rotate_left
                  · (intro W _; go_simp <;> (try with_reducible rfl))
                  refine take_v (v := ?_) 2 ⟨some 94, Op.move (Operand.tmp 93), _, _, _, none⟩ rfl (fun _ _ _ h => h) ?_ hHeld ?_
                  rotate_left
                  · (intro W _; go_simp <;> (try with_reducible rfl))
                  refine take_v (v := ?_) 3 ⟨some 95, Op.move (Operand.tmp 5), _, _, _, some (2, true)⟩ rfl (fun _ _ _ h => h) ?_ hHeld ?_
                  rotate_left
                  · (intro W _; go_simp <;> (try with_reducible rfl))
                  refine take_v (v := ?_) 4 ⟨some 96, Op.binOp BinOp.neq 3 (Operand.tmp 95) (Operand.const (Value.int IntKind.i64 3)) 3, _, _, _, some (2, true)⟩ rfl (fun _ _ _ h => h) ?_ hHeld ?_
                  rotate_left
                  · (intro W _; go_simp <;> (try with_reducible rfl))
                  refine take_v (v := ?_) 5 ⟨some 97, Op.pick (Operand.tmp 94) (Operand.tmp 96) (Operand.const (Value.bool false)), _, _, _, none⟩ rfl (fun _ _ _ h => h) ?_ hHeld ?_
                  rotate_left
                  · (intro W _; go_simp <;> (try with_reducible rfl))
                  refine take_v (v := ?_) 6 ⟨some 98, Op.move (Operand.tmp 97), _, _, _, none⟩ rfl (fun _ _ _ h => h) ?_ hHeld ?_
                  rotate_left
                  · (intro W _; go_simp <;> (try with_reducible rfl))
                  refine take_v (v := ?_) 7 ⟨some 99, Op.fieldAddr 34 (Operand.tmp 1) 2, _, _, _, some (6, false)⟩ rfl (fun _ _ _ h => h) ?_ hHeld ?_
                  rotate_left
                  · (intro W _; go_simp <;> (try with_reducible rfl))
                  refine take_v (v := ?_) 8 ⟨some 100, Op.load 32 (Operand.tmp 99), _, _, _, some (6, false)⟩ rfl (fun _ _ _ h => h) ?_ hHeld ?_
                  rotate_left
                  · (intro W hSW; (have s0 := hSW.1.1.cell 0 rfl; have s5 := hSW.1.1.cell 5 rfl; have s6 := hSW.1.1.2; have s8 := hSW.1.2.1.cell 2 rfl; have s9 := hSW.1.2.1.2; obtain ⟨y0, y1, y2, y3, y4, y5, y6⟩ := ru_cells hSW.2.1 hqn); go_simp <;> (try with_reducible rfl))
                  refine take_v (v := ?_) 9 ⟨some 101, Op.fieldAddr 52 (Operand.tmp 4) 3, _, _, _, some (6, false)⟩ rfl (fun _ _ _ h => h) ?_ hHeld ?_
                  rotate_left
                  · (intro W _; go_simp <;> (try with_reducible rfl))
                  refine take_v (v := ?_) 10 ⟨some 102, Op.load 3 (Operand.tmp 101), _, _, _, some (6, false)⟩ rfl (fun _ _ _ h => h) ?_ hHeld ?_
                  rotate_left
                  · (intro W hSW; (have s0 := hSW.1.1.cell 0 rfl; have s5 := hSW.1.1.cell 5 rfl; have s6 := hSW.1.1.2; have s8 := hSW.1.2.1.cell 2 rfl; have s9 := hSW.1.2.1.2; obtain ⟨y0, y1, y2, y3, y4, y5, y6⟩ := ru_cells hSW.2.1 hqn); go_simp <;> (try with_reducible rfl))
                  refine take_v (v := ?_) 11 ⟨some 103, Op.binOp BinOp.sub 3 (Operand.tmp 102) (Operand.const (Value.int IntKind.i64 1)) 3, _, _, _, some (6, false)⟩ rfl (fun _ _ _ h => h) ?_ hHeld ?_
                  rotate_left
                  · (intro W _; go_simp <;> (try with_reducible rfl))
                  refine take_v (v := ?_) 12 ⟨some 104, Op.indexAddr 32 (Operand.tmp 100) (Operand.tmp 103), _, _, _, some (6, false)⟩ rfl (fun _ _ _ h => h) ?_ hHeld ?_
                  rotate_left
                  · (intro W _; go_simp <;> (try with_reducible rfl))
                  refine take_v (v := ?_) 13 ⟨some 105, Op.load 71 (Operand.tmp 104), _, _, _, some (6, false)⟩ rfl (fun _ _ _ h => h) ?_ hHeld ?_
                  rotate_left
                  · (intro W hSW; (have s0 := hSW.1.1.cell 0 rfl; have s5 := hSW.1.1.cell 5 rfl; have s6 := hSW.1.1.2; have s8 := hSW.1.2.1.cell 2 rfl; have s9 := hSW.1.2.1.2; obtain ⟨y0, y1, y2, y3, y4, y5, y6⟩ := ru_cells hSW.2.1 hqn); go_simp <;> (try with_reducible rfl))
                  refine take_v (v := ?_) 14 ⟨some 106, Op.fieldAddr 52 (Operand.tmp 4) 0, _, _, _, some (6, false)⟩ rfl (fun _ _ _ h => h) ?_ hHeld ?_
                  rotate_left
                  · (intro W _; go_simp <;> (try with_reducible rfl))
                  refine take_v (v := ?_) 15 ⟨some 107, Op.load 9 (Operand.tmp 106), _, _, _, some (6, false)⟩ rfl (fun _ _ _ h => h) ?_ hHeld ?_
                  rotate_left
                  · (intro W hSW; (have s0 := hSW.1.1.cell 0 rfl; have s5 := hSW.1.1.cell 5 rfl; have s6 := hSW.1.1.2; have s8 := hSW.1.2.1.cell 2 rfl; have s9 := hSW.1.2.1.2; obtain ⟨y0, y1, y2, y3, y4, y5, y6⟩ := ru_cells hSW.2.1 hqn); go_simp <;> (try with_reducible rfl))
                  refine ready_call 16 ⟨some 108, Op.call { callee := Callee.value (Operand.func 54), args := #[Operand.tmp 105, Operand.tmp 107], argTypes := #[71, 9] }, _, _, _, some (6, false)⟩ (by kernel_rfl) rfl (by kernel_rfl) (fun KC hK => ?_)
                  go_wp2_with fail
                  refine (HWr.out _ hHeld.1.2.2.1).mono ?_
                  rintro r w4 ⟨rfl, hb⟩
                  have h4 := (⟨hHeld.1.next hb, hHeld.2.1.below hb hHeld.2.2, Nat.lt_of_lt_of_le hHeld.2.2 hb.size⟩ : _ ∧ _ ∧ _)
                  clear hb
                  refine hK.out _ _ h4 (fun hHeld => ?_)
                  clear hK KC
                  refine take_v (v := ?_) 17 ⟨some 109, Op.unOp UnOp.not 4 (Operand.tmp 108), _, _, _, some (6, false)⟩ rfl (fun _ _ _ h => h) ?_ hHeld ?_
                  rotate_left
                  · (intro W _; go_simp <;> (try with_reducible rfl))
                  refine take_v (v := ?_) 18 ⟨some 110, Op.pick (Operand.tmp 98) (Operand.const (Value.bool true)) (Operand.tmp 109), _, _, _, none⟩ rfl (fun _ _ _ h => h) ?_ hHeld ?_
                  rotate_left
                  · (intro W _; go_simp <;> (try with_reducible rfl))
                  refine wpAnyH_done (by kernel_rfl) ?_ _
                  refine NoPanic.normal ?_
                  have HE := (show Hid _ from hHeld)
                  clear hHeld
                  go_wp2
                  go_ret
                  exact ⟨ret_bool HN.out.symm, HE.out.1.2.2.1⟩
                · have HWr : Hid (∀ W, Below w.heap.size w W → Calls Tryz.prog 54 #[.agg #[.int .i64 (S.T q).id, .int .i64 (S.T q).st, .slice (U q).la (S.T q).ln (U q).lc, .slice (U q).ca (S.T q).cn (U q).cc, .int .i64 (S.T q).e, .int .i64 (S.T q).s, .bool (S.T q).b], .string (S.R k).f0] W fun r w' => r = .returned (.bool true) ∧ Below W.heap.size W w') := fun W hW => by have := HWa.out W hW; rw [e6] at this; exact this
                  have HY : Hid (recP S k) := ⟨e0, Or.inr ⟨H5.out, e4, q, hqn, HQ.out, HM.out, clB_iff.1 e6⟩, HRi.out⟩
                  have HRs : Hid (∀ i, i < k → recP S i) := H3d.out.2.1
                  clear HWa
                  go_upto_region 10 with fail
                  refine wp_region_noPanic ?_
                  refine wp_region_held_drew (S := fun W => RcH w [.int .i64 S.ep, .slice (some ⟨b, off, none⟩) S.rn rc, .slice (some ⟨b2, o2, none⟩) S.tn tc, .slice oa S.on oc] [.string (S.R k).f0, .string (S.R k).f1, .int .i64 (S.R k).f2, .int .i64 (S.R k).f3, .bool true, .int .i64 (S.R k).f5] wr.heap.size b off S.rn S.R W ∧ Elems W b2 o2 S.tn 7 (ruF S.T U) ∧ b2 < W.heap.size) (by kernel_rfl) ⟨H3d.out.1, H3d.out.2.2⟩ (fun hHeld => ?_)
                  refine take_v (v := ?_) 0 ⟨some 92, Op.move (Operand.tmp 5), _, _, _, none⟩ rfl (fun _ _ _ h => h) ?_ hHeld ?_
                  rotate_left
                  · (intro W _; go_simp <;> (try with_reducible rfl))
                  refine take_v (v := ?_) 1 ⟨some 93, Op.binOp BinOp.neq 3 (Operand.tmp 92) (Operand.const (Value.int IntKind.i64 2)) 3, _, _, _, none⟩ rfl (fun _ _ _ h => h) ?_ hHeld ?_
                  rotate_left
                  · (intro W _; go_simp <;> (try with_reducible rfl))
                  refine take_v (v := ?_) 2 ⟨some 94, Op.move (Operand.tmp 93), _, _, _, none⟩ rfl (fun _ _ _ h => h) ?_ hHeld ?_
                  rotate_left
                  · (intro W _; go_simp <;> (try with_reducible rfl))
                  refine take_v (v := ?_) 3 ⟨some 95, Op.move (Operand.tmp 5), _, _, _, some (2, true)⟩ rfl (fun _ _ _ h => h) ?_ hHeld ?_
                  rotate_left
                  · (intro W _; go_simp <;> (try with_reducible rfl))
                  refine take_v (v := ?_) 4 ⟨some 96, Op.binOp BinOp.neq 3 (Operand.tmp 95) (Operand.const (Value.int IntKind.i64 3)) 3, _, _, _, some (2, true)⟩ rfl (fun _ _ _ h => h) ?_ hHeld ?_
                  rotate_left
                  · (intro W _; go_simp <;> (try with_reducible rfl))
                  refine take_v (v := ?_) 5 ⟨some 97, Op.pick (Operand.tmp 94) (Operand.tmp 96) (Operand.const (Value.bool false)), _, _, _, none⟩ rfl (fun _ _ _ h => h) ?_ hHeld ?_
                  rotate_left
                  · (intro W _; go_simp <;> (try with_reducible rfl))
                  refine take_v (v := ?_) 6 ⟨some 98, Op.move (Operand.tmp 97), _, _, _, none⟩ rfl (fun _ _ _ h => h) ?_ hHeld ?_
                  rotate_left
                  · (intro W _; go_simp <;> (try with_reducible rfl))
                  refine take_v (v := ?_) 7 ⟨some 99, Op.fieldAddr 34 (Operand.tmp 1) 2, _, _, _, some (6, false)⟩ rfl (fun _ _ _ h => h) ?_ hHeld ?_
                  rotate_left
                  · (intro W _; go_simp <;> (try with_reducible rfl))
                  refine take_v (v := ?_) 8 ⟨some 100, Op.load 32 (Operand.tmp 99), _, _, _, some (6, false)⟩ rfl (fun _ _ _ h => h) ?_ hHeld ?_
                  rotate_left
                  · (intro W hSW; (have s0 := hSW.1.1.cell 0 rfl; have s5 := hSW.1.1.cell 5 rfl; have s6 := hSW.1.1.2; have s8 := hSW.1.2.1.cell 2 rfl; have s9 := hSW.1.2.1.2; obtain ⟨y0, y1, y2, y3, y4, y5, y6⟩ := ru_cells hSW.2.1 hqn); go_simp <;> (try with_reducible rfl))
                  refine take_v (v := ?_) 9 ⟨some 101, Op.fieldAddr 52 (Operand.tmp 4) 3, _, _, _, some (6, false)⟩ rfl (fun _ _ _ h => h) ?_ hHeld ?_
                  rotate_left
                  · (intro W _; go_simp <;> (try with_reducible rfl))
                  refine take_v (v := ?_) 10 ⟨some 102, Op.load 3 (Operand.tmp 101), _, _, _, some (6, false)⟩ rfl (fun _ _ _ h => h) ?_ hHeld ?_
                  rotate_left
                  · (intro W hSW; (have s0 := hSW.1.1.cell 0 rfl; have s5 := hSW.1.1.cell 5 rfl; have s6 := hSW.1.1.2; have s8 := hSW.1.2.1.cell 2 rfl; have s9 := hSW.1.2.1.2; obtain ⟨y0, y1, y2, y3, y4, y5, y6⟩ := ru_cells hSW.2.1 hqn); go_simp <;> (try with_reducible rfl))
                  refine take_v (v := ?_) 11 ⟨some 103, Op.binOp BinOp.sub 3 (Operand.tmp 102) (Operand.const (Value.int IntKind.i64 1)) 3, _, _, _, some (6, false)⟩ rfl (fun _ _ _ h => h) ?_ hHeld ?_
                  rotate_left
                  · (intro W _; go_simp <;> (try with_reducible rfl))
                  refine take_v (v := ?_) 12 ⟨some 104, Op.indexAddr 32 (Operand.tmp 100) (Operand.tmp 103), _, _, _, some (6, false)⟩ rfl (fun _ _ _ h => h) ?_ hHeld ?_
                  rotate_left
                  · (intro W _; go_simp <;> (try with_reducible rfl))
                  refine take_v (v := ?_) 13 ⟨some 105, Op.load 71 (Operand.tmp 104), _, _, _, some (6, false)⟩ rfl (fun _ _ _ h => h) ?_ hHeld ?_
                  rotate_left
                  · (intro W hSW; (have s0 := hSW.1.1.cell 0 rfl; have s5 := hSW.1.1.cell 5 rfl; have s6 := hSW.1.1.2; have s8 := hSW.1.2.1.cell 2 rfl; have s9 := hSW.1.2.1.2; obtain ⟨y0, y1, y2, y3, y4, y5, y6⟩ := ru_cells hSW.2.1 hqn); go_simp <;> (try with_reducible rfl))
                  refine take_v (v := ?_) 14 ⟨some 106, Op.fieldAddr 52 (Operand.tmp 4) 0, _, _, _, some (6, false)⟩ rfl (fun _ _ _ h => h) ?_ hHeld ?_
                  rotate_left
                  · (intro W _; go_simp <;> (try with_reducible rfl))
                  refine take_v (v := ?_) 15 ⟨some 107, Op.load 9 (Operand.tmp 106), _, _, _, some (6, false)⟩ rfl (fun _ _ _ h => h) ?_ hHeld ?_
                  rotate_left
                  · (intro W hSW; (have s0 := hSW.1.1.cell 0 rfl; have s5 := hSW.1.1.cell 5 rfl; have s6 := hSW.1.1.2; have s8 := hSW.1.2.1.cell 2 rfl; have s9 := hSW.1.2.1.2; obtain ⟨y0, y1, y2, y3, y4, y5, y6⟩ := ru_cells hSW.2.1 hqn); go_simp <;> (try with_reducible rfl))
                  refine ready_call 16 ⟨some 108, Op.call { callee := Callee.value (Operand.func 54), args := #[Operand.tmp 105, Operand.tmp 107], argTypes := #[71, 9] }, _, _, _, some (6, false)⟩ (by kernel_rfl) rfl (by kernel_rfl) (fun KC hK => ?_)
                  go_wp2_with fail
                  refine (HWr.out _ hHeld.1.2.2.1).mono ?_
                  rintro r w4 ⟨rfl, hb⟩
                  have h4 := (⟨hHeld.1.next hb, hHeld.2.1.below hb hHeld.2.2, Nat.lt_of_lt_of_le hHeld.2.2 hb.size⟩ : _ ∧ _ ∧ _)
                  clear hb
                  refine hK.out _ _ h4 (fun hHeld => ?_)
                  clear hK KC
                  refine take_v (v := ?_) 17 ⟨some 109, Op.unOp UnOp.not 4 (Operand.tmp 108), _, _, _, some (6, false)⟩ rfl (fun _ _ _ h => h) ?_ hHeld ?_
                  rotate_left
                  · (intro W _; go_simp <;> (try with_reducible rfl))
                  refine take_v (v := ?_) 18 ⟨some 110, Op.pick (Operand.tmp 98) (Operand.const (Value.bool true)) (Operand.tmp 109), _, _, _, none⟩ rfl (fun _ _ _ h => h) ?_ hHeld ?_
                  rotate_left
                  · (intro W _; go_simp <;> (try with_reducible rfl))
                  refine wpAnyH_done (by kernel_rfl) ?_ _
                  refine NoPanic.normal ?_
                  have HE := (show Hid (_ ∧ _) from hHeld)
                  clear hHeld
                  go_wp2
                  go_roundw
                  case rel => exact ⟨k + 1, by omega, by go_num, upto_succ HRs.out HY.out, HE.out.1.2.1, HE.out.1.2.2.1⟩
                  case measure => simp [intOf]; omega

              · have x2 : ((S.T q).st != 2) = true := by rw [bne, e2']; rfl
                have x3 : ((S.T q).st != 3) = true := by rw [bne, e3']; rfl
                have HN : Hid (goodB S = false) := no_rec hlt fun g => by
                  have := (HOw.out g).1
                  rw [mayB, e2', e3'] at this; cases this
                go_upto_region 10 with fail
                refine wp_region_noPanic ?_
                refine wp_region_held_drew (S := fun W => RcH w [.int .i64 S.ep, .slice (some ⟨b, off, none⟩) S.rn rc, .slice (some ⟨b2, o2, none⟩) S.tn tc, .slice oa S.on oc] [.string (S.R k).f0, .string (S.R k).f1, .int .i64 (S.R k).f2, .int .i64 (S.R k).f3, .bool true, .int .i64 (S.R k).f5] wr.heap.size b off S.rn S.R W) (by kernel_rfl) H3d.out.1 (fun hHeld => ?_)
                refine take_v (v := ?_) 0 ⟨some 92, Op.move (Operand.tmp 5), _, _, _, none⟩ rfl (fun _ _ _ h => h) ?_ hHeld ?_
                rotate_left
                · (intro W _; go_simp <;> (try with_reducible rfl))
                refine take_v (v := ?_) 1 ⟨some 93, Op.binOp BinOp.neq 3 (Operand.tmp 92) (Operand.const (Value.int IntKind.i64 2)) 3, _, _, _, none⟩ rfl (fun _ _ _ h => h) ?_ hHeld ?_
                rotate_left
                · (intro W _; go_simp <;> (try with_reducible rfl))
                refine take_v (v := ?_) 2 ⟨some 94, Op.move (Operand.tmp 93), _, _, _, none⟩ rfl (fun _ _ _ h => h) ?_ hHeld ?_
                rotate_left
                · (intro W _; go_simp <;> (try with_reducible rfl))
                refine take_v (v := ?_) 3 ⟨some 95, Op.move (Operand.tmp 5), _, _, _, some (2, true)⟩ rfl (fun _ _ _ h => h) ?_ hHeld ?_
                rotate_left
                · (intro W _; go_simp <;> (try with_reducible rfl))
                refine take_v (v := ?_) 4 ⟨some 96, Op.binOp BinOp.neq 3 (Operand.tmp 95) (Operand.const (Value.int IntKind.i64 3)) 3, _, _, _, some (2, true)⟩ rfl (fun _ _ _ h => h) ?_ hHeld ?_
                rotate_left
                · (intro W _; go_simp <;> (try with_reducible rfl))
                refine take_v (v := ?_) 5 ⟨some 97, Op.pick (Operand.tmp 94) (Operand.tmp 96) (Operand.const (Value.bool false)), _, _, _, none⟩ rfl (fun _ _ _ h => h) ?_ hHeld ?_
                rotate_left
                · (intro W _; go_simp <;> (try with_reducible rfl))
                refine take_v (v := ?_) 6 ⟨some 98, Op.move (Operand.tmp 97), _, _, _, none⟩ rfl (fun _ _ _ h => h) ?_ hHeld ?_
                rotate_left
                · (intro W _; go_simp <;> (try with_reducible rfl))
                refine take_n 7 ⟨some 99, Op.fieldAddr 34 (Operand.tmp 1) 2, _, _, _, some (6, false)⟩ rfl (fun _ _ _ h => h) hHeld ?_
                refine take_n 8 ⟨some 100, Op.load 32 (Operand.tmp 99), _, _, _, some (6, false)⟩ rfl (fun _ _ _ h => h) hHeld ?_
                refine take_n 9 ⟨some 101, Op.fieldAddr 52 (Operand.tmp 4) 3, _, _, _, some (6, false)⟩ rfl (fun _ _ _ h => h) hHeld ?_
                refine take_n 10 ⟨some 102, Op.load 3 (Operand.tmp 101), _, _, _, some (6, false)⟩ rfl (fun _ _ _ h => h) hHeld ?_
                refine take_n 11 ⟨some 103, Op.binOp BinOp.sub 3 (Operand.tmp 102) (Operand.const (Value.int IntKind.i64 1)) 3, _, _, _, some (6, false)⟩ rfl (fun _ _ _ h => h) hHeld ?_
                refine take_n 12 ⟨some 104, Op.indexAddr 32 (Operand.tmp 100) (Operand.tmp 103), _, _, _, some (6, false)⟩ rfl (fun _ _ _ h => h) hHeld ?_
                refine take_n 13 ⟨some 105, Op.load 71 (Operand.tmp 104), _, _, _, some (6, false)⟩ rfl (fun _ _ _ h => h) hHeld ?_
                refine take_n 14 ⟨some 106, Op.fieldAddr 52 (Operand.tmp 4) 0, _, _, _, some (6, false)⟩ rfl (fun _ _ _ h => h) hHeld ?_
                refine take_n 15 ⟨some 107, Op.load 9 (Operand.tmp 106), _, _, _, some (6, false)⟩ rfl (fun _ _ _ h => h) hHeld ?_
                refine take_n 16 ⟨some 108, Op.call { callee := Callee.value (Operand.func 54), args := #[Operand.tmp 105, Operand.tmp 107], argTypes := #[71, 9] }, _, _, _, some (6, false)⟩ rfl (fun _ _ _ h => h) hHeld ?_
                refine take_n 17 ⟨some 109, Op.unOp UnOp.not 4 (Operand.tmp 108), _, _, _, some (6, false)⟩ rfl (fun _ _ _ h => h) hHeld ?_
                refine take_v (v := ?_) 18 ⟨some 110, Op.pick (Operand.tmp 98) (Operand.const (Value.bool true)) (Operand.tmp 109), _, _, _, none⟩ rfl (fun _ _ _ h => h) ?_ hHeld ?_
                rotate_left
                · (intro W _; go_simp <;> (try with_reducible rfl))
                refine wpAnyH_done (by kernel_rfl) ?_ _
                refine NoPanic.normal ?_
                have HE := (show Hid _ from hHeld)
                clear hHeld
                go_wp2
                go_ret
                exact ⟨ret_bool HN.out.symm, HE.out.2.2.1⟩

              · have x2 : ((S.T q).st != 2) = true := by rw [bne, e2']; rfl
                have x3 : ((S.T q).st != 3) = true := by rw [bne, e3']; rfl
                have HN : Hid (goodB S = false) := no_rec hlt fun g => by
                  have := (HOw.out g).1
                  rw [mayB, e2', e3'] at this; cases this
                go_upto_region 10 with fail
                refine wp_region_noPanic ?_
                refine wp_region_held_drew (S := fun W => RcH w [.int .i64 S.ep, .slice (some ⟨b, off, none⟩) S.rn rc, .slice (some ⟨b2, o2, none⟩) S.tn tc, .slice oa S.on oc] [.string (S.R k).f0, .string (S.R k).f1, .int .i64 (S.R k).f2, .int .i64 (S.R k).f3, .bool true, .int .i64 (S.R k).f5] wr.heap.size b off S.rn S.R W) (by kernel_rfl) H3d.out.1 (fun hHeld => ?_)
                refine take_v (v := ?_) 0 ⟨some 92, Op.move (Operand.tmp 5), _, _, _, none⟩ rfl (fun _ _ _ h => h) ?_ hHeld ?_
                rotate_left
                · (intro W _; go_simp <;> (try with_reducible rfl))
                refine take_v (v := ?_) 1 ⟨some 93, Op.binOp BinOp.neq 3 (Operand.tmp 92) (Operand.const (Value.int IntKind.i64 2)) 3, _, _, _, none⟩ rfl (fun _ _ _ h => h) ?_ hHeld ?_
                rotate_left
                · (intro W _; go_simp <;> (try with_reducible rfl))
                refine take_v (v := ?_) 2 ⟨some 94, Op.move (Operand.tmp 93), _, _, _, none⟩ rfl (fun _ _ _ h => h) ?_ hHeld ?_
                rotate_left
                · (intro W _; go_simp <;> (try with_reducible rfl))
                refine take_v (v := ?_) 3 ⟨some 95, Op.move (Operand.tmp 5), _, _, _, some (2, true)⟩ rfl (fun _ _ _ h => h) ?_ hHeld ?_
                rotate_left
                · (intro W _; go_simp <;> (try with_reducible rfl))
                refine take_v (v := ?_) 4 ⟨some 96, Op.binOp BinOp.neq 3 (Operand.tmp 95) (Operand.const (Value.int IntKind.i64 3)) 3, _, _, _, some (2, true)⟩ rfl (fun _ _ _ h => h) ?_ hHeld ?_
                rotate_left
                · (intro W _; go_simp <;> (try with_reducible rfl))
                refine take_v (v := ?_) 5 ⟨some 97, Op.pick (Operand.tmp 94) (Operand.tmp 96) (Operand.const (Value.bool false)), _, _, _, none⟩ rfl (fun _ _ _ h => h) ?_ hHeld ?_
                rotate_left
                · (intro W _; go_simp <;> (try with_reducible rfl))
                refine take_v (v := ?_) 6 ⟨some 98, Op.move (Operand.tmp 97), _, _, _, none⟩ rfl (fun _ _ _ h => h) ?_ hHeld ?_
                rotate_left
                · (intro W _; go_simp <;> (try with_reducible rfl))
                refine take_n 7 ⟨some 99, Op.fieldAddr 34 (Operand.tmp 1) 2, _, _, _, some (6, false)⟩ rfl (fun _ _ _ h => h) hHeld ?_
                refine take_n 8 ⟨some 100, Op.load 32 (Operand.tmp 99), _, _, _, some (6, false)⟩ rfl (fun _ _ _ h => h) hHeld ?_
                refine take_n 9 ⟨some 101, Op.fieldAddr 52 (Operand.tmp 4) 3, _, _, _, some (6, false)⟩ rfl (fun _ _ _ h => h) hHeld ?_
                refine take_n 10 ⟨some 102, Op.load 3 (Operand.tmp 101), _, _, _, some (6, false)⟩ rfl (fun _ _ _ h => h) hHeld ?_
                refine take_n 11 ⟨some 103, Op.binOp BinOp.sub 3 (Operand.tmp 102) (Operand.const (Value.int IntKind.i64 1)) 3, _, _, _, some (6, false)⟩ rfl (fun _ _ _ h => h) hHeld ?_
                refine take_n 12 ⟨some 104, Op.indexAddr 32 (Operand.tmp 100) (Operand.tmp 103), _, _, _, some (6, false)⟩ rfl (fun _ _ _ h => h) hHeld ?_
                refine take_n 13 ⟨some 105, Op.load 71 (Operand.tmp 104), _, _, _, some (6, false)⟩ rfl (fun _ _ _ h => h) hHeld ?_
                refine take_n 14 ⟨some 106, Op.fieldAddr 52 (Operand.tmp 4) 0, _, _, _, some (6, false)⟩ rfl (fun _ _ _ h => h) hHeld ?_
                refine take_n 15 ⟨some 107, Op.load 9 (Operand.tmp 106), _, _, _, some (6, false)⟩ rfl (fun _ _ _ h => h) hHeld ?_
                refine take_n 16 ⟨some 108, Op.call { callee := Callee.value (Operand.func 54), args := #[Operand.tmp 105, Operand.tmp 107], argTypes := #[71, 9] }, _, _, _, some (6, false)⟩ rfl (fun _ _ _ h => h) hHeld ?_
                refine take_n 17 ⟨some 109, Op.unOp UnOp.not 4 (Operand.tmp 108), _, _, _, some (6, false)⟩ rfl (fun _ _ _ h => h) hHeld ?_
                refine take_v (v := ?_) 18 ⟨some 110, Op.pick (Operand.tmp 98) (Operand.const (Value.bool true)) (Operand.tmp 109), _, _, _, none⟩ rfl (fun _ _ _ h => h) ?_ hHeld ?_
                rotate_left
                · (intro W _; go_simp <;> (try with_reducible rfl))
                refine wpAnyH_done (by kernel_rfl) ?_ _
                refine NoPanic.normal ?_
                have HE := (show Hid _ from hHeld)
                clear hHeld
                go_wp2
                go_ret
                exact ⟨ret_bool HN.out.symm, HE.out.2.2.1⟩
      · have H5 : Hid ((S.R k).f5 = 0) := by show _ = _; simpa using e5
        have e5' : ((S.R k).f5 != 0) = false := by rw [bne, e5]; rfl
        cases e4 : (S.R k).f4
        · have HTd : Hid (∀ W, Calls Tryz.prog 52 #[.agg #[.int .i64 (S.R k).f2, .int .i64 (S.R k).f3, .bool false]] W fun r w' => r = .returned (.bool true) ∧ Below W.heap.size W w') := fun W => by have := l1Tid_any (S.R k).f2 (S.R k).f3 false W; rw [eT] at this; exact this
          rw [e4] at H1 c4
          by_cases hk0 : k = 0
          · have hk0' : decide ((0 : Int) < (k : Int)) = false := by simp; omega
            have hk0n : decide (0 < k) = false := by simp; omega
            have HRi : Hid (riseAt S.R k) := fun h => absurd h (by omega)
            have HY : Hid (recP S k) := ⟨e0, Or.inl ⟨H5.out, e4⟩, HRi.out⟩
            clear hk0
            go_upto_region 6 with fail
            refine wp_region_noPanic ?_
            refine wp_region_held_drew (S := fun W => RcH w [.int .i64 S.ep, .slice (some ⟨b, off, none⟩) S.rn rc, .slice ta S.tn tc, .slice oa S.on oc] [.string (S.R k).f0, .string (S.R k).f1, .int .i64 (S.R k).f2, .int .i64 (S.R k).f3, .bool false, .int .i64 (S.R k).f5] wr.heap.size b off S.rn S.R W) (by kernel_rfl) H1.out.1 (fun hHeld => ?_)
            refine take_v (v := ?_) 0 ⟨some 36, Op.fieldAddr 52 (Operand.tmp 4) 0, _, _, _, none⟩ rfl (fun _ _ _ h => h) ?_ hHeld ?_
            rotate_left
            · (intro W _; go_simp <;> (try with_reducible rfl))
            refine take_v (v := ?_) 1 ⟨some 37, Op.load 9 (Operand.tmp 36), _, _, _, none⟩ rfl (fun _ _ _ h => h) ?_ hHeld ?_
            rotate_left
            · (intro W hSW; (have s0 := hSW.1.cell 0 rfl; have s1 := hSW.1.cell 1 rfl; have s2 := hSW.1.cell 2 rfl; have s3 := hSW.1.cell 3 rfl; have s4 := hSW.1.cell 4 rfl; have s5 := hSW.1.cell 5 rfl; have s6 := hSW.1.2; have s7 := hSW.2.1.cell 0 rfl; have s8 := hSW.2.1.cell 1 rfl; have s9 := hSW.2.1.2); go_simp <;> (try with_reducible rfl))
            refine ready_call 2 ⟨some 38, Op.call { callee := Callee.value (Operand.func 50), args := #[Operand.tmp 37], argTypes := #[9] }, _, _, _, none⟩ (by kernel_rfl) rfl (by kernel_rfl) (fun KC hK => ?_)
            go_wp2_with fail
            refine (HK.out _).mono ?_
            rintro r w2 ⟨rfl, rfl⟩
            refine hK.out _ _ hHeld (fun hHeld => ?_)
            clear hK KC
            refine take_v (v := ?_) 3 ⟨some 39, Op.unOp UnOp.not 4 (Operand.tmp 38), _, _, _, none⟩ rfl (fun _ _ _ h => h) ?_ hHeld ?_
            rotate_left
            · (intro W _; go_simp <;> (try with_reducible rfl))
            refine take_v (v := ?_) 4 ⟨some 40, Op.move (Operand.tmp 39), _, _, _, none⟩ rfl (fun _ _ _ h => h) ?_ hHeld ?_
            rotate_left
            · (intro W _; go_simp <;> (try with_reducible rfl))
            refine take_v (v := ?_) 5 ⟨some 41, Op.fieldAddr 52 (Operand.tmp 4) 1, _, _, _, some (4, false)⟩ rfl (fun _ _ _ h => h) ?_ hHeld ?_
            rotate_left
            · (intro W _; go_simp <;> (try with_reducible rfl))
            refine take_v (v := ?_) 6 ⟨some 42, Op.load 9 (Operand.tmp 41), _, _, _, some (4, false)⟩ rfl (fun _ _ _ h => h) ?_ hHeld ?_
            rotate_left
            · (intro W hSW; (have s0 := hSW.1.cell 0 rfl; have s1 := hSW.1.cell 1 rfl; have s2 := hSW.1.cell 2 rfl; have s3 := hSW.1.cell 3 rfl; have s4 := hSW.1.cell 4 rfl; have s5 := hSW.1.cell 5 rfl; have s6 := hSW.1.2; have s7 := hSW.2.1.cell 0 rfl; have s8 := hSW.2.1.cell 1 rfl; have s9 := hSW.2.1.2); go_simp <;> (try with_reducible rfl))
            refine ready_call 7 ⟨some 43, Op.call { callee := Callee.value (Operand.func 51), args := #[Operand.tmp 42], argTypes := #[9] }, _, _, _, some (4, false)⟩ (by kernel_rfl) rfl (by kernel_rfl) (fun KC hK => ?_)
            go_wp2_with fail
            refine (HL.out _).mono ?_
            rintro r w2 ⟨rfl, rfl⟩
            refine hK.out _ _ hHeld (fun hHeld => ?_)
            clear hK KC
            refine take_v (v := ?_) 8 ⟨some 44, Op.unOp UnOp.not 4 (Operand.tmp 43), _, _, _, some (4, false)⟩ rfl (fun _ _ _ h => h) ?_ hHeld ?_
            rotate_left
            · (intro W _; go_simp <;> (try with_reducible rfl))
            refine take_v (v := ?_) 9 ⟨some 45, Op.pick (Operand.tmp 40) (Operand.const (Value.bool true)) (Operand.tmp 44), _, _, _, none⟩ rfl (fun _ _ _ h => h) ?_ hHeld ?_
            rotate_left
            · (intro W _; go_simp <;> (try with_reducible rfl))
            refine take_v (v := ?_) 10 ⟨some 46, Op.move (Operand.tmp 45), _, _, _, none⟩ rfl (fun _ _ _ h => h) ?_ hHeld ?_
            rotate_left
            · (intro W _; go_simp <;> (try with_reducible rfl))
            refine take_v (v := ?_) 11 ⟨some 47, Op.fieldAddr 52 (Operand.tmp 4) 2, _, _, _, some (10, false)⟩ rfl (fun _ _ _ h => h) ?_ hHeld ?_
            rotate_left
            · (intro W _; go_simp <;> (try with_reducible rfl))
            refine take_v (v := ?_) 12 ⟨some 48, Op.load 50 (Operand.tmp 47), _, _, _, some (10, false)⟩ rfl (fun _ _ _ h => h) ?_ hHeld ?_
            rotate_left
            · (intro W hSW; (have s0 := hSW.1.cell 0 rfl; have s1 := hSW.1.cell 1 rfl; have s2 := hSW.1.cell 2 rfl; have s3 := hSW.1.cell 3 rfl; have s4 := hSW.1.cell 4 rfl; have s5 := hSW.1.cell 5 rfl; have s6 := hSW.1.2; have s7 := hSW.2.1.cell 0 rfl; have s8 := hSW.2.1.cell 1 rfl; have s9 := hSW.2.1.2); go_simp <;> (try with_reducible rfl))
            refine ready_call 13 ⟨some 49, Op.call { callee := Callee.value (Operand.func 52), args := #[Operand.tmp 48], argTypes := #[50] }, _, _, _, some (10, false)⟩ (by kernel_rfl) rfl (by kernel_rfl) (fun KC hK => ?_)
            go_wp2_with fail
            refine (HTd.out _).mono ?_
            rintro r w2 ⟨rfl, hb⟩
            have h2 := hHeld.next hb
            clear hb
            refine hK.out _ _ h2 (fun hHeld => ?_)
            clear hK KC
            refine take_v (v := ?_) 14 ⟨some 50, Op.unOp UnOp.not 4 (Operand.tmp 49), _, _, _, some (10, false)⟩ rfl (fun _ _ _ h => h) ?_ hHeld ?_
            rotate_left
            · (intro W _; go_simp <;> (try with_reducible rfl))
            refine take_v (v := ?_) 15 ⟨some 51, Op.pick (Operand.tmp 46) (Operand.const (Value.bool true)) (Operand.tmp 50), _, _, _, none⟩ rfl (fun _ _ _ h => h) ?_ hHeld ?_
            rotate_left
            · (intro W _; go_simp <;> (try with_reducible rfl))
            refine take_v (v := ?_) 16 ⟨some 52, Op.move (Operand.tmp 51), _, _, _, none⟩ rfl (fun _ _ _ h => h) ?_ hHeld ?_
            rotate_left
            · (intro W _; go_simp <;> (try with_reducible rfl))
            refine take_v (v := ?_) 17 ⟨some 53, Op.fieldAddr 52 (Operand.tmp 4) 2, _, _, _, some (16, false)⟩ rfl (fun _ _ _ h => h) ?_ hHeld ?_
            rotate_left
            · (intro W _; go_simp <;> (try with_reducible rfl))
            refine take_v (v := ?_) 18 ⟨some 54, Op.fieldAddr 50 (Operand.tmp 53) 0, _, _, _, some (16, false)⟩ rfl (fun _ _ _ h => h) ?_ hHeld ?_
            rotate_left
            · (intro W _; go_simp <;> (try with_reducible rfl))
            refine take_v (v := ?_) 19 ⟨some 55, Op.load 3 (Operand.tmp 54), _, _, _, some (16, false)⟩ rfl (fun _ _ _ h => h) ?_ hHeld ?_
            rotate_left
            · (intro W hSW; (have s0 := hSW.1.cell 0 rfl; have s1 := hSW.1.cell 1 rfl; have s2 := hSW.1.cell 2 rfl; have s3 := hSW.1.cell 3 rfl; have s4 := hSW.1.cell 4 rfl; have s5 := hSW.1.cell 5 rfl; have s6 := hSW.1.2; have s7 := hSW.2.1.cell 0 rfl; have s8 := hSW.2.1.cell 1 rfl; have s9 := hSW.2.1.2); go_simp <;> (try with_reducible rfl))
            refine take_v (v := ?_) 20 ⟨some 56, Op.fieldAddr 34 (Operand.tmp 1) 0, _, _, _, some (16, false)⟩ rfl (fun _ _ _ h => h) ?_ hHeld ?_
            rotate_left
            · (intro W _; go_simp <;> (try with_reducible rfl))
            refine take_v (v := ?_) 21 ⟨some 57, Op.load 3 (Operand.tmp 56), _, _, _, some (16, false)⟩ rfl (fun _ _ _ h => h) ?_ hHeld ?_
            rotate_left
            · (intro W hSW; (have s0 := hSW.1.cell 0 rfl; have s1 := hSW.1.cell 1 rfl; have s2 := hSW.1.cell 2 rfl; have s3 := hSW.1.cell 3 rfl; have s4 := hSW.1.cell 4 rfl; have s5 := hSW.1.cell 5 rfl; have s6 := hSW.1.2; have s7 := hSW.2.1.cell 0 rfl; have s8 := hSW.2.1.cell 1 rfl; have s9 := hSW.2.1.2); go_simp <;> (try with_reducible rfl))
            refine take_v (v := ?_) 22 ⟨some 58, Op.binOp BinOp.gtr 3 (Operand.tmp 55) (Operand.tmp 57) 3, _, _, _, some (16, false)⟩ rfl (fun _ _ _ h => h) ?_ hHeld ?_
            rotate_left
            · (intro W _; go_simp <;> (try with_reducible rfl))
            refine take_v (v := ?_) 23 ⟨some 59, Op.pick (Operand.tmp 52) (Operand.const (Value.bool true)) (Operand.tmp 58), _, _, _, none⟩ rfl (fun _ _ _ h => h) ?_ hHeld ?_
            rotate_left
            · (intro W _; go_simp <;> (try with_reducible rfl))
            refine take_v (v := ?_) 24 ⟨some 60, Op.move (Operand.tmp 59), _, _, _, none⟩ rfl (fun _ _ _ h => h) ?_ hHeld ?_
            rotate_left
            · (intro W _; go_simp <;> (try with_reducible rfl))
            refine take_v (v := ?_) 25 ⟨some 61, Op.fieldAddr 52 (Operand.tmp 4) 2, _, _, _, some (24, false)⟩ rfl (fun _ _ _ h => h) ?_ hHeld ?_
            rotate_left
            · (intro W _; go_simp <;> (try with_reducible rfl))
            refine take_v (v := ?_) 26 ⟨some 62, Op.fieldAddr 50 (Operand.tmp 61) 2, _, _, _, some (24, false)⟩ rfl (fun _ _ _ h => h) ?_ hHeld ?_
            rotate_left
            · (intro W _; go_simp <;> (try with_reducible rfl))
            refine take_v (v := ?_) 27 ⟨some 63, Op.load 4 (Operand.tmp 62), _, _, _, some (24, false)⟩ rfl (fun _ _ _ h => h) ?_ hHeld ?_
            rotate_left
            · (intro W hSW; (have s0 := hSW.1.cell 0 rfl; have s1 := hSW.1.cell 1 rfl; have s2 := hSW.1.cell 2 rfl; have s3 := hSW.1.cell 3 rfl; have s4 := hSW.1.cell 4 rfl; have s5 := hSW.1.cell 5 rfl; have s6 := hSW.1.2; have s7 := hSW.2.1.cell 0 rfl; have s8 := hSW.2.1.cell 1 rfl; have s9 := hSW.2.1.2); go_simp <;> (try with_reducible rfl))
            refine take_v (v := ?_) 28 ⟨some 64, Op.fieldAddr 52 (Operand.tmp 4) 3, _, _, _, some (24, false)⟩ rfl (fun _ _ _ h => h) ?_ hHeld ?_
            rotate_left
            · (intro W _; go_simp <;> (try with_reducible rfl))
            refine take_v (v := ?_) 29 ⟨some 65, Op.load 3 (Operand.tmp 64), _, _, _, some (24, false)⟩ rfl (fun _ _ _ h => h) ?_ hHeld ?_
            rotate_left
            · (intro W hSW; (have s0 := hSW.1.cell 0 rfl; have s1 := hSW.1.cell 1 rfl; have s2 := hSW.1.cell 2 rfl; have s3 := hSW.1.cell 3 rfl; have s4 := hSW.1.cell 4 rfl; have s5 := hSW.1.cell 5 rfl; have s6 := hSW.1.2; have s7 := hSW.2.1.cell 0 rfl; have s8 := hSW.2.1.cell 1 rfl; have s9 := hSW.2.1.2); go_simp <;> (try with_reducible rfl))
            refine take_v (v := ?_) 30 ⟨some 66, Op.binOp BinOp.neq 3 (Operand.tmp 65) (Operand.const (Value.int IntKind.i64 0)) 3, _, _, _, some (24, false)⟩ rfl (fun _ _ _ h => h) ?_ hHeld ?_
            rotate_left
            · (intro W _; go_simp <;> (try with_reducible rfl))
            refine take_v (v := ?_) 31 ⟨some 67, Op.binOp BinOp.neq 4 (Operand.tmp 63) (Operand.tmp 66) 4, _, _, _, some (24, false)⟩ rfl (fun _ _ _ h => h) ?_ hHeld ?_
            rotate_left
            · (intro W _; go_simp <;> (try with_reducible rfl))
            refine take_v (v := ?_) 32 ⟨some 68, Op.pick (Operand.tmp 60) (Operand.const (Value.bool true)) (Operand.tmp 67), _, _, _, none⟩ rfl (fun _ _ _ h => h) ?_ hHeld ?_
            rotate_left
            · (intro W _; go_simp <;> (try with_reducible rfl))
            refine take_v (v := ?_) 33 ⟨some 69, Op.move (Operand.tmp 68), _, _, _, none⟩ rfl (fun _ _ _ h => h) ?_ hHeld ?_
            rotate_left
            · (intro W _; go_simp <;> (try with_reducible rfl))
            refine take_v (v := ?_) 34 ⟨some 70, Op.move (Operand.tmp 3), _, _, _, some (33, false)⟩ rfl (fun _ _ _ h => h) ?_ hHeld ?_
            rotate_left
            · (intro W _; go_simp <;> (try with_reducible rfl))
            refine take_v (v := ?_) 35 ⟨some 71, Op.binOp BinOp.gtr 3 (Operand.tmp 70) (Operand.const (Value.int IntKind.i64 0)) 3, _, _, _, some (33, false)⟩ rfl (fun _ _ _ h => h) ?_ hHeld ?_
            rotate_left
            · (intro W _; go_simp <;> (try with_reducible rfl))
            refine take_v (v := ?_) 36 ⟨some 72, Op.move (Operand.tmp 71), _, _, _, some (33, false)⟩ rfl (fun _ _ _ h => h) ?_ hHeld ?_
            rotate_left
            · (intro W _; go_simp <;> (try with_reducible rfl))
            refine take_n 37 ⟨some 73, Op.fieldAddr 34 (Operand.tmp 1) 1, _, _, _, some (36, true)⟩ rfl (fun _ _ _ h => h) hHeld ?_
            refine take_n 38 ⟨some 74, Op.load 31 (Operand.tmp 73), _, _, _, some (36, true)⟩ rfl (fun _ _ _ h => h) hHeld ?_
            refine take_n 39 ⟨some 75, Op.move (Operand.tmp 3), _, _, _, some (36, true)⟩ rfl (fun _ _ _ h => h) hHeld ?_
            refine take_n 40 ⟨some 76, Op.binOp BinOp.sub 3 (Operand.tmp 75) (Operand.const (Value.int IntKind.i64 1)) 3, _, _, _, some (36, true)⟩ rfl (fun _ _ _ h => h) hHeld ?_
            refine take_n 41 ⟨some 77, Op.indexAddr 31 (Operand.tmp 74) (Operand.tmp 76), _, _, _, some (36, true)⟩ rfl (fun _ _ _ h => h) hHeld ?_
            refine take_n 42 ⟨some 78, Op.fieldAddr 52 (Operand.tmp 77) 0, _, _, _, some (36, true)⟩ rfl (fun _ _ _ h => h) hHeld ?_
            refine take_n 43 ⟨some 79, Op.load 9 (Operand.tmp 78), _, _, _, some (36, true)⟩ rfl (fun _ _ _ h => h) hHeld ?_
            refine take_n 44 ⟨some 80, Op.fieldAddr 52 (Operand.tmp 4) 0, _, _, _, some (36, true)⟩ rfl (fun _ _ _ h => h) hHeld ?_
            refine take_n 45 ⟨some 81, Op.load 9 (Operand.tmp 80), _, _, _, some (36, true)⟩ rfl (fun _ _ _ h => h) hHeld ?_
            refine take_n 46 ⟨some 82, Op.binOp BinOp.geq 9 (Operand.tmp 79) (Operand.tmp 81) 9, _, _, _, some (36, true)⟩ rfl (fun _ _ _ h => h) hHeld ?_
            refine take_v (v := ?_) 47 ⟨some 83, Op.pick (Operand.tmp 72) (Operand.tmp 82) (Operand.const (Value.bool false)), _, _, _, some (33, false)⟩ rfl (fun _ _ _ h => h) ?_ hHeld ?_
            rotate_left
            · (intro W _; go_simp <;> (try with_reducible rfl))
            refine take_v (v := ?_) 48 ⟨some 84, Op.pick (Operand.tmp 69) (Operand.const (Value.bool true)) (Operand.tmp 83), _, _, _, none⟩ rfl (fun _ _ _ h => h) ?_ hHeld ?_
            rotate_left
            · (intro W _; go_simp <;> (try with_reducible rfl))
            refine wpAnyH_done (by kernel_rfl) ?_ _
            refine NoPanic.normal ?_
            have HE := (show Hid (RcH w [.int .i64 S.ep, .slice (some ⟨b, off, none⟩) S.rn rc, .slice ta S.tn tc, .slice oa S.on oc] [.string (S.R k).f0, .string (S.R k).f1, .int .i64 (S.R k).f2, .int .i64 (S.R k).f3, .bool false, .int .i64 (S.R k).f5] wr.heap.size b off S.rn S.R _) from hHeld)
            clear hHeld
            have s5 := HE.out.1.cell 5 rfl
            have s6 := HE.out.1.2
            have HRs : Hid (∀ i, i < k → recP S i) := H1.out.2
            clear H1
            go_wp2
            go_roundw
            case rel => exact ⟨k + 1, by omega, by go_num, upto_succ HRs.out HY.out, HE.out.2.1, HE.out.2.2.1⟩
            case measure => simp [intOf]; omega
          · obtain ⟨q0, hq0⟩ : ∃ q0, q0 = k - 1 := ⟨_, rfl⟩
            have hwq : IntKind.i64.wrap ((k : Int) - 1) = (q0 : Int) := by rw [IntKind.wrap_i64]; omega
            have HQ0 : Hid (k = q0 + 1) := by show k = q0 + 1; omega
            have hk0' : (0 : Int) < (k : Int) := by omega
            have hk0n : decide (0 < k) = true := by simp; omega
            have hqlt : q0 < S.rn := by omega
            have hqlt' : (q0 : Int) < (S.rn : Int) := by omega
            have HC : Hid (riseAt S.R k ↔ Op.bytesLess (S.R q0).f0.toList (S.R k).f0.toList = true) := by
              show _ ↔ _
              have : k - 1 = q0 := by have := HQ0.out; omega
              constructor
              · intro g; have := g (by omega); rwa [‹k - 1 = q0›] at this
              · intro g _; rw [‹k - 1 = q0›]; exact g
            clear hk0 hq0
            cases e3 : Op.bytesLess (S.R q0).f0.toList (S.R k).f0.toList
            · have HN : Hid (goodB S = false) := no_rec hlt (fun g => by rw [HC.out.1 g.2.2] at e3; cases e3)
              go_upto_region 6 with fail
              refine wp_region_noPanic ?_
              refine wp_region_held_drew (S := fun W => RcH w [.int .i64 S.ep, .slice (some ⟨b, off, none⟩) S.rn rc, .slice ta S.tn tc, .slice oa S.on oc] [.string (S.R k).f0, .string (S.R k).f1, .int .i64 (S.R k).f2, .int .i64 (S.R k).f3, .bool false, .int .i64 (S.R k).f5] wr.heap.size b off S.rn S.R W) (by kernel_rfl) H1.out.1 (fun hHeld => ?_)
              refine take_v (v := ?_) 0 ⟨some 36, Op.fieldAddr 52 (Operand.tmp 4) 0, _, _, _, none⟩ rfl (fun _ _ _ h => h) ?_ hHeld ?_
              rotate_left
              · (intro W _; go_simp <;> (try with_reducible rfl))
              refine take_v (v := ?_) 1 ⟨some 37, Op.load 9 (Operand.tmp 36), _, _, _, none⟩ rfl (fun _ _ _ h => h) ?_ hHeld ?_
              rotate_left
              · (intro W hSW; (have s0 := hSW.1.cell 0 rfl; have s1 := hSW.1.cell 1 rfl; have s2 := hSW.1.cell 2 rfl; have s3 := hSW.1.cell 3 rfl; have s4 := hSW.1.cell 4 rfl; have s5 := hSW.1.cell 5 rfl; have s6 := hSW.1.2; have s7 := hSW.2.1.cell 0 rfl; have s8 := hSW.2.1.cell 1 rfl; have s9 := hSW.2.1.2; have sp := (record_cells hSW.2.2.2.1 hqlt).1); go_simp <;> (try with_reducible rfl))
              refine ready_call 2 ⟨some 38, Op.call { callee := Callee.value (Operand.func 50), args := #[Operand.tmp 37], argTypes := #[9] }, _, _, _, none⟩ (by kernel_rfl) rfl (by kernel_rfl) (fun KC hK => ?_)
              go_wp2_with fail
              refine (HK.out _).mono ?_
              rintro r w2 ⟨rfl, rfl⟩
              refine hK.out _ _ hHeld (fun hHeld => ?_)
              clear hK KC
              refine take_v (v := ?_) 3 ⟨some 39, Op.unOp UnOp.not 4 (Operand.tmp 38), _, _, _, none⟩ rfl (fun _ _ _ h => h) ?_ hHeld ?_
              rotate_left
              · (intro W _; go_simp <;> (try with_reducible rfl))
              refine take_v (v := ?_) 4 ⟨some 40, Op.move (Operand.tmp 39), _, _, _, none⟩ rfl (fun _ _ _ h => h) ?_ hHeld ?_
              rotate_left
              · (intro W _; go_simp <;> (try with_reducible rfl))
              refine take_v (v := ?_) 5 ⟨some 41, Op.fieldAddr 52 (Operand.tmp 4) 1, _, _, _, some (4, false)⟩ rfl (fun _ _ _ h => h) ?_ hHeld ?_
              rotate_left
              · (intro W _; go_simp <;> (try with_reducible rfl))
              refine take_v (v := ?_) 6 ⟨some 42, Op.load 9 (Operand.tmp 41), _, _, _, some (4, false)⟩ rfl (fun _ _ _ h => h) ?_ hHeld ?_
              rotate_left
              · (intro W hSW; (have s0 := hSW.1.cell 0 rfl; have s1 := hSW.1.cell 1 rfl; have s2 := hSW.1.cell 2 rfl; have s3 := hSW.1.cell 3 rfl; have s4 := hSW.1.cell 4 rfl; have s5 := hSW.1.cell 5 rfl; have s6 := hSW.1.2; have s7 := hSW.2.1.cell 0 rfl; have s8 := hSW.2.1.cell 1 rfl; have s9 := hSW.2.1.2; have sp := (record_cells hSW.2.2.2.1 hqlt).1); go_simp <;> (try with_reducible rfl))
              refine ready_call 7 ⟨some 43, Op.call { callee := Callee.value (Operand.func 51), args := #[Operand.tmp 42], argTypes := #[9] }, _, _, _, some (4, false)⟩ (by kernel_rfl) rfl (by kernel_rfl) (fun KC hK => ?_)
              go_wp2_with fail
              refine (HL.out _).mono ?_
              rintro r w2 ⟨rfl, rfl⟩
              refine hK.out _ _ hHeld (fun hHeld => ?_)
              clear hK KC
              refine take_v (v := ?_) 8 ⟨some 44, Op.unOp UnOp.not 4 (Operand.tmp 43), _, _, _, some (4, false)⟩ rfl (fun _ _ _ h => h) ?_ hHeld ?_
              rotate_left
              · (intro W _; go_simp <;> (try with_reducible rfl))
              refine take_v (v := ?_) 9 ⟨some 45, Op.pick (Operand.tmp 40) (Operand.const (Value.bool true)) (Operand.tmp 44), _, _, _, none⟩ rfl (fun _ _ _ h => h) ?_ hHeld ?_
              rotate_left
              · (intro W _; go_simp <;> (try with_reducible rfl))
              refine take_v (v := ?_) 10 ⟨some 46, Op.move (Operand.tmp 45), _, _, _, none⟩ rfl (fun _ _ _ h => h) ?_ hHeld ?_
              rotate_left
              · (intro W _; go_simp <;> (try with_reducible rfl))
              refine take_v (v := ?_) 11 ⟨some 47, Op.fieldAddr 52 (Operand.tmp 4) 2, _, _, _, some (10, false)⟩ rfl (fun _ _ _ h => h) ?_ hHeld ?_
              rotate_left
              · (intro W _; go_simp <;> (try with_reducible rfl))
              refine take_v (v := ?_) 12 ⟨some 48, Op.load 50 (Operand.tmp 47), _, _, _, some (10, false)⟩ rfl (fun _ _ _ h => h) ?_ hHeld ?_
              rotate_left
              · (intro W hSW; (have s0 := hSW.1.cell 0 rfl; have s1 := hSW.1.cell 1 rfl; have s2 := hSW.1.cell 2 rfl; have s3 := hSW.1.cell 3 rfl; have s4 := hSW.1.cell 4 rfl; have s5 := hSW.1.cell 5 rfl; have s6 := hSW.1.2; have s7 := hSW.2.1.cell 0 rfl; have s8 := hSW.2.1.cell 1 rfl; have s9 := hSW.2.1.2; have sp := (record_cells hSW.2.2.2.1 hqlt).1); go_simp <;> (try with_reducible rfl))
              refine ready_call 13 ⟨some 49, Op.call { callee := Callee.value (Operand.func 52), args := #[Operand.tmp 48], argTypes := #[50] }, _, _, _, some (10, false)⟩ (by kernel_rfl) rfl (by kernel_rfl) (fun KC hK => ?_)
              go_wp2_with fail
              refine (HTd.out _).mono ?_
              rintro r w2 ⟨rfl, hb⟩
              have h2 := hHeld.next hb
              clear hb
              refine hK.out _ _ h2 (fun hHeld => ?_)
              clear hK KC
              refine take_v (v := ?_) 14 ⟨some 50, Op.unOp UnOp.not 4 (Operand.tmp 49), _, _, _, some (10, false)⟩ rfl (fun _ _ _ h => h) ?_ hHeld ?_
              rotate_left
              · (intro W _; go_simp <;> (try with_reducible rfl))
              refine take_v (v := ?_) 15 ⟨some 51, Op.pick (Operand.tmp 46) (Operand.const (Value.bool true)) (Operand.tmp 50), _, _, _, none⟩ rfl (fun _ _ _ h => h) ?_ hHeld ?_
              rotate_left
              · (intro W _; go_simp <;> (try with_reducible rfl))
              refine take_v (v := ?_) 16 ⟨some 52, Op.move (Operand.tmp 51), _, _, _, none⟩ rfl (fun _ _ _ h => h) ?_ hHeld ?_
              rotate_left
              · (intro W _; go_simp <;> (try with_reducible rfl))
              refine take_v (v := ?_) 17 ⟨some 53, Op.fieldAddr 52 (Operand.tmp 4) 2, _, _, _, some (16, false)⟩ rfl (fun _ _ _ h => h) ?_ hHeld ?_
              rotate_left
              · (intro W _; go_simp <;> (try with_reducible rfl))
              refine take_v (v := ?_) 18 ⟨some 54, Op.fieldAddr 50 (Operand.tmp 53) 0, _, _, _, some (16, false)⟩ rfl (fun _ _ _ h => h) ?_ hHeld ?_
              rotate_left
              · (intro W _; go_simp <;> (try with_reducible rfl))
              refine take_v (v := ?_) 19 ⟨some 55, Op.load 3 (Operand.tmp 54), _, _, _, some (16, false)⟩ rfl (fun _ _ _ h => h) ?_ hHeld ?_
              rotate_left
              · (intro W hSW; (have s0 := hSW.1.cell 0 rfl; have s1 := hSW.1.cell 1 rfl; have s2 := hSW.1.cell 2 rfl; have s3 := hSW.1.cell 3 rfl; have s4 := hSW.1.cell 4 rfl; have s5 := hSW.1.cell 5 rfl; have s6 := hSW.1.2; have s7 := hSW.2.1.cell 0 rfl; have s8 := hSW.2.1.cell 1 rfl; have s9 := hSW.2.1.2; have sp := (record_cells hSW.2.2.2.1 hqlt).1); go_simp <;> (try with_reducible rfl))
              refine take_v (v := ?_) 20 ⟨some 56, Op.fieldAddr 34 (Operand.tmp 1) 0, _, _, _, some (16, false)⟩ rfl (fun _ _ _ h => h) ?_ hHeld ?_
              rotate_left
              · (intro W _; go_simp <;> (try with_reducible rfl))
              refine take_v (v := ?_) 21 ⟨some 57, Op.load 3 (Operand.tmp 56), _, _, _, some (16, false)⟩ rfl (fun _ _ _ h => h) ?_ hHeld ?_
              rotate_left
              · (intro W hSW; (have s0 := hSW.1.cell 0 rfl; have s1 := hSW.1.cell 1 rfl; have s2 := hSW.1.cell 2 rfl; have s3 := hSW.1.cell 3 rfl; have s4 := hSW.1.cell 4 rfl; have s5 := hSW.1.cell 5 rfl; have s6 := hSW.1.2; have s7 := hSW.2.1.cell 0 rfl; have s8 := hSW.2.1.cell 1 rfl; have s9 := hSW.2.1.2; have sp := (record_cells hSW.2.2.2.1 hqlt).1); go_simp <;> (try with_reducible rfl))
              refine take_v (v := ?_) 22 ⟨some 58, Op.binOp BinOp.gtr 3 (Operand.tmp 55) (Operand.tmp 57) 3, _, _, _, some (16, false)⟩ rfl (fun _ _ _ h => h) ?_ hHeld ?_
              rotate_left
              · (intro W _; go_simp <;> (try with_reducible rfl))
              refine take_v (v := ?_) 23 ⟨some 59, Op.pick (Operand.tmp 52) (Operand.const (Value.bool true)) (Operand.tmp 58), _, _, _, none⟩ rfl (fun _ _ _ h => h) ?_ hHeld ?_
              rotate_left
              · (intro W _; go_simp <;> (try with_reducible rfl))
              refine take_v (v := ?_) 24 ⟨some 60, Op.move (Operand.tmp 59), _, _, _, none⟩ rfl (fun _ _ _ h => h) ?_ hHeld ?_
              rotate_left
              · (intro W _; go_simp <;> (try with_reducible rfl))
              refine take_v (v := ?_) 25 ⟨some 61, Op.fieldAddr 52 (Operand.tmp 4) 2, _, _, _, some (24, false)⟩ rfl (fun _ _ _ h => h) ?_ hHeld ?_
              rotate_left
              · (intro W _; go_simp <;> (try with_reducible rfl))
              refine take_v (v := ?_) 26 ⟨some 62, Op.fieldAddr 50 (Operand.tmp 61) 2, _, _, _, some (24, false)⟩ rfl (fun _ _ _ h => h) ?_ hHeld ?_
              rotate_left
              · (intro W _; go_simp <;> (try with_reducible rfl))
              refine take_v (v := ?_) 27 ⟨some 63, Op.load 4 (Operand.tmp 62), _, _, _, some (24, false)⟩ rfl (fun _ _ _ h => h) ?_ hHeld ?_
              rotate_left
              · (intro W hSW; (have s0 := hSW.1.cell 0 rfl; have s1 := hSW.1.cell 1 rfl; have s2 := hSW.1.cell 2 rfl; have s3 := hSW.1.cell 3 rfl; have s4 := hSW.1.cell 4 rfl; have s5 := hSW.1.cell 5 rfl; have s6 := hSW.1.2; have s7 := hSW.2.1.cell 0 rfl; have s8 := hSW.2.1.cell 1 rfl; have s9 := hSW.2.1.2; have sp := (record_cells hSW.2.2.2.1 hqlt).1); go_simp <;> (try with_reducible rfl))
              refine take_v (v := ?_) 28 ⟨some 64, Op.fieldAddr 52 (Operand.tmp 4) 3, _, _, _, some (24, false)⟩ rfl (fun _ _ _ h => h) ?_ hHeld ?_
              rotate_left
              · (intro W _; go_simp <;> (try with_reducible rfl))
              refine take_v (v := ?_) 29 ⟨some 65, Op.load 3 (Operand.tmp 64), _, _, _, some (24, false)⟩ rfl (fun _ _ _ h => h) ?_ hHeld ?_
              rotate_left
              · (intro W hSW; (have s0 := hSW.1.cell 0 rfl; have s1 := hSW.1.cell 1 rfl; have s2 := hSW.1.cell 2 rfl; have s3 := hSW.1.cell 3 rfl; have s4 := hSW.1.cell 4 rfl; have s5 := hSW.1.cell 5 rfl; have s6 := hSW.1.2; have s7 := hSW.2.1.cell 0 rfl; have s8 := hSW.2.1.cell 1 rfl; have s9 := hSW.2.1.2; have sp := (record_cells hSW.2.2.2.1 hqlt).1); go_simp <;> (try with_reducible rfl))
              refine take_v (v := ?_) 30 ⟨some 66, Op.binOp BinOp.neq 3 (Operand.tmp 65) (Operand.const (Value.int IntKind.i64 0)) 3, _, _, _, some (24, false)⟩ rfl (fun _ _ _ h => h) ?_ hHeld ?_
              rotate_left
              · (intro W _; go_simp <;> (try with_reducible rfl))
              refine take_v (v := ?_) 31 ⟨some 67, Op.binOp BinOp.neq 4 (Operand.tmp 63) (Operand.tmp 66) 4, _, _, _, some (24, false)⟩ rfl (fun _ _ _ h => h) ?_ hHeld ?_
              rotate_left
              · (intro W _; go_simp <;> (try with_reducible rfl))
              refine take_v (v := ?_) 32 ⟨some 68, Op.pick (Operand.tmp 60) (Operand.const (Value.bool true)) (Operand.tmp 67), _, _, _, none⟩ rfl (fun _ _ _ h => h) ?_ hHeld ?_
              rotate_left
              · (intro W _; go_simp <;> (try with_reducible rfl))
              refine take_v (v := ?_) 33 ⟨some 69, Op.move (Operand.tmp 68), _, _, _, none⟩ rfl (fun _ _ _ h => h) ?_ hHeld ?_
              rotate_left
              · (intro W _; go_simp <;> (try with_reducible rfl))
              refine take_v (v := ?_) 34 ⟨some 70, Op.move (Operand.tmp 3), _, _, _, some (33, false)⟩ rfl (fun _ _ _ h => h) ?_ hHeld ?_
              rotate_left
              · (intro W _; go_simp <;> (try with_reducible rfl))
              refine take_v (v := ?_) 35 ⟨some 71, Op.binOp BinOp.gtr 3 (Operand.tmp 70) (Operand.const (Value.int IntKind.i64 0)) 3, _, _, _, some (33, false)⟩ rfl (fun _ _ _ h => h) ?_ hHeld ?_
              rotate_left
              · (intro W _; go_simp <;> (try with_reducible rfl))
              refine take_v (v := ?_) 36 ⟨some 72, Op.move (Operand.tmp 71), _, _, _, some (33, false)⟩ rfl (fun _ _ _ h => h) ?_ hHeld ?_
              rotate_left
              · (intro W _; go_simp <;> (try with_reducible rfl))
              refine take_v (v := ?_) 37 ⟨some 73, Op.fieldAddr 34 (Operand.tmp 1) 1, _, _, _, some (36, true)⟩ rfl (fun _ _ _ h => h) ?_ hHeld ?_
              rotate_left
              · (intro W _; go_simp <;> (try with_reducible rfl))
              refine take_v (v := ?_) 38 ⟨some 74, Op.load 31 (Operand.tmp 73), _, _, _, some (36, true)⟩ rfl (fun _ _ _ h => h) ?_ hHeld ?_
              rotate_left
              · (intro W hSW; (have s0 := hSW.1.cell 0 rfl; have s1 := hSW.1.cell 1 rfl; have s2 := hSW.1.cell 2 rfl; have s3 := hSW.1.cell 3 rfl; have s4 := hSW.1.cell 4 rfl; have s5 := hSW.1.cell 5 rfl; have s6 := hSW.1.2; have s7 := hSW.2.1.cell 0 rfl; have s8 := hSW.2.1.cell 1 rfl; have s9 := hSW.2.1.2; have sp := (record_cells hSW.2.2.2.1 hqlt).1); go_simp <;> (try with_reducible rfl))
              refine take_v (v := ?_) 39 ⟨some 75, Op.move (Operand.tmp 3), _, _, _, some (36, true)⟩ rfl (fun _ _ _ h => h) ?_ hHeld ?_
              rotate_left
              · (intro W _; go_simp <;> (try with_reducible rfl))
              refine take_v (v := ?_) 40 ⟨some 76, Op.binOp BinOp.sub 3 (Operand.tmp 75) (Operand.const (Value.int IntKind.i64 1)) 3, _, _, _, some (36, true)⟩ rfl (fun _ _ _ h => h) ?_ hHeld ?_
              rotate_left
              · (intro W _; go_simp <;> (try with_reducible rfl))
              refine take_v (v := ?_) 41 ⟨some 77, Op.indexAddr 31 (Operand.tmp 74) (Operand.tmp 76), _, _, _, some (36, true)⟩ rfl (fun _ _ _ h => h) ?_ hHeld ?_
              rotate_left
              · (intro W _; go_simp <;> (try with_reducible rfl))
              refine take_v (v := ?_) 42 ⟨some 78, Op.fieldAddr 52 (Operand.tmp 77) 0, _, _, _, some (36, true)⟩ rfl (fun _ _ _ h => h) ?_ hHeld ?_
              rotate_left
              · (intro W _; go_simp <;> (try with_reducible rfl))
              refine take_v (v := ?_) 43 ⟨some 79, Op.load 9 (Operand.tmp 78), _, _, _, some (36, true)⟩ rfl (fun _ _ _ h => h) ?_ hHeld ?_
              rotate_left
              · (intro W hSW; (have s0 := hSW.1.cell 0 rfl; have s1 := hSW.1.cell 1 rfl; have s2 := hSW.1.cell 2 rfl; have s3 := hSW.1.cell 3 rfl; have s4 := hSW.1.cell 4 rfl; have s5 := hSW.1.cell 5 rfl; have s6 := hSW.1.2; have s7 := hSW.2.1.cell 0 rfl; have s8 := hSW.2.1.cell 1 rfl; have s9 := hSW.2.1.2; have sp := (record_cells hSW.2.2.2.1 hqlt).1); go_simp <;> (try with_reducible rfl))
              refine take_v (v := ?_) 44 ⟨some 80, Op.fieldAddr 52 (Operand.tmp 4) 0, _, _, _, some (36, true)⟩ rfl (fun _ _ _ h => h) ?_ hHeld ?_
              rotate_left
              · (intro W _; go_simp <;> (try with_reducible rfl))
              refine take_v (v := ?_) 45 ⟨some 81, Op.load 9 (Operand.tmp 80), _, _, _, some (36, true)⟩ rfl (fun _ _ _ h => h) ?_ hHeld ?_
              rotate_left
              · (intro W hSW; (have s0 := hSW.1.cell 0 rfl; have s1 := hSW.1.cell 1 rfl; have s2 := hSW.1.cell 2 rfl; have s3 := hSW.1.cell 3 rfl; have s4 := hSW.1.cell 4 rfl; have s5 := hSW.1.cell 5 rfl; have s6 := hSW.1.2; have s7 := hSW.2.1.cell 0 rfl; have s8 := hSW.2.1.cell 1 rfl; have s9 := hSW.2.1.2; have sp := (record_cells hSW.2.2.2.1 hqlt).1); go_simp <;> (try with_reducible rfl))
              refine take_v (v := ?_) 46 ⟨some 82, Op.binOp BinOp.geq 9 (Operand.tmp 79) (Operand.tmp 81) 9, _, _, _, some (36, true)⟩ rfl (fun _ _ _ h => h) ?_ hHeld ?_
              rotate_left
              · (intro W _; go_simp <;> (try with_reducible rfl))
              refine take_v (v := ?_) 47 ⟨some 83, Op.pick (Operand.tmp 72) (Operand.tmp 82) (Operand.const (Value.bool false)), _, _, _, some (33, false)⟩ rfl (fun _ _ _ h => h) ?_ hHeld ?_
              rotate_left
              · (intro W _; go_simp <;> (try with_reducible rfl))
              refine take_v (v := ?_) 48 ⟨some 84, Op.pick (Operand.tmp 69) (Operand.const (Value.bool true)) (Operand.tmp 83), _, _, _, none⟩ rfl (fun _ _ _ h => h) ?_ hHeld ?_
              rotate_left
              · (intro W _; go_simp <;> (try with_reducible rfl))
              refine wpAnyH_done (by kernel_rfl) ?_ _
              refine NoPanic.normal ?_
              have HE := (show Hid _ from hHeld)
              clear hHeld
              go_wp2
              go_ret
              exact ⟨ret_bool HN.out.symm, HE.out.2.2.1⟩
            · have HRi : Hid (riseAt S.R k) := HC.out.2 e3
              have HY : Hid (recP S k) := ⟨e0, Or.inl ⟨H5.out, e4⟩, HRi.out⟩
              go_upto_region 6 with fail
              refine wp_region_noPanic ?_
              refine wp_region_held_drew (S := fun W => RcH w [.int .i64 S.ep, .slice (some ⟨b, off, none⟩) S.rn rc, .slice ta S.tn tc, .slice oa S.on oc] [.string (S.R k).f0, .string (S.R k).f1, .int .i64 (S.R k).f2, .int .i64 (S.R k).f3, .bool false, .int .i64 (S.R k).f5] wr.heap.size b off S.rn S.R W) (by kernel_rfl) H1.out.1 (fun hHeld => ?_)
              refine take_v (v := ?_) 0 ⟨some 36, Op.fieldAddr 52 (Operand.tmp 4) 0, _, _, _, none⟩ rfl (fun _ _ _ h => h) ?_ hHeld ?_
              rotate_left
              · (intro W _; go_simp <;> (try with_reducible rfl))
              refine take_v (v := ?_) 1 ⟨some 37, Op.load 9 (Operand.tmp 36), _, _, _, none⟩ rfl (fun _ _ _ h => h) ?_ hHeld ?_
              rotate_left
              · (intro W hSW; (have s0 := hSW.1.cell 0 rfl; have s1 := hSW.1.cell 1 rfl; have s2 := hSW.1.cell 2 rfl; have s3 := hSW.1.cell 3 rfl; have s4 := hSW.1.cell 4 rfl; have s5 := hSW.1.cell 5 rfl; have s6 := hSW.1.2; have s7 := hSW.2.1.cell 0 rfl; have s8 := hSW.2.1.cell 1 rfl; have s9 := hSW.2.1.2; have sp := (record_cells hSW.2.2.2.1 hqlt).1); go_simp <;> (try with_reducible rfl))
              refine ready_call 2 ⟨some 38, Op.call { callee := Callee.value (Operand.func 50), args := #[Operand.tmp 37], argTypes := #[9] }, _, _, _, none⟩ (by kernel_rfl) rfl (by kernel_rfl) (fun KC hK => ?_)
              go_wp2_with fail
              refine (HK.out _).mono ?_
              rintro r w2 ⟨rfl, rfl⟩
              refine hK.out _ _ hHeld (fun hHeld => ?_)
              clear hK KC
              refine take_v (v := ?_) 3 ⟨some 39, Op.unOp UnOp.not 4 (Operand.tmp 38), _, _, _, none⟩ rfl (fun _ _ _ h => h) ?_ hHeld ?_
              rotate_left
              · (intro W _; go_simp <;> (try with_reducible rfl))
              refine take_v (v := ?_) 4 ⟨some 40, Op.move (Operand.tmp 39), _, _, _, none⟩ rfl (fun _ _ _ h => h) ?_ hHeld ?_
              rotate_left
              · (intro W _; go_simp <;> (try with_reducible rfl))
              refine take_v (v := ?_) 5 ⟨some 41, Op.fieldAddr 52 (Operand.tmp 4) 1, _, _, _, some (4, false)⟩ rfl (fun _ _ _ h => h) ?_ hHeld ?_
              rotate_left
              · (intro W _; go_simp <;> (try with_reducible rfl))
              refine take_v (v := ?_) 6 ⟨some 42, Op.load 9 (Operand.tmp 41), _, _, _, some (4, false)⟩ rfl (fun _ _ _ h => h) ?_ hHeld ?_
              rotate_left
              · (intro W hSW; (have s0 := hSW.1.cell 0 rfl; have s1 := hSW.1.cell 1 rfl; have s2 := hSW.1.cell 2 rfl; have s3 := hSW.1.cell 3 rfl; have s4 := hSW.1.cell 4 rfl; have s5 := hSW.1.cell 5 rfl; have s6 := hSW.1.2; have s7 := hSW.2.1.cell 0 rfl; have s8 := hSW.2.1.cell 1 rfl; have s9 := hSW.2.1.2; have sp := (record_cells hSW.2.2.2.1 hqlt).1); go_simp <;> (try with_reducible rfl))
              refine ready_call 7 ⟨some 43, Op.call { callee := Callee.value (Operand.func 51), args := #[Operand.tmp 42], argTypes := #[9] }, _, _, _, some (4, false)⟩ (by kernel_rfl) rfl (by kernel_rfl) (fun KC hK => ?_)
              go_wp2_with fail
              refine (HL.out _).mono ?_
              rintro r w2 ⟨rfl, rfl⟩
              refine hK.out _ _ hHeld (fun hHeld => ?_)
              clear hK KC
              refine take_v (v := ?_) 8 ⟨some 44, Op.unOp UnOp.not 4 (Operand.tmp 43), _, _, _, some (4, false)⟩ rfl (fun _ _ _ h => h) ?_ hHeld ?_
              rotate_left
              · (intro W _; go_simp <;> (try with_reducible rfl))
              refine take_v (v := ?_) 9 ⟨some 45, Op.pick (Operand.tmp 40) (Operand.const (Value.bool true)) (Operand.tmp 44), _, _, _, none⟩ rfl (fun _ _ _ h => h) ?_ hHeld ?_
              rotate_left
              · (intro W _; go_simp <;> (try with_reducible rfl))
              refine take_v (v := ?_) 10 ⟨some 46, Op.move (Operand.tmp 45), _, _, _, none⟩ rfl (fun _ _ _ h => h) ?_ hHeld ?_
              rotate_left
              · (intro W _; go_simp <;> (try with_reducible rfl))
              refine take_v (v := ?_) 11 ⟨some 47, Op.fieldAddr 52 (Operand.tmp 4) 2, _, _, _, some (10, false)⟩ rfl (fun _ _ _ h => h) ?_ hHeld ?_
              rotate_left
              · (intro W _; go_simp <;> (try with_reducible rfl))
              refine take_v (v := ?_) 12 ⟨some 48, Op.load 50 (Operand.tmp 47), _, _, _, some (10, false)⟩ rfl (fun _ _ _ h => h) ?_ hHeld ?_
              rotate_left
              · (intro W hSW; (have s0 := hSW.1.cell 0 rfl; have s1 := hSW.1.cell 1 rfl; have s2 := hSW.1.cell 2 rfl; have s3 := hSW.1.cell 3 rfl; have s4 := hSW.1.cell 4 rfl; have s5 := hSW.1.cell 5 rfl; have s6 := hSW.1.2; have s7 := hSW.2.1.cell 0 rfl; have s8 := hSW.2.1.cell 1 rfl; have s9 := hSW.2.1.2; have sp := (record_cells hSW.2.2.2.1 hqlt).1); go_simp <;> (try with_reducible rfl))
              refine ready_call 13 ⟨some 49, Op.call { callee := Callee.value (Operand.func 52), args := #[Operand.tmp 48], argTypes := #[50] }, _, _, _, some (10, false)⟩ (by kernel_rfl) rfl (by kernel_rfl) (fun KC hK => ?_)
              go_wp2_with fail
              refine (HTd.out _).mono ?_
              rintro r w2 ⟨rfl, hb⟩
              have h2 := hHeld.next hb
              clear hb
              refine hK.out _ _ h2 (fun hHeld => ?_)
              clear hK KC
              refine take_v (v := ?_) 14 ⟨some 50, Op.unOp UnOp.not 4 (Operand.tmp 49), _, _, _, some (10, false)⟩ rfl (fun _ _ _ h => h) ?_ hHeld ?_
              rotate_left
              · (intro W _; go_simp <;> (try with_reducible rfl))
              refine take_v (v := ?_) 15 ⟨some 51, Op.pick (Operand.tmp 46) (Operand.const (Value.bool true)) (Operand.tmp 50), _, _, _, none⟩ rfl (fun _ _ _ h => h) ?_ hHeld ?_
              rotate_left
              · (intro W _; go_simp <;> (try with_reducible rfl))
              refine take_v (v := ?_) 16 ⟨some 52, Op.move (Operand.tmp 51), _, _, _, none⟩ rfl (fun _ _ _ h => h) ?_ hHeld ?_
              rotate_left
              · (intro W _; go_simp <;> (try with_reducible rfl))
              refine take_v (v := ?_) 17 ⟨some 53, Op.fieldAddr 52 (Operand.tmp 4) 2, _, _, _, some (16, false)⟩ rfl (fun _ _ _ h => h) ?_ hHeld ?_
              rotate_left
              · (intro W _; go_simp <;> (try with_reducible rfl))
              refine take_v (v := ?_) 18 ⟨some 54, Op.fieldAddr 50 (Operand.tmp 53) 0, _, _, _, some (16, false)⟩ rfl (fun _ _ _ h => h) ?_ hHeld ?_
              rotate_left
              · (intro W _; go_simp <;> (try with_reducible rfl))
              refine take_v (v := ?_) 19 ⟨some 55, Op.load 3 (Operand.tmp 54), _, _, _, some (16, false)⟩ rfl (fun _ _ _ h => h) ?_ hHeld ?_
              rotate_left
              · (intro W hSW; (have s0 := hSW.1.cell 0 rfl; have s1 := hSW.1.cell 1 rfl; have s2 := hSW.1.cell 2 rfl; have s3 := hSW.1.cell 3 rfl; have s4 := hSW.1.cell 4 rfl; have s5 := hSW.1.cell 5 rfl; have s6 := hSW.1.2; have s7 := hSW.2.1.cell 0 rfl; have s8 := hSW.2.1.cell 1 rfl; have s9 := hSW.2.1.2; have sp := (record_cells hSW.2.2.2.1 hqlt).1); go_simp <;> (try with_reducible rfl))
              refine take_v (v := ?_) 20 ⟨some 56, Op.fieldAddr 34 (Operand.tmp 1) 0, _, _, _, some (16, false)⟩ rfl (fun _ _ _ h => h) ?_ hHeld ?_
              rotate_left
              · (intro W _; go_simp <;> (try with_reducible rfl))
              refine take_v (v := ?_) 21 ⟨some 57, Op.load 3 (Operand.tmp 56), _, _, _, some (16, false)⟩ rfl (fun _ _ _ h => h) ?_ hHeld ?_
              rotate_left
              · (intro W hSW; (have s0 := hSW.1.cell 0 rfl; have s1 := hSW.1.cell 1 rfl; have s2 := hSW.1.cell 2 rfl; have s3 := hSW.1.cell 3 rfl; have s4 := hSW.1.cell 4 rfl; have s5 := hSW.1.cell 5 rfl; have s6 := hSW.1.2; have s7 := hSW.2.1.cell 0 rfl; have s8 := hSW.2.1.cell 1 rfl; have s9 := hSW.2.1.2; have sp := (record_cells hSW.2.2.2.1 hqlt).1); go_simp <;> (try with_reducible rfl))
              refine take_v (v := ?_) 22 ⟨some 58, Op.binOp BinOp.gtr 3 (Operand.tmp 55) (Operand.tmp 57) 3, _, _, _, some (16, false)⟩ rfl (fun _ _ _ h => h) ?_ hHeld ?_
              rotate_left
              · (intro W _; go_simp <;> (try with_reducible rfl))
              refine take_v (v := ?_) 23 ⟨some 59, Op.pick (Operand.tmp 52) (Operand.const (Value.bool true)) (Operand.tmp 58), _, _, _, none⟩ rfl (fun _ _ _ h => h) ?_ hHeld ?_
              rotate_left
              · (intro W _; go_simp <;> (try with_reducible rfl))
              refine take_v (v := ?_) 24 ⟨some 60, Op.move (Operand.tmp 59), _, _, _, none⟩ rfl (fun _ _ _ h => h) ?_ hHeld ?_
              rotate_left
              · (intro W _; go_simp <;> (try with_reducible rfl))
              refine take_v (v := ?_) 25 ⟨some 61, Op.fieldAddr 52 (Operand.tmp 4) 2, _, _, _, some (24, false)⟩ rfl (fun _ _ _ h => h) ?_ hHeld ?_
              rotate_left
              · (intro W _; go_simp <;> (try with_reducible rfl))
              refine take_v (v := ?_) 26 ⟨some 62, Op.fieldAddr 50 (Operand.tmp 61) 2, _, _, _, some (24, false)⟩ rfl (fun _ _ _ h => h) ?_ hHeld ?_
              rotate_left
              · (intro W _; go_simp <;> (try with_reducible rfl))
              refine take_v (v := ?_) 27 ⟨some 63, Op.load 4 (Operand.tmp 62), _, _, _, some (24, false)⟩ rfl (fun _ _ _ h => h) ?_ hHeld ?_
              rotate_left
              · (intro W hSW; (have s0 := hSW.1.cell 0 rfl; have s1 := hSW.1.cell 1 rfl; have s2 := hSW.1.cell 2 rfl; have s3 := hSW.1.cell 3 rfl; have s4 := hSW.1.cell 4 rfl; have s5 := hSW.1.cell 5 rfl; have s6 := hSW.1.2; have s7 := hSW.2.1.cell 0 rfl; have s8 := hSW.2.1.cell 1 rfl; have s9 := hSW.2.1.2; have sp := (record_cells hSW.2.2.2.1 hqlt).1); go_simp <;> (try with_reducible rfl))
              refine take_v (v := ?_) 28 ⟨some 64, Op.fieldAddr 52 (Operand.tmp 4) 3, _, _, _, some (24, false)⟩ rfl (fun _ _ _ h => h) ?_ hHeld ?_
              rotate_left
              · (intro W _; go_simp <;> (try with_reducible rfl))
              refine take_v (v := ?_) 29 ⟨some 65, Op.load 3 (Operand.tmp 64), _, _, _, some (24, false)⟩ rfl (fun _ _ _ h => h) ?_ hHeld ?_
              rotate_left
              · (intro W hSW; (have s0 := hSW.1.cell 0 rfl; have s1 := hSW.1.cell 1 rfl; have s2 := hSW.1.cell 2 rfl; have s3 := hSW.1.cell 3 rfl; have s4 := hSW.1.cell 4 rfl; have s5 := hSW.1.cell 5 rfl; have s6 := hSW.1.2; have s7 := hSW.2.1.cell 0 rfl; have s8 := hSW.2.1.cell 1 rfl; have s9 := hSW.2.1.2; have sp := (record_cells hSW.2.2.2.1 hqlt).1); go_simp <;> (try with_reducible rfl))
              refine take_v (v := ?_) 30 ⟨some 66, Op.binOp BinOp.neq 3 (Operand.tmp 65) (Operand.const (Value.int IntKind.i64 0)) 3, _, _, _, some (24, false)⟩ rfl (fun _ _ _ h => h) ?_ hHeld ?_
              rotate_left
              · (intro W _; go_simp <;> (try with_reducible rfl))
              refine take_v (v := ?_) 31 ⟨some 67, Op.binOp BinOp.neq 4 (Operand.tmp 63) (Operand.tmp 66) 4, _, _, _, some (24, false)⟩ rfl (fun _ _ _ h => h) ?_ hHeld ?_
              rotate_left
              · (intro W _; go_simp <;> (try with_reducible rfl))
              refine take_v (v := ?_) 32 ⟨some 68, Op.pick (Operand.tmp 60) (Operand.const (Value.bool true)) (Operand.tmp 67), _, _, _, none⟩ rfl (fun _ _ _ h => h) ?_ hHeld ?_
              rotate_left
              · (intro W _; go_simp <;> (try with_reducible rfl))
              refine take_v (v := ?_) 33 ⟨some 69, Op.move (Operand.tmp 68), _, _, _, none⟩ rfl (fun _ _ _ h => h) ?_ hHeld ?_
              rotate_left
              · (intro W _; go_simp <;> (try with_reducible rfl))
              refine take_v (v := ?_) 34 ⟨some 70, Op.move (Operand.tmp 3), _, _, _, some (33, false)⟩ rfl (fun _ _ _ h => h) ?_ hHeld ?_
              rotate_left
              · (intro W _; go_simp <;> (try with_reducible rfl))
              refine take_v (v := ?_) 35 ⟨some 71, Op.binOp BinOp.gtr 3 (Operand.tmp 70) (Operand.const (Value.int IntKind.i64 0)) 3, _, _, _, some (33, false)⟩ rfl (fun _ _ _ h => h) ?_ hHeld ?_
              rotate_left
              · (intro W _; go_simp <;> (try with_reducible rfl))
              refine take_v (v := ?_) 36 ⟨some 72, Op.move (Operand.tmp 71), _, _, _, some (33, false)⟩ rfl (fun _ _ _ h => h) ?_ hHeld ?_
              rotate_left
              · (intro W _; go_simp <;> (try with_reducible rfl))
              refine take_v (v := ?_) 37 ⟨some 73, Op.fieldAddr 34 (Operand.tmp 1) 1, _, _, _, some (36, true)⟩ rfl (fun _ _ _ h => h) ?_ hHeld ?_
              rotate_left
              · (intro W _; go_simp <;> (try with_reducible rfl))
              refine take_v (v := ?_) 38 ⟨some 74, Op.load 31 (Operand.tmp 73), _, _, _, some (36, true)⟩ rfl (fun _ _ _ h => h) ?_ hHeld ?_
              rotate_left
              · (intro W hSW; (have s0 := hSW.1.cell 0 rfl; have s1 := hSW.1.cell 1 rfl; have s2 := hSW.1.cell 2 rfl; have s3 := hSW.1.cell 3 rfl; have s4 := hSW.1.cell 4 rfl; have s5 := hSW.1.cell 5 rfl; have s6 := hSW.1.2; have s7 := hSW.2.1.cell 0 rfl; have s8 := hSW.2.1.cell 1 rfl; have s9 := hSW.2.1.2; have sp := (record_cells hSW.2.2.2.1 hqlt).1); go_simp <;> (try with_reducible rfl))
              refine take_v (v := ?_) 39 ⟨some 75, Op.move (Operand.tmp 3), _, _, _, some (36, true)⟩ rfl (fun _ _ _ h => h) ?_ hHeld ?_
              rotate_left
              · (intro W _; go_simp <;> (try with_reducible rfl))
              refine take_v (v := ?_) 40 ⟨some 76, Op.binOp BinOp.sub 3 (Operand.tmp 75) (Operand.const (Value.int IntKind.i64 1)) 3, _, _, _, some (36, true)⟩ rfl (fun _ _ _ h => h) ?_ hHeld ?_
              rotate_left
              · (intro W _; go_simp <;> (try with_reducible rfl))
              refine take_v (v := ?_) 41 ⟨some 77, Op.indexAddr 31 (Operand.tmp 74) (Operand.tmp 76), _, _, _, some (36, true)⟩ rfl (fun _ _ _ h => h) ?_ hHeld ?_
              rotate_left
              · (intro W _; go_simp <;> (try with_reducible rfl))
              refine take_v (v := ?_) 42 ⟨some 78, Op.fieldAddr 52 (Operand.tmp 77) 0, _, _, _, some (36, true)⟩ rfl (fun _ _ _ h => h) ?_ hHeld ?_
              rotate_left
              · (intro W _; go_simp <;> (try with_reducible rfl))
              refine take_v (v := ?_) 43 ⟨some 79, Op.load 9 (Operand.tmp 78), _, _, _, some (36, true)⟩ rfl (fun _ _ _ h => h) ?_ hHeld ?_
              rotate_left
              · (intro W hSW; (have s0 := hSW.1.cell 0 rfl; have s1 := hSW.1.cell 1 rfl; have s2 := hSW.1.cell 2 rfl; have s3 := hSW.1.cell 3 rfl; have s4 := hSW.1.cell 4 rfl; have s5 := hSW.1.cell 5 rfl; have s6 := hSW.1.2; have s7 := hSW.2.1.cell 0 rfl; have s8 := hSW.2.1.cell 1 rfl; have s9 := hSW.2.1.2; have sp := (record_cells hSW.2.2.2.1 hqlt).1); go_simp <;> (try with_reducible rfl))
              refine take_v (v := ?_) 44 ⟨some 80, Op.fieldAddr 52 (Operand.tmp 4) 0, _, _, _, some (36, true)⟩ rfl (fun _ _ _ h => h) ?_ hHeld ?_
              rotate_left
              · (intro W _; go_simp <;> (try with_reducible rfl))
              refine take_v (v := ?_) 45 ⟨some 81, Op.load 9 (Operand.tmp 80), _, _, _, some (36, true)⟩ rfl (fun _ _ _ h => h) ?_ hHeld ?_
              rotate_left
              · (intro W hSW; (have s0 := hSW.1.cell 0 rfl; have s1 := hSW.1.cell 1 rfl; have s2 := hSW.1.cell 2 rfl; have s3 := hSW.1.cell 3 rfl; have s4 := hSW.1.cell 4 rfl; have s5 := hSW.1.cell 5 rfl; have s6 := hSW.1.2; have s7 := hSW.2.1.cell 0 rfl; have s8 := hSW.2.1.cell 1 rfl; have s9 := hSW.2.1.2; have sp := (record_cells hSW.2.2.2.1 hqlt).1); go_simp <;> (try with_reducible rfl))
              refine take_v (v := ?_) 46 ⟨some 82, Op.binOp BinOp.geq 9 (Operand.tmp 79) (Operand.tmp 81) 9, _, _, _, some (36, true)⟩ rfl (fun _ _ _ h => h) ?_ hHeld ?_
              rotate_left
              · (intro W _; go_simp <;> (try with_reducible rfl))
              refine take_v (v := ?_) 47 ⟨some 83, Op.pick (Operand.tmp 72) (Operand.tmp 82) (Operand.const (Value.bool false)), _, _, _, some (33, false)⟩ rfl (fun _ _ _ h => h) ?_ hHeld ?_
              rotate_left
              · (intro W _; go_simp <;> (try with_reducible rfl))
              refine take_v (v := ?_) 48 ⟨some 84, Op.pick (Operand.tmp 69) (Operand.const (Value.bool true)) (Operand.tmp 83), _, _, _, none⟩ rfl (fun _ _ _ h => h) ?_ hHeld ?_
              rotate_left
              · (intro W _; go_simp <;> (try with_reducible rfl))
              refine wpAnyH_done (by kernel_rfl) ?_ _
              refine NoPanic.normal ?_
              clear hwq
              have HE := (show Hid (RcH w [.int .i64 S.ep, .slice (some ⟨b, off, none⟩) S.rn rc, .slice ta S.tn tc, .slice oa S.on oc] [.string (S.R k).f0, .string (S.R k).f1, .int .i64 (S.R k).f2, .int .i64 (S.R k).f3, .bool false, .int .i64 (S.R k).f5] wr.heap.size b off S.rn S.R _) from hHeld)
              clear hHeld
              have s5 := HE.out.1.cell 5 rfl
              have s6 := HE.out.1.2
              have HRs : Hid (∀ i, i < k → recP S i) := H1.out.2
              clear H1
              go_wp2
              go_roundw
              case rel => exact ⟨k + 1, by omega, by go_num, upto_succ HRs.out HY.out, HE.out.2.1, HE.out.2.2.1⟩
              case measure => simp [intOf]; omega
        · have HN : Hid (goodB S = false) := no_rec hlt fun g => by
            rcases g.2.1 with ⟨_, g⟩ | ⟨g, _, _⟩
            · rw [e4] at g; cases g
            · exact g H5.out
          have HTd : Hid (∀ W, Calls Tryz.prog 52 #[.agg #[.int .i64 (S.R k).f2, .int .i64 (S.R k).f3, .bool true]] W fun r w' => r = .returned (.bool true) ∧ Below W.heap.size W w') := fun W => by have := l1Tid_any (S.R k).f2 (S.R k).f3 true W; rw [eT] at this; exact this
          rw [e4] at H1 c4
          go_upto_region 6 with fail
          refine wp_region_noPanic ?_
          refine wp_region_held_drew (S := fun W => RcH w [.int .i64 S.ep, .slice (some ⟨b, off, none⟩) S.rn rc, .slice ta S.tn tc, .slice oa S.on oc] [.string (S.R k).f0, .string (S.R k).f1, .int .i64 (S.R k).f2, .int .i64 (S.R k).f3, .bool true, .int .i64 (S.R k).f5] wr.heap.size b off S.rn S.R W) (by kernel_rfl) H1.out.1 (fun hHeld => ?_)
          refine take_v (v := ?_) 0 ⟨some 36, Op.fieldAddr 52 (Operand.tmp 4) 0, _, _, _, none⟩ rfl (fun _ _ _ h => h) ?_ hHeld ?_
          rotate_left
          · (intro W _; go_simp <;> (try with_reducible rfl))
          refine take_v (v := ?_) 1 ⟨some 37, Op.load 9 (Operand.tmp 36), _, _, _, none⟩ rfl (fun _ _ _ h => h) ?_ hHeld ?_
          rotate_left
          · (intro W hSW; (have s0 := hSW.1.cell 0 rfl; have s1 := hSW.1.cell 1 rfl; have s2 := hSW.1.cell 2 rfl; have s3 := hSW.1.cell 3 rfl; have s4 := hSW.1.cell 4 rfl; have s5 := hSW.1.cell 5 rfl; have s6 := hSW.1.2; have s7 := hSW.2.1.cell 0 rfl; have s8 := hSW.2.1.cell 1 rfl; have s9 := hSW.2.1.2); go_simp <;> (try with_reducible rfl))
          refine ready_call 2 ⟨some 38, Op.call { callee := Callee.value (Operand.func 50), args := #[Operand.tmp 37], argTypes := #[9] }, _, _, _, none⟩ (by kernel_rfl) rfl (by kernel_rfl) (fun KC hK => ?_)
          go_wp2_with fail
          refine (HK.out _).mono ?_
          rintro r w2 ⟨rfl, rfl⟩
          refine hK.out _ _ hHeld (fun hHeld => ?_)
          clear hK KC
          refine take_v (v := ?_) 3 ⟨some 39, Op.unOp UnOp.not 4 (Operand.tmp 38), _, _, _, none⟩ rfl (fun _ _ _ h => h) ?_ hHeld ?_
          rotate_left
          · (intro W _; go_simp <;> (try with_reducible rfl))
          refine take_v (v := ?_) 4 ⟨some 40, Op.move (Operand.tmp 39), _, _, _, none⟩ rfl (fun _ _ _ h => h) ?_ hHeld ?_
          rotate_left
          · (intro W _; go_simp <;> (try with_reducible rfl))
          refine take_v (v := ?_) 5 ⟨some 41, Op.fieldAddr 52 (Operand.tmp 4) 1, _, _, _, some (4, false)⟩ rfl (fun _ _ _ h => h) ?_ hHeld ?_
          rotate_left
          · (intro W _; go_simp <;> (try with_reducible rfl))
          refine take_v (v := ?_) 6 ⟨some 42, Op.load 9 (Operand.tmp 41), _, _, _, some (4, false)⟩ rfl (fun _ _ _ h => h) ?_ hHeld ?_
          rotate_left
          · (intro W hSW; (have s0 := hSW.1.cell 0 rfl; have s1 := hSW.1.cell 1 rfl; have s2 := hSW.1.cell 2 rfl; have s3 := hSW.1.cell 3 rfl; have s4 := hSW.1.cell 4 rfl; have s5 := hSW.1.cell 5 rfl; have s6 := hSW.1.2; have s7 := hSW.2.1.cell 0 rfl; have s8 := hSW.2.1.cell 1 rfl; have s9 := hSW.2.1.2); go_simp <;> (try with_reducible rfl))
          refine ready_call 7 ⟨some 43, Op.call { callee := Callee.value (Operand.func 51), args := #[Operand.tmp 42], argTypes := #[9] }, _, _, _, some (4, false)⟩ (by kernel_rfl) rfl (by kernel_rfl) (fun KC hK => ?_)
          go_wp2_with fail
          refine (HL.out _).mono ?_
          rintro r w2 ⟨rfl, rfl⟩
          refine hK.out _ _ hHeld (fun hHeld => ?_)
          clear hK KC
          refine take_v (v := ?_) 8 ⟨some 44, Op.unOp UnOp.not 4 (Operand.tmp 43), _, _, _, some (4, false)⟩ rfl (fun _ _ _ h => h) ?_ hHeld ?_
          rotate_left
          · (intro W _; go_simp <;> (try with_reducible rfl))
          refine take_v (v := ?_) 9 ⟨some 45, Op.pick (Operand.tmp 40) (Operand.const (Value.bool true)) (Operand.tmp 44), _, _, _, none⟩ rfl (fun _ _ _ h => h) ?_ hHeld ?_
          rotate_left
          · (intro W _; go_simp <;> (try with_reducible rfl))
          refine take_v (v := ?_) 10 ⟨some 46, Op.move (Operand.tmp 45), _, _, _, none⟩ rfl (fun _ _ _ h => h) ?_ hHeld ?_
          rotate_left
          · (intro W _; go_simp <;> (try with_reducible rfl))
          refine take_v (v := ?_) 11 ⟨some 47, Op.fieldAddr 52 (Operand.tmp 4) 2, _, _, _, some (10, false)⟩ rfl (fun _ _ _ h => h) ?_ hHeld ?_
          rotate_left
          · (intro W _; go_simp <;> (try with_reducible rfl))
          refine take_v (v := ?_) 12 ⟨some 48, Op.load 50 (Operand.tmp 47), _, _, _, some (10, false)⟩ rfl (fun _ _ _ h => h) ?_ hHeld ?_
          rotate_left
          · (intro W hSW; (have s0 := hSW.1.cell 0 rfl; have s1 := hSW.1.cell 1 rfl; have s2 := hSW.1.cell 2 rfl; have s3 := hSW.1.cell 3 rfl; have s4 := hSW.1.cell 4 rfl; have s5 := hSW.1.cell 5 rfl; have s6 := hSW.1.2; have s7 := hSW.2.1.cell 0 rfl; have s8 := hSW.2.1.cell 1 rfl; have s9 := hSW.2.1.2); go_simp <;> (try with_reducible rfl))
          refine ready_call 13 ⟨some 49, Op.call { callee := Callee.value (Operand.func 52), args := #[Operand.tmp 48], argTypes := #[50] }, _, _, _, some (10, false)⟩ (by kernel_rfl) rfl (by kernel_rfl) (fun KC hK => ?_)
          go_wp2_with fail
          refine (HTd.out _).mono ?_
          rintro r w2 ⟨rfl, hb⟩
          have h2 := hHeld.next hb
          clear hb
          refine hK.out _ _ h2 (fun hHeld => ?_)
          clear hK KC
          refine take_v (v := ?_) 14 ⟨some 50, Op.unOp UnOp.not 4 (Operand.tmp 49), _, _, _, some (10, false)⟩ rfl (fun _ _ _ h => h) ?_ hHeld ?_
          rotate_left
          · (intro W _; go_simp <;> (try with_reducible rfl))
          refine take_v (v := ?_) 15 ⟨some 51, Op.pick (Operand.tmp 46) (Operand.const (Value.bool true)) (Operand.tmp 50), _, _, _, none⟩ rfl (fun _ _ _ h => h) ?_ hHeld ?_
          rotate_left
          · (intro W _; go_simp <;> (try with_reducible rfl))
          refine take_v (v := ?_) 16 ⟨some 52, Op.move (Operand.tmp 51), _, _, _, none⟩ rfl (fun _ _ _ h => h) ?_ hHeld ?_
          rotate_left
          · (intro W _; go_simp <;> (try with_reducible rfl))
          refine take_v (v := ?_) 17 ⟨some 53, Op.fieldAddr 52 (Operand.tmp 4) 2, _, _, _, some (16, false)⟩ rfl (fun _ _ _ h => h) ?_ hHeld ?_
          rotate_left
          · (intro W _; go_simp <;> (try with_reducible rfl))
          refine take_v (v := ?_) 18 ⟨some 54, Op.fieldAddr 50 (Operand.tmp 53) 0, _, _, _, some (16, false)⟩ rfl (fun _ _ _ h => h) ?_ hHeld ?_
          rotate_left
          · (intro W _; go_simp <;> (try with_reducible rfl))
          refine take_v (v := ?_) 19 ⟨some 55, Op.load 3 (Operand.tmp 54), _, _, _, some (16, false)⟩ rfl (fun _ _ _ h => h) ?_ hHeld ?_
          rotate_left
          · (intro W hSW; (have s0 := hSW.1.cell 0 rfl; have s1 := hSW.1.cell 1 rfl; have s2 := hSW.1.cell 2 rfl; have s3 := hSW.1.cell 3 rfl; have s4 := hSW.1.cell 4 rfl; have s5 := hSW.1.cell 5 rfl; have s6 := hSW.1.2; have s7 := hSW.2.1.cell 0 rfl; have s8 := hSW.2.1.cell 1 rfl; have s9 := hSW.2.1.2); go_simp <;> (try with_reducible rfl))
          refine take_v (v := ?_) 20 ⟨some 56, Op.fieldAddr 34 (Operand.tmp 1) 0, _, _, _, some (16, false)⟩ rfl (fun _ _ _ h => h) ?_ hHeld ?_
          rotate_left
          · (intro W _; go_simp <;> (try with_reducible rfl))
          refine take_v (v := ?_) 21 ⟨some 57, Op.load 3 (Operand.tmp 56), _, _, _, some (16, false)⟩ rfl (fun _ _ _ h => h) ?_ hHeld ?_
          rotate_left
          · (intro W hSW; (have s0 := hSW.1.cell 0 rfl; have s1 := hSW.1.cell 1 rfl; have s2 := hSW.1.cell 2 rfl; have s3 := hSW.1.cell 3 rfl; have s4 := hSW.1.cell 4 rfl; have s5 := hSW.1.cell 5 rfl; have s6 := hSW.1.2; have s7 := hSW.2.1.cell 0 rfl; have s8 := hSW.2.1.cell 1 rfl; have s9 := hSW.2.1.2); go_simp <;> (try with_reducible rfl))
          refine take_v (v := ?_) 22 ⟨some 58, Op.binOp BinOp.gtr 3 (Operand.tmp 55) (Operand.tmp 57) 3, _, _, _, some (16, false)⟩ rfl (fun _ _ _ h => h) ?_ hHeld ?_
          rotate_left
          · (intro W _; go_simp <;> (try with_reducible rfl))
          refine take_v (v := ?_) 23 ⟨some 59, Op.pick (Operand.tmp 52) (Operand.const (Value.bool true)) (Operand.tmp 58), _, _, _, none⟩ rfl (fun _ _ _ h => h) ?_ hHeld ?_
          rotate_left
          · (intro W _; go_simp <;> (try with_reducible rfl))
          refine take_v (v := ?_) 24 ⟨some 60, Op.move (Operand.tmp 59), _, _, _, none⟩ rfl (fun _ _ _ h => h) ?_ hHeld ?_
          rotate_left
          · (intro W _; go_simp <;> (try with_reducible rfl))
          refine take_v (v := ?_) 25 ⟨some 61, Op.fieldAddr 52 (Operand.tmp 4) 2, _, _, _, some (24, false)⟩ rfl (fun _ _ _ h => h) ?_ hHeld ?_
          rotate_left
          · (intro W _; go_simp <;> (try with_reducible rfl))
          refine take_v (v := ?_) 26 ⟨some 62, Op.fieldAddr 50 (Operand.tmp 61) 2, _, _, _, some (24, false)⟩ rfl (fun _ _ _ h => h) ?_ hHeld ?_
          rotate_left
          · (intro W _; go_simp <;> (try with_reducible rfl))
          refine take_v (v := ?_) 27 ⟨some 63, Op.load 4 (Operand.tmp 62), _, _, _, some (24, false)⟩ rfl (fun _ _ _ h => h) ?_ hHeld ?_
          rotate_left
          · (intro W hSW; (have s0 := hSW.1.cell 0 rfl; have s1 := hSW.1.cell 1 rfl; have s2 := hSW.1.cell 2 rfl; have s3 := hSW.1.cell 3 rfl; have s4 := hSW.1.cell 4 rfl; have s5 := hSW.1.cell 5 rfl; have s6 := hSW.1.2; have s7 := hSW.2.1.cell 0 rfl; have s8 := hSW.2.1.cell 1 rfl; have s9 := hSW.2.1.2); go_simp <;> (try with_reducible rfl))
          refine take_v (v := ?_) 28 ⟨some 64, Op.fieldAddr 52 (Operand.tmp 4) 3, _, _, _, some (24, false)⟩ rfl (fun _ _ _ h => h) ?_ hHeld ?_
          rotate_left
          · (intro W _; go_simp <;> (try with_reducible rfl))
          refine take_v (v := ?_) 29 ⟨some 65, Op.load 3 (Operand.tmp 64), _, _, _, some (24, false)⟩ rfl (fun _ _ _ h => h) ?_ hHeld ?_
          rotate_left
          · (intro W hSW; (have s0 := hSW.1.cell 0 rfl; have s1 := hSW.1.cell 1 rfl; have s2 := hSW.1.cell 2 rfl; have s3 := hSW.1.cell 3 rfl; have s4 := hSW.1.cell 4 rfl; have s5 := hSW.1.cell 5 rfl; have s6 := hSW.1.2; have s7 := hSW.2.1.cell 0 rfl; have s8 := hSW.2.1.cell 1 rfl; have s9 := hSW.2.1.2); go_simp <;> (try with_reducible rfl))
          refine take_v (v := ?_) 30 ⟨some 66, Op.binOp BinOp.neq 3 (Operand.tmp 65) (Operand.const (Value.int IntKind.i64 0)) 3, _, _, _, some (24, false)⟩ rfl (fun _ _ _ h => h) ?_ hHeld ?_
          rotate_left
          · (intro W _; go_simp <;> (try with_reducible rfl))
          refine take_v (v := ?_) 31 ⟨some 67, Op.binOp BinOp.neq 4 (Operand.tmp 63) (Operand.tmp 66) 4, _, _, _, some (24, false)⟩ rfl (fun _ _ _ h => h) ?_ hHeld ?_
          rotate_left
          · (intro W _; go_simp <;> (try with_reducible rfl))
          refine take_v (v := ?_) 32 ⟨some 68, Op.pick (Operand.tmp 60) (Operand.const (Value.bool true)) (Operand.tmp 67), _, _, _, none⟩ rfl (fun _ _ _ h => h) ?_ hHeld ?_
          rotate_left
          · (intro W _; go_simp <;> (try with_reducible rfl))
          refine take_v (v := ?_) 33 ⟨some 69, Op.move (Operand.tmp 68), _, _, _, none⟩ rfl (fun _ _ _ h => h) ?_ hHeld ?_
          rotate_left
          · (intro W _; go_simp <;> (try with_reducible rfl))
          refine take_n 34 ⟨some 70, Op.move (Operand.tmp 3), _, _, _, some (33, false)⟩ rfl (fun _ _ _ h => h) hHeld ?_
          refine take_n 35 ⟨some 71, Op.binOp BinOp.gtr 3 (Operand.tmp 70) (Operand.const (Value.int IntKind.i64 0)) 3, _, _, _, some (33, false)⟩ rfl (fun _ _ _ h => h) hHeld ?_
          refine take_n 36 ⟨some 72, Op.move (Operand.tmp 71), _, _, _, some (33, false)⟩ rfl (fun _ _ _ h => h) hHeld ?_
          refine take_n 37 ⟨some 73, Op.fieldAddr 34 (Operand.tmp 1) 1, _, _, _, some (36, true)⟩ rfl (fun _ _ _ h => h) hHeld ?_
          refine take_n 38 ⟨some 74, Op.load 31 (Operand.tmp 73), _, _, _, some (36, true)⟩ rfl (fun _ _ _ h => h) hHeld ?_
          refine take_n 39 ⟨some 75, Op.move (Operand.tmp 3), _, _, _, some (36, true)⟩ rfl (fun _ _ _ h => h) hHeld ?_
          refine take_n 40 ⟨some 76, Op.binOp BinOp.sub 3 (Operand.tmp 75) (Operand.const (Value.int IntKind.i64 1)) 3, _, _, _, some (36, true)⟩ rfl (fun _ _ _ h => h) hHeld ?_
          refine take_n 41 ⟨some 77, Op.indexAddr 31 (Operand.tmp 74) (Operand.tmp 76), _, _, _, some (36, true)⟩ rfl (fun _ _ _ h => h) hHeld ?_
          refine take_n 42 ⟨some 78, Op.fieldAddr 52 (Operand.tmp 77) 0, _, _, _, some (36, true)⟩ rfl (fun _ _ _ h => h) hHeld ?_
          refine take_n 43 ⟨some 79, Op.load 9 (Operand.tmp 78), _, _, _, some (36, true)⟩ rfl (fun _ _ _ h => h) hHeld ?_
          refine take_n 44 ⟨some 80, Op.fieldAddr 52 (Operand.tmp 4) 0, _, _, _, some (36, true)⟩ rfl (fun _ _ _ h => h) hHeld ?_
          refine take_n 45 ⟨some 81, Op.load 9 (Operand.tmp 80), _, _, _, some (36, true)⟩ rfl (fun _ _ _ h => h) hHeld ?_
          refine take_n 46 ⟨some 82, Op.binOp BinOp.geq 9 (Operand.tmp 79) (Operand.tmp 81) 9, _, _, _, some (36, true)⟩ rfl (fun _ _ _ h => h) hHeld ?_
          refine take_n 47 ⟨some 83, Op.pick (Operand.tmp 72) (Operand.tmp 82) (Operand.const (Value.bool false)), _, _, _, some (33, false)⟩ rfl (fun _ _ _ h => h) hHeld ?_
          refine take_v (v := ?_) 48 ⟨some 84, Op.pick (Operand.tmp 69) (Operand.const (Value.bool true)) (Operand.tmp 83), _, _, _, none⟩ rfl (fun _ _ _ h => h) ?_ hHeld ?_
          rotate_left
          · (intro W _; go_simp <;> (try with_reducible rfl))
          refine wpAnyH_done (by kernel_rfl) ?_ _
          refine NoPanic.normal ?_
          have HE := (show Hid _ from hHeld)
          clear hHeld
          go_wp2
          go_ret
          exact ⟨ret_bool HN.out.symm, HE.out.2.2.1⟩
    · have hkn : k = S.rn := by omega
      have hlt' : ¬ (k : Int) < (S.rn : Int) := by omega
      have HR : Hid (∀ i, i < S.rn → recP S i) := by rw [hkn] at hall; exact hall
      have HX : Hid (Bx wr w.heap.size [.int .i64 S.ep, .slice ra S.rn rc, .slice ta S.tn tc, .slice oa S.on oc] ∧ Below w.heap.size w wr) := ⟨hx, hBr⟩
      have g2 := hx.cell 2 rfl
      have gz := hx.2
      obtain ⟨wo, hwo⟩ : ∃ x, x = wr := ⟨wr, rfl⟩
      subst hwo
      clear hall hx hBr hkn
      go_wp2
      clear g2 gz
      go_loopw [115, 6] (fun i y wr => ∃ k : Nat, k ≤ S.tn ∧ i = .int .i64 k ∧ y = .int .i64 ((idsL S.T k).length : Int) ∧ (∀ i, i < k → txnP S i) ∧ Bx wr w.heap.size [.int .i64 S.ep, .slice ra S.rn rc, .slice ta S.tn tc, .slice oa S.on oc] ∧ Below w.heap.size w wr) (fun i _ _ => S.tn - (intOf i).toNat)
      case atStart => exact ⟨0, Nat.zero_le _, rfl, rfl, fun i hi => absurd hi (by omega), HX.out.1, HX.out.2⟩
      case round =>
        obtain ⟨k, hk, rfl, rfl, hall, hx, hBr⟩ := hrel
        clear HX
        by_cases hlt : k < S.tn
        · have hst := HS.out.1.next hBr
          have hsl : Sl wr ta S.tn 7 (ruF S.T U) := hst.2.1.1
          rcases hsl with h | ⟨b2, o2, rfl, hbs, hE⟩
          · omega
          have hlt' : (k : Int) < (S.tn : Int) := by omega
          obtain ⟨c0, c1, c2, c3, c4, c5, c6⟩ := ru_cells hE hlt
          have hd : Below wr.heap.size wr (wr.alloc (.cells #[.int .i64 (S.T k).id, .int .i64 (S.T k).st, .slice (U k).la (S.T k).ln (U k).lc, .slice (U k).ca (S.T k).cn (U k).cc, .int .i64 (S.T k).e, .int .i64 (S.T k).s, .bool (S.T k).b] 71)) := Go.Joins.below_alloc1 _ _
          have H0 : Hid (Bx (wr.alloc (.cells #[.int .i64 (S.T k).id, .int .i64 (S.T k).st, .slice (U k).la (S.T k).ln (U k).lc, .slice (U k).ca (S.T k).cn (U k).cc, .int .i64 (S.T k).e, .int .i64 (S.T k).s, .bool (S.T k).b] 71)) wr.heap.size [.int .i64 (S.T k).id, .int .i64 (S.T k).st, .slice (U k).la (S.T k).ln (U k).lc, .slice (U k).ca (S.T k).cn (U k).cc, .int .i64 (S.T k).e, .int .i64 (S.T k).s, .bool (S.T k).b] ∧ Bx (wr.alloc (.cells #[.int .i64 (S.T k).id, .int .i64 (S.T k).st, .slice (U k).la (S.T k).ln (U k).lc, .slice (U k).ca (S.T k).cn (U k).cc, .int .i64 (S.T k).e, .int .i64 (S.T k).s, .bool (S.T k).b] 71)) w.heap.size [.int .i64 S.ep, .slice ra S.rn rc, .slice (some ⟨b2, o2, none⟩) S.tn tc, .slice oa S.on oc] ∧ Below w.heap.size w (wr.alloc (.cells #[.int .i64 (S.T k).id, .int .i64 (S.T k).st, .slice (U k).la (S.T k).ln (U k).lc, .slice (U k).ca (S.T k).cn (U k).cc, .int .i64 (S.T k).e, .int .i64 (S.T k).s, .bool (S.T k).b] 71)) ∧ (∀ i, i < k → txnP S i) ∧ Elems (wr.alloc (.cells #[.int .i64 (S.T k).id, .int .i64 (S.T k).st, .slice (U k).la (S.T k).ln (U k).lc, .slice (U k).ca (S.T k).cn (U k).cc, .int .i64 (S.T k).e, .int .i64 (S.T k).s, .bool (S.T k).b] 71)) b2 o2 S.tn 7 (ruF S.T U) ∧ b2 < (wr.alloc (.cells #[.int .i64 (S.T k).id, .int .i64 (S.T k).st, .slice (U k).la (S.T k).ln (U k).lc, .slice (U k).ca (S.T k).cn (U k).cc, .int .i64 (S.T k).e, .int .i64 (S.T k).s, .bool (S.T k).b] 71)).heap.size) := ⟨Bx.new wr [.int .i64 (S.T k).id, .int .i64 (S.T k).st, .slice (U k).la (S.T k).ln (U k).lc, .slice (U k).ca (S.T k).cn (U k).cc, .int .i64 (S.T k).e, .int .i64 (S.T k).s, .bool (S.T k).b] _, hx.next hd, below_next' hBr hd, hall, hE.below hd hbs, Nat.lt_of_lt_of_le hbs hd.size⟩
          clear hall hBr hE hx hd hbs hst
          have g0 := H0.out.2.1.cell 0 rfl
          have g1 := H0.out.2.1.cell 1 rfl
          have g2 := H0.out.2.1.cell 2 rfl
          have g3 := H0.out.2.1.cell 3 rfl
          have gz := H0.out.2.1.2
          have hids := idsL_len' S.T k
          go_wp2_with fail
          refine (l5Running_at ra rc b2 o2 tc oa oc _ _ _ _ S (S.T k) k _ hlt htn hrn (HS.out.2.1.2.2.2.2 k hlt) (HS.out.2.2.2.1.2 k hlt) (HS.out.1.2.1.2 k hlt).2.2.1 (recs_rise HR.out) (HS.out.1.next H0.out.2.2.1).1 ((HS.out.1.next H0.out.2.2.1).2.1.2 k hlt).1 ((HS.out.1.next H0.out.2.2.1).2.1.2 k hlt).2.1 (ru_cells H0.out.2.2.2.2.1 hlt) H0.out.2.2.2.2.2).mono ?_
          rintro r w1 ⟨rfl, hb⟩
          have HTX : Hid (txnV S (S.T k) k ↔ txnP S k) := Iff.rfl
          have H1 : Hid (Bx w1 wr.heap.size [.int .i64 (S.T k).id, .int .i64 (S.T k).st, .slice (U k).la (S.T k).ln (U k).lc, .slice (U k).ca (S.T k).cn (U k).cc, .int .i64 (S.T k).e, .int .i64 (S.T k).s, .bool (S.T k).b] ∧ Bx w1 w.heap.size [.int .i64 S.ep, .slice ra S.rn rc, .slice (some ⟨b2, o2, none⟩) S.tn tc, .slice oa S.on oc] ∧ Below w.heap.size w w1 ∧ (∀ i, i < k → txnP S i)) := ⟨H0.out.1.next hb, H0.out.2.1.next hb, below_next' H0.out.2.2.1 hb, H0.out.2.2.2.1⟩
          clear hb H0 c0 c1 c2 c3 c4 c5 c6 g0 g1 g2 g3 gz
          have d1 := H1.out.1.cell 1 rfl
          have dz := H1.out.1.2
          cases e3 : clB (txnV S (S.T k) k)
          · have HN : Hid (goodB S = false) := no_txn hlt fun g => clB_not e3 (HTX.out.2 g)
            go_wp2
            go_ret
            exact ⟨ret_bool HN.out.symm, H1.out.2.2.1⟩
          have HY : Hid (txnP S k) := HTX.out.1 (clB_iff.1 e3)
          rcases st_cases (S.T k).st with ⟨q2, q3, q4⟩ | ⟨q2, q3, q4⟩ | ⟨q2, q3, q4⟩ | ⟨q2, q3, q4⟩
          · have HM : Hid ((idsL S.T (k + 1)).length = (idsL S.T k).length) := by show _ = _; rw [idsL, if_neg (by rw [hasB, q3, q4]; simp)]
            clear HTX
            go_wp2
            go_roundw
            case rel => exact ⟨k + 1, by omega, by go_num, by rw [HM.out], upto_succ H1.out.2.2.2 HY.out, H1.out.2.1, H1.out.2.2.1⟩
            case measure => simp [intOf]; omega
          · have HM : Hid ((idsL S.T (k + 1)).length = (idsL S.T k).length + 1) := by show _ = _; rw [idsL, if_pos (by rw [hasB, q3, q4]; rfl)]; simp
            clear HTX
            go_wp2
            go_roundw
            case rel => exact ⟨k + 1, by omega, by go_num, by rw [HM.out]; go_num, upto_succ H1.out.2.2.2 HY.out, H1.out.2.1, H1.out.2.2.1⟩
            case measure => simp [intOf]; omega
          · have HM : Hid ((idsL S.T (k + 1)).length = (idsL S.T k).length + 1) := by show _ = _; rw [idsL, if_pos (by rw [hasB, q3, q4]; rfl)]; simp
            clear HTX
            go_wp2
            go_roundw
            case rel => exact ⟨k + 1, by omega, by go_num, by rw [HM.out]; go_num, upto_succ H1.out.2.2.2 HY.out, H1.out.2.1, H1.out.2.2.1⟩
            case measure => simp [intOf]; omega
          · have HM : Hid ((idsL S.T (k + 1)).length = (idsL S.T k).length) := by show _ = _; rw [idsL, if_neg (by rw [hasB, q3, q4]; simp)]
            clear HTX
            go_wp2
            go_roundw
            case rel => exact ⟨k + 1, by omega, by go_num, by rw [HM.out], upto_succ H1.out.2.2.2 HY.out, H1.out.2.1, H1.out.2.2.1⟩
            case measure => simp [intOf]; omega
        · have hkn : k = S.tn := by omega
          have hlt' : ¬ (k : Int) < (S.tn : Int) := by omega
          have HT : Hid (∀ i, i < S.tn → txnP S i) := by rw [hkn] at hall; exact hall
          have HX : Hid (Bx wr w.heap.size [.int .i64 S.ep, .slice ra S.rn rc, .slice ta S.tn tc, .slice oa S.on oc] ∧ Below w.heap.size w wr) := ⟨hx, hBr⟩
          have HG : Hid (goodB S = clB (ordP S)) := good_is HH.out HR.out HT.out
          have HL : Hid ((idsL S.T k).length = (idsL S.T S.tn).length) := by show _ = _; rw [hkn]
          have hids := idsL_len' S.T k
          have honn : S.on ≤ 1048576 := HS.out.2.2.2.2
          have g3 := hx.cell 3 rfl
          have gz := hx.2
          clear hall hx hBr hkn
          obtain ⟨wo2, hwo⟩ : ∃ x, x = wr := ⟨wr, rfl⟩
          subst hwo
          obtain ⟨m, hm⟩ : ∃ m, m = (idsL S.T k).length := ⟨_, rfl⟩
          rw [← hm] at HL hids ⊢
          clear hm
          go_wp2
          clear g3 gz
          go_loopw [138] (fun i wr => ∃ k : Nat, k ≤ S.on ∧ i = .int .i64 k ∧ (∀ i, i < k → ord1 S i) ∧ Bx wr w.heap.size [.int .i64 S.ep, .slice ra S.rn rc, .slice ta S.tn tc, .slice oa S.on oc] ∧ Below w.heap.size w wr) (fun i _ => S.on - (intOf i).toNat)
          case atStart => exact ⟨0, Nat.zero_le _, rfl, fun i hi => absurd hi (by omega), HX.out.1, HX.out.2⟩
          case round =>
            obtain ⟨k, hk, rfl, hall, hx, hBr⟩ := hrel
            clear HX
            by_cases hlt : k < S.on
            · have hsl : Sl wr oa S.on 1 (intF S.O) := (HS.out.1.next hBr).2.2.1
              rcases hsl with h | ⟨b3, o3, rfl, hbs, hE⟩
              · omega
              have hlt' : (k : Int) < (S.on : Int) := by omega
              have hkc : (k : Int) ≤ (oc : Int) := by have : S.on ≤ oc := HS.out.1.2.2.2.2.2; omega
              have c0 := int_cell hE hlt
              have H0 : Hid (Bx wr w.heap.size [.int .i64 S.ep, .slice ra S.rn rc, .slice ta S.tn tc, .slice (some ⟨b3, o3, none⟩) S.on oc] ∧ Below w.heap.size w wr ∧ (∀ i, i < k → ord1 S i)) := ⟨hx, hBr, hall⟩
              clear hall hBr hE hx hbs
              have g0 := H0.out.1.cell 0 rfl
              have g1 := H0.out.1.cell 1 rfl
              have g2 := H0.out.1.cell 2 rfl
              have g3 := H0.out.1.cell 3 rfl
              have gz := H0.out.1.2
              cases eO : inR (S.O k) 1 (S.tn : Int)
              · have HN : Hid (goodB S = false) := no_ord fun g => by
                  obtain ⟨q, g1, g2, _⟩ := (g.2 k hlt).1
                  rw [inR_iff.2 ⟨by omega, by omega⟩] at eO; cases eO
                go_wp2_with fail
                refine (l5State_no ⟨ra, rc, ta, tc, (some ⟨b3, o3, none⟩), oc, U⟩ S (S.O k) _ eO).mono ?_
                rintro r w3 ⟨rfl, hb⟩
                have HB : Hid (Below w.heap.size w w3) := below_next' H0.out.2.1 hb
                clear hb H0 g0 g1 g2 g3 gz c0
                go_wp2
                go_ret
                exact ⟨ret_bool HN.out.symm, HB.out⟩
              have hb := inR_iff.1 eO
              obtain ⟨q, hq⟩ : ∃ q : Nat, S.O k = (q : Int) + 1 := ⟨(S.O k - 1).toNat, by omega⟩
              have hqn : q < S.tn := by omega
              have HQ : Hid (S.O k = (q : Int) + 1) := hq
              clear hb hq eO
              go_wp2_with fail
              refine (l5State_is ⟨ra, rc, ta, tc, (some ⟨b3, o3, none⟩), oc, U⟩ S (S.O k) q _ HQ.out hqn htn (HS.out.1.next H0.out.2.1).2.1).mono ?_
              rintro r w3 ⟨rfl, hb⟩
              have H3 : Hid (Bx w3 w.heap.size [.int .i64 S.ep, .slice ra S.rn rc, .slice ta S.tn tc, .slice (some ⟨b3, o3, none⟩) S.on oc] ∧ Below w.heap.size w w3 ∧ (∀ i, i < k → ord1 S i)) := ⟨H0.out.1.next hb, below_next' H0.out.2.1 hb, H0.out.2.2⟩
              clear hb H0 g0 g1 g2 g3 gz c0
              have g3 := H3.out.1.cell 3 rfl
              have gz := H3.out.1.2
              rcases st_cases (S.T q).st with ⟨q2, q3, q4⟩ | ⟨q2, q3, q4⟩ | ⟨q2, q3, q4⟩ | ⟨q2, q3, q4⟩
              · have x3 : ((S.T q).st != 3) = true := by rw [bne, q3]; rfl
                have x4 : ((S.T q).st != 4) = true := by rw [bne, q4]; rfl
                have HN : Hid (goodB S = false) := no_ord fun g => by
                  obtain ⟨q', g1, g2, g3⟩ := (g.2 k hlt).1
                  have := HQ.out
                  have : q' = q := by omega
                  subst this
                  rw [hasB, q3, q4] at g3; cases g3
                go_wp2
                go_ret
                exact ⟨ret_bool HN.out.symm, H3.out.2.1⟩
              · have x3 : ((S.T q).st != 3) = false := by rw [bne, q3]; rfl
                have x4 : ((S.T q).st != 4) = true := by rw [bne, q4]; rfl
                have HB : Hid (hasB (S.T q).st = true) := by show _ = _; rw [hasB, q3, q4]; rfl
                cases e7 : hasN S.O (S.O k) k
                · have HY : Hid (ord1 S k) := ⟨⟨q, hqn, HQ.out, HB.out⟩, fun j h1 h2 => by rw [hasN_iff.2 ⟨j, h1, h2⟩] at e7; cases e7⟩
                  go_wp2_with (go_at_call 56; refine (l1Has_any _ _ _ S.O _ _ (by omega) ((HS.out.1.next H3.out.2.1).2.2.1.less hk)).mono ?_; rintro e w' ⟨rfl, rfl⟩)
                  go_roundw
                  case rel => exact ⟨k + 1, by omega, by go_num, upto_succ H3.out.2.2 HY.out, H3.out.1, H3.out.2.1⟩
                  case measure => simp [intOf]; omega
                · have HN : Hid (goodB S = false) := no_ord fun g => by
                    obtain ⟨j, h1, h2⟩ := hasN_iff.1 e7
                    exact (g.2 k hlt).2 j h1 h2
                  go_wp2_with (go_at_call 56; refine (l1Has_any _ _ _ S.O _ _ (by omega) ((HS.out.1.next H3.out.2.1).2.2.1.less hk)).mono ?_; rintro e w' ⟨rfl, rfl⟩)
                  go_ret
                  exact ⟨ret_bool HN.out.symm, H3.out.2.1⟩
              · have x3 : ((S.T q).st != 3) = true := by rw [bne, q3]; rfl
                have x4 : ((S.T q).st != 4) = false := by rw [bne, q4]; rfl
                have HB : Hid (hasB (S.T q).st = true) := by show _ = _; rw [hasB, q3, q4]; rfl
                cases e7 : hasN S.O (S.O k) k
                · have HY : Hid (ord1 S k) := ⟨⟨q, hqn, HQ.out, HB.out⟩, fun j h1 h2 => by rw [hasN_iff.2 ⟨j, h1, h2⟩] at e7; cases e7⟩
                  go_wp2_with (go_at_call 56; refine (l1Has_any _ _ _ S.O _ _ (by omega) ((HS.out.1.next H3.out.2.1).2.2.1.less hk)).mono ?_; rintro e w' ⟨rfl, rfl⟩)
                  go_roundw
                  case rel => exact ⟨k + 1, by omega, by go_num, upto_succ H3.out.2.2 HY.out, H3.out.1, H3.out.2.1⟩
                  case measure => simp [intOf]; omega
                · have HN : Hid (goodB S = false) := no_ord fun g => by
                    obtain ⟨j, h1, h2⟩ := hasN_iff.1 e7
                    exact (g.2 k hlt).2 j h1 h2
                  go_wp2_with (go_at_call 56; refine (l1Has_any _ _ _ S.O _ _ (by omega) ((HS.out.1.next H3.out.2.1).2.2.1.less hk)).mono ?_; rintro e w' ⟨rfl, rfl⟩)
                  go_ret
                  exact ⟨ret_bool HN.out.symm, H3.out.2.1⟩
              · have x3 : ((S.T q).st != 3) = true := by rw [bne, q3]; rfl
                have x4 : ((S.T q).st != 4) = true := by rw [bne, q4]; rfl
                have HN : Hid (goodB S = false) := no_ord fun g => by
                  obtain ⟨q', g1, g2, g3⟩ := (g.2 k hlt).1
                  have := HQ.out
                  have : q' = q := by omega
                  subst this
                  rw [hasB, q3, q4] at g3; cases g3
                go_wp2
                go_ret
                exact ⟨ret_bool HN.out.symm, H3.out.2.1⟩
            · have hkn : k = S.on := by omega
              have hlt' : ¬ (k : Int) < (S.on : Int) := by omega
              have HO : Hid (∀ i, i < S.on → ord1 S i) := by rw [hkn] at hall; exact hall
              have HB : Hid (Below w.heap.size w wr) := hBr
              have HF : Hid (goodB S = ((S.on : Int) == (m : Int))) := by
                show _ = _
                rw [HG.out]
                refine clB_eq ⟨fun h => ⟨?_, HO.out⟩, fun g => ?_⟩
                · rw [← HL.out]; have : (S.on : Int) = (m : Int) := by simpa using h
                  omega
                · have := g.1; rw [← HL.out] at this
                  rw [this]; simp
              have g3 := hx.cell 3 rfl
              have gz := hx.2
              clear hall hx hBr hkn
              generalize hgg : ((S.on : Int) == (m : Int)) = gg at HF
              cases gg
              all_goals
                go_wp2
                go_ret
                exact ⟨ret_bool HF.out.symm, HB.out⟩
theorem specGoodStore_any (A : StA) (S : StV) (w : World) (hl : StLen S) (hok : StOk S) (hs : StAt w A S) :
    Calls Tryz.prog 23 #[.agg #[.int .i64 S.ep, .slice A.ra S.rn A.rc, .slice A.ta S.tn A.tc, .slice A.oa S.on A.oc]] w fun r w' => r = .returned (.bool (goodB S)) ∧ Below w.heap.size w w' :=
  specGoodStore_at A.ra A.rc A.ta A.tc A.oa A.oc A.U S w hl hok hs
end Go.Proofs.YtenfaofhoheleaaGreat
