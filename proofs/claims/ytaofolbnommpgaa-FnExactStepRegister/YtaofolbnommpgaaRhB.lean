/- Registers: an op begins. -/
import Derived.Test.YtaofolbnommpgaaRhO
import Derived.Test.YtaofolbnommpgaaRhC
namespace Go.Proofs.Ytaofolbnommpgaa
open Go.RowKit
set_option linter.unusedVariables false
set_option linter.unusedSimpArgs false

/-- A register in block g, with lists of its own. -/
def RgX (W : World) (lo g : Nat) (ck : Int) (va vp : Value) (cp : List (Sh.T shCopy)) (os : List (Sh.T shRegOp)) (S : Nat → Prop) : Prop :=
  Bx W g [.int .i64 ck, va, vp] ∧ OwnX W lo tyRegister [.int .i64 ck, va, vp] (ck, cp, os, ()) S ∧ (∀ b, S b → b < W.heap.size ∧ b ≠ g) ∧ lo ≤ W.heap.size
theorem RgX.next {W W' : World} {lo g : Nat} {ck : Int} {va vp : Value} {cp : List (Sh.T shCopy)} {os : List (Sh.T shRegOp)} {S : Nat → Prop} (h : RgX W lo g ck va vp cp os S) (hb : Below W.heap.size W W') : RgX W' lo g ck va vp cp os S := ⟨h.1.next hb, h.2.1.next hb, fun b q => ⟨Nat.lt_of_lt_of_le (h.2.2.1 b q).1 hb.size, (h.2.2.1 b q).2⟩, Nat.le_trans h.2.2.2 hb.size⟩
theorem RgX.lies {W : World} {lo g : Nat} {ck : Int} {va vp : Value} {cp : List (Sh.T shCopy)} {os : List (Sh.T shRegOp)} {S : Nat → Prop} (h : RgX W lo g ck va vp cp os S) : Lies W (.list shRegOp) [vp] os := by
  obtain ⟨va', S1, vp', S2, e0, o1, o2, _⟩ := ownx_Register h.2.1
  cases e0
  exact o2.lies
theorem RgX.vform {W : World} {lo g : Nat} {ck : Int} {va vp : Value} {cp : List (Sh.T shCopy)} {os : List (Sh.T shRegOp)} {S : Nat → Prop} (h : RgX W lo g ck va vp cp os S) : ∃ a1 k1 a2 k2, va = .slice a1 cp.length k1 ∧ vp = .slice a2 os.length k2 := by
  obtain ⟨va', S1, vp', S2, e0, o1, o2, _⟩ := ownx_Register h.2.1
  cases e0
  obtain ⟨a1, k1, e1⟩ := o1.vform
  obtain ⟨a2, k2, e2⟩ := o2.vform
  exact ⟨a1, k1, a2, k2, e1, e2⟩
/-- What a step on a register of its own leaves. -/
def RgP (ok : Prop) (z : Bool) (W : World) (lo g : Nat) (ck : Int) (va : Value) (cp : List (Sh.T shCopy)) (os : List (Sh.T shRegOp)) (S : Nat → Prop) (r : Ending) (w' : World) : Prop :=
  (¬ ok → r = .returned (.bool false) ∧ Below W.heap.size W w') ∧ (ok → r = .returned (.bool z) ∧ ∃ va' vp' S', RgX w' lo g ck va' vp' cp os S' ∧ (∀ b, S' b → S b ∨ W.heap.size ≤ b) ∧ TurnS (fun b => S b ∨ b = g) W w')
theorem RgP.no {ok : Prop} {z : Bool} {W : World} {lo g : Nat} {ck : Int} {va : Value} {cp : List (Sh.T shCopy)} {os : List (Sh.T shRegOp)} {S : Nat → Prop} {w' : World} (h : ¬ ok) (hb : Below W.heap.size W w') : RgP ok z W lo g ck va cp os S (.returned (.bool false)) w' := ⟨fun _ => ⟨rfl, hb⟩, fun q => absurd q h⟩
theorem RgP.yes {ok : Prop} {z : Bool} {W : World} {lo g : Nat} {ck : Int} {va va' vp' : Value} {cp : List (Sh.T shCopy)} {os : List (Sh.T shRegOp)} {S S' : Nat → Prop} {w' : World} (h : ok) (hx : RgX w' lo g ck va' vp' cp os S') (hs : ∀ b, S' b → S b ∨ W.heap.size ≤ b) (ht : TurnS (fun b => S b ∨ b = g) W w') : RgP ok z W lo g ck va cp os S (.returned (.bool z)) w' := ⟨fun q => absurd h q, fun _ => ⟨rfl, va', vp', S', hx, hs, ht⟩⟩
/-- The ops' row, and the register with one op more. -/
theorem RgX.grow {W : World} {lo g : Nat} {ck : Int} {va vp : Value} {cp : List (Sh.T shCopy)} {os : List (Sh.T shRegOp)} {S : Nat → Prop} (h : RgX W lo g ck va vp cp os S) : ∃ xs, W.ownsRow lo 53 10 vp os.length xs ∧ (∀ b, vp.ownBlock = some b → S b) ∧ ∀ (W0 W9 : World) (v9 : Value) (x : Sh.T shRegOp) (ec : List Value), TurnS (fun b => S b ∨ b = g) W0 W → OwnX W lo tyRegOp ec x (fun _ => False) → W9.ownsRow lo 53 10 v9 (os.length + 1) (xs ++ ec) → W.grownBy W9 vp.ownBlock → (v9.ownBlock = vp.ownBlock ∨ v9.ownBlock = some W.heap.size) →
    (∃ S', RgX (W9.setCell ⟨g, 2, none⟩ v9) lo g ck va v9 cp (os ++ [x]) S' ∧ (∀ b, S' b → S b ∨ W0.heap.size ≤ b)) ∧ TurnS (fun b => S b ∨ b = g) W0 (W9.setCell ⟨g, 2, none⟩ v9) ∧ Bx W9 g [.int .i64 ck, va, vp] := by
  obtain ⟨h1, h3, h4, h5⟩ := h
  obtain ⟨va', S1, vp', S2, e0, o1, o2, s1, s2, hd⟩ := ownx_Register h3
  cases e0
  obtain ⟨xs, r1, r2, B, r3, r4, r5⟩ := o2.row
  refine ⟨xs, r1, fun b q => s2 b (r2 b q), fun W0 W9 v9 x ec hW hx hown hg hwh => ?_⟩
  have hb : ∀ b, vp.ownBlock = some b → S b := fun b q => s2 b (r2 b q)
  have hz := hg.size
  have hz0 := hW.size
  have g1 : Bx W9 g [.int .i64 ck, va, vp] := h1.grow hg (fun q => (h4 g (hb g q.symm)).2 rfl)
  have g2 := OwnX.app (e := tyRegOp) r1 r2 r3 r4 r5 (fun b q => (h4 b (s2 b q)).1) hx (fun b q => q.elim) hown hg hwh
  have g3 := o1.grow hg (fun b e hS => hd b hS (r2 b e))
  have ht := turn_set W9 ⟨g, 2, none⟩ v9
  have hlt9 : ∀ b, v9.ownBlock = some b → b < W9.heap.size := fun b q => (hown.lt b q).2
  have hgz := h1.2
  refine ⟨⟨fun b => S b ∨ v9.ownBlock = some b, ⟨g1.set (k := 2) (by simp) v9, mkownx_Register (S1 := S1) (S2 := fun b => S2 b ∨ False ∨ v9.ownBlock = some b) (g3.turn ht (fun b q e => (h4 b (s1 b q)).2 e)) (g2.turn ht (fun b q e => ?_)) (fun b q => Or.inl (s1 b q)) (fun b q => ?_) (fun b e f => ?_), fun b q => ?_, ?_⟩, fun b q => ?_⟩, ?_, g1⟩
  · have e : b = g := e
    rcases q with q | q | q
    · exact (h4 b (s2 b q)).2 e
    · exact q
    · rcases hwh with r | r
      · exact (h4 b (hb b (r ▸ q))).2 e
      · rw [r] at q; cases q; omega
  · rcases q with q | q | q
    · exact Or.inl (s2 b q)
    · exact q.elim
    · exact Or.inr q
  · rcases f with f | f | f
    · exact hd b e f
    · exact f
    · rcases hwh with r | r
      · exact hd b e (r2 b (r ▸ f))
      · rw [r] at f; cases f; have := (h4 _ (s1 _ e)).1; omega
  · rcases q with q | q
    · exact ⟨by have := (h4 b q).1; simp; omega, (h4 b q).2⟩
    · refine ⟨by have := hlt9 b q; simpa using this, fun e => ?_⟩
      rcases hwh with r | r
      · exact (h4 b (hb b (r ▸ q))).2 e
      · rw [r] at q; cases q; omega
  · simp; omega
  · rcases q with q | q
    · exact Or.inl q
    · rcases hwh with r | r
      · exact Or.inl (hb b (r ▸ q))
      · rw [r] at q; cases q; exact Or.inr hz0
  · refine TurnS.set (turn_grown hW hg (fun b q => Or.inl (Or.inl (hb b q)))) (p := ⟨g, 2, none⟩) (Or.inr rfl) v9

set_option maxRecDepth 100000 in
set_option maxHeartbeats 8000000 in
theorem beginOp_n (lo g : Nat) (ck : Int) (va vp : Value) (cp : List (Sh.T shCopy)) (os : List (Sh.T shRegOp)) (S : Nat → Prop) (cl : Int) (wr : Bool) (vl : ByteArray) (oi ni : Int) (bg : Bool) (W : World) (hl : os.length ≤ 7) (hv : vl.size ≤ 1073741824) (h : RgX W lo g ck va vp cp os S) :
    Calls Try.prog 103 #[.pointer (some ⟨g, 0, none⟩), .agg #[.bool bg, .int .i64 cl, .bool wr, .string vl, .int .i64 oi, .int .i64 ni]] W (RgP (begP os cl wr vl) true W lo g ck va cp (os ++ [newOp ck cl wr vl]) S) := by
  obtain ⟨a1, k1, a2, k2, rfl, rfl⟩ := h.vform
  have HSW := Hid.intro (fun b q => (h.2.2.1 b q).1)
  obtain ⟨OK, hOK⟩ : ∃ p : Prop, p = begP os cl wr vl := ⟨_, rfl⟩
  rw [← hOK]
  have HOK := Hid.intro hOK
  have HV : Hid (vl.size ≤ maxLen ∧ vl.size ≤ 281474976710656) := Hid.intro ⟨by unfold maxLen; omega, by omega⟩
  obtain ⟨w1, hw1⟩ : ∃ x, x = W.alloc (.cells #[.bool bg, .int .i64 cl, .bool wr, .string vl, .int .i64 oi, .int .i64 ni] 42) := ⟨_, rfl⟩
  have hbw : Below W.heap.size W w1 := hw1 ▸ Go.Joins.below_alloc1 _ _
  have H1 : Hid (RgX w1 lo g ck (.slice a1 cp.length k1) (.slice a2 os.length k2) cp os S ∧ Bx w1 W.heap.size [.bool bg, .int .i64 cl, .bool wr, .string vl, .int .i64 oi, .int .i64 ni] ∧ Below W.heap.size W w1 ∧ g < W.heap.size) := ⟨h.next hbw, hw1 ▸ Bx.new W [_, _, _, _, _, _] _, hbw, h.1.2⟩
  clear h hbw hOK hv
  have t0 := (H1.out.2.1).cell 0 rfl; have t1 := (H1.out.2.1).cell 1 rfl; have t2 := (H1.out.2.1).cell 2 rfl; have t3 := (H1.out.2.1).cell 3 rfl; have t4 := (H1.out.2.1).cell 4 rfl; have t5 := (H1.out.2.1).cell 5 rfl; have tz := (H1.out.2.1).2
  go_enter Try.func103, Try.ntmps103
  go_upto_region 1 with fail
  rw [← hw1]
  clear hw1
  cases c1 : inR cl 0 9
  · have HC : Hid (inR cl 0 9 = false) := c1
    have HN : Hid (¬ OK) := Hid.intro (fun q => by rw [HOK.out] at q; have := inR_iff.2 q.1; rw [c1] at this; cases this)
    clear c1
    go_wp2_with (go_at_call 54; refine (HC.out ▸ inRange_any cl 0 9 _).mono ?_; rintro e w' ⟨rfl, hw⟩; have hw := hw.symm; subst hw)
    go_ret
    exact RgP.no HN.out H1.out.2.2.1
  have HC : Hid (inR cl 0 9 = true) := c1
  cases c2 : opV wr vl
  · have HC2 : Hid (opV wr vl = false) := c2
    have HN : Hid (¬ OK) := Hid.intro (fun q => by rw [HOK.out] at q; have := q.2.1; rw [c2] at this; cases this)
    clear c1 c2
    go_wp2_with (first | (go_at_call 54; refine (HC.out ▸ inRange_any cl 0 9 _).mono ?_; rintro e w' ⟨rfl, hw⟩; have hw := hw.symm; subst hw) | (go_at_call 98; refine (HC2.out ▸ isOpValue_n wr vl _ HV.out.1).mono ?_; rintro e w' ⟨rfl, hw⟩; have hw := hw.symm; subst hw))
    go_ret
    exact RgP.no HN.out H1.out.2.2.1
  have HC2 : Hid (opV wr vl = true) := c2
  have HC12 : Hid ((0 ≤ cl ∧ cl ≤ 9) ∧ opV wr vl = true) := Hid.intro ⟨inR_iff.1 c1, c2⟩
  clear c1 c2
  go_upto_region 3 with (first | (go_at_call 54; refine (HC.out ▸ inRange_any cl 0 9 _).mono ?_; rintro e w' ⟨rfl, hw⟩; have hw := hw.symm; subst hw) | (go_at_call 98; refine (HC2.out ▸ isOpValue_n wr vl _ HV.out.1).mono ?_; rintro e w' ⟨rfl, hw⟩; have hw := hw.symm; subst hw))
  clear t0 t1 t2 t3 t4 t5 tz
  have H2 : Hid (RgX w1.drew lo g ck (.slice a1 cp.length k1) (.slice a2 os.length k2) cp os S ∧ Bx w1.drew W.heap.size [.bool bg, .int .i64 cl, .bool wr, .string vl, .int .i64 oi, .int .i64 ni] ∧ Below W.heap.size W w1.drew ∧ g < W.heap.size) := ⟨H1.out.1.next (below_drew _), H1.out.2.1.next (below_drew _), below_next H1.out.2.2.1 (below_drew _), H1.out.2.2.2⟩
  clear H1
  by_cases c7 : os.length = 7
  · have HN : Hid (¬ OK) := Hid.intro (fun q => by rw [HOK.out] at q; have := q.2.2.1; omega)
    have c7' : ((os.length : Int) == 7) = true := by rw [c7]; rfl
    refine wp_region_noPanic ?_
    refine wp_region_held_drew (S := fun X => RgX X lo g ck (.slice a1 cp.length k1) (.slice a2 os.length k2) cp os S ∧ Bx X W.heap.size [.bool bg, .int .i64 cl, .bool wr, .string vl, .int .i64 oi, .int .i64 ni] ∧ Below W.heap.size W X ∧ g < W.heap.size) (by kernel_rfl) H2.out (fun hHeld => ?_)
    refine take_v (v := ?_) 0 ⟨some 17, Op.move (Operand.tmp 0), _, _, _, none⟩ rfl (fun _ _ _ h => h) ?_ hHeld ?_
    rotate_left
    · (intro W _; go_simp <;> (try with_reducible rfl))
    refine take_v (v := ?_) 1 ⟨some 18, Op.nilCheck (Operand.tmp 17), _, _, _, none⟩ rfl (fun _ _ _ h => h) ?_ hHeld ?_
    rotate_left
    · (intro W _; go_simp <;> (try with_reducible rfl))
    refine take_v (v := ?_) 2 ⟨some 19, Op.fieldAddr 29 (Operand.tmp 18) 2, _, _, _, none⟩ rfl (fun _ _ _ h => h) ?_ hHeld ?_
    rotate_left
    · (intro W _; go_simp <;> (try with_reducible rfl))
    refine take_v (v := ?_) 3 ⟨some 20, Op.load 27 (Operand.tmp 19), _, _, _, none⟩ rfl (fun _ _ _ h => h) ?_ hHeld ?_
    rotate_left
    · (intro W hSW; (have s0 := hSW.1.1.cell 0 rfl; have s1 := hSW.1.1.cell 1 rfl; have s2 := hSW.1.1.cell 2 rfl; have sz := hSW.1.1.2; have t1 := hSW.2.1.cell 1 rfl; have tz := hSW.2.1.2); go_simp <;> (try with_reducible rfl))
    refine take_v (v := ?_) 4 ⟨some 21, Op.call { callee := Callee.builtin Builtin.len, args := #[Operand.tmp 20], argTypes := #[27] }, _, _, _, none⟩ rfl (fun _ _ _ h => h) ?_ hHeld ?_
    rotate_left
    · (intro W _; go_simp <;> (try with_reducible rfl))
    refine take_v (v := ?_) 5 ⟨some 22, Op.binOp BinOp.eql 3 (Operand.tmp 21) (Operand.const (Value.int IntKind.i64 7)) 3, _, _, _, none⟩ rfl (fun _ _ _ h => h) ?_ hHeld ?_
    rotate_left
    · (intro W _; go_simp <;> (try with_reducible rfl))
    refine take_v (v := ?_) 6 ⟨some 23, Op.move (Operand.tmp 22), _, _, _, none⟩ rfl (fun _ _ _ h => h) ?_ hHeld ?_
    rotate_left
    · (intro W _; go_simp <;> (try with_reducible rfl))
    refine take_n 7 ⟨some 24, Op.move (Operand.tmp 0), _, _, _, some (6, false)⟩ rfl (fun _ _ _ h => h) hHeld ?_
    refine take_n 8 ⟨some 25, Op.nilCheck (Operand.tmp 24), _, _, _, some (6, false)⟩ rfl (fun _ _ _ h => h) hHeld ?_
    refine take_n 9 ⟨some 26, Op.fieldAddr 29 (Operand.tmp 25) 2, _, _, _, some (6, false)⟩ rfl (fun _ _ _ h => h) hHeld ?_
    refine take_n 10 ⟨some 27, Op.load 27 (Operand.tmp 26), _, _, _, some (6, false)⟩ rfl (fun _ _ _ h => h) hHeld ?_
    refine take_n 11 ⟨some 28, Op.fieldAddr 42 (Operand.tmp 3) 1, _, _, _, some (6, false)⟩ rfl (fun _ _ _ h => h) hHeld ?_
    refine take_n 12 ⟨some 29, Op.load 3 (Operand.tmp 28), _, _, _, some (6, false)⟩ rfl (fun _ _ _ h => h) hHeld ?_
    refine take_n 13 ⟨some 30, Op.call { callee := Callee.value (Operand.func 58), args := #[Operand.tmp 27, Operand.tmp 29], argTypes := #[27, 3] }, _, _, _, some (6, false)⟩ rfl (fun _ _ _ h => h) hHeld ?_
    refine take_v (v := ?_) 14 ⟨some 31, Op.pick (Operand.tmp 23) (Operand.const (Value.bool true)) (Operand.tmp 30), _, _, _, none⟩ rfl (fun _ _ _ h => h) ?_ hHeld ?_
    rotate_left
    · (intro W _; go_simp <;> (try with_reducible rfl))
    refine wpAnyH_done (by kernel_rfl) ?_ _
    refine NoPanic.normal ?_
    go_wp2
    go_ret
    exact RgP.no HN.out hHeld.2.2.1
  have c7' : ((os.length : Int) == 7) = false := by simp; omega
  cases cb : tf (bsyP os cl)
  case true =>
    have HB : Hid (tf (bsyP os cl) = true) := cb
    have HN : Hid (¬ OK) := Hid.intro (fun q => by rw [HOK.out] at q; exact q.2.2.2 (tf_iff.1 cb))
    clear cb
    refine wp_region_noPanic ?_
    refine wp_region_held_drew (S := fun X => RgX X lo g ck (.slice a1 cp.length k1) (.slice a2 os.length k2) cp os S ∧ Bx X W.heap.size [.bool bg, .int .i64 cl, .bool wr, .string vl, .int .i64 oi, .int .i64 ni] ∧ Below W.heap.size W X ∧ g < W.heap.size) (by kernel_rfl) H2.out (fun hHeld => ?_)
    refine take_v (v := ?_) 0 ⟨some 17, Op.move (Operand.tmp 0), _, _, _, none⟩ rfl (fun _ _ _ h => h) ?_ hHeld ?_
    rotate_left
    · (intro W _; go_simp <;> (try with_reducible rfl))
    refine take_v (v := ?_) 1 ⟨some 18, Op.nilCheck (Operand.tmp 17), _, _, _, none⟩ rfl (fun _ _ _ h => h) ?_ hHeld ?_
    rotate_left
    · (intro W _; go_simp <;> (try with_reducible rfl))
    refine take_v (v := ?_) 2 ⟨some 19, Op.fieldAddr 29 (Operand.tmp 18) 2, _, _, _, none⟩ rfl (fun _ _ _ h => h) ?_ hHeld ?_
    rotate_left
    · (intro W _; go_simp <;> (try with_reducible rfl))
    refine take_v (v := ?_) 3 ⟨some 20, Op.load 27 (Operand.tmp 19), _, _, _, none⟩ rfl (fun _ _ _ h => h) ?_ hHeld ?_
    rotate_left
    · (intro W hSW; (have s0 := hSW.1.1.cell 0 rfl; have s1 := hSW.1.1.cell 1 rfl; have s2 := hSW.1.1.cell 2 rfl; have sz := hSW.1.1.2; have t1 := hSW.2.1.cell 1 rfl; have tz := hSW.2.1.2); go_simp <;> (try with_reducible rfl))
    refine take_v (v := ?_) 4 ⟨some 21, Op.call { callee := Callee.builtin Builtin.len, args := #[Operand.tmp 20], argTypes := #[27] }, _, _, _, none⟩ rfl (fun _ _ _ h => h) ?_ hHeld ?_
    rotate_left
    · (intro W _; go_simp <;> (try with_reducible rfl))
    refine take_v (v := ?_) 5 ⟨some 22, Op.binOp BinOp.eql 3 (Operand.tmp 21) (Operand.const (Value.int IntKind.i64 7)) 3, _, _, _, none⟩ rfl (fun _ _ _ h => h) ?_ hHeld ?_
    rotate_left
    · (intro W _; go_simp <;> (try with_reducible rfl))
    refine take_v (v := ?_) 6 ⟨some 23, Op.move (Operand.tmp 22), _, _, _, none⟩ rfl (fun _ _ _ h => h) ?_ hHeld ?_
    rotate_left
    · (intro W _; go_simp <;> (try with_reducible rfl))
    refine take_v (v := ?_) 7 ⟨some 24, Op.move (Operand.tmp 0), _, _, _, some (6, false)⟩ rfl (fun _ _ _ h => h) ?_ hHeld ?_
    rotate_left
    · (intro W _; go_simp <;> (try with_reducible rfl))
    refine take_v (v := ?_) 8 ⟨some 25, Op.nilCheck (Operand.tmp 24), _, _, _, some (6, false)⟩ rfl (fun _ _ _ h => h) ?_ hHeld ?_
    rotate_left
    · (intro W _; go_simp <;> (try with_reducible rfl))
    refine take_v (v := ?_) 9 ⟨some 26, Op.fieldAddr 29 (Operand.tmp 25) 2, _, _, _, some (6, false)⟩ rfl (fun _ _ _ h => h) ?_ hHeld ?_
    rotate_left
    · (intro W _; go_simp <;> (try with_reducible rfl))
    refine take_v (v := ?_) 10 ⟨some 27, Op.load 27 (Operand.tmp 26), _, _, _, some (6, false)⟩ rfl (fun _ _ _ h => h) ?_ hHeld ?_
    rotate_left
    · (intro W hSW; (have s0 := hSW.1.1.cell 0 rfl; have s1 := hSW.1.1.cell 1 rfl; have s2 := hSW.1.1.cell 2 rfl; have sz := hSW.1.1.2; have t1 := hSW.2.1.cell 1 rfl; have tz := hSW.2.1.2); go_simp <;> (try with_reducible rfl))
    refine take_v (v := ?_) 11 ⟨some 28, Op.fieldAddr 42 (Operand.tmp 3) 1, _, _, _, some (6, false)⟩ rfl (fun _ _ _ h => h) ?_ hHeld ?_
    rotate_left
    · (intro W _; go_simp <;> (try with_reducible rfl))
    refine take_v (v := ?_) 12 ⟨some 29, Op.load 3 (Operand.tmp 28), _, _, _, some (6, false)⟩ rfl (fun _ _ _ h => h) ?_ hHeld ?_
    rotate_left
    · (intro W hSW; (have s0 := hSW.1.1.cell 0 rfl; have s1 := hSW.1.1.cell 1 rfl; have s2 := hSW.1.1.cell 2 rfl; have sz := hSW.1.1.2; have t1 := hSW.2.1.cell 1 rfl; have tz := hSW.2.1.2); go_simp <;> (try with_reducible rfl))
    refine ready_call 13 ⟨some 30, Op.call { callee := Callee.value (Operand.func 58), args := #[Operand.tmp 27, Operand.tmp 29], argTypes := #[27, 3] }, _, _, _, some (6, false)⟩ (by kernel_rfl) rfl (by kernel_rfl) (fun KC hK => ?_)
    go_wp2_with fail
    refine (HB.out ▸ isBusy_n a2 k2 os cl _ (by omega) H2.out.1.lies).mono ?_
    rintro r X3 ⟨rfl, hb⟩
    have H3 : Hid (RgX X3 lo g ck (.slice a1 cp.length k1) (.slice a2 os.length k2) cp os S ∧ Bx X3 W.heap.size [.bool bg, .int .i64 cl, .bool wr, .string vl, .int .i64 oi, .int .i64 ni] ∧ Below W.heap.size W X3 ∧ g < W.heap.size) := ⟨H2.out.1.next hb, H2.out.2.1.next hb, below_next H2.out.2.2.1 hb, H2.out.2.2.2⟩
    clear hb
    refine hK.out _ _ H3.out (fun hHeld => ?_)
    clear hK KC
    refine take_v (v := ?_) 14 ⟨some 31, Op.pick (Operand.tmp 23) (Operand.const (Value.bool true)) (Operand.tmp 30), _, _, _, none⟩ rfl (fun _ _ _ h => h) ?_ hHeld ?_
    rotate_left
    · (intro W _; go_simp <;> (try with_reducible rfl))
    refine wpAnyH_done (by kernel_rfl) ?_ _
    refine NoPanic.normal ?_
    go_wp2
    go_ret
    exact RgP.no HN.out hHeld.2.2.1
  have HB : Hid (tf (bsyP os cl) = false) := cb
  have HY : Hid OK := Hid.intro (by rw [HOK.out]; exact ⟨HC12.out.1, HC12.out.2, by omega, fun q => by rw [tf_yes q] at cb; cases cb⟩)
  clear cb
  refine wp_region_noPanic ?_
  refine wp_region_held_drew (S := fun X => RgX X lo g ck (.slice a1 cp.length k1) (.slice a2 os.length k2) cp os S ∧ Bx X W.heap.size [.bool bg, .int .i64 cl, .bool wr, .string vl, .int .i64 oi, .int .i64 ni] ∧ Below W.heap.size W X ∧ g < W.heap.size) (by kernel_rfl) H2.out (fun hHeld => ?_)
  refine take_v (v := ?_) 0 ⟨some 17, Op.move (Operand.tmp 0), _, _, _, none⟩ rfl (fun _ _ _ h => h) ?_ hHeld ?_
  rotate_left
  · (intro W _; go_simp <;> (try with_reducible rfl))
  refine take_v (v := ?_) 1 ⟨some 18, Op.nilCheck (Operand.tmp 17), _, _, _, none⟩ rfl (fun _ _ _ h => h) ?_ hHeld ?_
  rotate_left
  · (intro W _; go_simp <;> (try with_reducible rfl))
  refine take_v (v := ?_) 2 ⟨some 19, Op.fieldAddr 29 (Operand.tmp 18) 2, _, _, _, none⟩ rfl (fun _ _ _ h => h) ?_ hHeld ?_
  rotate_left
  · (intro W _; go_simp <;> (try with_reducible rfl))
  refine take_v (v := ?_) 3 ⟨some 20, Op.load 27 (Operand.tmp 19), _, _, _, none⟩ rfl (fun _ _ _ h => h) ?_ hHeld ?_
  rotate_left
  · (intro W hSW; (have s0 := hSW.1.1.cell 0 rfl; have s1 := hSW.1.1.cell 1 rfl; have s2 := hSW.1.1.cell 2 rfl; have sz := hSW.1.1.2; have t1 := hSW.2.1.cell 1 rfl; have tz := hSW.2.1.2); go_simp <;> (try with_reducible rfl))
  refine take_v (v := ?_) 4 ⟨some 21, Op.call { callee := Callee.builtin Builtin.len, args := #[Operand.tmp 20], argTypes := #[27] }, _, _, _, none⟩ rfl (fun _ _ _ h => h) ?_ hHeld ?_
  rotate_left
  · (intro W _; go_simp <;> (try with_reducible rfl))
  refine take_v (v := ?_) 5 ⟨some 22, Op.binOp BinOp.eql 3 (Operand.tmp 21) (Operand.const (Value.int IntKind.i64 7)) 3, _, _, _, none⟩ rfl (fun _ _ _ h => h) ?_ hHeld ?_
  rotate_left
  · (intro W _; go_simp <;> (try with_reducible rfl))
  refine take_v (v := ?_) 6 ⟨some 23, Op.move (Operand.tmp 22), _, _, _, none⟩ rfl (fun _ _ _ h => h) ?_ hHeld ?_
  rotate_left
  · (intro W _; go_simp <;> (try with_reducible rfl))
  refine take_v (v := ?_) 7 ⟨some 24, Op.move (Operand.tmp 0), _, _, _, some (6, false)⟩ rfl (fun _ _ _ h => h) ?_ hHeld ?_
  rotate_left
  · (intro W _; go_simp <;> (try with_reducible rfl))
  refine take_v (v := ?_) 8 ⟨some 25, Op.nilCheck (Operand.tmp 24), _, _, _, some (6, false)⟩ rfl (fun _ _ _ h => h) ?_ hHeld ?_
  rotate_left
  · (intro W _; go_simp <;> (try with_reducible rfl))
  refine take_v (v := ?_) 9 ⟨some 26, Op.fieldAddr 29 (Operand.tmp 25) 2, _, _, _, some (6, false)⟩ rfl (fun _ _ _ h => h) ?_ hHeld ?_
  rotate_left
  · (intro W _; go_simp <;> (try with_reducible rfl))
  refine take_v (v := ?_) 10 ⟨some 27, Op.load 27 (Operand.tmp 26), _, _, _, some (6, false)⟩ rfl (fun _ _ _ h => h) ?_ hHeld ?_
  rotate_left
  · (intro W hSW; (have s0 := hSW.1.1.cell 0 rfl; have s1 := hSW.1.1.cell 1 rfl; have s2 := hSW.1.1.cell 2 rfl; have sz := hSW.1.1.2; have t1 := hSW.2.1.cell 1 rfl; have tz := hSW.2.1.2); go_simp <;> (try with_reducible rfl))
  refine take_v (v := ?_) 11 ⟨some 28, Op.fieldAddr 42 (Operand.tmp 3) 1, _, _, _, some (6, false)⟩ rfl (fun _ _ _ h => h) ?_ hHeld ?_
  rotate_left
  · (intro W _; go_simp <;> (try with_reducible rfl))
  refine take_v (v := ?_) 12 ⟨some 29, Op.load 3 (Operand.tmp 28), _, _, _, some (6, false)⟩ rfl (fun _ _ _ h => h) ?_ hHeld ?_
  rotate_left
  · (intro W hSW; (have s0 := hSW.1.1.cell 0 rfl; have s1 := hSW.1.1.cell 1 rfl; have s2 := hSW.1.1.cell 2 rfl; have sz := hSW.1.1.2; have t1 := hSW.2.1.cell 1 rfl; have tz := hSW.2.1.2); go_simp <;> (try with_reducible rfl))
  refine ready_call 13 ⟨some 30, Op.call { callee := Callee.value (Operand.func 58), args := #[Operand.tmp 27, Operand.tmp 29], argTypes := #[27, 3] }, _, _, _, some (6, false)⟩ (by kernel_rfl) rfl (by kernel_rfl) (fun KC hK => ?_)
  go_wp2_with fail
  refine (HB.out ▸ isBusy_n a2 k2 os cl _ (by omega) H2.out.1.lies).mono ?_
  rintro r X3 ⟨rfl, hb⟩
  have H3 : Hid (RgX X3 lo g ck (.slice a1 cp.length k1) (.slice a2 os.length k2) cp os S ∧ Bx X3 W.heap.size [.bool bg, .int .i64 cl, .bool wr, .string vl, .int .i64 oi, .int .i64 ni] ∧ Below W.heap.size W X3 ∧ g < W.heap.size) := ⟨H2.out.1.next hb, H2.out.2.1.next hb, below_next H2.out.2.2.1 hb, H2.out.2.2.2⟩
  clear hb
  refine hK.out _ _ H3.out (fun hHeld => ?_)
  clear hK KC
  refine take_v (v := ?_) 14 ⟨some 31, Op.pick (Operand.tmp 23) (Operand.const (Value.bool true)) (Operand.tmp 30), _, _, _, none⟩ rfl (fun _ _ _ h => h) ?_ hHeld ?_
  rotate_left
  · (intro W _; go_simp <;> (try with_reducible rfl))
  refine wpAnyH_done (by kernel_rfl) ?_ _
  refine NoPanic.normal ?_
  clear hHeld H2
  have H4 : Hid (RgX X3.drew lo g ck (.slice a1 cp.length k1) (.slice a2 os.length k2) cp os S ∧ Bx X3.drew W.heap.size [.bool bg, .int .i64 cl, .bool wr, .string vl, .int .i64 oi, .int .i64 ni] ∧ Below W.heap.size W X3.drew ∧ g < W.heap.size) := ⟨H3.out.1.next (below_drew _), H3.out.2.1.next (below_drew _), below_next H3.out.2.2.1 (below_drew _), H3.out.2.2.2⟩
  clear H3
  obtain ⟨j1, hj0, hy0, hy1, hy2⟩ := info_parts inf_RegOp
  go_upto_region 5 with fail
  refine wp_region_noPanic ?_
  refine wp_region_held_drew (S := fun X => Bx X W.heap.size [.bool bg, .int .i64 cl, .bool wr, .string vl, .int .i64 oi, .int .i64 ni] ∧ X.cell? ⟨g, 0, none⟩ = some (.int .i64 ck) ∧ g < X.heap.size) (by kernel_rfl) ⟨H4.out.2.1, H4.out.1.1.cell 0 rfl, H4.out.1.1.2⟩ (fun hHeld => ?_)
  obtain ⟨X4, hX4⟩ : ∃ x, x = X3.drew := ⟨_, rfl⟩
  rw [← hX4] at H4 hHeld ⊢
  clear hX4
  refine take_v (v := ?_) 0 ⟨some 32, Op.move (Operand.tmp 0), _, _, _, none⟩ rfl (fun _ _ _ h => h) ?_ hHeld ?_
  rotate_left
  · (intro W _; go_simp <;> (try with_reducible rfl))
  refine take_v (v := ?_) 1 ⟨some 33, Op.move (Operand.tmp 0), _, _, _, none⟩ rfl (fun _ _ _ h => h) ?_ hHeld ?_
  rotate_left
  · (intro W _; go_simp <;> (try with_reducible rfl))
  refine take_v (v := ?_) 2 ⟨some 34, Op.nilCheck (Operand.tmp 33), _, _, _, none⟩ rfl (fun _ _ _ h => h) ?_ hHeld ?_
  rotate_left
  · (intro W _; go_simp <;> (try with_reducible rfl))
  refine take_v (v := ?_) 3 ⟨some 35, Op.fieldAddr 29 (Operand.tmp 34) 2, _, _, _, none⟩ rfl (fun _ _ _ h => h) ?_ hHeld ?_
  rotate_left
  · (intro W _; go_simp <;> (try with_reducible rfl))
  refine take_v (v := ?_) 5 ⟨some 37, Op.fieldAddr 42 (Operand.tmp 3) 1, _, _, _, none⟩ rfl (fun _ _ _ h => h) ?_ hHeld ?_
  rotate_left
  · (intro W _; go_simp <;> (try with_reducible rfl))
  refine take_v (v := ?_) 6 ⟨some 38, Op.load 3 (Operand.tmp 37), _, _, _, none⟩ rfl (fun _ _ _ h => h) ?_ hHeld ?_
  rotate_left
  · (intro W hSW; (have s0 := hSW.2.1; have sz := hSW.2.2; have t1 := hSW.1.cell 1 rfl; have t2 := hSW.1.cell 2 rfl; have t3 := hSW.1.cell 3 rfl; have tz := hSW.1.2); go_simp <;> (try with_reducible rfl))
  refine take_v (v := ?_) 7 ⟨some 39, Op.fieldAddr 42 (Operand.tmp 3) 2, _, _, _, none⟩ rfl (fun _ _ _ h => h) ?_ hHeld ?_
  rotate_left
  · (intro W _; go_simp <;> (try with_reducible rfl))
  refine take_v (v := ?_) 8 ⟨some 40, Op.load 4 (Operand.tmp 39), _, _, _, none⟩ rfl (fun _ _ _ h => h) ?_ hHeld ?_
  rotate_left
  · (intro W hSW; (have s0 := hSW.2.1; have sz := hSW.2.2; have t1 := hSW.1.cell 1 rfl; have t2 := hSW.1.cell 2 rfl; have t3 := hSW.1.cell 3 rfl; have tz := hSW.1.2); go_simp <;> (try with_reducible rfl))
  refine take_v (v := ?_) 9 ⟨some 41, Op.fieldAddr 42 (Operand.tmp 3) 3, _, _, _, none⟩ rfl (fun _ _ _ h => h) ?_ hHeld ?_
  rotate_left
  · (intro W _; go_simp <;> (try with_reducible rfl))
  refine take_v (v := ?_) 10 ⟨some 42, Op.load 9 (Operand.tmp 41), _, _, _, none⟩ rfl (fun _ _ _ h => h) ?_ hHeld ?_
  rotate_left
  · (intro W hSW; (have s0 := hSW.2.1; have sz := hSW.2.2; have t1 := hSW.1.cell 1 rfl; have t2 := hSW.1.cell 2 rfl; have t3 := hSW.1.cell 3 rfl; have tz := hSW.1.2); go_simp <;> (try with_reducible rfl))
  refine take_v (v := ?_) 12 ⟨some 44, Op.move (Operand.tmp 0), _, _, _, none⟩ rfl (fun _ _ _ h => h) ?_ hHeld ?_
  rotate_left
  · (intro W _; go_simp <;> (try with_reducible rfl))
  refine take_v (v := ?_) 13 ⟨some 45, Op.nilCheck (Operand.tmp 44), _, _, _, none⟩ rfl (fun _ _ _ h => h) ?_ hHeld ?_
  rotate_left
  · (intro W _; go_simp <;> (try with_reducible rfl))
  refine take_v (v := ?_) 14 ⟨some 46, Op.fieldAddr 29 (Operand.tmp 45) 0, _, _, _, none⟩ rfl (fun _ _ _ h => h) ?_ hHeld ?_
  rotate_left
  · (intro W _; go_simp <;> (try with_reducible rfl))
  refine take_v (v := ?_) 15 ⟨some 47, Op.load 3 (Operand.tmp 46), _, _, _, none⟩ rfl (fun _ _ _ h => h) ?_ hHeld ?_
  rotate_left
  · (intro W hSW; (have s0 := hSW.2.1; have sz := hSW.2.2; have t1 := hSW.1.cell 1 rfl; have t2 := hSW.1.cell 2 rfl; have t3 := hSW.1.cell 3 rfl; have tz := hSW.1.2); go_simp <;> (try with_reducible rfl))
  refine ready_two 4 11 ⟨some 36, Op.load 27 (Operand.tmp 35), _, _, _, none⟩ ⟨some 43, Op.call { callee := Callee.value (Operand.func 92), args := #[Operand.tmp 42], argTypes := #[9] }, _, _, _, none⟩ (by kernel_rfl) rfl rfl (by kernel_rfl) (by kernel_rfl) (fun KC hK => ?_) (fun KC hK => ?_)
  ·
    have s2 := H4.out.1.1.cell 2 rfl
    have sz := H4.out.1.1.2
    go_wp2_with fail
    clear s2 sz
    refine hK.out _ _ hHeld (fun hHeld => ?_)
    clear hK KC
    refine ready_call 11 ⟨some 43, Op.call { callee := Callee.value (Operand.func 92), args := #[Operand.tmp 42], argTypes := #[9] }, _, _, _, none⟩ (by kernel_rfl) rfl (by kernel_rfl) (fun KC hK => ?_)
    go_wp2_with fail
    refine (clone_any _ _ HV.out.2).mono ?_
    rintro r X5 ⟨rfl, hb⟩
    have H4 : Hid (RgX X5 lo g ck (.slice a1 cp.length k1) (.slice a2 os.length k2) cp os S ∧ Bx X5 W.heap.size [.bool bg, .int .i64 cl, .bool wr, .string vl, .int .i64 oi, .int .i64 ni] ∧ Below W.heap.size W X5 ∧ g < W.heap.size) := ⟨H4.out.1.next hb, H4.out.2.1.next hb, below_next H4.out.2.2.1 hb, H4.out.2.2.2⟩
    clear hb
    refine hK.out _ _ ⟨H4.out.2.1, H4.out.1.1.cell 0 rfl, H4.out.1.1.2⟩ (fun hHeld => ?_)
    clear hK KC
    refine take_v (v := ?_) 16 ⟨some 48, Op.build 53 #[(0, Operand.tmp 38), (1, Operand.tmp 40), (2, Operand.tmp 43), (3, Operand.const (Value.int IntKind.i64 1)), (6, Operand.tmp 47)], _, _, _, none⟩ rfl (fun _ _ _ h => h) ?_ hHeld ?_
    rotate_left
    · (intro W _; go_simp <;> (try with_reducible rfl))
    refine ready_call 17 ⟨some 49, Op.buildSlice 27 1 #[(0, Operand.tmp 48)], _, _, _, none⟩ (by kernel_rfl) rfl (by kernel_rfl) (fun KC hK => ?_)
    go_wp2_with fail
    have hb := Go.Joins.below_alloc1 X5 (.cells #[.int .i64 cl, .bool wr, .string vl, .int .i64 1, .slice none 0 0, .int .i64 0, .int .i64 0, .string ⟨#[]⟩, .int .i64 ck, .int .i64 0] 53)
    have HNW := Hid.intro (cells_new X5 [.int .i64 cl, .bool wr, .string vl, .int .i64 1, .slice none 0 0, .int .i64 0, .int .i64 0, .string ⟨#[]⟩, .int .i64 ck, .int .i64 0] 53)
    have H4 : Hid (RgX (X5.alloc (.cells #[.int .i64 cl, .bool wr, .string vl, .int .i64 1, .slice none 0 0, .int .i64 0, .int .i64 0, .string ⟨#[]⟩, .int .i64 ck, .int .i64 0] 53)) lo g ck (.slice a1 cp.length k1) (.slice a2 os.length k2) cp os S ∧ Bx (X5.alloc (.cells #[.int .i64 cl, .bool wr, .string vl, .int .i64 1, .slice none 0 0, .int .i64 0, .int .i64 0, .string ⟨#[]⟩, .int .i64 ck, .int .i64 0] 53)) W.heap.size [.bool bg, .int .i64 cl, .bool wr, .string vl, .int .i64 oi, .int .i64 ni] ∧ Below W.heap.size W (X5.alloc (.cells #[.int .i64 cl, .bool wr, .string vl, .int .i64 1, .slice none 0 0, .int .i64 0, .int .i64 0, .string ⟨#[]⟩, .int .i64 ck, .int .i64 0] 53)) ∧ g < W.heap.size) := ⟨H4.out.1.next hb, H4.out.2.1.next hb, below_next H4.out.2.2.1 hb, H4.out.2.2.2⟩
    clear hb
    refine hK.out _ _ ⟨H4.out.2.1, H4.out.1.1.cell 0 rfl, H4.out.1.1.2⟩ (fun hHeld => ?_)
    clear hK KC
    refine ready_call 18 ⟨some 50, Op.call { callee := Callee.builtin Builtin.append, args := #[Operand.tmp 36, Operand.tmp 49], argTypes := #[27, 27] }, _, _, _, none⟩ (by kernel_rfl) rfl (by kernel_rfl) (fun KC hK => ?_)
    obtain ⟨xs, r1, hob, hgr⟩ := H4.out.1.grow
    have HOB := Hid.intro hob
    clear hob
    have HGR := Hid.intro hgr
    have hlo8 := H4.out.1.2.2.2
    clear hgr
    refine wp_append_at _ (.tmp 36) (.tmp 49) 27 (by rfl) lo 53 j1 (.agg #[.int .i64 0, .bool false, .string ⟨#[]⟩, .int .i64 0, .slice none 0 0, .int .i64 0, .int .i64 0, .string ⟨#[]⟩, .int .i64 0, .int .i64 0]) 10 112 Try.underlying27 hj0 hy0 hy1 hy2 rfl (by decide) (.slice a2 os.length k2) os.length xs (by rfl) r1 ⟨X5.heap.size, 0, none⟩ 1 1 [.int .i64 cl, .bool wr, .string vl, .int .i64 1, .slice none 0 0, .int .i64 0, .int .i64 0, .string ⟨#[]⟩, .int .i64 ck, .int .i64 0] (by rfl) rfl HNW.out (by intro u hu; simp at hu; rcases hu with rfl | rfl | rfl | rfl | rfl | rfl | rfl | rfl | rfl | rfl <;> rfl) (by unfold maxLen; omega) (by omega) hlo8 ?_
    intro v9 w9 hown9 hgrow9 hwh9
    have HF := Hid.intro (HGR.out W w9 v9 (newOp ck cl wr vl) _ (TurnS.of_below H4.out.2.2.1) (mkownx_RegOp OwnX.nil' (fun k q => q)) hown9 hgrow9 hwh9)
    have HT9 : Hid (Bx w9 W.heap.size [.bool bg, .int .i64 cl, .bool wr, .string vl, .int .i64 oi, .int .i64 ni]) := Hid.intro (H4.out.2.1.grow hgrow9 (fun e => by have := HSW.out _ (HOB.out _ e.symm); omega))
    obtain ⟨⟨S8, hx8, _⟩, _⟩ := HF.out
    obtain ⟨_, _, a9, c9, _, hv8⟩ := hx8.vform
    have hv9 : v9 = .slice a9 (os.length + 1) c9 := by rw [hv8, List.length_append]; rfl
    clear hv8 hx8
    subst hv9
    clear hown9 hgrow9 hwh9 r1 hlo8
    refine hK.out _ _ ⟨HT9.out, HF.out.2.2.cell 0 rfl, HF.out.2.2.2⟩ (fun hHeld => ?_)
    clear hK KC
    refine take_v (v := ?_) 19 ⟨some 51, Op.nilCheck (Operand.tmp 32), _, _, _, none⟩ rfl (fun _ _ _ h => h) ?_ hHeld ?_
    rotate_left
    · (intro W _; go_simp <;> (try with_reducible rfl))
    refine take_v (v := ?_) 20 ⟨some 52, Op.fieldAddr 29 (Operand.tmp 51) 2, _, _, _, none⟩ rfl (fun _ _ _ h => h) ?_ hHeld ?_
    rotate_left
    · (intro W _; go_simp <;> (try with_reducible rfl))
    refine ready_call 21 ⟨none, Op.store 27 (Operand.tmp 52) (Operand.tmp 50), _, _, _, none⟩ (by kernel_rfl) rfl (by kernel_rfl) (fun KC hK => ?_)
    have s2 := HF.out.2.2.cell 2 rfl
    have f2 := HF.out.2.2.frz 2 (by simp)
    have sz := HF.out.2.2.2
    go_wp2_with fail
    clear s2 f2 sz
    refine hK.out _ _ (by obtain ⟨⟨S8, hx8, _⟩, _⟩ := HF.out; exact ⟨HT9.out.other (Ne.symm (Nat.ne_of_lt H4.out.2.2.2)), hx8.1.cell 0 rfl, hx8.1.2⟩) (fun hHeld => ?_)
    clear hK KC
    refine wpAnyH_done (by kernel_rfl) ?_ _
    refine NoPanic.normal ?_
    clear hHeld
    go_wp2
    go_ret
    obtain ⟨⟨S', hx, hs⟩, ht, _⟩ := HF.out
    exact RgP.yes HY.out hx hs ht
  ·
    go_wp2_with fail
    refine (clone_any _ _ HV.out.2).mono ?_
    rintro r X5 ⟨rfl, hb⟩
    have H4 : Hid (RgX X5 lo g ck (.slice a1 cp.length k1) (.slice a2 os.length k2) cp os S ∧ Bx X5 W.heap.size [.bool bg, .int .i64 cl, .bool wr, .string vl, .int .i64 oi, .int .i64 ni] ∧ Below W.heap.size W X5 ∧ g < W.heap.size) := ⟨H4.out.1.next hb, H4.out.2.1.next hb, below_next H4.out.2.2.1 hb, H4.out.2.2.2⟩
    clear hb
    refine hK.out _ _ ⟨H4.out.2.1, H4.out.1.1.cell 0 rfl, H4.out.1.1.2⟩ (fun hHeld => ?_)
    clear hK KC
    refine take_v (v := ?_) 16 ⟨some 48, Op.build 53 #[(0, Operand.tmp 38), (1, Operand.tmp 40), (2, Operand.tmp 43), (3, Operand.const (Value.int IntKind.i64 1)), (6, Operand.tmp 47)], _, _, _, none⟩ rfl (fun _ _ _ h => h) ?_ hHeld ?_
    rotate_left
    · (intro W _; go_simp <;> (try with_reducible rfl))
    refine ready_two 4 17 ⟨some 36, Op.load 27 (Operand.tmp 35), _, _, _, none⟩ ⟨some 49, Op.buildSlice 27 1 #[(0, Operand.tmp 48)], _, _, _, none⟩ (by kernel_rfl) rfl rfl (by kernel_rfl) (by kernel_rfl) (fun KC hK => ?_) (fun KC hK => ?_)
    ·
      have s2 := H4.out.1.1.cell 2 rfl
      have sz := H4.out.1.1.2
      go_wp2_with fail
      clear s2 sz
      refine hK.out _ _ hHeld (fun hHeld => ?_)
      clear hK KC
      refine ready_call 17 ⟨some 49, Op.buildSlice 27 1 #[(0, Operand.tmp 48)], _, _, _, none⟩ (by kernel_rfl) rfl (by kernel_rfl) (fun KC hK => ?_)
      go_wp2_with fail
      have hb := Go.Joins.below_alloc1 X5 (.cells #[.int .i64 cl, .bool wr, .string vl, .int .i64 1, .slice none 0 0, .int .i64 0, .int .i64 0, .string ⟨#[]⟩, .int .i64 ck, .int .i64 0] 53)
      have HNW := Hid.intro (cells_new X5 [.int .i64 cl, .bool wr, .string vl, .int .i64 1, .slice none 0 0, .int .i64 0, .int .i64 0, .string ⟨#[]⟩, .int .i64 ck, .int .i64 0] 53)
      have H4 : Hid (RgX (X5.alloc (.cells #[.int .i64 cl, .bool wr, .string vl, .int .i64 1, .slice none 0 0, .int .i64 0, .int .i64 0, .string ⟨#[]⟩, .int .i64 ck, .int .i64 0] 53)) lo g ck (.slice a1 cp.length k1) (.slice a2 os.length k2) cp os S ∧ Bx (X5.alloc (.cells #[.int .i64 cl, .bool wr, .string vl, .int .i64 1, .slice none 0 0, .int .i64 0, .int .i64 0, .string ⟨#[]⟩, .int .i64 ck, .int .i64 0] 53)) W.heap.size [.bool bg, .int .i64 cl, .bool wr, .string vl, .int .i64 oi, .int .i64 ni] ∧ Below W.heap.size W (X5.alloc (.cells #[.int .i64 cl, .bool wr, .string vl, .int .i64 1, .slice none 0 0, .int .i64 0, .int .i64 0, .string ⟨#[]⟩, .int .i64 ck, .int .i64 0] 53)) ∧ g < W.heap.size) := ⟨H4.out.1.next hb, H4.out.2.1.next hb, below_next H4.out.2.2.1 hb, H4.out.2.2.2⟩
      clear hb
      refine hK.out _ _ ⟨H4.out.2.1, H4.out.1.1.cell 0 rfl, H4.out.1.1.2⟩ (fun hHeld => ?_)
      clear hK KC
      refine ready_call 18 ⟨some 50, Op.call { callee := Callee.builtin Builtin.append, args := #[Operand.tmp 36, Operand.tmp 49], argTypes := #[27, 27] }, _, _, _, none⟩ (by kernel_rfl) rfl (by kernel_rfl) (fun KC hK => ?_)
      obtain ⟨xs, r1, hob, hgr⟩ := H4.out.1.grow
      have HOB := Hid.intro hob
      clear hob
      have HGR := Hid.intro hgr
      have hlo8 := H4.out.1.2.2.2
      clear hgr
      refine wp_append_at _ (.tmp 36) (.tmp 49) 27 (by rfl) lo 53 j1 (.agg #[.int .i64 0, .bool false, .string ⟨#[]⟩, .int .i64 0, .slice none 0 0, .int .i64 0, .int .i64 0, .string ⟨#[]⟩, .int .i64 0, .int .i64 0]) 10 112 Try.underlying27 hj0 hy0 hy1 hy2 rfl (by decide) (.slice a2 os.length k2) os.length xs (by rfl) r1 ⟨X5.heap.size, 0, none⟩ 1 1 [.int .i64 cl, .bool wr, .string vl, .int .i64 1, .slice none 0 0, .int .i64 0, .int .i64 0, .string ⟨#[]⟩, .int .i64 ck, .int .i64 0] (by rfl) rfl HNW.out (by intro u hu; simp at hu; rcases hu with rfl | rfl | rfl | rfl | rfl | rfl | rfl | rfl | rfl | rfl <;> rfl) (by unfold maxLen; omega) (by omega) hlo8 ?_
      intro v9 w9 hown9 hgrow9 hwh9
      have HF := Hid.intro (HGR.out W w9 v9 (newOp ck cl wr vl) _ (TurnS.of_below H4.out.2.2.1) (mkownx_RegOp OwnX.nil' (fun k q => q)) hown9 hgrow9 hwh9)
      have HT9 : Hid (Bx w9 W.heap.size [.bool bg, .int .i64 cl, .bool wr, .string vl, .int .i64 oi, .int .i64 ni]) := Hid.intro (H4.out.2.1.grow hgrow9 (fun e => by have := HSW.out _ (HOB.out _ e.symm); omega))
      obtain ⟨⟨S8, hx8, _⟩, _⟩ := HF.out
      obtain ⟨_, _, a9, c9, _, hv8⟩ := hx8.vform
      have hv9 : v9 = .slice a9 (os.length + 1) c9 := by rw [hv8, List.length_append]; rfl
      clear hv8 hx8
      subst hv9
      clear hown9 hgrow9 hwh9 r1 hlo8
      refine hK.out _ _ ⟨HT9.out, HF.out.2.2.cell 0 rfl, HF.out.2.2.2⟩ (fun hHeld => ?_)
      clear hK KC
      refine take_v (v := ?_) 19 ⟨some 51, Op.nilCheck (Operand.tmp 32), _, _, _, none⟩ rfl (fun _ _ _ h => h) ?_ hHeld ?_
      rotate_left
      · (intro W _; go_simp <;> (try with_reducible rfl))
      refine take_v (v := ?_) 20 ⟨some 52, Op.fieldAddr 29 (Operand.tmp 51) 2, _, _, _, none⟩ rfl (fun _ _ _ h => h) ?_ hHeld ?_
      rotate_left
      · (intro W _; go_simp <;> (try with_reducible rfl))
      refine ready_call 21 ⟨none, Op.store 27 (Operand.tmp 52) (Operand.tmp 50), _, _, _, none⟩ (by kernel_rfl) rfl (by kernel_rfl) (fun KC hK => ?_)
      have s2 := HF.out.2.2.cell 2 rfl
      have f2 := HF.out.2.2.frz 2 (by simp)
      have sz := HF.out.2.2.2
      go_wp2_with fail
      clear s2 f2 sz
      refine hK.out _ _ (by obtain ⟨⟨S8, hx8, _⟩, _⟩ := HF.out; exact ⟨HT9.out.other (Ne.symm (Nat.ne_of_lt H4.out.2.2.2)), hx8.1.cell 0 rfl, hx8.1.2⟩) (fun hHeld => ?_)
      clear hK KC
      refine wpAnyH_done (by kernel_rfl) ?_ _
      refine NoPanic.normal ?_
      clear hHeld
      go_wp2
      go_ret
      obtain ⟨⟨S', hx, hs⟩, ht, _⟩ := HF.out
      exact RgP.yes HY.out hx hs ht
    ·
      go_wp2_with fail
      have hb := Go.Joins.below_alloc1 X5 (.cells #[.int .i64 cl, .bool wr, .string vl, .int .i64 1, .slice none 0 0, .int .i64 0, .int .i64 0, .string ⟨#[]⟩, .int .i64 ck, .int .i64 0] 53)
      have HNW := Hid.intro (cells_new X5 [.int .i64 cl, .bool wr, .string vl, .int .i64 1, .slice none 0 0, .int .i64 0, .int .i64 0, .string ⟨#[]⟩, .int .i64 ck, .int .i64 0] 53)
      have H4 : Hid (RgX (X5.alloc (.cells #[.int .i64 cl, .bool wr, .string vl, .int .i64 1, .slice none 0 0, .int .i64 0, .int .i64 0, .string ⟨#[]⟩, .int .i64 ck, .int .i64 0] 53)) lo g ck (.slice a1 cp.length k1) (.slice a2 os.length k2) cp os S ∧ Bx (X5.alloc (.cells #[.int .i64 cl, .bool wr, .string vl, .int .i64 1, .slice none 0 0, .int .i64 0, .int .i64 0, .string ⟨#[]⟩, .int .i64 ck, .int .i64 0] 53)) W.heap.size [.bool bg, .int .i64 cl, .bool wr, .string vl, .int .i64 oi, .int .i64 ni] ∧ Below W.heap.size W (X5.alloc (.cells #[.int .i64 cl, .bool wr, .string vl, .int .i64 1, .slice none 0 0, .int .i64 0, .int .i64 0, .string ⟨#[]⟩, .int .i64 ck, .int .i64 0] 53)) ∧ g < W.heap.size) := ⟨H4.out.1.next hb, H4.out.2.1.next hb, below_next H4.out.2.2.1 hb, H4.out.2.2.2⟩
      clear hb
      refine hK.out _ _ ⟨H4.out.2.1, H4.out.1.1.cell 0 rfl, H4.out.1.1.2⟩ (fun hHeld => ?_)
      clear hK KC
      refine ready_call 4 ⟨some 36, Op.load 27 (Operand.tmp 35), _, _, _, none⟩ (by kernel_rfl) rfl (by kernel_rfl) (fun KC hK => ?_)
      have s2 := H4.out.1.1.cell 2 rfl
      have sz := H4.out.1.1.2
      go_wp2_with fail
      clear s2 sz
      refine hK.out _ _ hHeld (fun hHeld => ?_)
      clear hK KC
      refine ready_call 18 ⟨some 50, Op.call { callee := Callee.builtin Builtin.append, args := #[Operand.tmp 36, Operand.tmp 49], argTypes := #[27, 27] }, _, _, _, none⟩ (by kernel_rfl) rfl (by kernel_rfl) (fun KC hK => ?_)
      obtain ⟨xs, r1, hob, hgr⟩ := H4.out.1.grow
      have HOB := Hid.intro hob
      clear hob
      have HGR := Hid.intro hgr
      have hlo8 := H4.out.1.2.2.2
      clear hgr
      refine wp_append_at _ (.tmp 36) (.tmp 49) 27 (by rfl) lo 53 j1 (.agg #[.int .i64 0, .bool false, .string ⟨#[]⟩, .int .i64 0, .slice none 0 0, .int .i64 0, .int .i64 0, .string ⟨#[]⟩, .int .i64 0, .int .i64 0]) 10 112 Try.underlying27 hj0 hy0 hy1 hy2 rfl (by decide) (.slice a2 os.length k2) os.length xs (by rfl) r1 ⟨X5.heap.size, 0, none⟩ 1 1 [.int .i64 cl, .bool wr, .string vl, .int .i64 1, .slice none 0 0, .int .i64 0, .int .i64 0, .string ⟨#[]⟩, .int .i64 ck, .int .i64 0] (by rfl) rfl HNW.out (by intro u hu; simp at hu; rcases hu with rfl | rfl | rfl | rfl | rfl | rfl | rfl | rfl | rfl | rfl <;> rfl) (by unfold maxLen; omega) (by omega) hlo8 ?_
      intro v9 w9 hown9 hgrow9 hwh9
      have HF := Hid.intro (HGR.out W w9 v9 (newOp ck cl wr vl) _ (TurnS.of_below H4.out.2.2.1) (mkownx_RegOp OwnX.nil' (fun k q => q)) hown9 hgrow9 hwh9)
      have HT9 : Hid (Bx w9 W.heap.size [.bool bg, .int .i64 cl, .bool wr, .string vl, .int .i64 oi, .int .i64 ni]) := Hid.intro (H4.out.2.1.grow hgrow9 (fun e => by have := HSW.out _ (HOB.out _ e.symm); omega))
      obtain ⟨⟨S8, hx8, _⟩, _⟩ := HF.out
      obtain ⟨_, _, a9, c9, _, hv8⟩ := hx8.vform
      have hv9 : v9 = .slice a9 (os.length + 1) c9 := by rw [hv8, List.length_append]; rfl
      clear hv8 hx8
      subst hv9
      clear hown9 hgrow9 hwh9 r1 hlo8
      refine hK.out _ _ ⟨HT9.out, HF.out.2.2.cell 0 rfl, HF.out.2.2.2⟩ (fun hHeld => ?_)
      clear hK KC
      refine take_v (v := ?_) 19 ⟨some 51, Op.nilCheck (Operand.tmp 32), _, _, _, none⟩ rfl (fun _ _ _ h => h) ?_ hHeld ?_
      rotate_left
      · (intro W _; go_simp <;> (try with_reducible rfl))
      refine take_v (v := ?_) 20 ⟨some 52, Op.fieldAddr 29 (Operand.tmp 51) 2, _, _, _, none⟩ rfl (fun _ _ _ h => h) ?_ hHeld ?_
      rotate_left
      · (intro W _; go_simp <;> (try with_reducible rfl))
      refine ready_call 21 ⟨none, Op.store 27 (Operand.tmp 52) (Operand.tmp 50), _, _, _, none⟩ (by kernel_rfl) rfl (by kernel_rfl) (fun KC hK => ?_)
      have s2 := HF.out.2.2.cell 2 rfl
      have f2 := HF.out.2.2.frz 2 (by simp)
      have sz := HF.out.2.2.2
      go_wp2_with fail
      clear s2 f2 sz
      refine hK.out _ _ (by obtain ⟨⟨S8, hx8, _⟩, _⟩ := HF.out; exact ⟨HT9.out.other (Ne.symm (Nat.ne_of_lt H4.out.2.2.2)), hx8.1.cell 0 rfl, hx8.1.2⟩) (fun hHeld => ?_)
      clear hK KC
      refine wpAnyH_done (by kernel_rfl) ?_ _
      refine NoPanic.normal ?_
      clear hHeld
      go_wp2
      go_ret
      obtain ⟨⟨S', hx, hs⟩, ht, _⟩ := HF.out
      exact RgP.yes HY.out hx hs ht
end Go.Proofs.Ytaofolbnommpgaa
