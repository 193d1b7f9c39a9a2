/- Registers: the program's cloneRegister. -/
import Derived.Test.YtaofolbnommpgaaRhL
import Derived.Test.YtaofolbnommpgaaRhG
import Derived.Test.YtaofolbnommpgaaNtT
import Derived.Deep.RegionHeld3
import Derived.Maps.AppendAt
namespace Go.Proofs.Ytaofolbnommpgaa
open Go.RowKit
set_option linter.unusedVariables false
set_option linter.unusedSimpArgs false

theorem flatMap_snoc {α : Type} (f : α → List Value) (l : List α) (x : α) : List.flatMap f (l ++ [x]) = List.flatMap f l ++ f x := by rw [List.flatMap_append]; simp
abbrev cpL (l : List (Sh.T shCopy)) : List Value := List.flatMap (valC tyCopy) l
/-- While a register is cloned: the clone in block b, the answer's cell in block c. -/
def CrS (w : World) (b c : Nat) (wr : World) (ck : Int) (va : Value) (la : List (Sh.T shCopy)) (vp : Value) (lp : List (Sh.T shRegOp)) : Prop :=
  Bx wr b [.int .i64 ck, va, vp] ∧ Bx wr c [.int .i64 0, .slice none 0 0, .slice none 0 0] ∧ wr.ownsRow (b + 1) 48 3 va la.length (cpL la) ∧
    (∃ S : Nat → Prop, OwnX wr (b + 1) (.list tyRegOp 53) [vp] lp S ∧ ∀ k, S k → b + 1 ≤ k ∧ k < wr.heap.size ∧ va.ownBlock ≠ some k) ∧ Below w.heap.size w wr ∧ w.heap.size ≤ c ∧ c < b
section
variable {w wr wr' : World} {b c : Nat} {ck : Int} {va : Value} {la : List (Sh.T shCopy)} {vp : Value} {lp : List (Sh.T shRegOp)}
theorem CrS.next (h : CrS w b c wr ck va la vp lp) (hb : Below wr.heap.size wr wr') : CrS w b c wr' ck va la vp lp := by
  obtain ⟨h1, h2, h3, ⟨S, h4, h5⟩, h6, h7⟩ := h
  exact ⟨h1.next hb, h2.next hb, ownsRow_next h3 hb, ⟨S, h4.next hb, fun k hk => ⟨(h5 k hk).1, Nat.lt_of_lt_of_le (h5 k hk).2.1 hb.size, (h5 k hk).2.2⟩⟩, below_next h6 hb, h7⟩
/-- One copy more. -/
theorem CrS.appA {W W9 : World} {v9 : Value} {p b1 : Int} {t : ByteArray} (h : CrS w b c W ck va la vp lp) (h2 : W9.ownsRow (b + 1) 48 3 v9 (la.length + 1) (cpL la ++ [.int .i64 p, .int .i64 b1, .string t])) (hg : W.grownBy W9 va.ownBlock) (hwh : v9.ownBlock = va.ownBlock ∨ v9.ownBlock = some W.heap.size) :
    CrS w b c (W9.setCell ⟨b, 1, none⟩ v9) ck v9 (la ++ [mkCp p b1 t]) vp lp ∧ Bx W9 b [.int .i64 ck, va, vp] := by
  obtain ⟨q1, q2, q3, ⟨S, q4, q5⟩, q6, q7⟩ := h
  have hl : ∀ k, va.ownBlock = some k → b + 1 ≤ k := fun k hk => (q3.lt k hk).1
  have g1 := q1.grow hg (fun q => by have := hl _ q.symm; omega)
  have g2 := q2.grow hg (fun q => by have := hl _ q.symm; omega)
  have ht := turn_set W9 ⟨b, 1, none⟩ v9
  have g4 := (q4.grow hg (fun k hk q => (q5 k q).2.2 hk)).turn ht (fun k hk e => by have := (q5 k hk).1; have e : k = b := e; omega)
  refine ⟨⟨g1.set (k := 1) (by simp) v9, g2.other (by omega), ?_, ⟨S, g4, fun k hk => ⟨(q5 k hk).1, ?_, fun e => ?_⟩⟩, (q6.grown hg q6.size (fun k hk => by have := hl k hk; omega)).setCell (p := ⟨b, 1, none⟩) (by simp; omega) _, q7⟩, g1⟩
  · have e1 : (la ++ [mkCp p b1 t]).length = la.length + 1 := by rw [List.length_append]; rfl
    have e2 : cpL (la ++ [mkCp p b1 t]) = cpL la ++ [.int .i64 p, .int .i64 b1, .string t] := flatMap_snoc (α := tyCopy.T) (valC tyCopy) la (mkCp p b1 t)
    rw [e1, e2]
    exact ownsRow_turn h2 ht (fun k hk e => by have := (h2.lt k hk).1; have e : k = b := e; omega)
  · have := (q5 k hk).2.1; have := hg.size; simp; omega
  · rcases hwh with q | q
    · exact (q5 k hk).2.2 (q ▸ e)
    · rw [q] at e; cases e; have := (q5 _ hk).2.1; omega
/-- One op more, whose list lies in blocks of E. -/
theorem CrS.appP {W W9 : World} {v9 : Value} {xs ec : List Value} {S E : Nat → Prop} {B : Nat → Nat → Prop} {x : Sh.T shRegOp} (h : CrS w b c W ck va la vp lp) (ho : W.ownsRow (b + 1) 53 10 vp lp.length xs) (hS : ∀ k, vp.ownBlock = some k → S k) (h3 : ∀ i, i < lp.length → ∀ k, B i k → S k ∧ vp.ownBlock ≠ some k) (h4 : ∀ i j, i < j → j < lp.length → ∀ k, B i k → ¬ B j k)
    (h5 : ∀ i (h : i < lp.length), OwnX W (b + 1) tyRegOp ((xs.drop (i * 10)).take 10) lp[i] (B i)) (hSz : ∀ k, S k → b + 1 ≤ k ∧ k < W.heap.size ∧ va.ownBlock ≠ some k) (hx : OwnX W (b + 1) tyRegOp ec x E) (hE : ∀ k, E k → b + 1 ≤ k ∧ k < W.heap.size ∧ ¬ S k ∧ va.ownBlock ≠ some k)
    (h2 : W9.ownsRow (b + 1) 53 10 v9 (lp.length + 1) (xs ++ ec)) (hg : W.grownBy W9 vp.ownBlock) (hwh : v9.ownBlock = vp.ownBlock ∨ v9.ownBlock = some W.heap.size) :
    CrS w b c (W9.setCell ⟨b, 2, none⟩ v9) ck va la v9 (lp ++ [x]) ∧ Bx W9 b [.int .i64 ck, va, vp] := by
  obtain ⟨q1, q2, q3, _, q6, q7⟩ := h
  have hl : ∀ k, vp.ownBlock = some k → b + 1 ≤ k := fun k hk => (ho.lt k hk).1
  have g1 := q1.grow hg (fun q => by have := hl _ q.symm; omega)
  have g2 := q2.grow hg (fun q => by have := hl _ q.symm; omega)
  have ht := turn_set W9 ⟨b, 2, none⟩ v9
  have g3 := ownsRow_grown q3 hg (fun k hk q => (hSz k (hS k q)).2.2 hk)
  have g3' := ownsRow_turn g3 ht (fun k hk e => by have := (g3.lt k hk).1; have e : k = b := e; omega)
  have g5 : OwnX W9 (b + 1) (.list tyRegOp 53) [v9] (lp ++ [x]) (fun k => S k ∨ E k ∨ v9.ownBlock = some k) := OwnX.app (e := tyRegOp) ho hS h3 h4 h5 (fun k hk => (hSz k hk).2.1) hx (fun k hk => ⟨(hE k hk).2.1, (hE k hk).2.2.1⟩) h2 hg hwh
  obtain ⟨S', hS'⟩ : ∃ S' : Nat → Prop, S' = fun k => S k ∨ E k ∨ v9.ownBlock = some k := ⟨_, rfl⟩
  have g6 : ∀ k, S' k → b + 1 ≤ k ∧ k < W9.heap.size ∧ va.ownBlock ≠ some k := by
    intro k hk
    have hs := hg.size
    rw [hS'] at hk
    rcases hk with hk | hk | hk
    · have := hSz k hk; exact ⟨this.1, by omega, this.2.2⟩
    · have := hE k hk; exact ⟨this.1, by omega, this.2.2.2⟩
    · refine ⟨(h2.lt k hk).1, (h2.lt k hk).2, fun e => ?_⟩
      rcases hwh with q | q
      · exact (hSz k (hS k (q ▸ hk))).2.2 e
      · rw [q] at hk; cases hk; have := (q3.lt _ e).2; omega
  rw [← hS'] at g5
  exact ⟨⟨g1.set (k := 2) (by simp) v9, g2.other (by omega), g3', ⟨S', g5.turn ht (fun k hk e => by have := (g6 k hk).1; have e : k = b := e; omega), fun k hk => ⟨(g6 k hk).1, by have := (g6 k hk).2.1; simpa using this, (g6 k hk).2.2⟩⟩, (q6.grown hg q6.size (fun k hk => by have := hl k hk; omega)).setCell (p := ⟨b, 2, none⟩) (by simp; omega) _, q7⟩, g1⟩
theorem CrS.done {W' : World} (h : CrS w b c wr ck va la vp lp) (hW : TurnS (fun k => k = c) wr W') : OwnX W' w.heap.size tyRegister [.int .i64 ck, va, vp] (ck, la, lp, ()) (Btw w.heap.size W'.heap.size) := by
  obtain ⟨h1, h2, h3, ⟨S, h4, h5⟩, h6, h7, h8⟩ := h
  have hs := hW.size
  have q1 := ownsRow_turn h3 hW (fun k hk e => by have := (h3.lt k hk).1; have e : k = c := e; omega)
  have q2 := h4.turn hW (fun k hk e => by have := (h5 k hk).1; have e : k = c := e; omega)
  refine mkownx_Register (S1 := fun k => va.ownBlock = some k) (S2 := S) ((OwnX.of_flat (e := tyCopy) rfl q1 (fun k hk => hk)).lower (by omega)) (q2.lower (by omega)) (fun k hk => ?_) (fun k hk => ?_) (fun k e f => (h5 k f).2.2 e)
  · have := h3.lt k hk; simp only [Btw]; omega
  · have := h5 k hk; simp only [Btw]; omega
theorem CrS.va_form (h : CrS w b c wr ck va la vp lp) : ∃ a k, va = .slice a la.length k := OwnX.vform (OwnX.of_flat (e := tyCopy) (S := fun _ => True) rfl h.2.2.1 (fun _ _ => trivial))
theorem CrS.vp_form (h : CrS w b c wr ck va la vp lp) : ∃ a k, vp = .slice a lp.length k := by
  obtain ⟨_, _, _, ⟨S, q, _⟩, _⟩ := h; exact q.vform
end
/-- A list of numbers that was made behind block b. -/
def SnN (W : World) (lo b : Nat) (v : Value) (l : List (Sh.T .int)) : Prop := OwnX W lo (.list .int 3) [v] l (fun k => v.ownBlock = some k) ∧ ∀ k, v.ownBlock = some k → b < k ∧ k < W.heap.size
theorem SnN.next {W W' : World} {lo b : Nat} {v : Value} {l : List (Sh.T .int)} (h : SnN W lo b v l) (hb : Below W.heap.size W W') : SnN W' lo b v l := ⟨h.1.next hb, fun k hk => ⟨(h.2 k hk).1, Nat.lt_of_lt_of_le (h.2 k hk).2 hb.size⟩⟩
theorem SnN.set {W : World} {lo b j : Nat} {v : Value} {l : List (Sh.T .int)} (h : SnN W lo b v l) (u : Value) : SnN (W.setCell ⟨b, j, none⟩ u) lo b v l := ⟨h.1.set (p := ⟨b, j, none⟩) (fun q => by have := (h.2 b q).1; omega) _, fun k hk => ⟨(h.2 k hk).1, by have := (h.2 k hk).2; simpa using this⟩⟩
theorem SnN.of {W W' : World} {lo b : Nat} {v : Value} {l : List (Sh.T .int)} {z : Nat} (h : OwnX W' lo (.list .int 3) [v] l (fun k => False ∨ k = z)) (hz : b < z) : SnN W' lo b v l := by
  obtain ⟨row, hS⟩ := OwnX.flat (e := .int) rfl h
  exact ⟨OwnX.of_flat (e := .int) rfl row (fun k hk => hk), fun k hk => ⟨by have := (hS k hk).elim False.elim id; omega, (row.lt k hk).2⟩⟩
theorem set3 (W : World) (g : Nat) (u0 u1 u2 : Value) : TurnS (fun k => k = g) W (((W.setCell ⟨g, 0, none⟩ u0).setCell ⟨g, 1, none⟩ u1).setCell ⟨g, 2, none⟩ u2) :=
  (((TurnS.refl (fun k => k = g) W).set (S := fun k => k = g) (p := ⟨g, 0, none⟩) rfl _).set (S := fun k => k = g) (p := ⟨g, 1, none⟩) rfl _).set (S := fun k => k = g) (p := ⟨g, 2, none⟩) rfl _

set_option maxRecDepth 100000 in
set_option maxHeartbeats 4000000 in
theorem cloneRegister_n (cs : List Value) (ck : Int) (cp : List (Sh.T shCopy)) (os : List (Sh.T shRegOp)) (w : World) (hs : smlR cp os) (h : Lies w shRegister cs (ck, cp, os, ())) :
    Calls Try.prog 69 #[.agg cs.toArray] w (ToX tyRegister (ck, cp, os, ()) w) := by
  obtain ⟨a1, k1, a2, k2, rfl, h1, h2⟩ := lies_Register h
  have HL : Hid (Lies w (.list shCopy) [.slice a1 cp.length k1] cp ∧ Lies w (.list shRegOp) [.slice a2 os.length k2] os) := ⟨h1, h2⟩
  have HZ : Hid (smlR cp os) := hs
  have hna := hs.1
  have hnp := hs.2.1
  clear h h1 h2 hs
  obtain ⟨w0, hw0⟩ : ∃ x, x = ((w.alloc (.cells #[.int .i64 ck, .slice a1 cp.length k1, .slice a2 os.length k2] 29)).alloc (.cells #[.int .i64 0, .slice none 0 0, .slice none 0 0] 29)).alloc (.cells #[.int .i64 ck, .slice none 0 0, .slice none 0 0] 29) := ⟨_, rfl⟩
  have HI : Hid (CrS w (w.heap.size + 1 + 1) (w.heap.size + 1) w0 ck (.slice none 0 0) (cp.take 0) (.slice none 0 0) [] ∧ Bx w0 w.heap.size [.int .i64 ck, .slice a1 cp.length k1, .slice a2 os.length k2]) := by
    have e1 : Bx w0 (w.heap.size + 1 + 1) [.int .i64 ck, .slice none 0 0, .slice none 0 0] := hw0 ▸ Bx.newAt (by simp)
    have e2 : Bx w0 (w.heap.size + 1) [.int .i64 0, .slice none 0 0, .slice none 0 0] := hw0 ▸ (Bx.newAt (by simp)).alloc _
    have e3 : Bx w0 w.heap.size [.int .i64 ck, .slice a1 cp.length k1, .slice a2 os.length k2] := hw0 ▸ ((Bx.new w [_, _, _] _).alloc _).alloc _
    have e4 : Below w.heap.size w w0 := hw0 ▸ (((Below.refl _ _).alloc (Nat.le_refl _) _).alloc (by simp) _).alloc (by simp <;> omega) _
    exact ⟨⟨e1, e2, World.ownsRow_nil _ _ _ _, ⟨fun _ => False, OwnX.nil', fun k q => q.elim⟩, e4, by omega, by omega⟩, e3⟩
  obtain ⟨j0, hj0, hy0, hy1, hy2⟩ := info_parts inf_Copy
  go_enter Try.func69, Try.ntmps69
  go_wp2
  rw [← hw0]
  clear hw0
  go_loopw [14] (fun i wr => ∃ (k : Nat) (va : Value), k ≤ cp.length ∧ i = .int .i64 k ∧ CrS w (w.heap.size + 1 + 1) (w.heap.size + 1) wr ck va (cp.take k) (.slice none 0 0) [] ∧ Bx wr w.heap.size [.int .i64 ck, .slice a1 cp.length k1, .slice a2 os.length k2]) (fun i _ => cp.length - (intOf i).toNat)
  case atStart => exact ⟨0, _, Nat.zero_le _, rfl, HI.out⟩
  case round =>
    obtain ⟨k, va, hk, rfl, hC, hbx⟩ := hrel
    clear HI
    by_cases hlt : k < cp.length
    · have hlt' : (k : Int) < (cp.length : Int) := by omega
      have HLE : Hid (Lies wr (.list shCopy) [.slice a1 cp.length k1] cp) := HL.out.1.next hC.2.2.2.2.1
      obtain ⟨xg, xoff, xgo, xgs, xec, xel, xhec, xle⟩ := Lies.elem (HLE.out) hlt
      subst xgo
      rcases xX : cp[k] with ⟨x0, x1, x2, ⟨⟩⟩
      rw [xX] at xle
      have xH : Hid (cp[k] = (x0, x1, x2, ())) := xX
      clear xX
      obtain xev := lies_Copy xle
      subst xev
      have xc0 : wr.cell? ⟨xg, xoff + k * 3, none⟩ = some (.int .i64 x0) := xhec 0 (by simp)
      have xc1 : wr.cell? ⟨xg, xoff + k * 3 + 1, none⟩ = some (.int .i64 x1) := xhec 1 (by simp)
      have xc2 : wr.cell? ⟨xg, xoff + k * 3 + 2, none⟩ = some (.string x2) := xhec 2 (by simp)
      clear xhec xel xle
      have HV : Hid (x2.size ≤ 281474976710656) := Hid.intro (by
        have := HZ.out.2.2.1 cp[k] (List.getElem_mem hlt)
        rw [xH.out] at this
        have h2 : x2.size ≤ 20 := this
        omega)
      have HPT : Hid (cp.take (k + 1) = cp.take k ++ [mkCp x0 x1 x2]) := Hid.intro (by rw [List.take_succ_eq_append_getElem hlt, xH.out])
      have hml : (cp.take k).length ≤ 1073741824 := by rw [List.length_take]; omega
      obtain ⟨M, hM⟩ : ∃ M, M = cp.take k := ⟨_, rfl⟩
      rw [← hM] at hC HPT hml
      obtain ⟨av, cv, hvE⟩ := hC.va_form
      subst hvE
      have HC : Hid (CrS w (w.heap.size + 1 + 1) (w.heap.size + 1) wr ck (.slice av M.length cv) M (.slice none 0 0) [] ∧ Bx wr w.heap.size [.int .i64 ck, .slice (some ⟨xg, xoff, none⟩) cp.length k1, .slice a2 os.length k2]) := ⟨hC, hbx⟩
      have hbw : w.heap.size + 1 + 1 < wr.heap.size := hC.1.2
      obtain ⟨w1, hw1⟩ : ∃ x, x = wr.alloc (.cells #[.int .i64 x0, .int .i64 x1, .string x2] 48) := ⟨_, rfl⟩
      have hb1 : Below wr.heap.size wr w1 := hw1 ▸ Go.Joins.below_alloc1 _ _
      have HW : Hid (Bx w1.drew wr.heap.size [.int .i64 x0, .int .i64 x1, .string x2] ∧ Below wr.heap.size wr w1.drew) := ⟨(hw1 ▸ Bx.new wr [_, _, _] _ : Bx w1 _ _).next (below_drew _), below_next hb1 (below_drew _)⟩
      clear hb1 hM hC HLE hbx
      go_upto_region 5 with fail
      rw [← hw1]
      clear hw1 xc0 xc1 xc2
      refine wp_region_noPanic ?_
      refine wp_region_held_drew (S := fun W => Bx W wr.heap.size [.int .i64 x0, .int .i64 x1, .string x2]) (by kernel_rfl) HW.out.1 (fun hHeld => ?_)
      obtain ⟨W, hWE⟩ : ∃ x, x = w1.drew := ⟨_, rfl⟩
      rw [← hWE] at HW hHeld ⊢
      clear hWE
      refine take_v (v := ?_) 0 ⟨some 18, Op.fieldAddr 29 (Operand.tmp 3) 1, _, _, _, none⟩ rfl (fun _ _ _ h => h) ?_ hHeld ?_
      rotate_left
      · (intro W _; go_simp <;> (try with_reducible rfl))
      refine take_v (v := ?_) 2 ⟨some 20, Op.load 48 (Operand.tmp 5), _, _, _, none⟩ rfl (fun _ _ _ h => h) ?_ hHeld ?_
      rotate_left
      · (intro W hSW; (have s0 := hSW.cell 0 rfl; have s1 := hSW.cell 1 rfl; have s2 := hSW.cell 2 rfl; have sz := hSW.2); go_simp <;> (try with_reducible rfl))
      refine ready_two 1 3 ⟨some 19, Op.load 26 (Operand.tmp 18), _, _, _, none⟩ ⟨some 21, Op.call { callee := Callee.value (Operand.func 72), args := #[Operand.tmp 20], argTypes := #[48] }, _, _, _, none⟩ (by kernel_rfl) rfl rfl (by kernel_rfl) (by kernel_rfl) (fun KC hK => ?_) (fun KC hK => ?_)
      ·
        (first | (have hq1 := HC.out.1.1.next HWB.out; have e0 := hq1.cell 0 rfl; have e1 := hq1.cell 1 rfl; have e2 := hq1.cell 2 rfl; have ez := hq1.2; go_wp2_with fail; clear hq1 e0 e1 e2 ez) | (have hq1 := HC.out.1.1.next HW.out.2; have e0 := hq1.cell 0 rfl; have e1 := hq1.cell 1 rfl; have e2 := hq1.cell 2 rfl; have ez := hq1.2; go_wp2_with fail; clear hq1 e0 e1 e2 ez))
        refine hK.out _ _ hHeld (fun hHeld => ?_)
        clear hK KC
        refine ready_call 3 ⟨some 21, Op.call { callee := Callee.value (Operand.func 72), args := #[Operand.tmp 20], argTypes := #[48] }, _, _, _, none⟩ (by kernel_rfl) rfl (by kernel_rfl) (fun KC hK => ?_)
        go_wp2_with fail
        refine (cloneCopy_n x0 x1 x2 _ HV.out).mono ?_
        rintro r W3 ⟨rfl, hb⟩
        have HW := (show Hid (Bx W3 wr.heap.size [.int .i64 x0, .int .i64 x1, .string x2] ∧ Below wr.heap.size wr W3) from ⟨HW.out.1.next hb, below_next HW.out.2 hb⟩)
        have HWB : Hid (Below wr.heap.size wr W3) := HW.out.2
        clear hb
        refine hK.out _ _ HW.out.1 (fun hHeld => ?_)
        clear hK KC
        refine ready_call 4 ⟨some 22, Op.buildSlice 26 1 #[(0, Operand.tmp 21)], _, _, _, none⟩ (by kernel_rfl) rfl (by kernel_rfl) (fun KC hK => ?_)
        go_wp2_with fail
        have hb := Go.Joins.below_alloc1 W3 (.cells #[.int .i64 x0, .int .i64 x1, .string x2] 48)
        have HNW := Hid.intro (cells_new W3 [.int .i64 x0, .int .i64 x1, .string x2] 48)
        have HW := (show Hid (Bx _ wr.heap.size [.int .i64 x0, .int .i64 x1, .string x2] ∧ Below wr.heap.size wr _) from ⟨HW.out.1.next hb, below_next HW.out.2 hb⟩)
        clear hb
        refine hK.out _ _ HW.out.1 (fun hHeld => ?_)
        clear hK KC
        refine ready_call 5 ⟨some 23, Op.call { callee := Callee.builtin Builtin.append, args := #[Operand.tmp 19, Operand.tmp 22], argTypes := #[26, 26] }, _, _, _, none⟩ (by kernel_rfl) rfl (by kernel_rfl) (fun KC hK => ?_)
        have hsz := HW.out.2.size
        refine wp_append_at (W3.alloc (.cells #[.int .i64 x0, .int .i64 x1, .string x2] 48)) (.tmp 19) (.tmp 22) 26 (by rfl) (w.heap.size + 1 + 1 + 1) 48 j0 (.agg #[.int .i64 0, .int .i64 0, .string ⟨#[]⟩]) 3 32 Try.underlying26 hj0 hy0 hy1 hy2 rfl (by decide) (.slice av M.length cv) M.length (cpL M) (by rfl) (ownsRow_next HC.out.1.2.2.1 HW.out.2) ⟨W3.heap.size, 0, none⟩ 1 1 [.int .i64 x0, .int .i64 x1, .string x2] (by rfl) rfl HNW.out (by intro u hu; simp at hu; rcases hu with rfl | rfl | rfl <;> rfl) (by unfold maxLen; omega) (by omega) (by omega) ?_
        intro v9 w9 hown9 hgrow9 hwh9
        have HF := Hid.intro (CrS.appA (HC.out.1.next HW.out.2) hown9 hgrow9 hwh9)
        obtain ⟨a9, c9, hv8⟩ := HF.out.1.va_form
        have hv9 : v9 = .slice a9 (M.length + 1) c9 := by rw [hv8, List.length_append]; rfl
        clear hv8
        have HBX := Hid.intro (HW.out.1.grow hgrow9 (fun e => by have := (HC.out.1.2.2.1.lt _ e.symm).2; omega))
        have HB9 := Hid.intro ((HC.out.2.next HW.out.2).grow hgrow9 (fun e => by have := (HC.out.1.2.2.1.lt _ e.symm).1; omega))
        subst hv9
        clear hown9 hgrow9 hwh9
        refine hK.out _ _ HBX.out (fun hHeld => ?_)
        clear hK KC
        refine take_v (v := ?_) 6 ⟨some 24, Op.fieldAddr 29 (Operand.tmp 3) 1, _, _, _, none⟩ rfl (fun _ _ _ h => h) ?_ hHeld ?_
        rotate_left
        · (intro W _; go_simp <;> (try with_reducible rfl))
        refine ready_call 7 ⟨none, Op.store 26 (Operand.tmp 24) (Operand.tmp 23), _, _, _, none⟩ (by kernel_rfl) rfl (by kernel_rfl) (fun KC hK => ?_)
        have r0 := HF.out.2.cell 0 rfl
        have r1 := HF.out.2.cell 1 rfl
        have r2 := HF.out.2.cell 2 rfl
        have rz := HF.out.2.2
        have g1 := HF.out.2.frz 1 (by simp)
        go_wp2_with fail
        clear r0 r1 r2 rz g1
        refine hK.out _ _ (HBX.out.other (Nat.ne_of_gt hbw)) (fun hHeld => ?_)
        clear hK KC
        refine wpAnyH_done (by kernel_rfl) ?_ _
        refine NoPanic.normal ?_
        clear hHeld
        go_wp2
        go_roundw
        case rel => exact ⟨k + 1, _, by omega, by go_num, by rw [HPT.out]; exact HF.out.1, HB9.out.other (by omega)⟩
        case measure => simp [intOf]; omega
      ·
        go_wp2_with fail
        refine (cloneCopy_n x0 x1 x2 _ HV.out).mono ?_
        rintro r W3 ⟨rfl, hb⟩
        have HW := (show Hid (Bx W3 wr.heap.size [.int .i64 x0, .int .i64 x1, .string x2] ∧ Below wr.heap.size wr W3) from ⟨HW.out.1.next hb, below_next HW.out.2 hb⟩)
        have HWB : Hid (Below wr.heap.size wr W3) := HW.out.2
        clear hb
        refine hK.out _ _ HW.out.1 (fun hHeld => ?_)
        clear hK KC
        refine ready_two 1 4 ⟨some 19, Op.load 26 (Operand.tmp 18), _, _, _, none⟩ ⟨some 22, Op.buildSlice 26 1 #[(0, Operand.tmp 21)], _, _, _, none⟩ (by kernel_rfl) rfl rfl (by kernel_rfl) (by kernel_rfl) (fun KC hK => ?_) (fun KC hK => ?_)
        ·
          (first | (have hq1 := HC.out.1.1.next HWB.out; have e0 := hq1.cell 0 rfl; have e1 := hq1.cell 1 rfl; have e2 := hq1.cell 2 rfl; have ez := hq1.2; go_wp2_with fail; clear hq1 e0 e1 e2 ez) | (have hq1 := HC.out.1.1.next HW.out.2; have e0 := hq1.cell 0 rfl; have e1 := hq1.cell 1 rfl; have e2 := hq1.cell 2 rfl; have ez := hq1.2; go_wp2_with fail; clear hq1 e0 e1 e2 ez))
          refine hK.out _ _ hHeld (fun hHeld => ?_)
          clear hK KC
          refine ready_call 4 ⟨some 22, Op.buildSlice 26 1 #[(0, Operand.tmp 21)], _, _, _, none⟩ (by kernel_rfl) rfl (by kernel_rfl) (fun KC hK => ?_)
          go_wp2_with fail
          have hb := Go.Joins.below_alloc1 W3 (.cells #[.int .i64 x0, .int .i64 x1, .string x2] 48)
          have HNW := Hid.intro (cells_new W3 [.int .i64 x0, .int .i64 x1, .string x2] 48)
          have HW := (show Hid (Bx _ wr.heap.size [.int .i64 x0, .int .i64 x1, .string x2] ∧ Below wr.heap.size wr _) from ⟨HW.out.1.next hb, below_next HW.out.2 hb⟩)
          clear hb
          refine hK.out _ _ HW.out.1 (fun hHeld => ?_)
          clear hK KC
          refine ready_call 5 ⟨some 23, Op.call { callee := Callee.builtin Builtin.append, args := #[Operand.tmp 19, Operand.tmp 22], argTypes := #[26, 26] }, _, _, _, none⟩ (by kernel_rfl) rfl (by kernel_rfl) (fun KC hK => ?_)
          have hsz := HW.out.2.size
          refine wp_append_at (W3.alloc (.cells #[.int .i64 x0, .int .i64 x1, .string x2] 48)) (.tmp 19) (.tmp 22) 26 (by rfl) (w.heap.size + 1 + 1 + 1) 48 j0 (.agg #[.int .i64 0, .int .i64 0, .string ⟨#[]⟩]) 3 32 Try.underlying26 hj0 hy0 hy1 hy2 rfl (by decide) (.slice av M.length cv) M.length (cpL M) (by rfl) (ownsRow_next HC.out.1.2.2.1 HW.out.2) ⟨W3.heap.size, 0, none⟩ 1 1 [.int .i64 x0, .int .i64 x1, .string x2] (by rfl) rfl HNW.out (by intro u hu; simp at hu; rcases hu with rfl | rfl | rfl <;> rfl) (by unfold maxLen; omega) (by omega) (by omega) ?_
          intro v9 w9 hown9 hgrow9 hwh9
          have HF := Hid.intro (CrS.appA (HC.out.1.next HW.out.2) hown9 hgrow9 hwh9)
          obtain ⟨a9, c9, hv8⟩ := HF.out.1.va_form
          have hv9 : v9 = .slice a9 (M.length + 1) c9 := by rw [hv8, List.length_append]; rfl
          clear hv8
          have HBX := Hid.intro (HW.out.1.grow hgrow9 (fun e => by have := (HC.out.1.2.2.1.lt _ e.symm).2; omega))
          have HB9 := Hid.intro ((HC.out.2.next HW.out.2).grow hgrow9 (fun e => by have := (HC.out.1.2.2.1.lt _ e.symm).1; omega))
          subst hv9
          clear hown9 hgrow9 hwh9
          refine hK.out _ _ HBX.out (fun hHeld => ?_)
          clear hK KC
          refine take_v (v := ?_) 6 ⟨some 24, Op.fieldAddr 29 (Operand.tmp 3) 1, _, _, _, none⟩ rfl (fun _ _ _ h => h) ?_ hHeld ?_
          rotate_left
          · (intro W _; go_simp <;> (try with_reducible rfl))
          refine ready_call 7 ⟨none, Op.store 26 (Operand.tmp 24) (Operand.tmp 23), _, _, _, none⟩ (by kernel_rfl) rfl (by kernel_rfl) (fun KC hK => ?_)
          have r0 := HF.out.2.cell 0 rfl
          have r1 := HF.out.2.cell 1 rfl
          have r2 := HF.out.2.cell 2 rfl
          have rz := HF.out.2.2
          have g1 := HF.out.2.frz 1 (by simp)
          go_wp2_with fail
          clear r0 r1 r2 rz g1
          refine hK.out _ _ (HBX.out.other (Nat.ne_of_gt hbw)) (fun hHeld => ?_)
          clear hK KC
          refine wpAnyH_done (by kernel_rfl) ?_ _
          refine NoPanic.normal ?_
          clear hHeld
          go_wp2
          go_roundw
          case rel => exact ⟨k + 1, _, by omega, by go_num, by rw [HPT.out]; exact HF.out.1, HB9.out.other (by omega)⟩
          case measure => simp [intOf]; omega
        ·
          go_wp2_with fail
          have hb := Go.Joins.below_alloc1 W3 (.cells #[.int .i64 x0, .int .i64 x1, .string x2] 48)
          have HNW := Hid.intro (cells_new W3 [.int .i64 x0, .int .i64 x1, .string x2] 48)
          have HW := (show Hid (Bx _ wr.heap.size [.int .i64 x0, .int .i64 x1, .string x2] ∧ Below wr.heap.size wr _) from ⟨HW.out.1.next hb, below_next HW.out.2 hb⟩)
          clear hb
          refine hK.out _ _ HW.out.1 (fun hHeld => ?_)
          clear hK KC
          refine ready_call 1 ⟨some 19, Op.load 26 (Operand.tmp 18), _, _, _, none⟩ (by kernel_rfl) rfl (by kernel_rfl) (fun KC hK => ?_)
          (first | (have hq1 := HC.out.1.1.next HWB.out; have e0 := hq1.cell 0 rfl; have e1 := hq1.cell 1 rfl; have e2 := hq1.cell 2 rfl; have ez := hq1.2; go_wp2_with fail; clear hq1 e0 e1 e2 ez) | (have hq1 := HC.out.1.1.next HW.out.2; have e0 := hq1.cell 0 rfl; have e1 := hq1.cell 1 rfl; have e2 := hq1.cell 2 rfl; have ez := hq1.2; go_wp2_with fail; clear hq1 e0 e1 e2 ez))
          refine hK.out _ _ hHeld (fun hHeld => ?_)
          clear hK KC
          refine ready_call 5 ⟨some 23, Op.call { callee := Callee.builtin Builtin.append, args := #[Operand.tmp 19, Operand.tmp 22], argTypes := #[26, 26] }, _, _, _, none⟩ (by kernel_rfl) rfl (by kernel_rfl) (fun KC hK => ?_)
          have hsz := HW.out.2.size
          refine wp_append_at (W3.alloc (.cells #[.int .i64 x0, .int .i64 x1, .string x2] 48)) (.tmp 19) (.tmp 22) 26 (by rfl) (w.heap.size + 1 + 1 + 1) 48 j0 (.agg #[.int .i64 0, .int .i64 0, .string ⟨#[]⟩]) 3 32 Try.underlying26 hj0 hy0 hy1 hy2 rfl (by decide) (.slice av M.length cv) M.length (cpL M) (by rfl) (ownsRow_next HC.out.1.2.2.1 HW.out.2) ⟨W3.heap.size, 0, none⟩ 1 1 [.int .i64 x0, .int .i64 x1, .string x2] (by rfl) rfl HNW.out (by intro u hu; simp at hu; rcases hu with rfl | rfl | rfl <;> rfl) (by unfold maxLen; omega) (by omega) (by omega) ?_
          intro v9 w9 hown9 hgrow9 hwh9
          have HF := Hid.intro (CrS.appA (HC.out.1.next HW.out.2) hown9 hgrow9 hwh9)
          obtain ⟨a9, c9, hv8⟩ := HF.out.1.va_form
          have hv9 : v9 = .slice a9 (M.length + 1) c9 := by rw [hv8, List.length_append]; rfl
          clear hv8
          have HBX := Hid.intro (HW.out.1.grow hgrow9 (fun e => by have := (HC.out.1.2.2.1.lt _ e.symm).2; omega))
          have HB9 := Hid.intro ((HC.out.2.next HW.out.2).grow hgrow9 (fun e => by have := (HC.out.1.2.2.1.lt _ e.symm).1; omega))
          subst hv9
          clear hown9 hgrow9 hwh9
          refine hK.out _ _ HBX.out (fun hHeld => ?_)
          clear hK KC
          refine take_v (v := ?_) 6 ⟨some 24, Op.fieldAddr 29 (Operand.tmp 3) 1, _, _, _, none⟩ rfl (fun _ _ _ h => h) ?_ hHeld ?_
          rotate_left
          · (intro W _; go_simp <;> (try with_reducible rfl))
          refine ready_call 7 ⟨none, Op.store 26 (Operand.tmp 24) (Operand.tmp 23), _, _, _, none⟩ (by kernel_rfl) rfl (by kernel_rfl) (fun KC hK => ?_)
          have r0 := HF.out.2.cell 0 rfl
          have r1 := HF.out.2.cell 1 rfl
          have r2 := HF.out.2.cell 2 rfl
          have rz := HF.out.2.2
          have g1 := HF.out.2.frz 1 (by simp)
          go_wp2_with fail
          clear r0 r1 r2 rz g1
          refine hK.out _ _ (HBX.out.other (Nat.ne_of_gt hbw)) (fun hHeld => ?_)
          clear hK KC
          refine wpAnyH_done (by kernel_rfl) ?_ _
          refine NoPanic.normal ?_
          clear hHeld
          go_wp2
          go_roundw
          case rel => exact ⟨k + 1, _, by omega, by go_num, by rw [HPT.out]; exact HF.out.1, HB9.out.other (by omega)⟩
          case measure => simp [intOf]; omega
    · have hkn : k = cp.length := by omega
      have hC2 : CrS w (w.heap.size + 1 + 1) (w.heap.size + 1) wr ck va cp (.slice none 0 0) (os.take 0) := by have := hC; rw [hkn, List.take_length] at this; exact this
      have HC : Hid (CrS w (w.heap.size + 1 + 1) (w.heap.size + 1) wr ck va cp (.slice none 0 0) (os.take 0)) := hC2
      have s0 := (hbx).cell 0 rfl; have s1 := (hbx).cell 1 rfl; have s2 := (hbx).cell 2 rfl; have sz := (hbx).2
      clear hC hC2 hbx hkn hj0 hy0 hy1 hy2
      obtain ⟨j1, hj0, hy0, hy1, hy2⟩ := info_parts inf_RegOp
      obtain ⟨i1, hi1, hx0, hx1, hx2⟩ := info_parts inf_int
      go_wp2
      clear s0 s1 s2 sz
      go_loopw [29] (fun i wr => ∃ (k : Nat) (vp : Value), k ≤ os.length ∧ i = .int .i64 k ∧ CrS w (w.heap.size + 1 + 1) (w.heap.size + 1) wr ck va cp vp (os.take k)) (fun i _ => os.length - (intOf i).toNat)
      case atStart => exact ⟨0, _, Nat.zero_le _, rfl, HC.out⟩
      case round =>
        obtain ⟨k, vp, hk, rfl, hC⟩ := hrel
        clear HC
        by_cases hlt : k < os.length
        · have hlt' : (k : Int) < (os.length : Int) := by omega
          have HLE : Hid (Lies wr (.list shRegOp) [.slice a2 os.length k2] os) := HL.out.2.next hC.2.2.2.2.1
          obtain ⟨xg, xoff, xgo, xgs, xec, xel, xhec, xle⟩ := Lies.elem (HLE.out) hlt
          subst xgo
          rcases xX : os[k] with ⟨x0, x1, x2, x3, x4, ⟨x5, x6, x7, ⟨⟩⟩, x8, x9, ⟨⟩⟩
          rw [xX] at xle
          have xH : Hid (os[k] = (x0, x1, x2, x3, x4, (x5, x6, x7, ()), x8, x9, ())) := xX
          clear xX
          obtain ⟨xa1, xk1, xev, xq1⟩ := lies_RegOp xle
          subst xev
          have xc0 : wr.cell? ⟨xg, xoff + k * 10, none⟩ = some (.int .i64 x0) := xhec 0 (by simp)
          have xc1 : wr.cell? ⟨xg, xoff + k * 10 + 1, none⟩ = some (.bool x1) := xhec 1 (by simp)
          have xc2 : wr.cell? ⟨xg, xoff + k * 10 + 2, none⟩ = some (.string x2) := xhec 2 (by simp)
          have xc3 : wr.cell? ⟨xg, xoff + k * 10 + 3, none⟩ = some (.int .i64 x3) := xhec 3 (by simp)
          have xc4 : wr.cell? ⟨xg, xoff + k * 10 + 4, none⟩ = some (.slice xa1 x4.length xk1) := xhec 4 (by simp)
          have xc5 : wr.cell? ⟨xg, xoff + k * 10 + 5, none⟩ = some (.int .i64 x5) := xhec 5 (by simp)
          have xc6 : wr.cell? ⟨xg, xoff + k * 10 + 6, none⟩ = some (.int .i64 x6) := xhec 6 (by simp)
          have xc7 : wr.cell? ⟨xg, xoff + k * 10 + 7, none⟩ = some (.string x7) := xhec 7 (by simp)
          have xc8 : wr.cell? ⟨xg, xoff + k * 10 + 8, none⟩ = some (.int .i64 x8) := xhec 8 (by simp)
          have xc9 : wr.cell? ⟨xg, xoff + k * 10 + 9, none⟩ = some (.int .i64 x9) := xhec 9 (by simp)
          clear xhec xel xle
          have hV := HZ.out.2.2.2 os[k] (List.getElem_mem hlt)
          rw [xH.out] at hV
          have HV : Hid (x2.size ≤ 20 ∧ x4.length ≤ 20 ∧ x7.size ≤ 20) := hV
          have HPT : Hid (os.take (k + 1) = os.take k ++ [mkOp x0 x1 x2 x3 x4 (mkCp x5 x6 x7) x8 x9]) := Hid.intro (by rw [List.take_succ_eq_append_getElem hlt, xH.out]; rfl)
          have hml : (os.take k).length ≤ 1073741824 := by rw [List.length_take]; omega
          obtain ⟨M, hM⟩ : ∃ M, M = os.take k := ⟨_, rfl⟩
          rw [← hM] at hC HPT hml
          obtain ⟨S, q4, q5⟩ := hC.2.2.2.1
          obtain ⟨av, cv, hvE⟩ := q4.vform
          subst hvE
          obtain ⟨xs, r1, r2, B, r3, r4, r5⟩ := q4.row
          have HR : Hid (CrS w (w.heap.size + 1 + 1) (w.heap.size + 1) wr ck va cp (.slice av M.length cv) M ∧ wr.ownsRow (w.heap.size + 1 + 1 + 1) 53 10 (.slice av M.length cv) M.length xs ∧ (∀ k, (Value.slice av M.length cv).ownBlock = some k → S k) ∧ (∀ i, i < M.length → ∀ k, B i k → S k ∧ (Value.slice av M.length cv).ownBlock ≠ some k) ∧ (∀ i j, i < j → j < M.length → ∀ k, B i k → ¬ B j k) ∧ (∀ i (h : i < M.length), OwnX wr (w.heap.size + 1 + 1 + 1) tyRegOp ((xs.drop (i * 10)).take 10) M[i] (B i)) ∧ ∀ k, S k → w.heap.size + 1 + 1 + 1 ≤ k ∧ k < wr.heap.size ∧ va.ownBlock ≠ some k) := ⟨hC, r1, r2, r3, r4, r5, q5⟩
          have hbw : w.heap.size + 1 + 1 < wr.heap.size := hC.1.2
          have HVA : Hid (∀ k, va.ownBlock = some k → k < wr.heap.size) := fun k hk => (hC.2.2.1.lt k hk).2
          obtain ⟨w1, hw1⟩ : ∃ x, x = wr.alloc (.cells #[.int .i64 x0, .bool x1, .string x2, .int .i64 x3, .slice xa1 x4.length xk1, .int .i64 x5, .int .i64 x6, .string x7, .int .i64 x8, .int .i64 x9] 53) := ⟨_, rfl⟩
          have H1 : Hid (Bx w1 wr.heap.size (opC x0 x1 x2 x3 (.slice xa1 x4.length xk1) x5 x6 x7 x8 x9) ∧ Below wr.heap.size wr w1) := ⟨hw1 ▸ Bx.new wr [_, _, _, _, _, _, _, _, _, _] _, hw1 ▸ Go.Joins.below_alloc1 _ _⟩
          have HLX : Hid (Lies wr (.list .int) [.slice xa1 x4.length xk1] x4) := xq1
          clear hM hC HLE hV q4 q5 r1 r2 r3 r4 r5 xq1
          go_wp2_with fail
          rw [← hw1]
          clear hw1 xc0 xc1 xc2 xc3 xc4 xc5 xc6 xc7 xc8 xc9
          refine (clone_any _ _ (by have := HV.out.1; omega)).mono ?_
          rintro r w2 ⟨rfl, hb⟩
          have H2 : Hid (Bx w2 wr.heap.size (opC x0 x1 x2 x3 (.slice xa1 x4.length xk1) x5 x6 x7 x8 x9) ∧ Below wr.heap.size wr w2) := ⟨H1.out.1.next hb, below_next H1.out.2 hb⟩
          clear hb H1
          have q0 := (H2.out.1).cell 0 rfl; have q1 := (H2.out.1).cell 1 rfl; have q2 := (H2.out.1).cell 2 rfl; have q3 := (H2.out.1).cell 3 rfl; have q4 := (H2.out.1).cell 4 rfl; have q5 := (H2.out.1).cell 5 rfl; have q6 := (H2.out.1).cell 6 rfl; have q7 := (H2.out.1).cell 7 rfl; have q8 := (H2.out.1).cell 8 rfl; have q9 := (H2.out.1).cell 9 rfl; have qz := (H2.out.1).2
          have f2 := H2.out.1.frz 2 (by simp)
          obtain ⟨w3, hw3⟩ : ∃ x, x = w2.setCell ⟨wr.heap.size, 2, none⟩ (.string x2) := ⟨_, rfl⟩
          have H3 : Hid (Bx w3 wr.heap.size (opC x0 x1 x2 x3 (.slice xa1 x4.length xk1) x5 x6 x7 x8 x9) ∧ Below wr.heap.size wr w3 ∧ wr.heap.size < w3.heap.size) := by
            have e1 : Bx w3 wr.heap.size (opC x0 x1 x2 x3 (.slice xa1 x4.length xk1) x5 x6 x7 x8 x9) := hw3 ▸ H2.out.1.set (k := 2) (by simp) (.string x2)
            exact ⟨e1, hw3 ▸ H2.out.2.setCell (p := ⟨wr.heap.size, 2, none⟩) (Nat.le_refl _) _, e1.2⟩
          clear H2
          go_upto_region 11 with fail
          rw [← hw3]
          clear hw3 q0 q1 q2 q3 q4 q5 q6 q7 q8 q9 qz f2
          have q0 := (H3.out.1).cell 0 rfl; have q1 := (H3.out.1).cell 1 rfl; have q2 := (H3.out.1).cell 2 rfl; have q3 := (H3.out.1).cell 3 rfl; have q4 := (H3.out.1).cell 4 rfl; have q5 := (H3.out.1).cell 5 rfl; have q6 := (H3.out.1).cell 6 rfl; have q7 := (H3.out.1).cell 7 rfl; have q8 := (H3.out.1).cell 8 rfl; have q9 := (H3.out.1).cell 9 rfl; have qz := (H3.out.1).2
          have f4 := H3.out.1.frz 4 (by simp)
          have h43 : x4.length ≤ 20 := HV.out.2.1
          have hbV : 0 + x4.length ≤ maxLen := by unfold maxLen; omega
          have hcV : (0 + x4.length) * 8 ≤ 140737488355328 := by omega
          go_upto_region 12 with (first | (at_builtin; refine wpList_appx rfl (.const (.slice none 0 0)) (.tmp 38) 51 3 rfl i1 (.int .i64 0) 8 (w.heap.size + 1 + 1 + 1) .int rfl Try.underlying51 hi1 hx0 hx1 hx2 rfl (by decide) (.slice none 0 0) [] x4 (fun _ => False) rfl OwnX.nil' xa1 xk1 rfl (HLX.out.next H3.out.2.1) hbV hcV (by have h1 := H3.out.2.2; omega) ?_; intro v9 w9 hO9 hg9 hwh9; have hO9 : OwnX w9 (w.heap.size + 1 + 1 + 1) (.list .int 3) [v9] x4 _ := hO9; obtain ⟨a9, c9, hv8⟩ := hO9.vform; have hv8 : v9 = .slice a9 (List.length (α := Sh.T .int) x4) c9 := hv8; subst hv8; have H4 : Hid (SnN w9 (w.heap.size + 1 + 1 + 1) wr.heap.size (.slice a9 x4.length c9) x4 ∧ Bx w9 wr.heap.size (opC x0 x1 x2 x3 (.slice xa1 x4.length xk1) x5 x6 x7 x8 x9) ∧ Below wr.heap.size wr w9) := Hid.intro ⟨SnN.of (W := w3) hO9 H3.out.2.2, H3.out.1.grow hg9 (fun e => by cases e), H3.out.2.1.grown hg9 H3.out.2.1.size (fun k hk => by cases hk)⟩; clear hO9 hg9 hwh9 q0 q1 q2 q3 q4 q5 q6 q7 q8 q9 qz f4; have q0 := H4.out.2.1.cell 0 rfl; have q1 := H4.out.2.1.cell 1 rfl; have q2 := H4.out.2.1.cell 2 rfl; have q3 := H4.out.2.1.cell 3 rfl; have q4 := H4.out.2.1.cell 4 rfl; have q5 := H4.out.2.1.cell 5 rfl; have q6 := H4.out.2.1.cell 6 rfl; have q7 := H4.out.2.1.cell 7 rfl; have q8 := H4.out.2.1.cell 8 rfl; have q9 := H4.out.2.1.cell 9 rfl; have qz := H4.out.2.1.2; have f4 := H4.out.2.1.frz 4 (by simp)))
          obtain ⟨w4, hw4⟩ : ∃ x, x = w9.setCell ⟨wr.heap.size, 4, none⟩ (.slice a9 x4.length c9) := ⟨_, rfl⟩
          have H5 : Hid (SnN w4 (w.heap.size + 1 + 1 + 1) wr.heap.size (.slice a9 x4.length c9) x4 ∧ Bx w4 wr.heap.size (opC x0 x1 x2 x3 (.slice a9 x4.length c9) x5 x6 x7 x8 x9) ∧ Below wr.heap.size wr w4) := ⟨hw4 ▸ H4.out.1.set _, hw4 ▸ H4.out.2.1.set (k := 4) (by simp) _, hw4 ▸ H4.out.2.2.setCell (p := ⟨wr.heap.size, 4, none⟩) (Nat.le_refl _) _⟩
          rw [← hw4]
          clear hw4 H4 H3 q0 q1 q2 q3 q4 q5 q6 q7 q8 q9 qz f4 HLX
          have q0 := (H5.out.2.1).cell 0 rfl; have q1 := (H5.out.2.1).cell 1 rfl; have q2 := (H5.out.2.1).cell 2 rfl; have q3 := (H5.out.2.1).cell 3 rfl; have q4 := (H5.out.2.1).cell 4 rfl; have q5 := (H5.out.2.1).cell 5 rfl; have q6 := (H5.out.2.1).cell 6 rfl; have q7 := (H5.out.2.1).cell 7 rfl; have q8 := (H5.out.2.1).cell 8 rfl; have q9 := (H5.out.2.1).cell 9 rfl; have qz := (H5.out.2.1).2
          go_wp2_with fail
          refine (cloneCopy_n x5 x6 x7 _ (by have := HV.out.2.2; omega)).mono ?_
          rintro r w5 ⟨rfl, hb⟩
          have H6 : Hid (SnN w5 (w.heap.size + 1 + 1 + 1) wr.heap.size (.slice a9 x4.length c9) x4 ∧ Bx w5 wr.heap.size (opC x0 x1 x2 x3 (.slice a9 x4.length c9) x5 x6 x7 x8 x9) ∧ Below wr.heap.size wr w5) := ⟨H5.out.1.next hb, H5.out.2.1.next hb, below_next H5.out.2.2 hb⟩
          clear hb H5 q0 q1 q2 q3 q4 q5 q6 q7 q8 q9 qz
          have q0 := (H6.out.2.1).cell 0 rfl; have q1 := (H6.out.2.1).cell 1 rfl; have q2 := (H6.out.2.1).cell 2 rfl; have q3 := (H6.out.2.1).cell 3 rfl; have q4 := (H6.out.2.1).cell 4 rfl; have q5 := (H6.out.2.1).cell 5 rfl; have q6 := (H6.out.2.1).cell 6 rfl; have q7 := (H6.out.2.1).cell 7 rfl; have q8 := (H6.out.2.1).cell 8 rfl; have q9 := (H6.out.2.1).cell 9 rfl; have qz := (H6.out.2.1).2
          have f5 := H6.out.2.1.frz 5 (by simp)
          have f6 := H6.out.2.1.frz 6 (by simp)
          have f7 := H6.out.2.1.frz 7 (by simp)
          go_upto_region 13 with fail
          obtain ⟨w6, hw6⟩ : ∃ x, x = ((w5.setCell ⟨wr.heap.size, 5, none⟩ (.int .i64 x5)).setCell ⟨wr.heap.size, 6, none⟩ (.int .i64 x6)).setCell ⟨wr.heap.size, 7, none⟩ (.string x7) := ⟨_, rfl⟩
          have H7 : Hid (SnN w6 (w.heap.size + 1 + 1 + 1) wr.heap.size (.slice a9 x4.length c9) x4 ∧ Bx w6 wr.heap.size (opC x0 x1 x2 x3 (.slice a9 x4.length c9) x5 x6 x7 x8 x9) ∧ Below wr.heap.size wr w6) := ⟨hw6 ▸ ((H6.out.1.set _).set _).set _, hw6 ▸ ((H6.out.2.1.set (k := 5) (by simp) _).set (k := 6) (by simp) _).set (k := 7) (by simp) _, hw6 ▸ ((H6.out.2.2.setCell (p := ⟨wr.heap.size, 5, none⟩) (Nat.le_refl _) _).setCell (p := ⟨wr.heap.size, 6, none⟩) (Nat.le_refl _) _).setCell (p := ⟨wr.heap.size, 7, none⟩) (Nat.le_refl _) _⟩
          rw [← hw6]
          clear hw6 H6 q0 q1 q2 q3 q4 q5 q6 q7 q8 q9 qz f5 f6 f7
          have q0 := (H7.out.2.1).cell 0 rfl; have q1 := (H7.out.2.1).cell 1 rfl; have q2 := (H7.out.2.1).cell 2 rfl; have q3 := (H7.out.2.1).cell 3 rfl; have q4 := (H7.out.2.1).cell 4 rfl; have q5 := (H7.out.2.1).cell 5 rfl; have q6 := (H7.out.2.1).cell 6 rfl; have q7 := (H7.out.2.1).cell 7 rfl; have q8 := (H7.out.2.1).cell 8 rfl; have q9 := (H7.out.2.1).cell 9 rfl; have qz := (H7.out.2.1).2
          have hq1 := HR.out.1.1.next H7.out.2.2
          have p0 := (hq1).cell 0 rfl; have p1 := (hq1).cell 1 rfl; have p2 := (hq1).cell 2 rfl; have pz := (hq1).2
          clear hq1
          have HB8 : Hid (Below wr.heap.size wr (w6.alloc (.cells #[.int .i64 x0, .bool x1, .string x2, .int .i64 x3, .slice a9 x4.length c9, .int .i64 x5, .int .i64 x6, .string x7, .int .i64 x8, .int .i64 x9] 53)) ∧ Below w6.heap.size w6 (w6.alloc (.cells #[.int .i64 x0, .bool x1, .string x2, .int .i64 x3, .slice a9 x4.length c9, .int .i64 x5, .int .i64 x6, .string x7, .int .i64 x8, .int .i64 x9] 53))) := ⟨below_next H7.out.2.2 (Go.Joins.below_alloc1 _ _), Go.Joins.below_alloc1 _ _⟩
          have HNW := Hid.intro (cells_new w6 [.int .i64 x0, .bool x1, .string x2, .int .i64 x3, .slice a9 x4.length c9, .int .i64 x5, .int .i64 x6, .string x7, .int .i64 x8, .int .i64 x9] 53)
          have hz6 : wr.heap.size + 1 ≤ w6.heap.size := H7.out.2.1.2
          go_wp2_with (first | (at_builtin; refine wpList_append_own_at _ rfl (.tmp 46) (.tmp 48) 27 rfl (w.heap.size + 1 + 1 + 1) 53 j1 (.agg #[.int .i64 0, .bool false, .string ⟨#[]⟩, .int .i64 0, .slice none 0 0, .int .i64 0, .int .i64 0, .string ⟨#[]⟩, .int .i64 0, .int .i64 0]) 10 112 Try.underlying27 hj0 hy0 hy1 hy2 rfl (by decide) (.slice av M.length cv) M.length xs rfl (ownsRow_next HR.out.2.1 HB8.out.1) ⟨w6.heap.size, 0, none⟩ 1 1 [.int .i64 x0, .bool x1, .string x2, .int .i64 x3, .slice a9 x4.length c9, .int .i64 x5, .int .i64 x6, .string x7, .int .i64 x8, .int .i64 x9] rfl rfl HNW.out (by intro u hu; simp at hu; rcases hu with rfl | rfl | rfl | rfl | rfl | rfl | rfl | rfl | rfl | rfl <;> rfl) (by unfold maxLen; omega) (by omega) (by simp <;> omega) ?_; intro v9 w9 hown9 hgrow9 hnil9 hwh9; have HF := Hid.intro (CrS.appP (x := mkOp x0 x1 x2 x3 x4 (mkCp x5 x6 x7) x8 x9) (HR.out.1.next HB8.out.1) (ownsRow_next HR.out.2.1 HB8.out.1) HR.out.2.2.1 HR.out.2.2.2.1 HR.out.2.2.2.2.1 (fun i hi => (HR.out.2.2.2.2.2.1 i hi).next HB8.out.1) (fun k hk => ⟨(HR.out.2.2.2.2.2.2 k hk).1, Nat.lt_of_lt_of_le (HR.out.2.2.2.2.2.2 k hk).2.1 HB8.out.1.size, (HR.out.2.2.2.2.2.2 k hk).2.2⟩) (mkownx_RegOp (H7.out.1.next HB8.out.2).1 (fun k hk => hk)) (fun k hk => ⟨by have q1 := (H7.out.1.2 k hk).1; omega, by have q2 := (H7.out.1.2 k hk).2; simp; omega, fun e => by have q1 := (H7.out.1.2 k hk).1; have := (HR.out.2.2.2.2.2.2 k e).2.1; omega, fun e => by have q1 := (H7.out.1.2 k hk).1; have := HVA.out k e; omega⟩) hown9 hgrow9 hwh9); obtain ⟨a8, c8, hv8⟩ := HF.out.1.vp_form; have hv9 : v9 = .slice a8 (M.length + 1) c8 := (by rw [hv8, List.length_append]; rfl); clear hv8; subst hv9; clear hown9 hgrow9 hnil9 hwh9 q0 q1 q2 q3 q4 q5 q6 q7 q8 q9 qz p0 p1 p2 pz; have p0 := HF.out.2.cell 0 rfl; have p1 := HF.out.2.cell 1 rfl; have p2 := HF.out.2.cell 2 rfl; have pz := HF.out.2.2; have f2 := HF.out.2.frz 2 (by simp)))
          go_roundw
          case rel => exact ⟨k + 1, _, by omega, by go_num, by rw [HPT.out]; exact HF.out.1⟩
          case measure => simp [intOf]; omega
        · have hkn : k = os.length := by omega
          have hC2 : CrS w (w.heap.size + 1 + 1) (w.heap.size + 1) wr ck va cp vp os := by have := hC; rwa [hkn, List.take_length] at this
          obtain ⟨av, cv, hvE⟩ := hC2.va_form
          subst hvE
          obtain ⟨av2, cv2, hvE⟩ := hC2.vp_form
          subst hvE
          have HF := Hid.intro hC2
          have p0 := (hC2.1).cell 0 rfl; have p1 := (hC2.1).cell 1 rfl; have p2 := (hC2.1).cell 2 rfl; have pz := (hC2.1).2
          have q0 := (hC2.2.1).cell 0 rfl; have q1 := (hC2.2.1).cell 1 rfl; have q2 := (hC2.2.1).cell 2 rfl; have qz := (hC2.2.1).2
          have f0 := hC2.2.1.frz 0 (by simp)
          have f1 := hC2.2.1.frz 1 (by simp)
          have f2 := hC2.2.1.frz 2 (by simp)
          clear hC hC2 hkn
          go_wp2
          refine bodyPost_ret (v := .agg #[.int .i64 ck, .slice av cp.length cv, .slice av2 os.length cv2]) (by simp [results, Try.results69, go_sem, *]) rfl ⟨[.int .i64 ck, .slice av cp.length cv, .slice av2 os.length cv2], rfl, HF.out.done (set3 _ _ _ _ _), ?_⟩
          exact ((HF.out.2.2.2.2.1.setCell (p := ⟨w.heap.size + 1, 0, none⟩) (by simp) _).setCell (p := ⟨w.heap.size + 1, 1, none⟩) (by simp) _).setCell (p := ⟨w.heap.size + 1, 2, none⟩) (by simp) _
end Go.Proofs.Ytaofolbnommpgaa
