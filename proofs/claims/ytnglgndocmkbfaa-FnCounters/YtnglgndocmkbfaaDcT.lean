/- Draws of counters: counter, DrawMergeCounter, DrawCountBy. Written by tools/mkDcT.py. -/
import Derived.Test.YtnglgndocmkbfaaDrA
import Derived.Test.YtnglgndocmkbfaaShDv
import Derived.Test.YtnglgndocmkbfaaCtM
import Derived.Test.YtnglgndocmkbfaaCtL
namespace Go.Proofs.Ytnglgndocmkbfaa
open Go.RowKit
set_option linter.unusedVariables false
set_option linter.unusedSimpArgs false

theorem drew_turnC {g : Nat} {a : Option Addr} {n cap : Nat} {X : Nat → Int} {t : Nat} {w w' : World} (h : Drew g a n cap X t w w') : TurnS (fun k => k = g) w w' := ⟨h.2.1, h.2.2.1, h.2.2.2.1, h.2.2.2.2.1, fun k hk hx => h.2.2.2.2.2 k hk (by have hx : k ≠ g := hx; omega)⟩
theorem Drew.nextC {g : Nat} {a : Option Addr} {n cap : Nat} {X : Nat → Int} {t : Nat} {w w' w'' : World} (h : Drew g a n cap X t w w') (hb : Below w'.heap.size w' w'') : Drew g a n cap X t w w'' := ⟨h.1.next hb, h.2.next hb⟩
/-- While a counter is drawn: it lies in box b, the answer's box is the first behind w. -/
def DcS (w W : World) (b g1 c1 g2 c2 : Nat) (u d : List (Sh.T .int)) (g : Nat) (a : Option Addr) (n cap : Nat) (X : Nat → Int) (t : Nat) : Prop := CtS W (w.heap.size + 1) b g1 c1 g2 c2 u d ∧ Bx W w.heap.size [.slice none 0 0, .slice none 0 0] ∧ Drew g a n cap X t w W
section
variable {w W W' : World} {b g1 c1 g2 c2 : Nat} {u d : List (Sh.T .int)} {g : Nat} {a : Option Addr} {n cap : Nat} {X : Nat → Int} {t t' : Nat}
theorem DcS.next (h : DcS w W b g1 c1 g2 c2 u d g a n cap X t) (hb : Below W.heap.size W W') : DcS w W' b g1 c1 g2 c2 u d g a n cap X t := ⟨h.1.next hb, h.2.1.next hb, h.2.2.nextC hb⟩
theorem DcS.draw (h : DcS w W b g1 c1 g2 c2 u d g a n cap X t) (hd : Drew g a n cap X t' W W') (hg : g < w.heap.size) : DcS w W' b g1 c1 g2 c2 u d g a n cap X t' :=
  ⟨h.1.turn (drew_turnC hd) (fun k e => by have e : k = g := e; omega), h.2.1.trn hd.2 (by omega), h.2.2.trans hd⟩
theorem DcS.up (h : DcS w W b g1 c1 g2 c2 u d g a n cap X t) (ht : t ≤ t') : DcS w W b g1 c1 g2 c2 u d g a n cap X t' := ⟨h.1, h.2.1, h.2.2.up ht⟩
end
/-- A counter was drawn. -/
def DcP (g : Nat) (a : Option Addr) (n cap : Nat) (X : Nat → Int) (t : Nat) (w : World) (r : Ending) (w' : World) : Prop := ∃ (u d : List (Sh.T .int)) (a1 : Option Addr) (k1 : Nat) (a2 : Option Addr) (k2 : Nat), (u.length ≤ 6 ∧ d.length ≤ 6) ∧ r = .returned (.agg #[.slice a1 u.length k1, .slice a2 d.length k2]) ∧ (∀ (S : Nat → Prop) (W : World), TurnS S w' W → (∀ k, S k → k ≤ w.heap.size) → Lies W (.list .int) [.slice a1 u.length k1] u ∧ Lies W (.list .int) [.slice a2 d.length k2] d) ∧ Drew g a n cap X t w w'
theorem DcS.done {w W : World} {b g1 c1 g2 c2 : Nat} {u d : List (Sh.T .int)} {g : Nat} {a : Option Addr} {n cap : Nat} {X : Nat → Int} {t t' : Nat} (h : DcS w W b g1 c1 g2 c2 u d g a n cap X t) (hg : g < w.heap.size) (ht : t ≤ t') : DcP g a n cap X t' w (.returned (.agg #[.slice (some ⟨g1, 0, none⟩) 6 c1, .slice (some ⟨g2, 0, none⟩) 6 c2])) ((W.setCell ⟨w.heap.size, 0, none⟩ (.slice (some ⟨g1, 0, none⟩) 6 c1)).setCell ⟨w.heap.size, 1, none⟩ (.slice (some ⟨g2, 0, none⟩) 6 c2)) := by
  have hu := h.1.2.1
  have hd := h.1.2.2.1
  have ht2 := set2 W w.heap.size (.slice (some ⟨g1, 0, none⟩) 6 c1) (.slice (some ⟨g2, 0, none⟩) 6 c2)
  have r1 := (hu.turn ht2 (fun e => by have e : g1 = w.heap.size := e; have := hu.lt; omega))
  have r2 := (hd.turn ht2 (fun e => by have e : g2 = w.heap.size := e; have := hd.lt; omega))
  refine ⟨u, d, some ⟨g1, 0, none⟩, c1, some ⟨g2, 0, none⟩, c2, ⟨Nat.le_of_eq r1.2, Nat.le_of_eq r2.2⟩, ?_, fun S W hW hS => ⟨(r1.turn hW (fun e => by have := hS _ e; have := hu.lt; omega)).lies, (r2.turn hW (fun e => by have := hS _ e; have := hd.lt; omega)).lies⟩, ((h.2.2.out hg (Nat.le_refl _) _).out hg (Nat.le_refl _) _).up ht⟩
  rw [r1.2, r2.2]
theorem Rw.cap {t : TypeId} {W : World} {lo g c : Nat} {l : List (Sh.T .int)} (h : Rw t W lo g c l 6) : 6 ≤ c ∧ c ≤ maxLen := by
  rcases h.1 with ⟨h0, _⟩ | ⟨g', cap, xs, B, e1, hr, _⟩
  · have := h.2; rw [h0] at this; cases this
  · obtain ⟨cur, _, q1, q2, _⟩ := hr
    have e2 := List.singleton_inj.1 e1
    injection e2 with e3 e4 e5
    have := h.2
    subst e5
    exact ⟨by omega, q2⟩

theorem rw_box {t : TypeId} {W : World} {lo g c : Nat} {l : List (Sh.T .int)} {us : List Value} (h : Rw t W lo g c l 6) (hB : Bx W g (.slice none 0 0 :: us)) : False := by
  have h1 := (h.at (show 0 < 6 by omega)).1
  have h2 := hB.cell 0 rfl
  rw [h1] at h2
  cases h2
theorem ct_split {w W W9 : World} {r : Ending} {cs9 : List Value} {A : List (Sh.T .int) × List (Sh.T .int) × Bool} {z : Bool} (hlt : w.heap.size + 1 ≤ W.heap.size) (hr : r = .returned (.tuple #[.agg cs9.toArray, .bool A.2.2])) (ho : Own W9 shCounter cs9 (A.1, A.2.1, ()) (Btw W.heap.size W9.heap.size)) (hzE : z = A.2.2)
    (hT : A.2.2 = true → ∃ g1 c1 g2 c2, r = .returned (.tuple #[.agg #[.slice (some ⟨g1, 0, none⟩) 6 c1, .slice (some ⟨g2, 0, none⟩) 6 c2], .bool true]) ∧ Rw 3 W9 W.heap.size g1 c1 A.1 6 ∧ Rw 3 W9 W.heap.size g2 c2 A.2.1 6 ∧ g1 ≠ g2) :
    ∃ p1 n1 k1 p2 n2 k2, cs9 = [.slice p1 n1 k1, .slice p2 n2 k2] ∧ (z = true → ∃ e1 f1 e2 f2 U V, Value.slice p1 n1 k1 = .slice (some ⟨e1, 0, none⟩) 6 f1 ∧ Value.slice p2 n2 k2 = .slice (some ⟨e2, 0, none⟩) 6 f2 ∧ Rw 3 W9 (w.heap.size + 1) e1 f1 U 6 ∧ Rw 3 W9 (w.heap.size + 1) e2 f2 V 6 ∧ e1 ≠ e2 ∧ W.heap.size ≤ e1 ∧ W.heap.size ≤ e2) := by
  obtain ⟨a1, k1, _, a2, k2, _, hev, _⟩ := own_Counter ho
  refine ⟨_, _, _, _, _, _, hev, fun hz => ?_⟩
  obtain ⟨g1, c1, g2, c2, hr2, r1, r2, hne⟩ := hT (hzE ▸ hz)
  rw [hr, hev] at hr2
  simp only [Ending.returned.injEq, Value.tuple.injEq, Array.mk.injEq, List.cons.injEq, Value.agg.injEq, and_true, List.toArray_eq_iff] at hr2
  have e1 := hr2.1.1
  have e2 := hr2.1.2
  exact ⟨g1, c1, g2, c2, _, _, e1, e2, r1.lower hlt, r2.lower hlt, hne, r1.lt.2, r2.lt.2⟩
theorem rz_next {w W W' : World} {b3 : Nat} {v1 v2 : Value} (h : ∃ e1 f1 e2 f2 U V, v1 = .slice (some ⟨e1, 0, none⟩) 6 f1 ∧ v2 = .slice (some ⟨e2, 0, none⟩) 6 f2 ∧ Rw 3 W (w.heap.size + 1) e1 f1 U 6 ∧ Rw 3 W (w.heap.size + 1) e2 f2 V 6 ∧ e1 ≠ e2 ∧ b3 ≠ e1 ∧ b3 ≠ e2) (hb : Below W.heap.size W W') : ∃ e1 f1 e2 f2 U V, v1 = .slice (some ⟨e1, 0, none⟩) 6 f1 ∧ v2 = .slice (some ⟨e2, 0, none⟩) 6 f2 ∧ Rw 3 W' (w.heap.size + 1) e1 f1 U 6 ∧ Rw 3 W' (w.heap.size + 1) e2 f2 V 6 ∧ e1 ≠ e2 ∧ b3 ≠ e1 ∧ b3 ≠ e2 := by
  obtain ⟨e1, f1, e2, f2, U, V, q1, q2, q3, q4, q5⟩ := h
  exact ⟨e1, f1, e2, f2, U, V, q1, q2, q3.next hb, q4.next hb, q5⟩
theorem rz_box {w W W' : World} {b3 b5 : Nat} {v1 v2 : Value} (h : ∃ e1 f1 e2 f2 U V, v1 = .slice (some ⟨e1, 0, none⟩) 6 f1 ∧ v2 = .slice (some ⟨e2, 0, none⟩) 6 f2 ∧ Rw 3 W (w.heap.size + 1) e1 f1 U 6 ∧ Rw 3 W (w.heap.size + 1) e2 f2 V 6 ∧ e1 ≠ e2 ∧ b3 ≠ e1 ∧ b3 ≠ e2) (hB : Bx W b5 [.slice none 0 0, .slice none 0 0]) (ht : TurnS (fun k => k = b5) W W') : ∃ e1 f1 e2 f2 U V, v1 = .slice (some ⟨e1, 0, none⟩) 6 f1 ∧ v2 = .slice (some ⟨e2, 0, none⟩) 6 f2 ∧ Rw 3 W' (w.heap.size + 1) e1 f1 U 6 ∧ Rw 3 W' (w.heap.size + 1) e2 f2 V 6 ∧ e1 ≠ e2 ∧ b3 ≠ e1 ∧ b3 ≠ e2 := by
  obtain ⟨e1, f1, e2, f2, U, V, q1, q2, q3, q4, q5⟩ := h
  have n1 : e1 ≠ b5 := fun e => by subst e; exact rw_box q3 hB
  have n2 : e2 ≠ b5 := fun e => by subst e; exact rw_box q4 hB
  exact ⟨e1, f1, e2, f2, U, V, q1, q2, q3.turn ht (fun e => n1 e), q4.turn ht (fun e => n2 e), q5⟩
theorem dcs_box {w W : World} {b g1 c1 g2 c2 b5 : Nat} {u d : List (Sh.T .int)} {g : Nat} {a : Option Addr} {n cap : Nat} {X : Nat → Int} {t : Nat} {v1 v2 : Value} (h : DcS w W b g1 c1 g2 c2 u d g a n cap X t) (hB : Bx W b5 [.slice none 0 0, .slice none 0 0]) (ht : TurnS (fun k => k = b5) W ((W.setCell ⟨b5, 0, none⟩ v1).setCell ⟨b5, 1, none⟩ v2)) (hne : b ≠ b5) (hg : g < w.heap.size) (hlo : w.heap.size < b5) : DcS w ((W.setCell ⟨b5, 0, none⟩ v1).setCell ⟨b5, 1, none⟩ v2) b g1 c1 g2 c2 u d g a n cap X t := by
  have n1 : g1 ≠ b5 := fun e => by subst e; exact rw_box h.1.2.1 hB
  have n2 : g2 ≠ b5 := fun e => by subst e; exact rw_box h.1.2.2.1 hB
  exact ⟨⟨h.1.1.turnS ht (fun e => hne e), h.1.2.1.turn ht (fun e => n1 e), h.1.2.2.1.turn ht (fun e => n2 e), h.1.2.2.2⟩, h.2.1.turnS ht (fun e => by have e : w.heap.size = b5 := e; omega), (h.2.2.out hg (by omega) _).out hg (by omega) _⟩
theorem dcs_cut {w W : World} {b g1 c1 g2 c2 : Nat} {u d : List (Sh.T .int)} {g : Nat} {a : Option Addr} {n cap : Nat} {X : Nat → Int} {t t' : Nat} (h : DcS w W b g1 c1 g2 c2 u d g a n cap X t) (hg : g < w.heap.size) (ht : t ≤ t') : DcP g a n cap X t' w (.returned (.agg #[.slice (some ⟨g1, 0, none⟩) 6 c1, .slice (some ⟨g2, 1, none⟩) 5 (c2 - 1)])) (((W.setCell ⟨b, 1, none⟩ (.slice (some ⟨g2, 1, none⟩) 5 (c2 - 1))).setCell ⟨w.heap.size, 0, none⟩ (.slice (some ⟨g1, 0, none⟩) 6 c1)).setCell ⟨w.heap.size, 1, none⟩ (.slice (some ⟨g2, 1, none⟩) 5 (c2 - 1))) := by
  have hb := h.1.2.2.2.2.2.2
  have t1 := turn_set W ⟨b, 1, none⟩ (.slice (some ⟨g2, 1, none⟩) 5 (c2 - 1))
  have t2 := set2 (W.setCell ⟨b, 1, none⟩ (.slice (some ⟨g2, 1, none⟩) 5 (c2 - 1))) w.heap.size (.slice (some ⟨g1, 0, none⟩) 6 c1) (.slice (some ⟨g2, 1, none⟩) 5 (c2 - 1))
  have r1 := (h.1.2.1.turn t1 (fun e => h.1.2.2.2.2.1 (Eq.symm e))).turn t2 (fun e => by have e : g1 = w.heap.size := e; have := h.1.2.1.lt; omega)
  have r2 := (h.1.2.2.1.turn t1 (fun e => h.1.2.2.2.2.2.1 (Eq.symm e))).turn t2 (fun e => by have e : g2 = w.heap.size := e; have := h.1.2.2.1.lt; omega)
  have hl2 : (d.drop 1).length = 5 := by rw [List.length_drop, r2.2]
  refine ⟨u, d.drop 1, some ⟨g1, 0, none⟩, c1, some ⟨g2, 1, none⟩, c2 - 1, ⟨Nat.le_of_eq r1.2, by omega⟩, ?_, fun S W' hW hS => ⟨(r1.turn hW (fun e => by have := hS _ e; have := h.1.2.1.lt; omega)).lies, ?_⟩, (((h.2.2.out hg (by omega) _).out hg (Nat.le_refl _) _).out hg (Nat.le_refl _) _).up ht⟩
  · rw [r1.2, hl2]
  · have l2 := lies_drop (r2.turn hW (fun e => by have := hS _ e; have := h.1.2.2.1.lt; omega)).lies 1 (by rw [r2.2]; omega)
    rw [hl2]
    rw [r2.2] at l2
    exact l2
set_option maxRecDepth 100000 in
set_option maxHeartbeats 8000000 in
theorem counter_any (g : Nat) (a : Option Addr) (n cap : Nat) (X : Nat → Int) (t : Nat) (w : World) (ht : t ≤ 900000) (hc : Cur w g a n cap X t) :
    Calls Try.prog 61 #[.pointer (some ⟨g, 0, none⟩)] w (DcP g a n cap X (t + 60) w) := by
  have hg : g < w.heap.size := hc.2.2.2.2.2.1
  obtain ⟨i0, hi0, hz0, hz1, hz2⟩ := info_parts inf_int
  obtain ⟨w0, hw0⟩ : ∃ x, x = w.alloc (.cells #[.slice none 0 0, .slice none 0 0] 25) := ⟨_, rfl⟩
  have hb0 : Below w.heap.size w w0 := hw0 ▸ Go.Joins.below_alloc1 _ _
  have HD : Hid (Bx w0.drew w.heap.size [.slice none 0 0, .slice none 0 0] ∧ Drew g a n cap X t w w0.drew ∧ w.heap.size + 1 ≤ w0.drew.heap.size) := ⟨(hw0 ▸ Bx.new w [_, _] _ : Bx w0 _ _).next (below_drew _), ⟨hc.next (hb0.trans ((below_drew w0).mono hb0.size)), (Trn.refl _ _ _).next (hb0.trans ((below_drew w0).mono hb0.size))⟩, by have : w0.drew.heap.size = w0.heap.size := rfl; rw [this, hw0]; simp⟩
  clear hc hb0
  go_enter Try.func61, Try.ntmps61
  go_upto_region 1 with fail
  rw [← hw0]
  clear hw0
  go_cut [3] (fun s3 wx => ∃ b3 g1 c1 g2 c2 u d, s3 = .pointer (some ⟨b3, 0, none⟩) ∧ DcS w wx b3 g1 c1 g2 c2 u d g a n cap X t)
  case first =>
    have HQ : Hid (PrQ .int 3 w0.drew (w.heap.size + 1) (List.replicate 6 (0 : Int)) (List.replicate 6 (0 : Int)) none none none [.slice none 0 0, .slice none 0 0]) := Hid.intro (PrQ.start HD.out.2.2)
    refine wp_region_noPanic ?_
    refine wp_region_held_drew (S := fun _ => True) (by kernel_rfl) trivial (fun hHeld => ?_)
    obtain ⟨W, hWE⟩ : ∃ x, x = w0.drew := ⟨_, rfl⟩
    rw [← hWE] at HD HQ ⊢
    clear hWE
    refine ready_three 0 1 3 ⟨some 7, Op.makeSlice 23 (Operand.const (Value.int IntKind.i64 6)) (Operand.const (Value.int IntKind.i64 6)), _, _, _, none⟩ ⟨some 8, Op.makeSlice 23 (Operand.const (Value.int IntKind.i64 6)) (Operand.const (Value.int IntKind.i64 6)), _, _, _, none⟩ ⟨some 3, Op.alloc 25, _, _, _, none⟩ (by kernel_rfl) rfl rfl rfl (by kernel_rfl) (by kernel_rfl) (by kernel_rfl) (fun KC hK => ?_) (fun KC hK => ?_) (fun KC hK => ?_)
    ·
      refine wp_make_int _ _ 23 3 (by rfl) i0 Try.underlying23 hi0 hz0 hz1 6 (by rfl) (by rfl) (by rw [hz2]; decide) (by decide) ?_
      intro W9 hA
      have hb : Below W.heap.size W W9 := hA.2
      obtain ⟨m1, hm⟩ : ∃ x, x = W.heap.size := ⟨_, rfl⟩
      rw [← hm] at hA ⊢
      have HQ : Hid (PrQ .int 3 W9 (w.heap.size + 1) (List.replicate 6 (0 : Int)) (List.replicate 6 (0 : Int)) (some (.slice (some ⟨m1, 0, none⟩) 6 6, true)) _ _ [.slice none 0 0, .slice none 0 0]) := Hid.intro (HQ.out.row1 rfl (OwnX.lower HD.out.2.2 hA.1) (row := none) ⟨hb.os, hb.tape, hb.output, hb.size, fun k hk _ => hb.block k hk⟩ (fun k hk => by cases hk) (fun k hk => Or.inr (by rw [← hm]; exact (Option.some.inj hk).symm)))
      have HD : Hid (Bx W9 w.heap.size [.slice none 0 0, .slice none 0 0] ∧ Drew g a n cap X t w W9 ∧ w.heap.size + 1 ≤ W9.heap.size) := ⟨HD.out.1.next hb, HD.out.2.1.nextC hb, Nat.le_trans HD.out.2.2 hb.size⟩
      clear hA hb hm
      obtain ⟨W, hWE⟩ : ∃ x, x = W9 := ⟨_, rfl⟩
      subst hWE
      refine hK.out _ _ trivial (fun hHeld => ?_)
      clear hK KC
      refine ready_two 1 3 ⟨some 8, Op.makeSlice 23 (Operand.const (Value.int IntKind.i64 6)) (Operand.const (Value.int IntKind.i64 6)), _, _, _, none⟩ ⟨some 3, Op.alloc 25, _, _, _, none⟩ (by kernel_rfl) rfl rfl (by kernel_rfl) (by kernel_rfl) (fun KC hK => ?_) (fun KC hK => ?_)
      ·
        refine wp_make_int _ _ 23 3 (by rfl) i0 Try.underlying23 hi0 hz0 hz1 6 (by rfl) (by rfl) (by rw [hz2]; decide) (by decide) ?_
        intro W9 hA
        have hb : Below W.heap.size W W9 := hA.2
        obtain ⟨m2, hm⟩ : ∃ x, x = W.heap.size := ⟨_, rfl⟩
        rw [← hm] at hA ⊢
        have HQ : Hid (PrQ .int 3 W9 (w.heap.size + 1) (List.replicate 6 (0 : Int)) (List.replicate 6 (0 : Int)) _ (some (.slice (some ⟨m2, 0, none⟩) 6 6, true)) _ [.slice none 0 0, .slice none 0 0]) := Hid.intro (HQ.out.row2 rfl (OwnX.lower HD.out.2.2 hA.1) (row := none) ⟨hb.os, hb.tape, hb.output, hb.size, fun k hk _ => hb.block k hk⟩ (fun k hk => by cases hk) (fun k hk => Or.inr (by rw [← hm]; exact (Option.some.inj hk).symm)))
        have HD : Hid (Bx W9 w.heap.size [.slice none 0 0, .slice none 0 0] ∧ Drew g a n cap X t w W9 ∧ w.heap.size + 1 ≤ W9.heap.size) := ⟨HD.out.1.next hb, HD.out.2.1.nextC hb, Nat.le_trans HD.out.2.2 hb.size⟩
        clear hA hb hm
        obtain ⟨W, hWE⟩ : ∃ x, x = W9 := ⟨_, rfl⟩
        subst hWE
        refine hK.out _ _ trivial (fun hHeld => ?_)
        clear hK KC
        refine take_v (v := ?_) 2 ⟨some 9, Op.build 25 #[(0, Operand.tmp 7), (1, Operand.tmp 8)], _, _, _, none⟩ rfl (fun _ _ _ h => h) ?_ hHeld ?_
        rotate_left
        · (intro W _; go_simp <;> (try with_reducible rfl))
        refine ready_call 3 ⟨some 3, Op.alloc 25, _, _, _, none⟩ (by kernel_rfl) rfl (by kernel_rfl) (fun KC hK => ?_)
        go_wp2_with fail
        have hb := Go.Joins.below_alloc1 W (.cells #[.slice none 0 0, .slice none 0 0] 25)
        have HQ := Hid.intro (HQ.out.box 25)
        have HD : Hid (Bx (W.alloc (.cells #[.slice none 0 0, .slice none 0 0] 25)) w.heap.size [.slice none 0 0, .slice none 0 0] ∧ Drew g a n cap X t w (W.alloc (.cells #[.slice none 0 0, .slice none 0 0] 25)) ∧ w.heap.size + 1 ≤ (W.alloc (.cells #[.slice none 0 0, .slice none 0 0] 25)).heap.size) := ⟨HD.out.1.next hb, HD.out.2.1.nextC hb, Nat.le_trans HD.out.2.2 hb.size⟩
        obtain ⟨b3, hmE⟩ : ∃ x, x = W.heap.size := ⟨_, rfl⟩
        obtain ⟨W8, hWE⟩ : ∃ x, x = W.alloc (.cells #[.slice none 0 0, .slice none 0 0] 25) := ⟨_, rfl⟩
        have HQ : Hid (PrQ .int 3 W8 (w.heap.size + 1) (List.replicate 6 (0 : Int)) (List.replicate 6 (0 : Int)) _ _ (some b3) [.slice none 0 0, .slice none 0 0]) := Hid.intro (by rw [hWE, hmE]; exact HQ.out)
        rw [← hWE] at HD ⊢
        rw [← hmE]
        clear hb hWE hmE
        obtain ⟨W, hWE⟩ : ∃ x, x = W8 := ⟨_, rfl⟩
        subst hWE
        refine hK.out _ _ trivial (fun hHeld => ?_)
        clear hK KC
        refine ready_call 4 ⟨none, Op.store 25 (Operand.tmp 3) (Operand.tmp 9), _, _, _, none⟩ (by kernel_rfl) rfl (by kernel_rfl) (fun KC hK => ?_)
        have hq := HQ.out.2.2.1 b3 rfl
        have d0 := (hq.1).cell 0 rfl
        have d1 := (hq.1).cell 1 rfl
        have dz := (hq.1).2
        have df0 := (hq.1).frz 0 (by simp)
        have df1 := (hq.1).frz 1 (by simp)
        have hbb := hq.2
        go_wp2_with fail
        have HF := Hid.intro (PrS.of HQ.out)
        have HZ : Hid (Bx ((W.setCell ⟨b3, 0, none⟩ (.slice (some ⟨m1, 0, none⟩) 6 6)).setCell ⟨b3, 1, none⟩ (.slice (some ⟨m2, 0, none⟩) 6 6)) w.heap.size [.slice none 0 0, .slice none 0 0] ∧ Drew g a n cap X t w ((W.setCell ⟨b3, 0, none⟩ (.slice (some ⟨m1, 0, none⟩) 6 6)).setCell ⟨b3, 1, none⟩ (.slice (some ⟨m2, 0, none⟩) 6 6))) := ⟨(HD.out.1.other (by omega)).other (by omega), (HD.out.2.1.out hg (by omega) _).out hg (by omega) _⟩
        clear d0 d1 dz df0 df1 hq
        refine hK.out _ _ trivial (fun hHeld => ?_)
        clear hK KC
        refine wpAnyH_done (by kernel_rfl) ?_ _
        refine NoPanic.normal ?_
        go_wp2_with fail
        go_meet
        obtain ⟨g1, c1, g2, c2, hF⟩ := CtS.of HF.out (List.length_replicate ..) (List.length_replicate ..)
        exact ⟨b3, g1, c1, g2, c2, _, _, rfl, hF, HZ.out⟩
      ·
        go_wp2_with fail
        have hb := Go.Joins.below_alloc1 W (.cells #[.slice none 0 0, .slice none 0 0] 25)
        have HQ := Hid.intro (HQ.out.box 25)
        have HD : Hid (Bx (W.alloc (.cells #[.slice none 0 0, .slice none 0 0] 25)) w.heap.size [.slice none 0 0, .slice none 0 0] ∧ Drew g a n cap X t w (W.alloc (.cells #[.slice none 0 0, .slice none 0 0] 25)) ∧ w.heap.size + 1 ≤ (W.alloc (.cells #[.slice none 0 0, .slice none 0 0] 25)).heap.size) := ⟨HD.out.1.next hb, HD.out.2.1.nextC hb, Nat.le_trans HD.out.2.2 hb.size⟩
        obtain ⟨b3, hmE⟩ : ∃ x, x = W.heap.size := ⟨_, rfl⟩
        obtain ⟨W8, hWE⟩ : ∃ x, x = W.alloc (.cells #[.slice none 0 0, .slice none 0 0] 25) := ⟨_, rfl⟩
        have HQ : Hid (PrQ .int 3 W8 (w.heap.size + 1) (List.replicate 6 (0 : Int)) (List.replicate 6 (0 : Int)) _ _ (some b3) [.slice none 0 0, .slice none 0 0]) := Hid.intro (by rw [hWE, hmE]; exact HQ.out)
        rw [← hWE] at HD ⊢
        rw [← hmE]
        clear hb hWE hmE
        obtain ⟨W, hWE⟩ : ∃ x, x = W8 := ⟨_, rfl⟩
        subst hWE
        refine hK.out _ _ trivial (fun hHeld => ?_)
        clear hK KC
        refine ready_call 1 ⟨some 8, Op.makeSlice 23 (Operand.const (Value.int IntKind.i64 6)) (Operand.const (Value.int IntKind.i64 6)), _, _, _, none⟩ (by kernel_rfl) rfl (by kernel_rfl) (fun KC hK => ?_)
        refine wp_make_int _ _ 23 3 (by rfl) i0 Try.underlying23 hi0 hz0 hz1 6 (by rfl) (by rfl) (by rw [hz2]; decide) (by decide) ?_
        intro W9 hA
        have hb : Below W.heap.size W W9 := hA.2
        obtain ⟨m2, hm⟩ : ∃ x, x = W.heap.size := ⟨_, rfl⟩
        rw [← hm] at hA ⊢
        have HQ : Hid (PrQ .int 3 W9 (w.heap.size + 1) (List.replicate 6 (0 : Int)) (List.replicate 6 (0 : Int)) _ (some (.slice (some ⟨m2, 0, none⟩) 6 6, true)) _ [.slice none 0 0, .slice none 0 0]) := Hid.intro (HQ.out.row2 rfl (OwnX.lower HD.out.2.2 hA.1) (row := none) ⟨hb.os, hb.tape, hb.output, hb.size, fun k hk _ => hb.block k hk⟩ (fun k hk => by cases hk) (fun k hk => Or.inr (by rw [← hm]; exact (Option.some.inj hk).symm)))
        have HD : Hid (Bx W9 w.heap.size [.slice none 0 0, .slice none 0 0] ∧ Drew g a n cap X t w W9 ∧ w.heap.size + 1 ≤ W9.heap.size) := ⟨HD.out.1.next hb, HD.out.2.1.nextC hb, Nat.le_trans HD.out.2.2 hb.size⟩
        clear hA hb hm
        obtain ⟨W, hWE⟩ : ∃ x, x = W9 := ⟨_, rfl⟩
        subst hWE
        refine hK.out _ _ trivial (fun hHeld => ?_)
        clear hK KC
        refine take_v (v := ?_) 2 ⟨some 9, Op.build 25 #[(0, Operand.tmp 7), (1, Operand.tmp 8)], _, _, _, none⟩ rfl (fun _ _ _ h => h) ?_ hHeld ?_
        rotate_left
        · (intro W _; go_simp <;> (try with_reducible rfl))
        refine ready_call 4 ⟨none, Op.store 25 (Operand.tmp 3) (Operand.tmp 9), _, _, _, none⟩ (by kernel_rfl) rfl (by kernel_rfl) (fun KC hK => ?_)
        have hq := HQ.out.2.2.1 b3 rfl
        have d0 := (hq.1).cell 0 rfl
        have d1 := (hq.1).cell 1 rfl
        have dz := (hq.1).2
        have df0 := (hq.1).frz 0 (by simp)
        have df1 := (hq.1).frz 1 (by simp)
        have hbb := hq.2
        go_wp2_with fail
        have HF := Hid.intro (PrS.of HQ.out)
        have HZ : Hid (Bx ((W.setCell ⟨b3, 0, none⟩ (.slice (some ⟨m1, 0, none⟩) 6 6)).setCell ⟨b3, 1, none⟩ (.slice (some ⟨m2, 0, none⟩) 6 6)) w.heap.size [.slice none 0 0, .slice none 0 0] ∧ Drew g a n cap X t w ((W.setCell ⟨b3, 0, none⟩ (.slice (some ⟨m1, 0, none⟩) 6 6)).setCell ⟨b3, 1, none⟩ (.slice (some ⟨m2, 0, none⟩) 6 6))) := ⟨(HD.out.1.other (by omega)).other (by omega), (HD.out.2.1.out hg (by omega) _).out hg (by omega) _⟩
        clear d0 d1 dz df0 df1 hq
        refine hK.out _ _ trivial (fun hHeld => ?_)
        clear hK KC
        refine wpAnyH_done (by kernel_rfl) ?_ _
        refine NoPanic.normal ?_
        go_wp2_with fail
        go_meet
        obtain ⟨g1, c1, g2, c2, hF⟩ := CtS.of HF.out (List.length_replicate ..) (List.length_replicate ..)
        exact ⟨b3, g1, c1, g2, c2, _, _, rfl, hF, HZ.out⟩
    ·
      refine wp_make_int _ _ 23 3 (by rfl) i0 Try.underlying23 hi0 hz0 hz1 6 (by rfl) (by rfl) (by rw [hz2]; decide) (by decide) ?_
      intro W9 hA
      have hb : Below W.heap.size W W9 := hA.2
      obtain ⟨m2, hm⟩ : ∃ x, x = W.heap.size := ⟨_, rfl⟩
      rw [← hm] at hA ⊢
      have HQ : Hid (PrQ .int 3 W9 (w.heap.size + 1) (List.replicate 6 (0 : Int)) (List.replicate 6 (0 : Int)) _ (some (.slice (some ⟨m2, 0, none⟩) 6 6, true)) _ [.slice none 0 0, .slice none 0 0]) := Hid.intro (HQ.out.row2 rfl (OwnX.lower HD.out.2.2 hA.1) (row := none) ⟨hb.os, hb.tape, hb.output, hb.size, fun k hk _ => hb.block k hk⟩ (fun k hk => by cases hk) (fun k hk => Or.inr (by rw [← hm]; exact (Option.some.inj hk).symm)))
      have HD : Hid (Bx W9 w.heap.size [.slice none 0 0, .slice none 0 0] ∧ Drew g a n cap X t w W9 ∧ w.heap.size + 1 ≤ W9.heap.size) := ⟨HD.out.1.next hb, HD.out.2.1.nextC hb, Nat.le_trans HD.out.2.2 hb.size⟩
      clear hA hb hm
      obtain ⟨W, hWE⟩ : ∃ x, x = W9 := ⟨_, rfl⟩
      subst hWE
      refine hK.out _ _ trivial (fun hHeld => ?_)
      clear hK KC
      refine ready_two 0 3 ⟨some 7, Op.makeSlice 23 (Operand.const (Value.int IntKind.i64 6)) (Operand.const (Value.int IntKind.i64 6)), _, _, _, none⟩ ⟨some 3, Op.alloc 25, _, _, _, none⟩ (by kernel_rfl) rfl rfl (by kernel_rfl) (by kernel_rfl) (fun KC hK => ?_) (fun KC hK => ?_)
      ·
        refine wp_make_int _ _ 23 3 (by rfl) i0 Try.underlying23 hi0 hz0 hz1 6 (by rfl) (by rfl) (by rw [hz2]; decide) (by decide) ?_
        intro W9 hA
        have hb : Below W.heap.size W W9 := hA.2
        obtain ⟨m1, hm⟩ : ∃ x, x = W.heap.size := ⟨_, rfl⟩
        rw [← hm] at hA ⊢
        have HQ : Hid (PrQ .int 3 W9 (w.heap.size + 1) (List.replicate 6 (0 : Int)) (List.replicate 6 (0 : Int)) (some (.slice (some ⟨m1, 0, none⟩) 6 6, true)) _ _ [.slice none 0 0, .slice none 0 0]) := Hid.intro (HQ.out.row1 rfl (OwnX.lower HD.out.2.2 hA.1) (row := none) ⟨hb.os, hb.tape, hb.output, hb.size, fun k hk _ => hb.block k hk⟩ (fun k hk => by cases hk) (fun k hk => Or.inr (by rw [← hm]; exact (Option.some.inj hk).symm)))
        have HD : Hid (Bx W9 w.heap.size [.slice none 0 0, .slice none 0 0] ∧ Drew g a n cap X t w W9 ∧ w.heap.size + 1 ≤ W9.heap.size) := ⟨HD.out.1.next hb, HD.out.2.1.nextC hb, Nat.le_trans HD.out.2.2 hb.size⟩
        clear hA hb hm
        obtain ⟨W, hWE⟩ : ∃ x, x = W9 := ⟨_, rfl⟩
        subst hWE
        refine hK.out _ _ trivial (fun hHeld => ?_)
        clear hK KC
        refine take_v (v := ?_) 2 ⟨some 9, Op.build 25 #[(0, Operand.tmp 7), (1, Operand.tmp 8)], _, _, _, none⟩ rfl (fun _ _ _ h => h) ?_ hHeld ?_
        rotate_left
        · (intro W _; go_simp <;> (try with_reducible rfl))
        refine ready_call 3 ⟨some 3, Op.alloc 25, _, _, _, none⟩ (by kernel_rfl) rfl (by kernel_rfl) (fun KC hK => ?_)
        go_wp2_with fail
        have hb := Go.Joins.below_alloc1 W (.cells #[.slice none 0 0, .slice none 0 0] 25)
        have HQ := Hid.intro (HQ.out.box 25)
        have HD : Hid (Bx (W.alloc (.cells #[.slice none 0 0, .slice none 0 0] 25)) w.heap.size [.slice none 0 0, .slice none 0 0] ∧ Drew g a n cap X t w (W.alloc (.cells #[.slice none 0 0, .slice none 0 0] 25)) ∧ w.heap.size + 1 ≤ (W.alloc (.cells #[.slice none 0 0, .slice none 0 0] 25)).heap.size) := ⟨HD.out.1.next hb, HD.out.2.1.nextC hb, Nat.le_trans HD.out.2.2 hb.size⟩
        obtain ⟨b3, hmE⟩ : ∃ x, x = W.heap.size := ⟨_, rfl⟩
        obtain ⟨W8, hWE⟩ : ∃ x, x = W.alloc (.cells #[.slice none 0 0, .slice none 0 0] 25) := ⟨_, rfl⟩
        have HQ : Hid (PrQ .int 3 W8 (w.heap.size + 1) (List.replicate 6 (0 : Int)) (List.replicate 6 (0 : Int)) _ _ (some b3) [.slice none 0 0, .slice none 0 0]) := Hid.intro (by rw [hWE, hmE]; exact HQ.out)
        rw [← hWE] at HD ⊢
        rw [← hmE]
        clear hb hWE hmE
        obtain ⟨W, hWE⟩ : ∃ x, x = W8 := ⟨_, rfl⟩
        subst hWE
        refine hK.out _ _ trivial (fun hHeld => ?_)
        clear hK KC
        refine ready_call 4 ⟨none, Op.store 25 (Operand.tmp 3) (Operand.tmp 9), _, _, _, none⟩ (by kernel_rfl) rfl (by kernel_rfl) (fun KC hK => ?_)
        have hq := HQ.out.2.2.1 b3 rfl
        have d0 := (hq.1).cell 0 rfl
        have d1 := (hq.1).cell 1 rfl
        have dz := (hq.1).2
        have df0 := (hq.1).frz 0 (by simp)
        have df1 := (hq.1).frz 1 (by simp)
        have hbb := hq.2
        go_wp2_with fail
        have HF := Hid.intro (PrS.of HQ.out)
        have HZ : Hid (Bx ((W.setCell ⟨b3, 0, none⟩ (.slice (some ⟨m1, 0, none⟩) 6 6)).setCell ⟨b3, 1, none⟩ (.slice (some ⟨m2, 0, none⟩) 6 6)) w.heap.size [.slice none 0 0, .slice none 0 0] ∧ Drew g a n cap X t w ((W.setCell ⟨b3, 0, none⟩ (.slice (some ⟨m1, 0, none⟩) 6 6)).setCell ⟨b3, 1, none⟩ (.slice (some ⟨m2, 0, none⟩) 6 6))) := ⟨(HD.out.1.other (by omega)).other (by omega), (HD.out.2.1.out hg (by omega) _).out hg (by omega) _⟩
        clear d0 d1 dz df0 df1 hq
        refine hK.out _ _ trivial (fun hHeld => ?_)
        clear hK KC
        refine wpAnyH_done (by kernel_rfl) ?_ _
        refine NoPanic.normal ?_
        go_wp2_with fail
        go_meet
        obtain ⟨g1, c1, g2, c2, hF⟩ := CtS.of HF.out (List.length_replicate ..) (List.length_replicate ..)
        exact ⟨b3, g1, c1, g2, c2, _, _, rfl, hF, HZ.out⟩
      ·
        go_wp2_with fail
        have hb := Go.Joins.below_alloc1 W (.cells #[.slice none 0 0, .slice none 0 0] 25)
        have HQ := Hid.intro (HQ.out.box 25)
        have HD : Hid (Bx (W.alloc (.cells #[.slice none 0 0, .slice none 0 0] 25)) w.heap.size [.slice none 0 0, .slice none 0 0] ∧ Drew g a n cap X t w (W.alloc (.cells #[.slice none 0 0, .slice none 0 0] 25)) ∧ w.heap.size + 1 ≤ (W.alloc (.cells #[.slice none 0 0, .slice none 0 0] 25)).heap.size) := ⟨HD.out.1.next hb, HD.out.2.1.nextC hb, Nat.le_trans HD.out.2.2 hb.size⟩
        obtain ⟨b3, hmE⟩ : ∃ x, x = W.heap.size := ⟨_, rfl⟩
        obtain ⟨W8, hWE⟩ : ∃ x, x = W.alloc (.cells #[.slice none 0 0, .slice none 0 0] 25) := ⟨_, rfl⟩
        have HQ : Hid (PrQ .int 3 W8 (w.heap.size + 1) (List.replicate 6 (0 : Int)) (List.replicate 6 (0 : Int)) _ _ (some b3) [.slice none 0 0, .slice none 0 0]) := Hid.intro (by rw [hWE, hmE]; exact HQ.out)
        rw [← hWE] at HD ⊢
        rw [← hmE]
        clear hb hWE hmE
        obtain ⟨W, hWE⟩ : ∃ x, x = W8 := ⟨_, rfl⟩
        subst hWE
        refine hK.out _ _ trivial (fun hHeld => ?_)
        clear hK KC
        refine ready_call 0 ⟨some 7, Op.makeSlice 23 (Operand.const (Value.int IntKind.i64 6)) (Operand.const (Value.int IntKind.i64 6)), _, _, _, none⟩ (by kernel_rfl) rfl (by kernel_rfl) (fun KC hK => ?_)
        refine wp_make_int _ _ 23 3 (by rfl) i0 Try.underlying23 hi0 hz0 hz1 6 (by rfl) (by rfl) (by rw [hz2]; decide) (by decide) ?_
        intro W9 hA
        have hb : Below W.heap.size W W9 := hA.2
        obtain ⟨m1, hm⟩ : ∃ x, x = W.heap.size := ⟨_, rfl⟩
        rw [← hm] at hA ⊢
        have HQ : Hid (PrQ .int 3 W9 (w.heap.size + 1) (List.replicate 6 (0 : Int)) (List.replicate 6 (0 : Int)) (some (.slice (some ⟨m1, 0, none⟩) 6 6, true)) _ _ [.slice none 0 0, .slice none 0 0]) := Hid.intro (HQ.out.row1 rfl (OwnX.lower HD.out.2.2 hA.1) (row := none) ⟨hb.os, hb.tape, hb.output, hb.size, fun k hk _ => hb.block k hk⟩ (fun k hk => by cases hk) (fun k hk => Or.inr (by rw [← hm]; exact (Option.some.inj hk).symm)))
        have HD : Hid (Bx W9 w.heap.size [.slice none 0 0, .slice none 0 0] ∧ Drew g a n cap X t w W9 ∧ w.heap.size + 1 ≤ W9.heap.size) := ⟨HD.out.1.next hb, HD.out.2.1.nextC hb, Nat.le_trans HD.out.2.2 hb.size⟩
        clear hA hb hm
        obtain ⟨W, hWE⟩ : ∃ x, x = W9 := ⟨_, rfl⟩
        subst hWE
        refine hK.out _ _ trivial (fun hHeld => ?_)
        clear hK KC
        refine take_v (v := ?_) 2 ⟨some 9, Op.build 25 #[(0, Operand.tmp 7), (1, Operand.tmp 8)], _, _, _, none⟩ rfl (fun _ _ _ h => h) ?_ hHeld ?_
        rotate_left
        · (intro W _; go_simp <;> (try with_reducible rfl))
        refine ready_call 4 ⟨none, Op.store 25 (Operand.tmp 3) (Operand.tmp 9), _, _, _, none⟩ (by kernel_rfl) rfl (by kernel_rfl) (fun KC hK => ?_)
        have hq := HQ.out.2.2.1 b3 rfl
        have d0 := (hq.1).cell 0 rfl
        have d1 := (hq.1).cell 1 rfl
        have dz := (hq.1).2
        have df0 := (hq.1).frz 0 (by simp)
        have df1 := (hq.1).frz 1 (by simp)
        have hbb := hq.2
        go_wp2_with fail
        have HF := Hid.intro (PrS.of HQ.out)
        have HZ : Hid (Bx ((W.setCell ⟨b3, 0, none⟩ (.slice (some ⟨m1, 0, none⟩) 6 6)).setCell ⟨b3, 1, none⟩ (.slice (some ⟨m2, 0, none⟩) 6 6)) w.heap.size [.slice none 0 0, .slice none 0 0] ∧ Drew g a n cap X t w ((W.setCell ⟨b3, 0, none⟩ (.slice (some ⟨m1, 0, none⟩) 6 6)).setCell ⟨b3, 1, none⟩ (.slice (some ⟨m2, 0, none⟩) 6 6))) := ⟨(HD.out.1.other (by omega)).other (by omega), (HD.out.2.1.out hg (by omega) _).out hg (by omega) _⟩
        clear d0 d1 dz df0 df1 hq
        refine hK.out _ _ trivial (fun hHeld => ?_)
        clear hK KC
        refine wpAnyH_done (by kernel_rfl) ?_ _
        refine NoPanic.normal ?_
        go_wp2_with fail
        go_meet
        obtain ⟨g1, c1, g2, c2, hF⟩ := CtS.of HF.out (List.length_replicate ..) (List.length_replicate ..)
        exact ⟨b3, g1, c1, g2, c2, _, _, rfl, hF, HZ.out⟩
    ·
      go_wp2_with fail
      have hb := Go.Joins.below_alloc1 W (.cells #[.slice none 0 0, .slice none 0 0] 25)
      have HQ := Hid.intro (HQ.out.box 25)
      have HD : Hid (Bx (W.alloc (.cells #[.slice none 0 0, .slice none 0 0] 25)) w.heap.size [.slice none 0 0, .slice none 0 0] ∧ Drew g a n cap X t w (W.alloc (.cells #[.slice none 0 0, .slice none 0 0] 25)) ∧ w.heap.size + 1 ≤ (W.alloc (.cells #[.slice none 0 0, .slice none 0 0] 25)).heap.size) := ⟨HD.out.1.next hb, HD.out.2.1.nextC hb, Nat.le_trans HD.out.2.2 hb.size⟩
      obtain ⟨b3, hmE⟩ : ∃ x, x = W.heap.size := ⟨_, rfl⟩
      obtain ⟨W8, hWE⟩ : ∃ x, x = W.alloc (.cells #[.slice none 0 0, .slice none 0 0] 25) := ⟨_, rfl⟩
      have HQ : Hid (PrQ .int 3 W8 (w.heap.size + 1) (List.replicate 6 (0 : Int)) (List.replicate 6 (0 : Int)) _ _ (some b3) [.slice none 0 0, .slice none 0 0]) := Hid.intro (by rw [hWE, hmE]; exact HQ.out)
      rw [← hWE] at HD ⊢
      rw [← hmE]
      clear hb hWE hmE
      obtain ⟨W, hWE⟩ : ∃ x, x = W8 := ⟨_, rfl⟩
      subst hWE
      refine hK.out _ _ trivial (fun hHeld => ?_)
      clear hK KC
      refine ready_two 0 1 ⟨some 7, Op.makeSlice 23 (Operand.const (Value.int IntKind.i64 6)) (Operand.const (Value.int IntKind.i64 6)), _, _, _, none⟩ ⟨some 8, Op.makeSlice 23 (Operand.const (Value.int IntKind.i64 6)) (Operand.const (Value.int IntKind.i64 6)), _, _, _, none⟩ (by kernel_rfl) rfl rfl (by kernel_rfl) (by kernel_rfl) (fun KC hK => ?_) (fun KC hK => ?_)
      ·
        refine wp_make_int _ _ 23 3 (by rfl) i0 Try.underlying23 hi0 hz0 hz1 6 (by rfl) (by rfl) (by rw [hz2]; decide) (by decide) ?_
        intro W9 hA
        have hb : Below W.heap.size W W9 := hA.2
        obtain ⟨m1, hm⟩ : ∃ x, x = W.heap.size := ⟨_, rfl⟩
        rw [← hm] at hA ⊢
        have HQ : Hid (PrQ .int 3 W9 (w.heap.size + 1) (List.replicate 6 (0 : Int)) (List.replicate 6 (0 : Int)) (some (.slice (some ⟨m1, 0, none⟩) 6 6, true)) _ _ [.slice none 0 0, .slice none 0 0]) := Hid.intro (HQ.out.row1 rfl (OwnX.lower HD.out.2.2 hA.1) (row := none) ⟨hb.os, hb.tape, hb.output, hb.size, fun k hk _ => hb.block k hk⟩ (fun k hk => by cases hk) (fun k hk => Or.inr (by rw [← hm]; exact (Option.some.inj hk).symm)))
        have HD : Hid (Bx W9 w.heap.size [.slice none 0 0, .slice none 0 0] ∧ Drew g a n cap X t w W9 ∧ w.heap.size + 1 ≤ W9.heap.size) := ⟨HD.out.1.next hb, HD.out.2.1.nextC hb, Nat.le_trans HD.out.2.2 hb.size⟩
        clear hA hb hm
        obtain ⟨W, hWE⟩ : ∃ x, x = W9 := ⟨_, rfl⟩
        subst hWE
        refine hK.out _ _ trivial (fun hHeld => ?_)
        clear hK KC
        refine ready_call 1 ⟨some 8, Op.makeSlice 23 (Operand.const (Value.int IntKind.i64 6)) (Operand.const (Value.int IntKind.i64 6)), _, _, _, none⟩ (by kernel_rfl) rfl (by kernel_rfl) (fun KC hK => ?_)
        refine wp_make_int _ _ 23 3 (by rfl) i0 Try.underlying23 hi0 hz0 hz1 6 (by rfl) (by rfl) (by rw [hz2]; decide) (by decide) ?_
        intro W9 hA
        have hb : Below W.heap.size W W9 := hA.2
        obtain ⟨m2, hm⟩ : ∃ x, x = W.heap.size := ⟨_, rfl⟩
        rw [← hm] at hA ⊢
        have HQ : Hid (PrQ .int 3 W9 (w.heap.size + 1) (List.replicate 6 (0 : Int)) (List.replicate 6 (0 : Int)) _ (some (.slice (some ⟨m2, 0, none⟩) 6 6, true)) _ [.slice none 0 0, .slice none 0 0]) := Hid.intro (HQ.out.row2 rfl (OwnX.lower HD.out.2.2 hA.1) (row := none) ⟨hb.os, hb.tape, hb.output, hb.size, fun k hk _ => hb.block k hk⟩ (fun k hk => by cases hk) (fun k hk => Or.inr (by rw [← hm]; exact (Option.some.inj hk).symm)))
        have HD : Hid (Bx W9 w.heap.size [.slice none 0 0, .slice none 0 0] ∧ Drew g a n cap X t w W9 ∧ w.heap.size + 1 ≤ W9.heap.size) := ⟨HD.out.1.next hb, HD.out.2.1.nextC hb, Nat.le_trans HD.out.2.2 hb.size⟩
        clear hA hb hm
        obtain ⟨W, hWE⟩ : ∃ x, x = W9 := ⟨_, rfl⟩
        subst hWE
        refine hK.out _ _ trivial (fun hHeld => ?_)
        clear hK KC
        refine take_v (v := ?_) 2 ⟨some 9, Op.build 25 #[(0, Operand.tmp 7), (1, Operand.tmp 8)], _, _, _, none⟩ rfl (fun _ _ _ h => h) ?_ hHeld ?_
        rotate_left
        · (intro W _; go_simp <;> (try with_reducible rfl))
        refine ready_call 4 ⟨none, Op.store 25 (Operand.tmp 3) (Operand.tmp 9), _, _, _, none⟩ (by kernel_rfl) rfl (by kernel_rfl) (fun KC hK => ?_)
        have hq := HQ.out.2.2.1 b3 rfl
        have d0 := (hq.1).cell 0 rfl
        have d1 := (hq.1).cell 1 rfl
        have dz := (hq.1).2
        have df0 := (hq.1).frz 0 (by simp)
        have df1 := (hq.1).frz 1 (by simp)
        have hbb := hq.2
        go_wp2_with fail
        have HF := Hid.intro (PrS.of HQ.out)
        have HZ : Hid (Bx ((W.setCell ⟨b3, 0, none⟩ (.slice (some ⟨m1, 0, none⟩) 6 6)).setCell ⟨b3, 1, none⟩ (.slice (some ⟨m2, 0, none⟩) 6 6)) w.heap.size [.slice none 0 0, .slice none 0 0] ∧ Drew g a n cap X t w ((W.setCell ⟨b3, 0, none⟩ (.slice (some ⟨m1, 0, none⟩) 6 6)).setCell ⟨b3, 1, none⟩ (.slice (some ⟨m2, 0, none⟩) 6 6))) := ⟨(HD.out.1.other (by omega)).other (by omega), (HD.out.2.1.out hg (by omega) _).out hg (by omega) _⟩
        clear d0 d1 dz df0 df1 hq
        refine hK.out _ _ trivial (fun hHeld => ?_)
        clear hK KC
        refine wpAnyH_done (by kernel_rfl) ?_ _
        refine NoPanic.normal ?_
        go_wp2_with fail
        go_meet
        obtain ⟨g1, c1, g2, c2, hF⟩ := CtS.of HF.out (List.length_replicate ..) (List.length_replicate ..)
        exact ⟨b3, g1, c1, g2, c2, _, _, rfl, hF, HZ.out⟩
      ·
        refine wp_make_int _ _ 23 3 (by rfl) i0 Try.underlying23 hi0 hz0 hz1 6 (by rfl) (by rfl) (by rw [hz2]; decide) (by decide) ?_
        intro W9 hA
        have hb : Below W.heap.size W W9 := hA.2
        obtain ⟨m2, hm⟩ : ∃ x, x = W.heap.size := ⟨_, rfl⟩
        rw [← hm] at hA ⊢
        have HQ : Hid (PrQ .int 3 W9 (w.heap.size + 1) (List.replicate 6 (0 : Int)) (List.replicate 6 (0 : Int)) _ (some (.slice (some ⟨m2, 0, none⟩) 6 6, true)) _ [.slice none 0 0, .slice none 0 0]) := Hid.intro (HQ.out.row2 rfl (OwnX.lower HD.out.2.2 hA.1) (row := none) ⟨hb.os, hb.tape, hb.output, hb.size, fun k hk _ => hb.block k hk⟩ (fun k hk => by cases hk) (fun k hk => Or.inr (by rw [← hm]; exact (Option.some.inj hk).symm)))
        have HD : Hid (Bx W9 w.heap.size [.slice none 0 0, .slice none 0 0] ∧ Drew g a n cap X t w W9 ∧ w.heap.size + 1 ≤ W9.heap.size) := ⟨HD.out.1.next hb, HD.out.2.1.nextC hb, Nat.le_trans HD.out.2.2 hb.size⟩
        clear hA hb hm
        obtain ⟨W, hWE⟩ : ∃ x, x = W9 := ⟨_, rfl⟩
        subst hWE
        refine hK.out _ _ trivial (fun hHeld => ?_)
        clear hK KC
        refine ready_call 0 ⟨some 7, Op.makeSlice 23 (Operand.const (Value.int IntKind.i64 6)) (Operand.const (Value.int IntKind.i64 6)), _, _, _, none⟩ (by kernel_rfl) rfl (by kernel_rfl) (fun KC hK => ?_)
        refine wp_make_int _ _ 23 3 (by rfl) i0 Try.underlying23 hi0 hz0 hz1 6 (by rfl) (by rfl) (by rw [hz2]; decide) (by decide) ?_
        intro W9 hA
        have hb : Below W.heap.size W W9 := hA.2
        obtain ⟨m1, hm⟩ : ∃ x, x = W.heap.size := ⟨_, rfl⟩
        rw [← hm] at hA ⊢
        have HQ : Hid (PrQ .int 3 W9 (w.heap.size + 1) (List.replicate 6 (0 : Int)) (List.replicate 6 (0 : Int)) (some (.slice (some ⟨m1, 0, none⟩) 6 6, true)) _ _ [.slice none 0 0, .slice none 0 0]) := Hid.intro (HQ.out.row1 rfl (OwnX.lower HD.out.2.2 hA.1) (row := none) ⟨hb.os, hb.tape, hb.output, hb.size, fun k hk _ => hb.block k hk⟩ (fun k hk => by cases hk) (fun k hk => Or.inr (by rw [← hm]; exact (Option.some.inj hk).symm)))
        have HD : Hid (Bx W9 w.heap.size [.slice none 0 0, .slice none 0 0] ∧ Drew g a n cap X t w W9 ∧ w.heap.size + 1 ≤ W9.heap.size) := ⟨HD.out.1.next hb, HD.out.2.1.nextC hb, Nat.le_trans HD.out.2.2 hb.size⟩
        clear hA hb hm
        obtain ⟨W, hWE⟩ : ∃ x, x = W9 := ⟨_, rfl⟩
        subst hWE
        refine hK.out _ _ trivial (fun hHeld => ?_)
        clear hK KC
        refine take_v (v := ?_) 2 ⟨some 9, Op.build 25 #[(0, Operand.tmp 7), (1, Operand.tmp 8)], _, _, _, none⟩ rfl (fun _ _ _ h => h) ?_ hHeld ?_
        rotate_left
        · (intro W _; go_simp <;> (try with_reducible rfl))
        refine ready_call 4 ⟨none, Op.store 25 (Operand.tmp 3) (Operand.tmp 9), _, _, _, none⟩ (by kernel_rfl) rfl (by kernel_rfl) (fun KC hK => ?_)
        have hq := HQ.out.2.2.1 b3 rfl
        have d0 := (hq.1).cell 0 rfl
        have d1 := (hq.1).cell 1 rfl
        have dz := (hq.1).2
        have df0 := (hq.1).frz 0 (by simp)
        have df1 := (hq.1).frz 1 (by simp)
        have hbb := hq.2
        go_wp2_with fail
        have HF := Hid.intro (PrS.of HQ.out)
        have HZ : Hid (Bx ((W.setCell ⟨b3, 0, none⟩ (.slice (some ⟨m1, 0, none⟩) 6 6)).setCell ⟨b3, 1, none⟩ (.slice (some ⟨m2, 0, none⟩) 6 6)) w.heap.size [.slice none 0 0, .slice none 0 0] ∧ Drew g a n cap X t w ((W.setCell ⟨b3, 0, none⟩ (.slice (some ⟨m1, 0, none⟩) 6 6)).setCell ⟨b3, 1, none⟩ (.slice (some ⟨m2, 0, none⟩) 6 6))) := ⟨(HD.out.1.other (by omega)).other (by omega), (HD.out.2.1.out hg (by omega) _).out hg (by omega) _⟩
        clear d0 d1 dz df0 df1 hq
        refine hK.out _ _ trivial (fun hHeld => ?_)
        clear hK KC
        refine wpAnyH_done (by kernel_rfl) ?_ _
        refine NoPanic.normal ?_
        go_wp2_with fail
        go_meet
        obtain ⟨g1, c1, g2, c2, hF⟩ := CtS.of HF.out (List.length_replicate ..) (List.length_replicate ..)
        exact ⟨b3, g1, c1, g2, c2, _, _, rfl, hF, HZ.out⟩
  case rest =>
    obtain ⟨b3, g1, c1, g2, c2, u, d, rfl, hS⟩ := hcut
    have HS : Hid (DcS w wc b3 g1 c1 g2 c2 u d g a n cap X t) := hS
    clear hS HD
    go_wp2_with fail
    refine (pick_any g a n cap X t _ _ (by omega) (by omega) HS.out.2.2.1).mono ?_
    rintro r w1 ⟨y, hy, rfl, hd⟩
    have H1 : Hid (DcS w w1 b3 g1 c1 g2 c2 u d g a n cap X (t + 2)) := Hid.intro (HS.out.draw hd hg)
    have hy6 : 0 ≤ y ∧ y ≤ 5 := by omega
    clear hd hy HS
    obtain ⟨hy0, hy5⟩ := hy6
    go_wp2
    go_loopw [4] (fun i wr => ∃ (k : Nat) (g1 c1 g2 c2 : Nat) (u d : List (Sh.T .int)), k ≤ 5 ∧ i = .int .i64 k ∧ DcS w wr b3 g1 c1 g2 c2 u d g a n cap X (t + 2 + 8 * (5 - k))) (fun i _ => (intOf i).toNat)
    case atStart => exact ⟨y.toNat, g1, c1, g2, c2, u, d, by omega, by rw [Int.toNat_of_nonneg hy0], H1.out.up (by omega)⟩
    case round =>
      obtain ⟨k, g1, c1, g2, c2, u, d, hk, rfl, hS⟩ := hrel
      have HS : Hid (DcS w wr b3 g1 c1 g2 c2 u d g a n cap X (t + 2 + 8 * (5 - k))) := hS
      clear hS H1
      by_cases hk0 : 0 < k
      · have hk0' : (0 : Int) < (k : Int) := by omega
        have HDR : Hid (DcS w wr.drew b3 g1 c1 g2 c2 u d g a n cap X (t + 2 + 8 * (5 - k))) := Hid.intro (HS.out.next (below_drew _))
        obtain ⟨j, hj⟩ : ∃ j, k = j + 1 := ⟨k - 1, by omega⟩
        have hkw : IntKind.i64.wrap ((k : Int) - 1) = (j : Int) := by rw [IntKind.wrap_i64]; omega
        have HJ : Hid (k = j + 1) := hj
        clear hj
        go_upto_region 5 with fail
        go_cut [5, 6] (fun s5 s6 wx => ∃ b5 v1 v2 z, s5 = .pointer (some ⟨b5, 0, none⟩) ∧ s6 = .bool z ∧ Bx wx b5 [v1, v2] ∧ DcS w wx b3 g1 c1 g2 c2 u d g a n cap X (t + 2 + 8 * (5 - j)) ∧ (z = true → ∃ e1 f1 e2 f2 U V, v1 = .slice (some ⟨e1, 0, none⟩) 6 f1 ∧ v2 = .slice (some ⟨e2, 0, none⟩) 6 f2 ∧ Rw 3 wx (w.heap.size + 1) e1 f1 U 6 ∧ Rw 3 wx (w.heap.size + 1) e2 f2 V 6 ∧ e1 ≠ e2 ∧ b3 ≠ e1 ∧ b3 ≠ e2))
        case first =>
          refine wp_region_noPanic ?_
          refine wp_region_held_drew (S := fun W => Bx W b3 [.slice (some ⟨g1, 0, none⟩) 6 c1, .slice (some ⟨g2, 0, none⟩) 6 c2]) (by kernel_rfl) HDR.out.1.1 (fun hHeld => ?_)
          obtain ⟨W, hWE⟩ : ∃ x, x = wr.drew := ⟨_, rfl⟩
          rw [← hWE] at HDR hHeld ⊢
          clear hWE
          refine take_v (v := ?_) 0 ⟨some 17, Op.load 25 (Operand.tmp 3), _, _, _, none⟩ rfl (fun _ _ _ h => h) ?_ hHeld ?_
          rotate_left
          · (intro W hSW; (have s0 := hSW.cell 0 rfl; have s1 := hSW.cell 1 rfl; have sz := hSW.2); go_simp <;> (try with_reducible rfl))
          refine take_v (v := ?_) 1 ⟨some 18, Op.move (Operand.tmp 0), _, _, _, none⟩ rfl (fun _ _ _ h => h) ?_ hHeld ?_
          rotate_left
          · (intro W _; go_simp <;> (try with_reducible rfl))
          refine take_v (v := ?_) 3 ⟨some 20, Op.move (Operand.tmp 0), _, _, _, none⟩ rfl (fun _ _ _ h => h) ?_ hHeld ?_
          rotate_left
          · (intro W _; go_simp <;> (try with_reducible rfl))
          refine ready_two 2 10 ⟨some 19, Op.call { callee := Callee.value (Operand.func 62), args := #[Operand.tmp 18, Operand.const (Value.int IntKind.i64 6)], argTypes := #[87, 3] }, _, _, _, none⟩ ⟨some 5, Op.alloc 25, _, _, _, none⟩ (by kernel_rfl) rfl rfl (by kernel_rfl) (by kernel_rfl) (fun KC hK => ?_) (fun KC hK => ?_)
          ·
            go_wp2_with fail
            refine (pick_any g a n cap X (t + 2 + 8 * (5 - k)) _ _ (by omega) (by omega) HDR.out.2.2.1).mono ?_
            rintro r W9 ⟨x1, hx1, rfl, hd⟩
            (first | (have H8 := (show Hid (Bx W9 b5 [.slice none 0 0, .slice none 0 0] ∧ b3 < b5) from ⟨H8.out.1.trn hd.2 (by have := H8.out.2; have := HDR.out.1.2.2.2.2.2.2; omega), H8.out.2⟩)) | skip)
            have HDR := (show Hid (DcS w W9 b3 g1 c1 g2 c2 u d g a n cap X (t + 2 + 8 * (5 - k) + 2)) from Hid.intro (HDR.out.draw hd hg))
            clear hd
            obtain ⟨W, hWE⟩ : ∃ x, x = W9 := ⟨_, rfl⟩
            subst hWE
            refine hK.out _ _ HDR.out.1.1 (fun hHeld => ?_)
            clear hK KC
            refine ready_two 4 10 ⟨some 21, Op.call { callee := Callee.value (Operand.func 62), args := #[Operand.tmp 20, Operand.const (Value.int IntKind.i64 40)], argTypes := #[87, 3] }, _, _, _, none⟩ ⟨some 5, Op.alloc 25, _, _, _, none⟩ (by kernel_rfl) rfl rfl (by kernel_rfl) (by kernel_rfl) (fun KC hK => ?_) (fun KC hK => ?_)
            ·
              go_wp2_with fail
              refine (pick_any g a n cap X (t + 2 + 8 * (5 - k) + 2) _ _ (by omega) (by omega) HDR.out.2.2.1).mono ?_
              rintro r W9 ⟨x2, hx2, rfl, hd⟩
              (first | (have H8 := (show Hid (Bx W9 b5 [.slice none 0 0, .slice none 0 0] ∧ b3 < b5) from ⟨H8.out.1.trn hd.2 (by have := H8.out.2; have := HDR.out.1.2.2.2.2.2.2; omega), H8.out.2⟩)) | skip)
              have HDR := (show Hid (DcS w W9 b3 g1 c1 g2 c2 u d g a n cap X (t + 2 + 8 * (5 - k) + 2 + 2)) from Hid.intro (HDR.out.draw hd hg))
              clear hd
              obtain ⟨W, hWE⟩ : ∃ x, x = W9 := ⟨_, rfl⟩
              subst hWE
              refine hK.out _ _ HDR.out.1.1 (fun hHeld => ?_)
              clear hK KC
              refine take_v (v := ?_) 5 ⟨some 22, Op.binOp BinOp.sub 3 (Operand.tmp 21) (Operand.const (Value.int IntKind.i64 15)) 3, _, _, _, none⟩ rfl (fun _ _ _ h => h) ?_ hHeld ?_
              rotate_left
              · (intro W _; go_simp <;> (try with_reducible rfl))
              refine ready_two 6 10 ⟨some 23, Op.call { callee := Callee.value (Operand.func 22), args := #[Operand.tmp 17, Operand.tmp 19, Operand.tmp 22], argTypes := #[25, 3, 3] }, _, _, _, none⟩ ⟨some 5, Op.alloc 25, _, _, _, none⟩ (by kernel_rfl) rfl rfl (by kernel_rfl) (by kernel_rfl) (fun KC hK => ?_) (fun KC hK => ?_)
              ·
                go_wp2_with fail
                refine (specCountBy_n _ u d _ _ W (ct_small HDR.out.1.2.1.2 HDR.out.1.2.2.1.2) HDR.out.1.lies).mono ?_
                rintro r W9 ⟨⟨cs9, hr, ho, hb⟩, hT⟩
                obtain ⟨z, hzE⟩ : ∃ z, z = (cbA u d x1 (x2 - 15)).2.2 := ⟨_, rfl⟩
                have HOZ : Hid (∃ p1 n1 k1 p2 n2 k2, cs9 = [.slice p1 n1 k1, .slice p2 n2 k2] ∧ (z = true → ∃ e1 f1 e2 f2 U V, Value.slice p1 n1 k1 = .slice (some ⟨e1, 0, none⟩) 6 f1 ∧ Value.slice p2 n2 k2 = .slice (some ⟨e2, 0, none⟩) 6 f2 ∧ Rw 3 W9 (w.heap.size + 1) e1 f1 U 6 ∧ Rw 3 W9 (w.heap.size + 1) e2 f2 V 6 ∧ e1 ≠ e2 ∧ W.heap.size ≤ e1 ∧ W.heap.size ≤ e2)) := Hid.intro (ct_split (by have := HDR.out.1.1.2; have := HDR.out.1.2.2.2.2.2.2; omega) hr ho hzE hT)
                obtain ⟨p1, n1, k1, p2, n2, k2, hcs, hzz⟩ := HOZ.out
                subst hcs
                rw [← hzE] at hr
                subst hr
                have HZZ := Hid.intro hzz
                have HBW : Hid (b3 < W.heap.size) := Hid.intro HDR.out.1.1.2
                (first | (have H8 := (show Hid (Bx W9 b5 [.slice none 0 0, .slice none 0 0] ∧ b3 < b5) from ⟨H8.out.1.next hb, H8.out.2⟩)) | skip)
                have HDR := (show Hid (DcS w W9 b3 g1 c1 g2 c2 u d g a n cap X (t + 2 + 8 * (5 - k) + 2 + 2)) from Hid.intro (HDR.out.next hb))
                clear hb ho hT hzz HOZ hzE
                have HZ9 : Hid (z = true → ∃ e1 f1 e2 f2 U V, Value.slice p1 n1 k1 = .slice (some ⟨e1, 0, none⟩) 6 f1 ∧ Value.slice p2 n2 k2 = .slice (some ⟨e2, 0, none⟩) 6 f2 ∧ Rw 3 W9 (w.heap.size + 1) e1 f1 U 6 ∧ Rw 3 W9 (w.heap.size + 1) e2 f2 V 6 ∧ e1 ≠ e2 ∧ b3 ≠ e1 ∧ b3 ≠ e2) := Hid.intro (fun hz => by have hbw := HBW.out; obtain ⟨e1, f1, e2, f2, U, V, q1, q2, q3, q4, q5, q6, q7⟩ := HZZ.out hz; exact ⟨e1, f1, e2, f2, U, V, q1, q2, q3, q4, q5, by omega, by omega⟩)
                clear HZZ HBW
                obtain ⟨W, hWE⟩ : ∃ x, x = W9 := ⟨_, rfl⟩
                subst hWE
                refine hK.out _ _ HDR.out.1.1 (fun hHeld => ?_)
                clear hK KC
                refine take_v (v := ?_) 7 ⟨some 16, Op.move (Operand.tmp 23), _, _, _, none⟩ rfl (fun _ _ _ h => h) ?_ hHeld ?_
                rotate_left
                · (intro W _; go_simp <;> (try with_reducible rfl))
                refine take_v (v := ?_) 8 ⟨some 24, Op.extract (Operand.tmp 16) 0, _, _, _, none⟩ rfl (fun _ _ _ h => h) ?_ hHeld ?_
                rotate_left
                · (intro W _; go_simp <;> (try with_reducible rfl))
                refine take_v (v := ?_) 9 ⟨some 25, Op.extract (Operand.tmp 16) 1, _, _, _, none⟩ rfl (fun _ _ _ h => h) ?_ hHeld ?_
                rotate_left
                · (intro W _; go_simp <;> (try with_reducible rfl))
                refine ready_call 10 ⟨some 5, Op.alloc 25, _, _, _, none⟩ (by kernel_rfl) rfl (by kernel_rfl) (fun KC hK => ?_)
                go_wp2_with fail
                have hb := Go.Joins.below_alloc1 W (.cells #[.slice none 0 0, .slice none 0 0] 25)
                obtain ⟨b5, hmE⟩ : ∃ x, x = W.heap.size := ⟨_, rfl⟩
                obtain ⟨W8, hWE⟩ : ∃ x, x = W.alloc (.cells #[.slice none 0 0, .slice none 0 0] 25) := ⟨_, rfl⟩
                rw [← hWE] at hb
                have hlt := HDR.out.1.1.2
                have H8 : Hid (Bx W8 b5 [.slice none 0 0, .slice none 0 0] ∧ b3 < b5) := ⟨hmE ▸ hWE ▸ Bx.new W [_, _] _, by omega⟩
                have HDR := Hid.intro (HDR.out.next hb)
                (first | (have HZ9 := Hid.intro (fun hz => rz_next (HZ9.out hz) hb)) | skip)
                rw [← hWE, ← hmE]
                clear hb hWE hmE hlt
                obtain ⟨W, hWE⟩ : ∃ x, x = W8 := ⟨_, rfl⟩
                subst hWE
                refine hK.out _ _ HDR.out.1.1 (fun hHeld => ?_)
                clear hK KC
                refine ready_call 11 ⟨none, Op.store 25 (Operand.tmp 5) (Operand.tmp 24), _, _, _, none⟩ (by kernel_rfl) rfl (by kernel_rfl) (fun KC hK => ?_)
                have hq := H8.out.1
                have d0 := (hq).cell 0 rfl
                have d1 := (hq).cell 1 rfl
                have dz := (hq).2
                have df0 := (hq).frz 0 (by simp)
                have df1 := (hq).frz 1 (by simp)
                have hbb := H8.out.2
                go_wp2_with fail
                have hne : b3 ≠ b5 := by omega
                clear d0 d1 dz df0 df1 hq
                refine hK.out _ _ ((HDR.out.1.1.other hne).other hne) (fun hHeld => ?_)
                clear hK KC
                refine take_v (v := ?_) 12 ⟨some 6, Op.assign (Operand.tmp 25), _, _, _, none⟩ rfl (fun _ _ _ h => h) ?_ hHeld ?_
                rotate_left
                · (intro W _; go_simp <;> (try with_reducible rfl))
                refine wpAnyH_done (by kernel_rfl) ?_ _
                refine NoPanic.normal ?_
                have hlo : w.heap.size + 1 ≤ b3 := HDR.out.1.2.2.2.2.2.2
                have htS := set2 W b5 (.slice p1 n1 k1) (.slice p2 n2 k2)
                go_wp2_with fail
                go_meet
                have hj := HJ.out
                exact ⟨b5, _, _, z, rfl, rfl, (H8.out.1.set (k := 0) (by simp) _).set (k := 1) (by simp) _, (dcs_box HDR.out H8.out.1 htS hne hg (by omega)).up (by omega), fun hz => rz_box (HZ9.out hz) H8.out.1 htS⟩
              ·
                go_wp2_with fail
                have hb := Go.Joins.below_alloc1 W (.cells #[.slice none 0 0, .slice none 0 0] 25)
                obtain ⟨b5, hmE⟩ : ∃ x, x = W.heap.size := ⟨_, rfl⟩
                obtain ⟨W8, hWE⟩ : ∃ x, x = W.alloc (.cells #[.slice none 0 0, .slice none 0 0] 25) := ⟨_, rfl⟩
                rw [← hWE] at hb
                have hlt := HDR.out.1.1.2
                have H8 : Hid (Bx W8 b5 [.slice none 0 0, .slice none 0 0] ∧ b3 < b5) := ⟨hmE ▸ hWE ▸ Bx.new W [_, _] _, by omega⟩
                have HDR := Hid.intro (HDR.out.next hb)
                (first | (have HZ9 := Hid.intro (fun hz => rz_next (HZ9.out hz) hb)) | skip)
                rw [← hWE, ← hmE]
                clear hb hWE hmE hlt
                obtain ⟨W, hWE⟩ : ∃ x, x = W8 := ⟨_, rfl⟩
                subst hWE
                refine hK.out _ _ HDR.out.1.1 (fun hHeld => ?_)
                clear hK KC
                refine ready_call 6 ⟨some 23, Op.call { callee := Callee.value (Operand.func 22), args := #[Operand.tmp 17, Operand.tmp 19, Operand.tmp 22], argTypes := #[25, 3, 3] }, _, _, _, none⟩ (by kernel_rfl) rfl (by kernel_rfl) (fun KC hK => ?_)
                go_wp2_with fail
                refine (specCountBy_n _ u d _ _ W (ct_small HDR.out.1.2.1.2 HDR.out.1.2.2.1.2) HDR.out.1.lies).mono ?_
                rintro r W9 ⟨⟨cs9, hr, ho, hb⟩, hT⟩
                obtain ⟨z, hzE⟩ : ∃ z, z = (cbA u d x1 (x2 - 15)).2.2 := ⟨_, rfl⟩
                have HOZ : Hid (∃ p1 n1 k1 p2 n2 k2, cs9 = [.slice p1 n1 k1, .slice p2 n2 k2] ∧ (z = true → ∃ e1 f1 e2 f2 U V, Value.slice p1 n1 k1 = .slice (some ⟨e1, 0, none⟩) 6 f1 ∧ Value.slice p2 n2 k2 = .slice (some ⟨e2, 0, none⟩) 6 f2 ∧ Rw 3 W9 (w.heap.size + 1) e1 f1 U 6 ∧ Rw 3 W9 (w.heap.size + 1) e2 f2 V 6 ∧ e1 ≠ e2 ∧ W.heap.size ≤ e1 ∧ W.heap.size ≤ e2)) := Hid.intro (ct_split (by have := HDR.out.1.1.2; have := HDR.out.1.2.2.2.2.2.2; omega) hr ho hzE hT)
                obtain ⟨p1, n1, k1, p2, n2, k2, hcs, hzz⟩ := HOZ.out
                subst hcs
                rw [← hzE] at hr
                subst hr
                have HZZ := Hid.intro hzz
                have HBW : Hid (b3 < W.heap.size) := Hid.intro HDR.out.1.1.2
                (first | (have H8 := (show Hid (Bx W9 b5 [.slice none 0 0, .slice none 0 0] ∧ b3 < b5) from ⟨H8.out.1.next hb, H8.out.2⟩)) | skip)
                have HDR := (show Hid (DcS w W9 b3 g1 c1 g2 c2 u d g a n cap X (t + 2 + 8 * (5 - k) + 2 + 2)) from Hid.intro (HDR.out.next hb))
                clear hb ho hT hzz HOZ hzE
                have HZ9 : Hid (z = true → ∃ e1 f1 e2 f2 U V, Value.slice p1 n1 k1 = .slice (some ⟨e1, 0, none⟩) 6 f1 ∧ Value.slice p2 n2 k2 = .slice (some ⟨e2, 0, none⟩) 6 f2 ∧ Rw 3 W9 (w.heap.size + 1) e1 f1 U 6 ∧ Rw 3 W9 (w.heap.size + 1) e2 f2 V 6 ∧ e1 ≠ e2 ∧ b3 ≠ e1 ∧ b3 ≠ e2) := Hid.intro (fun hz => by have hbw := HBW.out; obtain ⟨e1, f1, e2, f2, U, V, q1, q2, q3, q4, q5, q6, q7⟩ := HZZ.out hz; exact ⟨e1, f1, e2, f2, U, V, q1, q2, q3, q4, q5, by omega, by omega⟩)
                clear HZZ HBW
                obtain ⟨W, hWE⟩ : ∃ x, x = W9 := ⟨_, rfl⟩
                subst hWE
                refine hK.out _ _ HDR.out.1.1 (fun hHeld => ?_)
                clear hK KC
                refine take_v (v := ?_) 7 ⟨some 16, Op.move (Operand.tmp 23), _, _, _, none⟩ rfl (fun _ _ _ h => h) ?_ hHeld ?_
                rotate_left
                · (intro W _; go_simp <;> (try with_reducible rfl))
                refine take_v (v := ?_) 8 ⟨some 24, Op.extract (Operand.tmp 16) 0, _, _, _, none⟩ rfl (fun _ _ _ h => h) ?_ hHeld ?_
                rotate_left
                · (intro W _; go_simp <;> (try with_reducible rfl))
                refine take_v (v := ?_) 9 ⟨some 25, Op.extract (Operand.tmp 16) 1, _, _, _, none⟩ rfl (fun _ _ _ h => h) ?_ hHeld ?_
                rotate_left
                · (intro W _; go_simp <;> (try with_reducible rfl))
                refine ready_call 11 ⟨none, Op.store 25 (Operand.tmp 5) (Operand.tmp 24), _, _, _, none⟩ (by kernel_rfl) rfl (by kernel_rfl) (fun KC hK => ?_)
                have hq := H8.out.1
                have d0 := (hq).cell 0 rfl
                have d1 := (hq).cell 1 rfl
                have dz := (hq).2
                have df0 := (hq).frz 0 (by simp)
                have df1 := (hq).frz 1 (by simp)
                have hbb := H8.out.2
                go_wp2_with fail
                have hne : b3 ≠ b5 := by omega
                clear d0 d1 dz df0 df1 hq
                refine hK.out _ _ ((HDR.out.1.1.other hne).other hne) (fun hHeld => ?_)
                clear hK KC
                refine take_v (v := ?_) 12 ⟨some 6, Op.assign (Operand.tmp 25), _, _, _, none⟩ rfl (fun _ _ _ h => h) ?_ hHeld ?_
                rotate_left
                · (intro W _; go_simp <;> (try with_reducible rfl))
                refine wpAnyH_done (by kernel_rfl) ?_ _
                refine NoPanic.normal ?_
                have hlo : w.heap.size + 1 ≤ b3 := HDR.out.1.2.2.2.2.2.2
                have htS := set2 W b5 (.slice p1 n1 k1) (.slice p2 n2 k2)
                go_wp2_with fail
                go_meet
                have hj := HJ.out
                exact ⟨b5, _, _, z, rfl, rfl, (H8.out.1.set (k := 0) (by simp) _).set (k := 1) (by simp) _, (dcs_box HDR.out H8.out.1 htS hne hg (by omega)).up (by omega), fun hz => rz_box (HZ9.out hz) H8.out.1 htS⟩
            ·
              go_wp2_with fail
              have hb := Go.Joins.below_alloc1 W (.cells #[.slice none 0 0, .slice none 0 0] 25)
              obtain ⟨b5, hmE⟩ : ∃ x, x = W.heap.size := ⟨_, rfl⟩
              obtain ⟨W8, hWE⟩ : ∃ x, x = W.alloc (.cells #[.slice none 0 0, .slice none 0 0] 25) := ⟨_, rfl⟩
              rw [← hWE] at hb
              have hlt := HDR.out.1.1.2
              have H8 : Hid (Bx W8 b5 [.slice none 0 0, .slice none 0 0] ∧ b3 < b5) := ⟨hmE ▸ hWE ▸ Bx.new W [_, _] _, by omega⟩
              have HDR := Hid.intro (HDR.out.next hb)
              (first | (have HZ9 := Hid.intro (fun hz => rz_next (HZ9.out hz) hb)) | skip)
              rw [← hWE, ← hmE]
              clear hb hWE hmE hlt
              obtain ⟨W, hWE⟩ : ∃ x, x = W8 := ⟨_, rfl⟩
              subst hWE
              refine hK.out _ _ HDR.out.1.1 (fun hHeld => ?_)
              clear hK KC
              refine ready_call 4 ⟨some 21, Op.call { callee := Callee.value (Operand.func 62), args := #[Operand.tmp 20, Operand.const (Value.int IntKind.i64 40)], argTypes := #[87, 3] }, _, _, _, none⟩ (by kernel_rfl) rfl (by kernel_rfl) (fun KC hK => ?_)
              go_wp2_with fail
              refine (pick_any g a n cap X (t + 2 + 8 * (5 - k) + 2) _ _ (by omega) (by omega) HDR.out.2.2.1).mono ?_
              rintro r W9 ⟨x2, hx2, rfl, hd⟩
              (first | (have H8 := (show Hid (Bx W9 b5 [.slice none 0 0, .slice none 0 0] ∧ b3 < b5) from ⟨H8.out.1.trn hd.2 (by have := H8.out.2; have := HDR.out.1.2.2.2.2.2.2; omega), H8.out.2⟩)) | skip)
              have HDR := (show Hid (DcS w W9 b3 g1 c1 g2 c2 u d g a n cap X (t + 2 + 8 * (5 - k) + 2 + 2)) from Hid.intro (HDR.out.draw hd hg))
              clear hd
              obtain ⟨W, hWE⟩ : ∃ x, x = W9 := ⟨_, rfl⟩
              subst hWE
              refine hK.out _ _ HDR.out.1.1 (fun hHeld => ?_)
              clear hK KC
              refine take_v (v := ?_) 5 ⟨some 22, Op.binOp BinOp.sub 3 (Operand.tmp 21) (Operand.const (Value.int IntKind.i64 15)) 3, _, _, _, none⟩ rfl (fun _ _ _ h => h) ?_ hHeld ?_
              rotate_left
              · (intro W _; go_simp <;> (try with_reducible rfl))
              refine ready_call 6 ⟨some 23, Op.call { callee := Callee.value (Operand.func 22), args := #[Operand.tmp 17, Operand.tmp 19, Operand.tmp 22], argTypes := #[25, 3, 3] }, _, _, _, none⟩ (by kernel_rfl) rfl (by kernel_rfl) (fun KC hK => ?_)
              go_wp2_with fail
              refine (specCountBy_n _ u d _ _ W (ct_small HDR.out.1.2.1.2 HDR.out.1.2.2.1.2) HDR.out.1.lies).mono ?_
              rintro r W9 ⟨⟨cs9, hr, ho, hb⟩, hT⟩
              obtain ⟨z, hzE⟩ : ∃ z, z = (cbA u d x1 (x2 - 15)).2.2 := ⟨_, rfl⟩
              have HOZ : Hid (∃ p1 n1 k1 p2 n2 k2, cs9 = [.slice p1 n1 k1, .slice p2 n2 k2] ∧ (z = true → ∃ e1 f1 e2 f2 U V, Value.slice p1 n1 k1 = .slice (some ⟨e1, 0, none⟩) 6 f1 ∧ Value.slice p2 n2 k2 = .slice (some ⟨e2, 0, none⟩) 6 f2 ∧ Rw 3 W9 (w.heap.size + 1) e1 f1 U 6 ∧ Rw 3 W9 (w.heap.size + 1) e2 f2 V 6 ∧ e1 ≠ e2 ∧ W.heap.size ≤ e1 ∧ W.heap.size ≤ e2)) := Hid.intro (ct_split (by have := HDR.out.1.1.2; have := HDR.out.1.2.2.2.2.2.2; omega) hr ho hzE hT)
              obtain ⟨p1, n1, k1, p2, n2, k2, hcs, hzz⟩ := HOZ.out
              subst hcs
              rw [← hzE] at hr
              subst hr
              have HZZ := Hid.intro hzz
              have HBW : Hid (b3 < W.heap.size) := Hid.intro HDR.out.1.1.2
              (first | (have H8 := (show Hid (Bx W9 b5 [.slice none 0 0, .slice none 0 0] ∧ b3 < b5) from ⟨H8.out.1.next hb, H8.out.2⟩)) | skip)
              have HDR := (show Hid (DcS w W9 b3 g1 c1 g2 c2 u d g a n cap X (t + 2 + 8 * (5 - k) + 2 + 2)) from Hid.intro (HDR.out.next hb))
              clear hb ho hT hzz HOZ hzE
              have HZ9 : Hid (z = true → ∃ e1 f1 e2 f2 U V, Value.slice p1 n1 k1 = .slice (some ⟨e1, 0, none⟩) 6 f1 ∧ Value.slice p2 n2 k2 = .slice (some ⟨e2, 0, none⟩) 6 f2 ∧ Rw 3 W9 (w.heap.size + 1) e1 f1 U 6 ∧ Rw 3 W9 (w.heap.size + 1) e2 f2 V 6 ∧ e1 ≠ e2 ∧ b3 ≠ e1 ∧ b3 ≠ e2) := Hid.intro (fun hz => by have hbw := HBW.out; obtain ⟨e1, f1, e2, f2, U, V, q1, q2, q3, q4, q5, q6, q7⟩ := HZZ.out hz; exact ⟨e1, f1, e2, f2, U, V, q1, q2, q3, q4, q5, by omega, by omega⟩)
              clear HZZ HBW
              obtain ⟨W, hWE⟩ : ∃ x, x = W9 := ⟨_, rfl⟩
              subst hWE
              refine hK.out _ _ HDR.out.1.1 (fun hHeld => ?_)
              clear hK KC
              refine take_v (v := ?_) 7 ⟨some 16, Op.move (Operand.tmp 23), _, _, _, none⟩ rfl (fun _ _ _ h => h) ?_ hHeld ?_
              rotate_left
              · (intro W _; go_simp <;> (try with_reducible rfl))
              refine take_v (v := ?_) 8 ⟨some 24, Op.extract (Operand.tmp 16) 0, _, _, _, none⟩ rfl (fun _ _ _ h => h) ?_ hHeld ?_
              rotate_left
              · (intro W _; go_simp <;> (try with_reducible rfl))
              refine take_v (v := ?_) 9 ⟨some 25, Op.extract (Operand.tmp 16) 1, _, _, _, none⟩ rfl (fun _ _ _ h => h) ?_ hHeld ?_
              rotate_left
              · (intro W _; go_simp <;> (try with_reducible rfl))
              refine ready_call 11 ⟨none, Op.store 25 (Operand.tmp 5) (Operand.tmp 24), _, _, _, none⟩ (by kernel_rfl) rfl (by kernel_rfl) (fun KC hK => ?_)
              have hq := H8.out.1
              have d0 := (hq).cell 0 rfl
              have d1 := (hq).cell 1 rfl
              have dz := (hq).2
              have df0 := (hq).frz 0 (by simp)
              have df1 := (hq).frz 1 (by simp)
              have hbb := H8.out.2
              go_wp2_with fail
              have hne : b3 ≠ b5 := by omega
              clear d0 d1 dz df0 df1 hq
              refine hK.out _ _ ((HDR.out.1.1.other hne).other hne) (fun hHeld => ?_)
              clear hK KC
              refine take_v (v := ?_) 12 ⟨some 6, Op.assign (Operand.tmp 25), _, _, _, none⟩ rfl (fun _ _ _ h => h) ?_ hHeld ?_
              rotate_left
              · (intro W _; go_simp <;> (try with_reducible rfl))
              refine wpAnyH_done (by kernel_rfl) ?_ _
              refine NoPanic.normal ?_
              have hlo : w.heap.size + 1 ≤ b3 := HDR.out.1.2.2.2.2.2.2
              have htS := set2 W b5 (.slice p1 n1 k1) (.slice p2 n2 k2)
              go_wp2_with fail
              go_meet
              have hj := HJ.out
              exact ⟨b5, _, _, z, rfl, rfl, (H8.out.1.set (k := 0) (by simp) _).set (k := 1) (by simp) _, (dcs_box HDR.out H8.out.1 htS hne hg (by omega)).up (by omega), fun hz => rz_box (HZ9.out hz) H8.out.1 htS⟩
          ·
            go_wp2_with fail
            have hb := Go.Joins.below_alloc1 W (.cells #[.slice none 0 0, .slice none 0 0] 25)
            obtain ⟨b5, hmE⟩ : ∃ x, x = W.heap.size := ⟨_, rfl⟩
            obtain ⟨W8, hWE⟩ : ∃ x, x = W.alloc (.cells #[.slice none 0 0, .slice none 0 0] 25) := ⟨_, rfl⟩
            rw [← hWE] at hb
            have hlt := HDR.out.1.1.2
            have H8 : Hid (Bx W8 b5 [.slice none 0 0, .slice none 0 0] ∧ b3 < b5) := ⟨hmE ▸ hWE ▸ Bx.new W [_, _] _, by omega⟩
            have HDR := Hid.intro (HDR.out.next hb)
            (first | (have HZ9 := Hid.intro (fun hz => rz_next (HZ9.out hz) hb)) | skip)
            rw [← hWE, ← hmE]
            clear hb hWE hmE hlt
            obtain ⟨W, hWE⟩ : ∃ x, x = W8 := ⟨_, rfl⟩
            subst hWE
            refine hK.out _ _ HDR.out.1.1 (fun hHeld => ?_)
            clear hK KC
            refine ready_call 2 ⟨some 19, Op.call { callee := Callee.value (Operand.func 62), args := #[Operand.tmp 18, Operand.const (Value.int IntKind.i64 6)], argTypes := #[87, 3] }, _, _, _, none⟩ (by kernel_rfl) rfl (by kernel_rfl) (fun KC hK => ?_)
            go_wp2_with fail
            refine (pick_any g a n cap X (t + 2 + 8 * (5 - k)) _ _ (by omega) (by omega) HDR.out.2.2.1).mono ?_
            rintro r W9 ⟨x1, hx1, rfl, hd⟩
            (first | (have H8 := (show Hid (Bx W9 b5 [.slice none 0 0, .slice none 0 0] ∧ b3 < b5) from ⟨H8.out.1.trn hd.2 (by have := H8.out.2; have := HDR.out.1.2.2.2.2.2.2; omega), H8.out.2⟩)) | skip)
            have HDR := (show Hid (DcS w W9 b3 g1 c1 g2 c2 u d g a n cap X (t + 2 + 8 * (5 - k) + 2)) from Hid.intro (HDR.out.draw hd hg))
            clear hd
            obtain ⟨W, hWE⟩ : ∃ x, x = W9 := ⟨_, rfl⟩
            subst hWE
            refine hK.out _ _ HDR.out.1.1 (fun hHeld => ?_)
            clear hK KC
            refine ready_call 4 ⟨some 21, Op.call { callee := Callee.value (Operand.func 62), args := #[Operand.tmp 20, Operand.const (Value.int IntKind.i64 40)], argTypes := #[87, 3] }, _, _, _, none⟩ (by kernel_rfl) rfl (by kernel_rfl) (fun KC hK => ?_)
            go_wp2_with fail
            refine (pick_any g a n cap X (t + 2 + 8 * (5 - k) + 2) _ _ (by omega) (by omega) HDR.out.2.2.1).mono ?_
            rintro r W9 ⟨x2, hx2, rfl, hd⟩
            (first | (have H8 := (show Hid (Bx W9 b5 [.slice none 0 0, .slice none 0 0] ∧ b3 < b5) from ⟨H8.out.1.trn hd.2 (by have := H8.out.2; have := HDR.out.1.2.2.2.2.2.2; omega), H8.out.2⟩)) | skip)
            have HDR := (show Hid (DcS w W9 b3 g1 c1 g2 c2 u d g a n cap X (t + 2 + 8 * (5 - k) + 2 + 2)) from Hid.intro (HDR.out.draw hd hg))
            clear hd
            obtain ⟨W, hWE⟩ : ∃ x, x = W9 := ⟨_, rfl⟩
            subst hWE
            refine hK.out _ _ HDR.out.1.1 (fun hHeld => ?_)
            clear hK KC
            refine take_v (v := ?_) 5 ⟨some 22, Op.binOp BinOp.sub 3 (Operand.tmp 21) (Operand.const (Value.int IntKind.i64 15)) 3, _, _, _, none⟩ rfl (fun _ _ _ h => h) ?_ hHeld ?_
            rotate_left
            · (intro W _; go_simp <;> (try with_reducible rfl))
            refine ready_call 6 ⟨some 23, Op.call { callee := Callee.value (Operand.func 22), args := #[Operand.tmp 17, Operand.tmp 19, Operand.tmp 22], argTypes := #[25, 3, 3] }, _, _, _, none⟩ (by kernel_rfl) rfl (by kernel_rfl) (fun KC hK => ?_)
            go_wp2_with fail
            refine (specCountBy_n _ u d _ _ W (ct_small HDR.out.1.2.1.2 HDR.out.1.2.2.1.2) HDR.out.1.lies).mono ?_
            rintro r W9 ⟨⟨cs9, hr, ho, hb⟩, hT⟩
            obtain ⟨z, hzE⟩ : ∃ z, z = (cbA u d x1 (x2 - 15)).2.2 := ⟨_, rfl⟩
            have HOZ : Hid (∃ p1 n1 k1 p2 n2 k2, cs9 = [.slice p1 n1 k1, .slice p2 n2 k2] ∧ (z = true → ∃ e1 f1 e2 f2 U V, Value.slice p1 n1 k1 = .slice (some ⟨e1, 0, none⟩) 6 f1 ∧ Value.slice p2 n2 k2 = .slice (some ⟨e2, 0, none⟩) 6 f2 ∧ Rw 3 W9 (w.heap.size + 1) e1 f1 U 6 ∧ Rw 3 W9 (w.heap.size + 1) e2 f2 V 6 ∧ e1 ≠ e2 ∧ W.heap.size ≤ e1 ∧ W.heap.size ≤ e2)) := Hid.intro (ct_split (by have := HDR.out.1.1.2; have := HDR.out.1.2.2.2.2.2.2; omega) hr ho hzE hT)
            obtain ⟨p1, n1, k1, p2, n2, k2, hcs, hzz⟩ := HOZ.out
            subst hcs
            rw [← hzE] at hr
            subst hr
            have HZZ := Hid.intro hzz
            have HBW : Hid (b3 < W.heap.size) := Hid.intro HDR.out.1.1.2
            (first | (have H8 := (show Hid (Bx W9 b5 [.slice none 0 0, .slice none 0 0] ∧ b3 < b5) from ⟨H8.out.1.next hb, H8.out.2⟩)) | skip)
            have HDR := (show Hid (DcS w W9 b3 g1 c1 g2 c2 u d g a n cap X (t + 2 + 8 * (5 - k) + 2 + 2)) from Hid.intro (HDR.out.next hb))
            clear hb ho hT hzz HOZ hzE
            have HZ9 : Hid (z = true → ∃ e1 f1 e2 f2 U V, Value.slice p1 n1 k1 = .slice (some ⟨e1, 0, none⟩) 6 f1 ∧ Value.slice p2 n2 k2 = .slice (some ⟨e2, 0, none⟩) 6 f2 ∧ Rw 3 W9 (w.heap.size + 1) e1 f1 U 6 ∧ Rw 3 W9 (w.heap.size + 1) e2 f2 V 6 ∧ e1 ≠ e2 ∧ b3 ≠ e1 ∧ b3 ≠ e2) := Hid.intro (fun hz => by have hbw := HBW.out; obtain ⟨e1, f1, e2, f2, U, V, q1, q2, q3, q4, q5, q6, q7⟩ := HZZ.out hz; exact ⟨e1, f1, e2, f2, U, V, q1, q2, q3, q4, q5, by omega, by omega⟩)
            clear HZZ HBW
            obtain ⟨W, hWE⟩ : ∃ x, x = W9 := ⟨_, rfl⟩
            subst hWE
            refine hK.out _ _ HDR.out.1.1 (fun hHeld => ?_)
            clear hK KC
            refine take_v (v := ?_) 7 ⟨some 16, Op.move (Operand.tmp 23), _, _, _, none⟩ rfl (fun _ _ _ h => h) ?_ hHeld ?_
            rotate_left
            · (intro W _; go_simp <;> (try with_reducible rfl))
            refine take_v (v := ?_) 8 ⟨some 24, Op.extract (Operand.tmp 16) 0, _, _, _, none⟩ rfl (fun _ _ _ h => h) ?_ hHeld ?_
            rotate_left
            · (intro W _; go_simp <;> (try with_reducible rfl))
            refine take_v (v := ?_) 9 ⟨some 25, Op.extract (Operand.tmp 16) 1, _, _, _, none⟩ rfl (fun _ _ _ h => h) ?_ hHeld ?_
            rotate_left
            · (intro W _; go_simp <;> (try with_reducible rfl))
            refine ready_call 11 ⟨none, Op.store 25 (Operand.tmp 5) (Operand.tmp 24), _, _, _, none⟩ (by kernel_rfl) rfl (by kernel_rfl) (fun KC hK => ?_)
            have hq := H8.out.1
            have d0 := (hq).cell 0 rfl
            have d1 := (hq).cell 1 rfl
            have dz := (hq).2
            have df0 := (hq).frz 0 (by simp)
            have df1 := (hq).frz 1 (by simp)
            have hbb := H8.out.2
            go_wp2_with fail
            have hne : b3 ≠ b5 := by omega
            clear d0 d1 dz df0 df1 hq
            refine hK.out _ _ ((HDR.out.1.1.other hne).other hne) (fun hHeld => ?_)
            clear hK KC
            refine take_v (v := ?_) 12 ⟨some 6, Op.assign (Operand.tmp 25), _, _, _, none⟩ rfl (fun _ _ _ h => h) ?_ hHeld ?_
            rotate_left
            · (intro W _; go_simp <;> (try with_reducible rfl))
            refine wpAnyH_done (by kernel_rfl) ?_ _
            refine NoPanic.normal ?_
            have hlo : w.heap.size + 1 ≤ b3 := HDR.out.1.2.2.2.2.2.2
            have htS := set2 W b5 (.slice p1 n1 k1) (.slice p2 n2 k2)
            go_wp2_with fail
            go_meet
            have hj := HJ.out
            exact ⟨b5, _, _, z, rfl, rfl, (H8.out.1.set (k := 0) (by simp) _).set (k := 1) (by simp) _, (dcs_box HDR.out H8.out.1 htS hne hg (by omega)).up (by omega), fun hz => rz_box (HZ9.out hz) H8.out.1 htS⟩
        case rest =>
          obtain ⟨b5, v1, v2, z, rfl, rfl, hb5, hS, hz⟩ := hcut
          have HB5 := Hid.intro hb5
          have HS2 : Hid (DcS w wc b3 g1 c1 g2 c2 u d g a n cap X (t + 2 + 8 * (5 - j))) := hS
          have HZ := Hid.intro hz
          clear hb5 hS hz HDR
          have hjle : j ≤ 5 := by have := HJ.out; omega
          have hjm : j < k := by have := HJ.out; omega
          cases z
          · go_wp2
            go_roundw
            case rel => exact ⟨j, g1, c1, g2, c2, u, d, hjle, rfl, HS2.out⟩
            case measure => simp [intOf]; omega
          · obtain ⟨e1, f1, e2, f2, U, V, rfl, rfl, hr⟩ := HZ.out rfl
            have HR := Hid.intro hr
            clear hr
            have s0 := (HB5.out).cell 0 rfl
            have s1 := (HB5.out).cell 1 rfl
            have sz := (HB5.out).2
            have q0 := (HS2.out.1.1).cell 0 rfl
            have q1 := (HS2.out.1.1).cell 1 rfl
            have qz := (HS2.out.1.1).2
            have qf0 := (HS2.out.1.1).frz 0 (by simp)
            have qf1 := (HS2.out.1.1).frz 1 (by simp)
            have HF : Hid (DcS w ((wc.setCell ⟨b3, 0, none⟩ (.slice (some ⟨e1, 0, none⟩) 6 f1)).setCell ⟨b3, 1, none⟩ (.slice (some ⟨e2, 0, none⟩) 6 f2)) b3 e1 f1 e2 f2 U V g a n cap X (t + 2 + 8 * (5 - j))) := Hid.intro (by
              have hlo : w.heap.size + 1 ≤ b3 := HS2.out.1.2.2.2.2.2.2
              have hR := HR.out
              have ht := set2 wc b3 (.slice (some ⟨e1, 0, none⟩) 6 f1) (.slice (some ⟨e2, 0, none⟩) 6 f2)
              exact ⟨⟨(HS2.out.1.1.set (k := 0) (by simp) _).set (k := 1) (by simp) _, hR.1.turn ht (fun e => hR.2.2.2.1 (Eq.symm e)), hR.2.1.turn ht (fun e => hR.2.2.2.2 (Eq.symm e)), hR.2.2.1, hR.2.2.2.1, hR.2.2.2.2, hlo⟩, HS2.out.2.1.turnS ht (by omega), (HS2.out.2.2.out hg (by omega) _).out hg (by omega) _⟩)
            go_wp2
            go_roundw
            case rel => exact ⟨j, e1, f1, e2, f2, U, V, hjle, rfl, HF.out⟩
            case measure => simp [intOf]; omega
      · have hk00 : k = 0 := by omega
        subst hk00
        have HS3 : Hid (DcS w wr b3 g1 c1 g2 c2 u d g a n cap X (t + 42)) := Hid.intro (HS.out.up (by omega))
        clear HS hk hk0 hy0 hy5
        go_wp2_with fail
        refine (pick_any g a n cap X (t + 42) _ _ (by omega) (by omega) HS3.out.2.2.1).mono ?_
        rintro r w2 ⟨x, hx, rfl, hd⟩
        have H2 : Hid (DcS w w2 b3 g1 c1 g2 c2 u d g a n cap X (t + 44)) := Hid.intro (HS3.out.draw hd hg)
        clear hd HS3 hx
        by_cases hx0 : x = 0
        · subst hx0
          have HDR : Hid (DcS w w2.drew b3 g1 c1 g2 c2 u d g a n cap X (t + 44)) := Hid.intro (H2.out.next (below_drew _))
          go_upto_region 10 with fail
          refine wp_region_noPanic ?_
          refine wp_region_held_drew (S := fun W => Bx W b3 [.slice (some ⟨g1, 0, none⟩) 6 c1, .slice (some ⟨g2, 0, none⟩) 6 c2]) (by kernel_rfl) HDR.out.1.1 (fun hHeld => ?_)
          obtain ⟨W, hWE⟩ : ∃ x, x = w2.drew := ⟨_, rfl⟩
          rw [← hWE] at HDR hHeld ⊢
          clear hWE
          refine take_v (v := ?_) 0 ⟨some 32, Op.fieldAddr 25 (Operand.tmp 3) 0, _, _, _, none⟩ rfl (fun _ _ _ h => h) ?_ hHeld ?_
          rotate_left
          · (intro W _; go_simp <;> (try with_reducible rfl))
          refine take_v (v := ?_) 1 ⟨some 33, Op.load 23 (Operand.tmp 32), _, _, _, none⟩ rfl (fun _ _ _ h => h) ?_ hHeld ?_
          rotate_left
          · (intro W hSW; (have s0 := hSW.cell 0 rfl; have s1 := hSW.cell 1 rfl; have sz := hSW.2); go_simp <;> (try with_reducible rfl))
          refine take_v (v := ?_) 2 ⟨some 34, Op.move (Operand.tmp 0), _, _, _, none⟩ rfl (fun _ _ _ h => h) ?_ hHeld ?_
          rotate_left
          · (intro W _; go_simp <;> (try with_reducible rfl))
          refine ready_call 3 ⟨some 35, Op.buildSlice 23 3 #[(0, Operand.const (Value.int IntKind.i64 (-1))), (1, Operand.const (Value.int IntKind.i64 1000000)), (2, Operand.const (Value.int IntKind.i64 1000001))], _, _, _, none⟩ (by kernel_rfl) rfl (by kernel_rfl) (fun KC hK => ?_)
          go_wp2_with fail
          obtain ⟨W8, hWE⟩ : ∃ x, x = W.alloc (.cells #[.int .i64 (-1), .int .i64 1000000, .int .i64 1000001] 3) := ⟨_, rfl⟩
          obtain ⟨b6, hmE⟩ : ∃ x, x = W.heap.size := ⟨_, rfl⟩
          have hb : Below W.heap.size W W8 := hWE ▸ Go.Joins.below_alloc1 _ _
          have HN6 : Hid (Bx W8 b6 [.int .i64 (-1), .int .i64 1000000, .int .i64 1000001] ∧ b6 ≠ g) := ⟨hmE ▸ hWE ▸ Bx.new W [_, _, _] _, by have := HDR.out.2.1.2; omega⟩
          have HDR := Hid.intro (HDR.out.next hb)
          rw [← hWE, ← hmE]
          clear hb hWE hmE
          obtain ⟨W, hWE⟩ : ∃ x, x = W8 := ⟨_, rfl⟩
          subst hWE
          refine hK.out _ _ HDR.out.1.1 (fun hHeld => ?_)
          clear hK KC
          refine ready_call 4 ⟨some 36, Op.call { callee := Callee.value (Operand.func 109), args := #[Operand.tmp 34, Operand.tmp 35], argTypes := #[87, 23] }, _, _, _, none⟩ (by kernel_rfl) rfl (by kernel_rfl) (fun KC hK => ?_)
          go_wp2_with fail
          refine (among_any g a n cap X (t + 44) b6 _ (-1) 1000000 1000001 _ (by omega) HDR.out.2.2.1 HN6.out.2 HN6.out.1.2 (HN6.out.1.cell 0 rfl) (HN6.out.1.cell 1 rfl) (HN6.out.1.cell 2 rfl)).mono ?_
          rintro r W9 ⟨z, rfl, hd⟩
          have HDR := (show Hid (DcS w W9 b3 g1 c1 g2 c2 u d g a n cap X (t + 44 + 2)) from Hid.intro (HDR.out.draw hd hg))
          clear hd
          obtain ⟨W, hWE⟩ : ∃ x, x = W9 := ⟨_, rfl⟩
          subst hWE
          refine hK.out _ _ HDR.out.1.1 (fun hHeld => ?_)
          clear hK KC
          refine take_v (v := ?_) 5 ⟨some 37, Op.indexAddr 23 (Operand.tmp 33) (Operand.const (Value.int IntKind.i64 0)), _, _, _, none⟩ rfl (fun _ _ _ h => h) ?_ hHeld ?_
          rotate_left
          · (intro W _; go_simp <;> (try with_reducible rfl))
          refine ready_call 6 ⟨none, Op.store 3 (Operand.tmp 37) (Operand.tmp 36), _, _, _, none⟩ (by kernel_rfl) rfl (by kernel_rfl) (fun KC hK => ?_)
          have hq := HDR.out.1.2.1.at (show 0 < 6 by omega)
          obtain ⟨q1, q2, q3⟩ := hq
          go_wp2_with fail
          clear q1 q2 q3
          refine hK.out _ _ (HDR.out.1.1.other HDR.out.1.2.2.2.2.1) (fun hHeld => ?_)
          clear hK KC
          refine wpAnyH_done (by kernel_rfl) ?_ _
          refine NoPanic.normal ?_
          clear hHeld
          have HF : Hid (DcS w (W.setCell ⟨g1, 0, none⟩ (.int .i64 z)) b3 g1 c1 g2 c2 (u.set 0 z) d g a n cap X (t + 46)) := Hid.intro (by have h1 := HDR.out.1.2.1.lt; exact ⟨HDR.out.1.setU (k := 0) (by omega) z, HDR.out.2.1.other (by omega), HDR.out.2.2.out hg (by omega) _⟩)
          have s0 := (HF.out.1.1).cell 0 rfl
          have s1 := (HF.out.1.1).cell 1 rfl
          have sz := (HF.out.1.1).2
          have q0 := (HF.out.2.1).cell 0 rfl
          have q1 := (HF.out.2.1).cell 1 rfl
          have qz := (HF.out.2.1).2
          have qf0 := (HF.out.2.1).frz 0 (by simp)
          have qf1 := (HF.out.2.1).frz 1 (by simp)
          have hbw : b3 ≠ w.heap.size := by have := HF.out.1.2.2.2.2.2.2; omega
          have HR := Hid.intro (HF.out.done hg (t' := t + 60) (by omega))
          go_wp2_with fail
          exact bodyPost_ret (v := .agg #[.slice (some ⟨g1, 0, none⟩) 6 c1, .slice (some ⟨g2, 0, none⟩) 6 c2]) (by simp [results, Try.results61, go_sem, *]) rfl HR.out
        · have hx0' : (x == 0) = false := beq_false_of_ne hx0
          by_cases hx1 : x = 1
          · subst hx1
            have hcap := H2.out.1.2.2.1.cap
            obtain ⟨hc6, hcm⟩ := hcap
            have hc1 : c2 ≠ 1 := by omega
            have hbw : b3 ≠ w.heap.size := by have := H2.out.1.2.2.2.2.2.2; omega
            have s0 := (H2.out.1.1).cell 0 rfl
            have s1 := (H2.out.1.1).cell 1 rfl
            have sz := (H2.out.1.1).2
            have sf1 := (H2.out.1.1).frz 1 (by simp)
            have q0 := (H2.out.2.1).cell 0 rfl
            have q1 := (H2.out.2.1).cell 1 rfl
            have qz := (H2.out.2.1).2
            have qf0 := (H2.out.2.1).frz 0 (by simp)
            have qf1 := (H2.out.2.1).frz 1 (by simp)
            have HR : Hid (DcP g a n cap X (t + 60) w (.returned (.agg #[.slice (some ⟨g1, 0, none⟩) 6 c1, .slice (some ⟨g2, 1, none⟩) 5 (c2 - 1)])) (((w2.setCell ⟨b3, 1, none⟩ (.slice (some ⟨g2, 1, none⟩) 5 (c2 - 1))).setCell ⟨w.heap.size, 0, none⟩ (.slice (some ⟨g1, 0, none⟩) 6 c1)).setCell ⟨w.heap.size, 1, none⟩ (.slice (some ⟨g2, 1, none⟩) 5 (c2 - 1)))) := Hid.intro (dcs_cut H2.out hg (by omega))
            go_wp2_with fail
            exact bodyPost_ret (v := .agg #[.slice (some ⟨g1, 0, none⟩) 6 c1, .slice (some ⟨g2, 1, none⟩) 5 (c2 - 1)]) (by simp [results, Try.results61, go_sem, *]) rfl HR.out
          · have hx1' : (x == 1) = false := beq_false_of_ne hx1
            have s0 := (H2.out.1.1).cell 0 rfl
            have s1 := (H2.out.1.1).cell 1 rfl
            have sz := (H2.out.1.1).2
            have q0 := (H2.out.2.1).cell 0 rfl
            have q1 := (H2.out.2.1).cell 1 rfl
            have qz := (H2.out.2.1).2
            have qf0 := (H2.out.2.1).frz 0 (by simp)
            have qf1 := (H2.out.2.1).frz 1 (by simp)
            have hbw : b3 ≠ w.heap.size := by have := H2.out.1.2.2.2.2.2.2; omega
            have HR := Hid.intro (H2.out.done hg (t' := t + 60) (by omega))
            go_wp2_with fail
            exact bodyPost_ret (v := .agg #[.slice (some ⟨g1, 0, none⟩) 6 c1, .slice (some ⟨g2, 0, none⟩) 6 c2]) (by simp [results, Try.results61, go_sem, *]) rfl HR.out
end Go.Proofs.Ytnglgndocmkbfaa
