/- The contract of the specification's GoodLocks. -/
import Derived.Test.YtnapgnkhajkbkaaGlL
import Derived.Test.YtnapgnkhajkbkaaRowI
import Derived.Maps.AppendAt
namespace Go.Proofs.Ytnapgnkhajkbkaa
open Go.RowKit
set_option linter.unusedVariables false

theorem l1Key_is {s : ByteArray} {q : Bool} (w : World) (h : keyOk s = q) (hs : s.size ≤ maxLen) :
    Calls Try.prog 52 #[.string s] w fun r w' => r = .returned (.bool q) ∧ w' = w := h ▸ l1Key_any s w hs
theorem l4Hold_is {t m : Int} {q : Bool} (h : hdOk t m = q) (w : World) :
    Calls Try.prog 53 #[.agg #[.int .i64 t, .int .i64 m]] w fun r w' => r = .returned (.bool q) ∧ Below w.heap.size w w' := h ▸ l4Hold_any t m w
theorem l1Has_is {n : Nat} {X : Nat → Int} {t : Int} {q : Bool} (a : Option Addr) (cap : Nat) (w : World) (h : hasN X t n = q) (hn : n ≤ 1073741824) (hs : Sl w a n 1 (intF X)) :
    Calls Try.prog 54 #[.slice a n cap, .int .i64 t] w fun r w' => r = .returned (.bool q) ∧ w' = w := h ▸ l1Has_any a n cap X t w hn hs
theorem l4Can_is {key : ByteArray} {a wa : Option Addr} {n cap wn wc : Nat} {T M : Nat → Int} {t m : Int} {q : Bool} (w : World) (h : canN T M t m n = q) (hn : n ≤ 1048576) (hs : Sl w a n 2 (hdF T M)) :
    Calls Try.prog 55 #[.agg #[.string key, .slice a n cap, .slice wa wn wc], .agg #[.int .i64 t, .int .i64 m]] w fun r w' => r = .returned (.bool q) ∧ Below w.heap.size w w' := h ▸ l4Can_any key a wa n cap wn wc T M t m w hn hs
theorem l4Elder_is {key : ByteArray} {a wa : Option Addr} {n cap wn wc : Nat} {T M : Nat → Int} {t : Int} {q : Bool} (w : World) (h : eldN T t n = q) (hn : n ≤ 1048576) (hs : Sl w a n 2 (hdF T M)) :
    Calls Try.prog 56 #[.agg #[.string key, .slice a n cap, .slice wa wn wc], .int .i64 t] w fun r w' => r = .returned (.bool q) ∧ Below w.heap.size w w' := h ▸ l4Elder_any key a wa n cap wn wc T M t w hn hs
/-- The row of those that wait so far. -/
def WR (V : Nat → LkV) (base : Nat) (wr : World) (v : Value) (i j : Nat) : Prop := ∃ m X, wr.ownsRow base 3 1 v m (ints X m) ∧ m ≤ 8 * i + j ∧ ∀ t, hasN X t m = seenB V i j t
/-- The row lies not in block g. -/
def Apart (v : Value) (g : Nat) : Prop := ∀ k, v.ownBlock = some k → k ≠ g
theorem Bx.grown {w w' : World} {row : Option Nat} {g : Nat} {vs : List Value} (h : Bx w g vs) (hg : w.grownBy w' row) (hs : w.heap.size ≤ w'.heap.size) (hne : some g ≠ row) : Bx w' g vs :=
  ⟨fun j hj => ⟨(hg.cell_far ⟨g, j, none⟩ h.2 hne).trans (h.1 j hj).1, (hg.frozen_far ⟨g, j, none⟩ h.2 hne).trans (h.1 j hj).2⟩, Nat.lt_of_lt_of_le h.2 hs⟩
theorem WR.next {V : Nat → LkV} {base : Nat} {w w' : World} {v : Value} {i j : Nat} (h : WR V base w v i j) (hb : Below w.heap.size w w') : WR V base w' v i j := by
  obtain ⟨m, X, h1, h2, h3⟩ := h
  exact ⟨m, X, own_keep h1 hb, h2, h3⟩
theorem WR.up {V : Nat → LkV} {base : Nat} {w : World} {v : Value} {i : Nat} (h : WR V base w v i (V i).w.n) (h8 : (V i).w.n ≤ 8) : WR V base w v (i + 1) 0 := by
  obtain ⟨m, X, h1, h2, h3⟩ := h
  exact ⟨m, X, h1, by omega, fun t => by rw [h3 t]; simp [seenB, seenL, hasN]⟩

set_option maxRecDepth 100000 in
set_option maxHeartbeats 8000000 in
theorem specGoodLocks_any (a : Option Addr) (n cap : Nat) (V : Nat → LkV) (A : Nat → LkA) (w : World) (hn : n ≤ 1048576) (hz : ∀ i, i < n → LkOk (V i)) (hs : LkS w a n V A) :
    Calls Try.prog 17 #[.slice a n cap] w fun r w' => r = .returned (.bool (goodL V n)) ∧ Below w.heap.size w w' := by
  have HS : Hid (LkS w a n V A ∧ ∀ i, i < n → LkOk (V i)) := ⟨hs, hz⟩
  clear hs hz
  go_enter Try.func17, Try.ntmps17
  go_wp2
  go_loopw [12, 3] (fun x v wr => ∃ i : Nat, i ≤ n ∧ x = .int .i64 i ∧ (∀ j, j < i → lock1 V j) ∧ WR V w.heap.size wr v i 0 ∧ Below w.heap.size w wr) (fun x _ _ => n - (intOf x).toNat)
  case atStart => exact ⟨0, Nat.zero_le _, rfl, fun j hj => absurd hj (by omega), ⟨0, fun _ => 0, World.ownsRow_nil _ _ _ _, Nat.le_refl _, fun t => rfl⟩, Below.refl _ _⟩
  case round =>
    obtain ⟨i, hi, rfl, hall, hW, hBr⟩ := hrel
    obtain ⟨wo, hwo⟩ : ∃ x, x = wr := ⟨wr, rfl⟩
    subst hwo
    by_cases hlt : i < n
    · have hlt' : (i : Int) < (n : Int) := by omega
      have hsr := HS.out.1.next hBr
      have hat := hsr.2 i hlt
      have hok := HS.out.2 i hlt
      rcases hsr.1 with h | ⟨b, off, rfl, hbs, hE⟩
      · omega
      obtain ⟨c0, c1, c2⟩ := lk_cells hE hlt
      have hz : w.heap.size ≤ wo.heap.size := hBr.size
      have HT : Hid (LkS wo (some ⟨b, off, none⟩) n V A ∧ HdAt wo (A i) (V i) ∧ LkOk (V i)) := ⟨hsr, hat, hok⟩
      have HH : Hid ((∀ j, j < i → lock1 V j) ∧ WR V w.heap.size wo u3 i 0 ∧ Below w.heap.size w wo) := ⟨hall, hW, hBr⟩
      have hp : 0 < i → wo.cell? ⟨b, off + (i - 1) * 3, none⟩ = some (.string (V (i - 1)).key) := fun h => (lk_cells hE (show i - 1 < n by omega)).1
      have hks : (V i).key.size ≤ maxLen := by have := HT.out.2.2.1; unfold maxLen; omega
      have hhn : (V i).h.n ≤ 1048576 := hok.2.1
      have hwn : (V i).w.n ≤ 1048576 := hok.2.2
      clear hall hW hBr hsr hat hok hE
      have HX : Hid (Bx (wo.alloc (.cells #[.string (V i).key, .slice (A i).ha (V i).h.n (A i).hc, .slice (A i).wa (V i).w.n (A i).wc] 48)).drew wo.heap.size [.string (V i).key, .slice (A i).ha (V i).h.n (A i).hc, .slice (A i).wa (V i).w.n (A i).wc] ∧ Below wo.heap.size wo (wo.alloc (.cells #[.string (V i).key, .slice (A i).ha (V i).h.n (A i).hc, .slice (A i).wa (V i).w.n (A i).wc] 48)).drew) := ⟨(Bx.new wo [.string (V i).key, .slice (A i).ha (V i).h.n (A i).hc, .slice (A i).wa (V i).w.n (A i).wc] 48).next (Below.refl _ _).drew, (Go.Joins.below_alloc1 _ _).drew⟩
      obtain ⟨fk, hk⟩ : ∃ f, keyOk (V i).key = f := ⟨_, rfl⟩
      obtain ⟨q5, HO⟩ : ∃ q5 : Bool, Hid (q5 = (!fk || (decide (0 < i) && !ltK V i) || decide ((V i).h.n = 0) || decide (8 < (V i).w.n))) := ⟨_, rfl⟩
      go_upto_region 5 with fail
      go_cut [47] (fun s47 wx => s47 = .bool q5 ∧ wx = (wo.alloc (.cells #[.string (V i).key, .slice (A i).ha (V i).h.n (A i).hc, .slice (A i).wa (V i).w.n (A i).wc] 48)).drew)
      case first =>
        cases fk
        · have HK : Hid (q5 = true) := HO.out.trans (by simp)
          clear hp
          as_aux_lemma =>
            refine wp_region_noPanic ?_
            refine wp_region_held_drew (S := fun W => W.cell? ⟨wo.heap.size, 0, none⟩ = some (.string (V i).key) ∧ W.cell? ⟨wo.heap.size, 1, none⟩ = some (.slice (A i).ha (V i).h.n (A i).hc) ∧ W.cell? ⟨wo.heap.size, 2, none⟩ = some (.slice (A i).wa (V i).w.n (A i).wc)) (by kernel_rfl) ⟨HX.out.1.cell 0 rfl, HX.out.1.cell 1 rfl, HX.out.1.cell 2 rfl⟩ (fun hHeld => ?_)
            refine take_v (v := ?_) 0 ⟨some 17, Op.fieldAddr 48 (Operand.tmp 5) 0, _, _, _, none⟩ rfl (fun _ _ _ h => h) ?_ hHeld ?_
            rotate_left
            · (intro W _; go_simp <;> (try with_reducible rfl))
            refine take_v (v := ?_) 1 ⟨some 18, Op.load 9 (Operand.tmp 17), _, _, _, none⟩ rfl (fun _ _ _ h => h) ?_ hHeld ?_
            rotate_left
            · (intro W hSW; obtain ⟨sw0, sw1, sw2⟩ := hSW; go_simp <;> (try with_reducible rfl))
            refine ready_call 2 ⟨some 19, Op.call { callee := Callee.value (Operand.func 52), args := #[Operand.tmp 18], argTypes := #[9] }, _, _, _, none⟩ (by kernel_rfl) rfl (by kernel_rfl) (fun KC hK => ?_)
            go_wp2_with fail
            refine (l1Key_is _ hk hks).mono ?_
            rintro e w' ⟨rfl, hw'⟩
            have hw' := hw'.symm
            subst hw'
            refine hK.out _ _ hHeld (fun hHeld => ?_)
            clear hK KC
            refine take_v (v := ?_) 3 ⟨some 20, Op.unOp UnOp.not 4 (Operand.tmp 19), _, _, _, none⟩ rfl (fun _ _ _ h => h) ?_ hHeld ?_
            rotate_left
            · (intro W _; go_simp <;> (try with_reducible rfl))
            refine take_v (v := ?_) 4 ⟨some 21, Op.move (Operand.tmp 20), _, _, _, none⟩ rfl (fun _ _ _ h => h) ?_ hHeld ?_
            rotate_left
            · (intro W _; go_simp <;> (try with_reducible rfl))
            refine take_n 5 ⟨some 22, Op.move (Operand.tmp 4), _, _, _, some (4, false)⟩ rfl (fun _ _ _ h => h) hHeld ?_
            refine take_n 6 ⟨some 23, Op.binOp BinOp.gtr 3 (Operand.tmp 22) (Operand.const (Value.int IntKind.i64 0)) 3, _, _, _, some (4, false)⟩ rfl (fun _ _ _ h => h) hHeld ?_
            refine take_n 7 ⟨some 24, Op.move (Operand.tmp 23), _, _, _, some (4, false)⟩ rfl (fun _ _ _ h => h) hHeld ?_
            refine take_n 8 ⟨some 25, Op.move (Operand.tmp 0), _, _, _, some (7, true)⟩ rfl (fun _ _ _ h => h) hHeld ?_
            refine take_n 9 ⟨some 26, Op.move (Operand.tmp 4), _, _, _, some (7, true)⟩ rfl (fun _ _ _ h => h) hHeld ?_
            refine take_n 10 ⟨some 27, Op.binOp BinOp.sub 3 (Operand.tmp 26) (Operand.const (Value.int IntKind.i64 1)) 3, _, _, _, some (7, true)⟩ rfl (fun _ _ _ h => h) hHeld ?_
            refine take_n 11 ⟨some 28, Op.indexAddr 25 (Operand.tmp 25) (Operand.tmp 27), _, _, _, some (7, true)⟩ rfl (fun _ _ _ h => h) hHeld ?_
            refine take_n 12 ⟨some 29, Op.fieldAddr 48 (Operand.tmp 28) 0, _, _, _, some (7, true)⟩ rfl (fun _ _ _ h => h) hHeld ?_
            refine take_n 13 ⟨some 30, Op.load 9 (Operand.tmp 29), _, _, _, some (7, true)⟩ rfl (fun _ _ _ h => h) hHeld ?_
            refine take_n 14 ⟨some 31, Op.fieldAddr 48 (Operand.tmp 5) 0, _, _, _, some (7, true)⟩ rfl (fun _ _ _ h => h) hHeld ?_
            refine take_n 15 ⟨some 32, Op.load 9 (Operand.tmp 31), _, _, _, some (7, true)⟩ rfl (fun _ _ _ h => h) hHeld ?_
            refine take_n 16 ⟨some 33, Op.binOp BinOp.geq 9 (Operand.tmp 30) (Operand.tmp 32) 9, _, _, _, some (7, true)⟩ rfl (fun _ _ _ h => h) hHeld ?_
            refine take_n 17 ⟨some 34, Op.pick (Operand.tmp 24) (Operand.tmp 33) (Operand.const (Value.bool false)), _, _, _, some (4, false)⟩ rfl (fun _ _ _ h => h) hHeld ?_
            refine take_v (v := ?_) 18 ⟨some 35, Op.pick (Operand.tmp 21) (Operand.const (Value.bool true)) (Operand.tmp 34), _, _, _, none⟩ rfl (fun _ _ _ h => h) ?_ hHeld ?_
            rotate_left
            · (intro W _; go_simp <;> (try with_reducible rfl))
            refine take_v (v := ?_) 19 ⟨some 36, Op.move (Operand.tmp 35), _, _, _, none⟩ rfl (fun _ _ _ h => h) ?_ hHeld ?_
            rotate_left
            · (intro W _; go_simp <;> (try with_reducible rfl))
            refine take_n 20 ⟨some 37, Op.fieldAddr 48 (Operand.tmp 5) 1, _, _, _, some (19, false)⟩ rfl (fun _ _ _ h => h) hHeld ?_
            refine take_n 21 ⟨some 38, Op.load 46 (Operand.tmp 37), _, _, _, some (19, false)⟩ rfl (fun _ _ _ h => h) hHeld ?_
            refine take_n 22 ⟨some 39, Op.call { callee := Callee.builtin Builtin.len, args := #[Operand.tmp 38], argTypes := #[46] }, _, _, _, some (19, false)⟩ rfl (fun _ _ _ h => h) hHeld ?_
            refine take_n 23 ⟨some 40, Op.binOp BinOp.eql 3 (Operand.tmp 39) (Operand.const (Value.int IntKind.i64 0)) 3, _, _, _, some (19, false)⟩ rfl (fun _ _ _ h => h) hHeld ?_
            refine take_v (v := ?_) 24 ⟨some 41, Op.pick (Operand.tmp 36) (Operand.const (Value.bool true)) (Operand.tmp 40), _, _, _, none⟩ rfl (fun _ _ _ h => h) ?_ hHeld ?_
            rotate_left
            · (intro W _; go_simp <;> (try with_reducible rfl))
            refine take_v (v := ?_) 25 ⟨some 42, Op.move (Operand.tmp 41), _, _, _, none⟩ rfl (fun _ _ _ h => h) ?_ hHeld ?_
            rotate_left
            · (intro W _; go_simp <;> (try with_reducible rfl))
            refine take_n 26 ⟨some 43, Op.fieldAddr 48 (Operand.tmp 5) 2, _, _, _, some (25, false)⟩ rfl (fun _ _ _ h => h) hHeld ?_
            refine take_n 27 ⟨some 44, Op.load 46 (Operand.tmp 43), _, _, _, some (25, false)⟩ rfl (fun _ _ _ h => h) hHeld ?_
            refine take_n 28 ⟨some 45, Op.call { callee := Callee.builtin Builtin.len, args := #[Operand.tmp 44], argTypes := #[46] }, _, _, _, some (25, false)⟩ rfl (fun _ _ _ h => h) hHeld ?_
            refine take_n 29 ⟨some 46, Op.binOp BinOp.gtr 3 (Operand.tmp 45) (Operand.const (Value.int IntKind.i64 8)) 3, _, _, _, some (25, false)⟩ rfl (fun _ _ _ h => h) hHeld ?_
            refine take_v (v := ?_) 30 ⟨some 47, Op.pick (Operand.tmp 42) (Operand.const (Value.bool true)) (Operand.tmp 46), _, _, _, none⟩ rfl (fun _ _ _ h => h) ?_ hHeld ?_
            rotate_left
            · (intro W _; go_simp <;> (try with_reducible rfl))
            refine wpAnyH_done (by kernel_rfl) ?_ _
            refine NoPanic.normal ?_
            go_wp2_with fail
            go_meet
            exact ⟨by rw [HK.out], rfl⟩
        have h8a : decide ((8 : Int) < ((V i).w.n : Int)) = decide (8 < (V i).w.n) := by rw [decide_eq_decide]; omega
        by_cases hk0 : i = 0
        · have hk0' : decide ((0 : Int) < (i : Int)) = false := by simp; omega
          have hk0n : decide (0 < i) = false := by simp; omega
          have HK0 : Hid (i = 0) := hk0
          clear hp hk0
          by_cases hh0 : (V i).h.n = 0
          · have e1 : (((V i).h.n : Int) == 0) = true := by simp; omega
            have e2 : decide ((V i).h.n = 0) = true := by simp; omega
            have HK : Hid (q5 = true) := HO.out.trans (by rw [e2]; simp)
            have HH0 : Hid ((V i).h.n = 0) := hh0
            clear hh0
            as_aux_lemma =>
              refine wp_region_noPanic ?_
              refine wp_region_held_drew (S := fun W => W.cell? ⟨wo.heap.size, 0, none⟩ = some (.string (V i).key) ∧ W.cell? ⟨wo.heap.size, 1, none⟩ = some (.slice (A i).ha (V i).h.n (A i).hc) ∧ W.cell? ⟨wo.heap.size, 2, none⟩ = some (.slice (A i).wa (V i).w.n (A i).wc)) (by kernel_rfl) ⟨HX.out.1.cell 0 rfl, HX.out.1.cell 1 rfl, HX.out.1.cell 2 rfl⟩ (fun hHeld => ?_)
              refine take_v (v := ?_) 0 ⟨some 17, Op.fieldAddr 48 (Operand.tmp 5) 0, _, _, _, none⟩ rfl (fun _ _ _ h => h) ?_ hHeld ?_
              rotate_left
              · (intro W _; go_simp <;> (try with_reducible rfl))
              refine take_v (v := ?_) 1 ⟨some 18, Op.load 9 (Operand.tmp 17), _, _, _, none⟩ rfl (fun _ _ _ h => h) ?_ hHeld ?_
              rotate_left
              · (intro W hSW; obtain ⟨sw0, sw1, sw2⟩ := hSW; go_simp <;> (try with_reducible rfl))
              refine ready_call 2 ⟨some 19, Op.call { callee := Callee.value (Operand.func 52), args := #[Operand.tmp 18], argTypes := #[9] }, _, _, _, none⟩ (by kernel_rfl) rfl (by kernel_rfl) (fun KC hK => ?_)
              go_wp2_with fail
              refine (l1Key_is _ hk hks).mono ?_
              rintro e w' ⟨rfl, hw'⟩
              have hw' := hw'.symm
              subst hw'
              refine hK.out _ _ hHeld (fun hHeld => ?_)
              clear hK KC
              refine take_v (v := ?_) 3 ⟨some 20, Op.unOp UnOp.not 4 (Operand.tmp 19), _, _, _, none⟩ rfl (fun _ _ _ h => h) ?_ hHeld ?_
              rotate_left
              · (intro W _; go_simp <;> (try with_reducible rfl))
              refine take_v (v := ?_) 4 ⟨some 21, Op.move (Operand.tmp 20), _, _, _, none⟩ rfl (fun _ _ _ h => h) ?_ hHeld ?_
              rotate_left
              · (intro W _; go_simp <;> (try with_reducible rfl))
              refine take_v (v := ?_) 5 ⟨some 22, Op.move (Operand.tmp 4), _, _, _, some (4, false)⟩ rfl (fun _ _ _ h => h) ?_ hHeld ?_
              rotate_left
              · (intro W _; go_simp <;> (try with_reducible rfl))
              refine take_v (v := ?_) 6 ⟨some 23, Op.binOp BinOp.gtr 3 (Operand.tmp 22) (Operand.const (Value.int IntKind.i64 0)) 3, _, _, _, some (4, false)⟩ rfl (fun _ _ _ h => h) ?_ hHeld ?_
              rotate_left
              · (intro W _; go_simp <;> (try with_reducible rfl))
              refine take_v (v := ?_) 7 ⟨some 24, Op.move (Operand.tmp 23), _, _, _, some (4, false)⟩ rfl (fun _ _ _ h => h) ?_ hHeld ?_
              rotate_left
              · (intro W _; go_simp <;> (try with_reducible rfl))
              refine take_n 8 ⟨some 25, Op.move (Operand.tmp 0), _, _, _, some (7, true)⟩ rfl (fun _ _ _ h => h) hHeld ?_
              refine take_n 9 ⟨some 26, Op.move (Operand.tmp 4), _, _, _, some (7, true)⟩ rfl (fun _ _ _ h => h) hHeld ?_
              refine take_n 10 ⟨some 27, Op.binOp BinOp.sub 3 (Operand.tmp 26) (Operand.const (Value.int IntKind.i64 1)) 3, _, _, _, some (7, true)⟩ rfl (fun _ _ _ h => h) hHeld ?_
              refine take_n 11 ⟨some 28, Op.indexAddr 25 (Operand.tmp 25) (Operand.tmp 27), _, _, _, some (7, true)⟩ rfl (fun _ _ _ h => h) hHeld ?_
              refine take_n 12 ⟨some 29, Op.fieldAddr 48 (Operand.tmp 28) 0, _, _, _, some (7, true)⟩ rfl (fun _ _ _ h => h) hHeld ?_
              refine take_n 13 ⟨some 30, Op.load 9 (Operand.tmp 29), _, _, _, some (7, true)⟩ rfl (fun _ _ _ h => h) hHeld ?_
              refine take_n 14 ⟨some 31, Op.fieldAddr 48 (Operand.tmp 5) 0, _, _, _, some (7, true)⟩ rfl (fun _ _ _ h => h) hHeld ?_
              refine take_n 15 ⟨some 32, Op.load 9 (Operand.tmp 31), _, _, _, some (7, true)⟩ rfl (fun _ _ _ h => h) hHeld ?_
              refine take_n 16 ⟨some 33, Op.binOp BinOp.geq 9 (Operand.tmp 30) (Operand.tmp 32) 9, _, _, _, some (7, true)⟩ rfl (fun _ _ _ h => h) hHeld ?_
              refine take_v (v := ?_) 17 ⟨some 34, Op.pick (Operand.tmp 24) (Operand.tmp 33) (Operand.const (Value.bool false)), _, _, _, some (4, false)⟩ rfl (fun _ _ _ h => h) ?_ hHeld ?_
              rotate_left
              · (intro W _; go_simp <;> (try with_reducible rfl))
              refine take_v (v := ?_) 18 ⟨some 35, Op.pick (Operand.tmp 21) (Operand.const (Value.bool true)) (Operand.tmp 34), _, _, _, none⟩ rfl (fun _ _ _ h => h) ?_ hHeld ?_
              rotate_left
              · (intro W _; go_simp <;> (try with_reducible rfl))
              refine take_v (v := ?_) 19 ⟨some 36, Op.move (Operand.tmp 35), _, _, _, none⟩ rfl (fun _ _ _ h => h) ?_ hHeld ?_
              rotate_left
              · (intro W _; go_simp <;> (try with_reducible rfl))
              refine take_v (v := ?_) 20 ⟨some 37, Op.fieldAddr 48 (Operand.tmp 5) 1, _, _, _, some (19, false)⟩ rfl (fun _ _ _ h => h) ?_ hHeld ?_
              rotate_left
              · (intro W _; go_simp <;> (try with_reducible rfl))
              refine take_v (v := ?_) 21 ⟨some 38, Op.load 46 (Operand.tmp 37), _, _, _, some (19, false)⟩ rfl (fun _ _ _ h => h) ?_ hHeld ?_
              rotate_left
              · (intro W hSW; obtain ⟨sw0, sw1, sw2⟩ := hSW; go_simp <;> (try with_reducible rfl))
              refine take_v (v := ?_) 22 ⟨some 39, Op.call { callee := Callee.builtin Builtin.len, args := #[Operand.tmp 38], argTypes := #[46] }, _, _, _, some (19, false)⟩ rfl (fun _ _ _ h => h) ?_ hHeld ?_
              rotate_left
              · (intro W _; go_simp <;> (try with_reducible rfl))
              refine take_v (v := ?_) 23 ⟨some 40, Op.binOp BinOp.eql 3 (Operand.tmp 39) (Operand.const (Value.int IntKind.i64 0)) 3, _, _, _, some (19, false)⟩ rfl (fun _ _ _ h => h) ?_ hHeld ?_
              rotate_left
              · (intro W _; go_simp <;> (try with_reducible rfl))
              refine take_v (v := ?_) 24 ⟨some 41, Op.pick (Operand.tmp 36) (Operand.const (Value.bool true)) (Operand.tmp 40), _, _, _, none⟩ rfl (fun _ _ _ h => h) ?_ hHeld ?_
              rotate_left
              · (intro W _; go_simp <;> (try with_reducible rfl))
              refine take_v (v := ?_) 25 ⟨some 42, Op.move (Operand.tmp 41), _, _, _, none⟩ rfl (fun _ _ _ h => h) ?_ hHeld ?_
              rotate_left
              · (intro W _; go_simp <;> (try with_reducible rfl))
              refine take_n 26 ⟨some 43, Op.fieldAddr 48 (Operand.tmp 5) 2, _, _, _, some (25, false)⟩ rfl (fun _ _ _ h => h) hHeld ?_
              refine take_n 27 ⟨some 44, Op.load 46 (Operand.tmp 43), _, _, _, some (25, false)⟩ rfl (fun _ _ _ h => h) hHeld ?_
              refine take_n 28 ⟨some 45, Op.call { callee := Callee.builtin Builtin.len, args := #[Operand.tmp 44], argTypes := #[46] }, _, _, _, some (25, false)⟩ rfl (fun _ _ _ h => h) hHeld ?_
              refine take_n 29 ⟨some 46, Op.binOp BinOp.gtr 3 (Operand.tmp 45) (Operand.const (Value.int IntKind.i64 8)) 3, _, _, _, some (25, false)⟩ rfl (fun _ _ _ h => h) hHeld ?_
              refine take_v (v := ?_) 30 ⟨some 47, Op.pick (Operand.tmp 42) (Operand.const (Value.bool true)) (Operand.tmp 46), _, _, _, none⟩ rfl (fun _ _ _ h => h) ?_ hHeld ?_
              rotate_left
              · (intro W _; go_simp <;> (try with_reducible rfl))
              refine wpAnyH_done (by kernel_rfl) ?_ _
              refine NoPanic.normal ?_
              go_wp2_with fail
              go_meet
              exact ⟨by rw [HK.out], rfl⟩
          · have e1 : (((V i).h.n : Int) == 0) = false := by simp; omega
            have e2 : decide ((V i).h.n = 0) = false := by simp; omega
            have HK : Hid (q5 = decide (8 < (V i).w.n)) := HO.out.trans (by rw [hk0n, e2]; simp)
            clear hh0
            as_aux_lemma =>
              refine wp_region_noPanic ?_
              refine wp_region_held_drew (S := fun W => W.cell? ⟨wo.heap.size, 0, none⟩ = some (.string (V i).key) ∧ W.cell? ⟨wo.heap.size, 1, none⟩ = some (.slice (A i).ha (V i).h.n (A i).hc) ∧ W.cell? ⟨wo.heap.size, 2, none⟩ = some (.slice (A i).wa (V i).w.n (A i).wc)) (by kernel_rfl) ⟨HX.out.1.cell 0 rfl, HX.out.1.cell 1 rfl, HX.out.1.cell 2 rfl⟩ (fun hHeld => ?_)
              refine take_v (v := ?_) 0 ⟨some 17, Op.fieldAddr 48 (Operand.tmp 5) 0, _, _, _, none⟩ rfl (fun _ _ _ h => h) ?_ hHeld ?_
              rotate_left
              · (intro W _; go_simp <;> (try with_reducible rfl))
              refine take_v (v := ?_) 1 ⟨some 18, Op.load 9 (Operand.tmp 17), _, _, _, none⟩ rfl (fun _ _ _ h => h) ?_ hHeld ?_
              rotate_left
              · (intro W hSW; obtain ⟨sw0, sw1, sw2⟩ := hSW; go_simp <;> (try with_reducible rfl))
              refine ready_call 2 ⟨some 19, Op.call { callee := Callee.value (Operand.func 52), args := #[Operand.tmp 18], argTypes := #[9] }, _, _, _, none⟩ (by kernel_rfl) rfl (by kernel_rfl) (fun KC hK => ?_)
              go_wp2_with fail
              refine (l1Key_is _ hk hks).mono ?_
              rintro e w' ⟨rfl, hw'⟩
              have hw' := hw'.symm
              subst hw'
              refine hK.out _ _ hHeld (fun hHeld => ?_)
              clear hK KC
              refine take_v (v := ?_) 3 ⟨some 20, Op.unOp UnOp.not 4 (Operand.tmp 19), _, _, _, none⟩ rfl (fun _ _ _ h => h) ?_ hHeld ?_
              rotate_left
              · (intro W _; go_simp <;> (try with_reducible rfl))
              refine take_v (v := ?_) 4 ⟨some 21, Op.move (Operand.tmp 20), _, _, _, none⟩ rfl (fun _ _ _ h => h) ?_ hHeld ?_
              rotate_left
              · (intro W _; go_simp <;> (try with_reducible rfl))
              refine take_v (v := ?_) 5 ⟨some 22, Op.move (Operand.tmp 4), _, _, _, some (4, false)⟩ rfl (fun _ _ _ h => h) ?_ hHeld ?_
              rotate_left
              · (intro W _; go_simp <;> (try with_reducible rfl))
              refine take_v (v := ?_) 6 ⟨some 23, Op.binOp BinOp.gtr 3 (Operand.tmp 22) (Operand.const (Value.int IntKind.i64 0)) 3, _, _, _, some (4, false)⟩ rfl (fun _ _ _ h => h) ?_ hHeld ?_
              rotate_left
              · (intro W _; go_simp <;> (try with_reducible rfl))
              refine take_v (v := ?_) 7 ⟨some 24, Op.move (Operand.tmp 23), _, _, _, some (4, false)⟩ rfl (fun _ _ _ h => h) ?_ hHeld ?_
              rotate_left
              · (intro W _; go_simp <;> (try with_reducible rfl))
              refine take_n 8 ⟨some 25, Op.move (Operand.tmp 0), _, _, _, some (7, true)⟩ rfl (fun _ _ _ h => h) hHeld ?_
              refine take_n 9 ⟨some 26, Op.move (Operand.tmp 4), _, _, _, some (7, true)⟩ rfl (fun _ _ _ h => h) hHeld ?_
              refine take_n 10 ⟨some 27, Op.binOp BinOp.sub 3 (Operand.tmp 26) (Operand.const (Value.int IntKind.i64 1)) 3, _, _, _, some (7, true)⟩ rfl (fun _ _ _ h => h) hHeld ?_
              refine take_n 11 ⟨some 28, Op.indexAddr 25 (Operand.tmp 25) (Operand.tmp 27), _, _, _, some (7, true)⟩ rfl (fun _ _ _ h => h) hHeld ?_
              refine take_n 12 ⟨some 29, Op.fieldAddr 48 (Operand.tmp 28) 0, _, _, _, some (7, true)⟩ rfl (fun _ _ _ h => h) hHeld ?_
              refine take_n 13 ⟨some 30, Op.load 9 (Operand.tmp 29), _, _, _, some (7, true)⟩ rfl (fun _ _ _ h => h) hHeld ?_
              refine take_n 14 ⟨some 31, Op.fieldAddr 48 (Operand.tmp 5) 0, _, _, _, some (7, true)⟩ rfl (fun _ _ _ h => h) hHeld ?_
              refine take_n 15 ⟨some 32, Op.load 9 (Operand.tmp 31), _, _, _, some (7, true)⟩ rfl (fun _ _ _ h => h) hHeld ?_
              refine take_n 16 ⟨some 33, Op.binOp BinOp.geq 9 (Operand.tmp 30) (Operand.tmp 32) 9, _, _, _, some (7, true)⟩ rfl (fun _ _ _ h => h) hHeld ?_
              refine take_v (v := ?_) 17 ⟨some 34, Op.pick (Operand.tmp 24) (Operand.tmp 33) (Operand.const (Value.bool false)), _, _, _, some (4, false)⟩ rfl (fun _ _ _ h => h) ?_ hHeld ?_
              rotate_left
              · (intro W _; go_simp <;> (try with_reducible rfl))
              refine take_v (v := ?_) 18 ⟨some 35, Op.pick (Operand.tmp 21) (Operand.const (Value.bool true)) (Operand.tmp 34), _, _, _, none⟩ rfl (fun _ _ _ h => h) ?_ hHeld ?_
              rotate_left
              · (intro W _; go_simp <;> (try with_reducible rfl))
              refine take_v (v := ?_) 19 ⟨some 36, Op.move (Operand.tmp 35), _, _, _, none⟩ rfl (fun _ _ _ h => h) ?_ hHeld ?_
              rotate_left
              · (intro W _; go_simp <;> (try with_reducible rfl))
              refine take_v (v := ?_) 20 ⟨some 37, Op.fieldAddr 48 (Operand.tmp 5) 1, _, _, _, some (19, false)⟩ rfl (fun _ _ _ h => h) ?_ hHeld ?_
              rotate_left
              · (intro W _; go_simp <;> (try with_reducible rfl))
              refine take_v (v := ?_) 21 ⟨some 38, Op.load 46 (Operand.tmp 37), _, _, _, some (19, false)⟩ rfl (fun _ _ _ h => h) ?_ hHeld ?_
              rotate_left
              · (intro W hSW; obtain ⟨sw0, sw1, sw2⟩ := hSW; go_simp <;> (try with_reducible rfl))
              refine take_v (v := ?_) 22 ⟨some 39, Op.call { callee := Callee.builtin Builtin.len, args := #[Operand.tmp 38], argTypes := #[46] }, _, _, _, some (19, false)⟩ rfl (fun _ _ _ h => h) ?_ hHeld ?_
              rotate_left
              · (intro W _; go_simp <;> (try with_reducible rfl))
              refine take_v (v := ?_) 23 ⟨some 40, Op.binOp BinOp.eql 3 (Operand.tmp 39) (Operand.const (Value.int IntKind.i64 0)) 3, _, _, _, some (19, false)⟩ rfl (fun _ _ _ h => h) ?_ hHeld ?_
              rotate_left
              · (intro W _; go_simp <;> (try with_reducible rfl))
              refine take_v (v := ?_) 24 ⟨some 41, Op.pick (Operand.tmp 36) (Operand.const (Value.bool true)) (Operand.tmp 40), _, _, _, none⟩ rfl (fun _ _ _ h => h) ?_ hHeld ?_
              rotate_left
              · (intro W _; go_simp <;> (try with_reducible rfl))
              refine take_v (v := ?_) 25 ⟨some 42, Op.move (Operand.tmp 41), _, _, _, none⟩ rfl (fun _ _ _ h => h) ?_ hHeld ?_
              rotate_left
              · (intro W _; go_simp <;> (try with_reducible rfl))
              refine take_v (v := ?_) 26 ⟨some 43, Op.fieldAddr 48 (Operand.tmp 5) 2, _, _, _, some (25, false)⟩ rfl (fun _ _ _ h => h) ?_ hHeld ?_
              rotate_left
              · (intro W _; go_simp <;> (try with_reducible rfl))
              refine take_v (v := ?_) 27 ⟨some 44, Op.load 46 (Operand.tmp 43), _, _, _, some (25, false)⟩ rfl (fun _ _ _ h => h) ?_ hHeld ?_
              rotate_left
              · (intro W hSW; obtain ⟨sw0, sw1, sw2⟩ := hSW; go_simp <;> (try with_reducible rfl))
              refine take_v (v := ?_) 28 ⟨some 45, Op.call { callee := Callee.builtin Builtin.len, args := #[Operand.tmp 44], argTypes := #[46] }, _, _, _, some (25, false)⟩ rfl (fun _ _ _ h => h) ?_ hHeld ?_
              rotate_left
              · (intro W _; go_simp <;> (try with_reducible rfl))
              refine take_v (v := ?_) 29 ⟨some 46, Op.binOp BinOp.gtr 3 (Operand.tmp 45) (Operand.const (Value.int IntKind.i64 8)) 3, _, _, _, some (25, false)⟩ rfl (fun _ _ _ h => h) ?_ hHeld ?_
              rotate_left
              · (intro W _; go_simp <;> (try with_reducible rfl))
              refine take_v (v := ?_) 30 ⟨some 47, Op.pick (Operand.tmp 42) (Operand.const (Value.bool true)) (Operand.tmp 46), _, _, _, none⟩ rfl (fun _ _ _ h => h) ?_ hHeld ?_
              rotate_left
              · (intro W _; go_simp <;> (try with_reducible rfl))
              refine wpAnyH_done (by kernel_rfl) ?_ _
              refine NoPanic.normal ?_
              go_wp2_with fail
              go_meet
              exact ⟨by rw [HK.out], rfl⟩
        · have hp1 := hp (by omega)
          obtain ⟨q, hq⟩ : ∃ q, q = i - 1 := ⟨_, rfl⟩
          rw [← hq] at hp1
          have hwq : IntKind.i64.wrap ((i : Int) - 1) = (q : Int) := by rw [IntKind.wrap_i64]; omega
          have hq0 : (0 : Int) < (i : Int) := by omega
          have hq0n : decide (0 < i) = true := by simp; omega
          have hqn : (q : Int) < (n : Int) := by omega
          have hltk : ltK V i = Op.bytesLess (V q).key.toList (V i).key.toList := by rw [ltK, ← hq]
          have HP : Hid ((wo.alloc (.cells #[.string (V i).key, .slice (A i).ha (V i).h.n (A i).hc, .slice (A i).wa (V i).w.n (A i).wc] 48)).drew.cell? ⟨b, off + q * 3, none⟩ = some (.string (V q).key)) := (HX.out.2.cell (p := ⟨b, off + q * 3, none⟩) hbs).trans hp1
          clear hp hp1 hk0 hq
          cases hl : Op.bytesLess (V q).key.toList (V i).key.toList
          · have HK : Hid (q5 = true) := HO.out.trans (by rw [hltk, hl, hq0n]; simp)
            clear hltk
            as_aux_lemma =>
              refine wp_region_noPanic ?_
              refine wp_region_held_drew (S := fun W => W.cell? ⟨wo.heap.size, 0, none⟩ = some (.string (V i).key) ∧ W.cell? ⟨wo.heap.size, 1, none⟩ = some (.slice (A i).ha (V i).h.n (A i).hc) ∧ W.cell? ⟨wo.heap.size, 2, none⟩ = some (.slice (A i).wa (V i).w.n (A i).wc) ∧ W.cell? ⟨b, off + q * 3, none⟩ = some (.string (V q).key)) (by kernel_rfl) ⟨HX.out.1.cell 0 rfl, HX.out.1.cell 1 rfl, HX.out.1.cell 2 rfl, HP.out⟩ (fun hHeld => ?_)
              refine take_v (v := ?_) 0 ⟨some 17, Op.fieldAddr 48 (Operand.tmp 5) 0, _, _, _, none⟩ rfl (fun _ _ _ h => h) ?_ hHeld ?_
              rotate_left
              · (intro W _; go_simp <;> (try with_reducible rfl))
              refine take_v (v := ?_) 1 ⟨some 18, Op.load 9 (Operand.tmp 17), _, _, _, none⟩ rfl (fun _ _ _ h => h) ?_ hHeld ?_
              rotate_left
              · (intro W hSW; obtain ⟨sw0, sw1, sw2, sw3⟩ := hSW; go_simp <;> (try with_reducible rfl))
              refine ready_call 2 ⟨some 19, Op.call { callee := Callee.value (Operand.func 52), args := #[Operand.tmp 18], argTypes := #[9] }, _, _, _, none⟩ (by kernel_rfl) rfl (by kernel_rfl) (fun KC hK => ?_)
              go_wp2_with fail
              refine (l1Key_is _ hk hks).mono ?_
              rintro e w' ⟨rfl, hw'⟩
              have hw' := hw'.symm
              subst hw'
              refine hK.out _ _ hHeld (fun hHeld => ?_)
              clear hK KC
              refine take_v (v := ?_) 3 ⟨some 20, Op.unOp UnOp.not 4 (Operand.tmp 19), _, _, _, none⟩ rfl (fun _ _ _ h => h) ?_ hHeld ?_
              rotate_left
              · (intro W _; go_simp <;> (try with_reducible rfl))
              refine take_v (v := ?_) 4 ⟨some 21, Op.move (Operand.tmp 20), _, _, _, none⟩ rfl (fun _ _ _ h => h) ?_ hHeld ?_
              rotate_left
              · (intro W _; go_simp <;> (try with_reducible rfl))
              refine take_v (v := ?_) 5 ⟨some 22, Op.move (Operand.tmp 4), _, _, _, some (4, false)⟩ rfl (fun _ _ _ h => h) ?_ hHeld ?_
              rotate_left
              · (intro W _; go_simp <;> (try with_reducible rfl))
              refine take_v (v := ?_) 6 ⟨some 23, Op.binOp BinOp.gtr 3 (Operand.tmp 22) (Operand.const (Value.int IntKind.i64 0)) 3, _, _, _, some (4, false)⟩ rfl (fun _ _ _ h => h) ?_ hHeld ?_
              rotate_left
              · (intro W _; go_simp <;> (try with_reducible rfl))
              refine take_v (v := ?_) 7 ⟨some 24, Op.move (Operand.tmp 23), _, _, _, some (4, false)⟩ rfl (fun _ _ _ h => h) ?_ hHeld ?_
              rotate_left
              · (intro W _; go_simp <;> (try with_reducible rfl))
              refine take_v (v := ?_) 8 ⟨some 25, Op.move (Operand.tmp 0), _, _, _, some (7, true)⟩ rfl (fun _ _ _ h => h) ?_ hHeld ?_
              rotate_left
              · (intro W _; go_simp <;> (try with_reducible rfl))
              refine take_v (v := ?_) 9 ⟨some 26, Op.move (Operand.tmp 4), _, _, _, some (7, true)⟩ rfl (fun _ _ _ h => h) ?_ hHeld ?_
              rotate_left
              · (intro W _; go_simp <;> (try with_reducible rfl))
              refine take_v (v := ?_) 10 ⟨some 27, Op.binOp BinOp.sub 3 (Operand.tmp 26) (Operand.const (Value.int IntKind.i64 1)) 3, _, _, _, some (7, true)⟩ rfl (fun _ _ _ h => h) ?_ hHeld ?_
              rotate_left
              · (intro W _; go_simp <;> (try with_reducible rfl))
              refine take_v (v := ?_) 11 ⟨some 28, Op.indexAddr 25 (Operand.tmp 25) (Operand.tmp 27), _, _, _, some (7, true)⟩ rfl (fun _ _ _ h => h) ?_ hHeld ?_
              rotate_left
              · (intro W _; go_simp <;> (try with_reducible rfl))
              refine take_v (v := ?_) 12 ⟨some 29, Op.fieldAddr 48 (Operand.tmp 28) 0, _, _, _, some (7, true)⟩ rfl (fun _ _ _ h => h) ?_ hHeld ?_
              rotate_left
              · (intro W _; go_simp <;> (try with_reducible rfl))
              refine take_v (v := ?_) 13 ⟨some 30, Op.load 9 (Operand.tmp 29), _, _, _, some (7, true)⟩ rfl (fun _ _ _ h => h) ?_ hHeld ?_
              rotate_left
              · (intro W hSW; obtain ⟨sw0, sw1, sw2, sw3⟩ := hSW; go_simp <;> (try with_reducible rfl))
              refine take_v (v := ?_) 14 ⟨some 31, Op.fieldAddr 48 (Operand.tmp 5) 0, _, _, _, some (7, true)⟩ rfl (fun _ _ _ h => h) ?_ hHeld ?_
              rotate_left
              · (intro W _; go_simp <;> (try with_reducible rfl))
              refine take_v (v := ?_) 15 ⟨some 32, Op.load 9 (Operand.tmp 31), _, _, _, some (7, true)⟩ rfl (fun _ _ _ h => h) ?_ hHeld ?_
              rotate_left
              · (intro W hSW; obtain ⟨sw0, sw1, sw2, sw3⟩ := hSW; go_simp <;> (try with_reducible rfl))
              refine take_v (v := ?_) 16 ⟨some 33, Op.binOp BinOp.geq 9 (Operand.tmp 30) (Operand.tmp 32) 9, _, _, _, some (7, true)⟩ rfl (fun _ _ _ h => h) ?_ hHeld ?_
              rotate_left
              · (intro W _; go_simp <;> (try with_reducible rfl))
              refine take_v (v := ?_) 17 ⟨some 34, Op.pick (Operand.tmp 24) (Operand.tmp 33) (Operand.const (Value.bool false)), _, _, _, some (4, false)⟩ rfl (fun _ _ _ h => h) ?_ hHeld ?_
              rotate_left
              · (intro W _; go_simp <;> (try with_reducible rfl))
              refine take_v (v := ?_) 18 ⟨some 35, Op.pick (Operand.tmp 21) (Operand.const (Value.bool true)) (Operand.tmp 34), _, _, _, none⟩ rfl (fun _ _ _ h => h) ?_ hHeld ?_
              rotate_left
              · (intro W _; go_simp <;> (try with_reducible rfl))
              refine take_v (v := ?_) 19 ⟨some 36, Op.move (Operand.tmp 35), _, _, _, none⟩ rfl (fun _ _ _ h => h) ?_ hHeld ?_
              rotate_left
              · (intro W _; go_simp <;> (try with_reducible rfl))
              refine take_n 20 ⟨some 37, Op.fieldAddr 48 (Operand.tmp 5) 1, _, _, _, some (19, false)⟩ rfl (fun _ _ _ h => h) hHeld ?_
              refine take_n 21 ⟨some 38, Op.load 46 (Operand.tmp 37), _, _, _, some (19, false)⟩ rfl (fun _ _ _ h => h) hHeld ?_
              refine take_n 22 ⟨some 39, Op.call { callee := Callee.builtin Builtin.len, args := #[Operand.tmp 38], argTypes := #[46] }, _, _, _, some (19, false)⟩ rfl (fun _ _ _ h => h) hHeld ?_
              refine take_n 23 ⟨some 40, Op.binOp BinOp.eql 3 (Operand.tmp 39) (Operand.const (Value.int IntKind.i64 0)) 3, _, _, _, some (19, false)⟩ rfl (fun _ _ _ h => h) hHeld ?_
              refine take_v (v := ?_) 24 ⟨some 41, Op.pick (Operand.tmp 36) (Operand.const (Value.bool true)) (Operand.tmp 40), _, _, _, none⟩ rfl (fun _ _ _ h => h) ?_ hHeld ?_
              rotate_left
              · (intro W _; go_simp <;> (try with_reducible rfl))
              refine take_v (v := ?_) 25 ⟨some 42, Op.move (Operand.tmp 41), _, _, _, none⟩ rfl (fun _ _ _ h => h) ?_ hHeld ?_
              rotate_left
              · (intro W _; go_simp <;> (try with_reducible rfl))
              refine take_n 26 ⟨some 43, Op.fieldAddr 48 (Operand.tmp 5) 2, _, _, _, some (25, false)⟩ rfl (fun _ _ _ h => h) hHeld ?_
              refine take_n 27 ⟨some 44, Op.load 46 (Operand.tmp 43), _, _, _, some (25, false)⟩ rfl (fun _ _ _ h => h) hHeld ?_
              refine take_n 28 ⟨some 45, Op.call { callee := Callee.builtin Builtin.len, args := #[Operand.tmp 44], argTypes := #[46] }, _, _, _, some (25, false)⟩ rfl (fun _ _ _ h => h) hHeld ?_
              refine take_n 29 ⟨some 46, Op.binOp BinOp.gtr 3 (Operand.tmp 45) (Operand.const (Value.int IntKind.i64 8)) 3, _, _, _, some (25, false)⟩ rfl (fun _ _ _ h => h) hHeld ?_
              refine take_v (v := ?_) 30 ⟨some 47, Op.pick (Operand.tmp 42) (Operand.const (Value.bool true)) (Operand.tmp 46), _, _, _, none⟩ rfl (fun _ _ _ h => h) ?_ hHeld ?_
              rotate_left
              · (intro W _; go_simp <;> (try with_reducible rfl))
              refine wpAnyH_done (by kernel_rfl) ?_ _
              refine NoPanic.normal ?_
              go_wp2_with fail
              go_meet
              exact ⟨by rw [HK.out], rfl⟩
          by_cases hh0 : (V i).h.n = 0
          · have e1 : (((V i).h.n : Int) == 0) = true := by simp; omega
            have e2 : decide ((V i).h.n = 0) = true := by simp; omega
            have HK : Hid (q5 = true) := HO.out.trans (by rw [e2]; simp)
            have HH0 : Hid ((V i).h.n = 0) := hh0
            clear hh0 hltk
            as_aux_lemma =>
              refine wp_region_noPanic ?_
              refine wp_region_held_drew (S := fun W => W.cell? ⟨wo.heap.size, 0, none⟩ = some (.string (V i).key) ∧ W.cell? ⟨wo.heap.size, 1, none⟩ = some (.slice (A i).ha (V i).h.n (A i).hc) ∧ W.cell? ⟨wo.heap.size, 2, none⟩ = some (.slice (A i).wa (V i).w.n (A i).wc) ∧ W.cell? ⟨b, off + q * 3, none⟩ = some (.string (V q).key)) (by kernel_rfl) ⟨HX.out.1.cell 0 rfl, HX.out.1.cell 1 rfl, HX.out.1.cell 2 rfl, HP.out⟩ (fun hHeld => ?_)
              refine take_v (v := ?_) 0 ⟨some 17, Op.fieldAddr 48 (Operand.tmp 5) 0, _, _, _, none⟩ rfl (fun _ _ _ h => h) ?_ hHeld ?_
              rotate_left
              · (intro W _; go_simp <;> (try with_reducible rfl))
              refine take_v (v := ?_) 1 ⟨some 18, Op.load 9 (Operand.tmp 17), _, _, _, none⟩ rfl (fun _ _ _ h => h) ?_ hHeld ?_
              rotate_left
              · (intro W hSW; obtain ⟨sw0, sw1, sw2, sw3⟩ := hSW; go_simp <;> (try with_reducible rfl))
              refine ready_call 2 ⟨some 19, Op.call { callee := Callee.value (Operand.func 52), args := #[Operand.tmp 18], argTypes := #[9] }, _, _, _, none⟩ (by kernel_rfl) rfl (by kernel_rfl) (fun KC hK => ?_)
              go_wp2_with fail
              refine (l1Key_is _ hk hks).mono ?_
              rintro e w' ⟨rfl, hw'⟩
              have hw' := hw'.symm
              subst hw'
              refine hK.out _ _ hHeld (fun hHeld => ?_)
              clear hK KC
              refine take_v (v := ?_) 3 ⟨some 20, Op.unOp UnOp.not 4 (Operand.tmp 19), _, _, _, none⟩ rfl (fun _ _ _ h => h) ?_ hHeld ?_
              rotate_left
              · (intro W _; go_simp <;> (try with_reducible rfl))
              refine take_v (v := ?_) 4 ⟨some 21, Op.move (Operand.tmp 20), _, _, _, none⟩ rfl (fun _ _ _ h => h) ?_ hHeld ?_
              rotate_left
              · (intro W _; go_simp <;> (try with_reducible rfl))
              refine take_v (v := ?_) 5 ⟨some 22, Op.move (Operand.tmp 4), _, _, _, some (4, false)⟩ rfl (fun _ _ _ h => h) ?_ hHeld ?_
              rotate_left
              · (intro W _; go_simp <;> (try with_reducible rfl))
              refine take_v (v := ?_) 6 ⟨some 23, Op.binOp BinOp.gtr 3 (Operand.tmp 22) (Operand.const (Value.int IntKind.i64 0)) 3, _, _, _, some (4, false)⟩ rfl (fun _ _ _ h => h) ?_ hHeld ?_
              rotate_left
              · (intro W _; go_simp <;> (try with_reducible rfl))
              refine take_v (v := ?_) 7 ⟨some 24, Op.move (Operand.tmp 23), _, _, _, some (4, false)⟩ rfl (fun _ _ _ h => h) ?_ hHeld ?_
              rotate_left
              · (intro W _; go_simp <;> (try with_reducible rfl))
              refine take_v (v := ?_) 8 ⟨some 25, Op.move (Operand.tmp 0), _, _, _, some (7, true)⟩ rfl (fun _ _ _ h => h) ?_ hHeld ?_
              rotate_left
              · (intro W _; go_simp <;> (try with_reducible rfl))
              refine take_v (v := ?_) 9 ⟨some 26, Op.move (Operand.tmp 4), _, _, _, some (7, true)⟩ rfl (fun _ _ _ h => h) ?_ hHeld ?_
              rotate_left
              · (intro W _; go_simp <;> (try with_reducible rfl))
              refine take_v (v := ?_) 10 ⟨some 27, Op.binOp BinOp.sub 3 (Operand.tmp 26) (Operand.const (Value.int IntKind.i64 1)) 3, _, _, _, some (7, true)⟩ rfl (fun _ _ _ h => h) ?_ hHeld ?_
              rotate_left
              · (intro W _; go_simp <;> (try with_reducible rfl))
              refine take_v (v := ?_) 11 ⟨some 28, Op.indexAddr 25 (Operand.tmp 25) (Operand.tmp 27), _, _, _, some (7, true)⟩ rfl (fun _ _ _ h => h) ?_ hHeld ?_
              rotate_left
              · (intro W _; go_simp <;> (try with_reducible rfl))
              refine take_v (v := ?_) 12 ⟨some 29, Op.fieldAddr 48 (Operand.tmp 28) 0, _, _, _, some (7, true)⟩ rfl (fun _ _ _ h => h) ?_ hHeld ?_
              rotate_left
              · (intro W _; go_simp <;> (try with_reducible rfl))
              refine take_v (v := ?_) 13 ⟨some 30, Op.load 9 (Operand.tmp 29), _, _, _, some (7, true)⟩ rfl (fun _ _ _ h => h) ?_ hHeld ?_
              rotate_left
              · (intro W hSW; obtain ⟨sw0, sw1, sw2, sw3⟩ := hSW; go_simp <;> (try with_reducible rfl))
              refine take_v (v := ?_) 14 ⟨some 31, Op.fieldAddr 48 (Operand.tmp 5) 0, _, _, _, some (7, true)⟩ rfl (fun _ _ _ h => h) ?_ hHeld ?_
              rotate_left
              · (intro W _; go_simp <;> (try with_reducible rfl))
              refine take_v (v := ?_) 15 ⟨some 32, Op.load 9 (Operand.tmp 31), _, _, _, some (7, true)⟩ rfl (fun _ _ _ h => h) ?_ hHeld ?_
              rotate_left
              · (intro W hSW; obtain ⟨sw0, sw1, sw2, sw3⟩ := hSW; go_simp <;> (try with_reducible rfl))
              refine take_v (v := ?_) 16 ⟨some 33, Op.binOp BinOp.geq 9 (Operand.tmp 30) (Operand.tmp 32) 9, _, _, _, some (7, true)⟩ rfl (fun _ _ _ h => h) ?_ hHeld ?_
              rotate_left
              · (intro W _; go_simp <;> (try with_reducible rfl))
              refine take_v (v := ?_) 17 ⟨some 34, Op.pick (Operand.tmp 24) (Operand.tmp 33) (Operand.const (Value.bool false)), _, _, _, some (4, false)⟩ rfl (fun _ _ _ h => h) ?_ hHeld ?_
              rotate_left
              · (intro W _; go_simp <;> (try with_reducible rfl))
              refine take_v (v := ?_) 18 ⟨some 35, Op.pick (Operand.tmp 21) (Operand.const (Value.bool true)) (Operand.tmp 34), _, _, _, none⟩ rfl (fun _ _ _ h => h) ?_ hHeld ?_
              rotate_left
              · (intro W _; go_simp <;> (try with_reducible rfl))
              refine take_v (v := ?_) 19 ⟨some 36, Op.move (Operand.tmp 35), _, _, _, none⟩ rfl (fun _ _ _ h => h) ?_ hHeld ?_
              rotate_left
              · (intro W _; go_simp <;> (try with_reducible rfl))
              refine take_v (v := ?_) 20 ⟨some 37, Op.fieldAddr 48 (Operand.tmp 5) 1, _, _, _, some (19, false)⟩ rfl (fun _ _ _ h => h) ?_ hHeld ?_
              rotate_left
              · (intro W _; go_simp <;> (try with_reducible rfl))
              refine take_v (v := ?_) 21 ⟨some 38, Op.load 46 (Operand.tmp 37), _, _, _, some (19, false)⟩ rfl (fun _ _ _ h => h) ?_ hHeld ?_
              rotate_left
              · (intro W hSW; obtain ⟨sw0, sw1, sw2, sw3⟩ := hSW; go_simp <;> (try with_reducible rfl))
              refine take_v (v := ?_) 22 ⟨some 39, Op.call { callee := Callee.builtin Builtin.len, args := #[Operand.tmp 38], argTypes := #[46] }, _, _, _, some (19, false)⟩ rfl (fun _ _ _ h => h) ?_ hHeld ?_
              rotate_left
              · (intro W _; go_simp <;> (try with_reducible rfl))
              refine take_v (v := ?_) 23 ⟨some 40, Op.binOp BinOp.eql 3 (Operand.tmp 39) (Operand.const (Value.int IntKind.i64 0)) 3, _, _, _, some (19, false)⟩ rfl (fun _ _ _ h => h) ?_ hHeld ?_
              rotate_left
              · (intro W _; go_simp <;> (try with_reducible rfl))
              refine take_v (v := ?_) 24 ⟨some 41, Op.pick (Operand.tmp 36) (Operand.const (Value.bool true)) (Operand.tmp 40), _, _, _, none⟩ rfl (fun _ _ _ h => h) ?_ hHeld ?_
              rotate_left
              · (intro W _; go_simp <;> (try with_reducible rfl))
              refine take_v (v := ?_) 25 ⟨some 42, Op.move (Operand.tmp 41), _, _, _, none⟩ rfl (fun _ _ _ h => h) ?_ hHeld ?_
              rotate_left
              · (intro W _; go_simp <;> (try with_reducible rfl))
              refine take_n 26 ⟨some 43, Op.fieldAddr 48 (Operand.tmp 5) 2, _, _, _, some (25, false)⟩ rfl (fun _ _ _ h => h) hHeld ?_
              refine take_n 27 ⟨some 44, Op.load 46 (Operand.tmp 43), _, _, _, some (25, false)⟩ rfl (fun _ _ _ h => h) hHeld ?_
              refine take_n 28 ⟨some 45, Op.call { callee := Callee.builtin Builtin.len, args := #[Operand.tmp 44], argTypes := #[46] }, _, _, _, some (25, false)⟩ rfl (fun _ _ _ h => h) hHeld ?_
              refine take_n 29 ⟨some 46, Op.binOp BinOp.gtr 3 (Operand.tmp 45) (Operand.const (Value.int IntKind.i64 8)) 3, _, _, _, some (25, false)⟩ rfl (fun _ _ _ h => h) hHeld ?_
              refine take_v (v := ?_) 30 ⟨some 47, Op.pick (Operand.tmp 42) (Operand.const (Value.bool true)) (Operand.tmp 46), _, _, _, none⟩ rfl (fun _ _ _ h => h) ?_ hHeld ?_
              rotate_left
              · (intro W _; go_simp <;> (try with_reducible rfl))
              refine wpAnyH_done (by kernel_rfl) ?_ _
              refine NoPanic.normal ?_
              go_wp2_with fail
              go_meet
              exact ⟨by rw [HK.out], rfl⟩
          · have e1 : (((V i).h.n : Int) == 0) = false := by simp; omega
            have e2 : decide ((V i).h.n = 0) = false := by simp; omega
            have HK : Hid (q5 = decide (8 < (V i).w.n)) := HO.out.trans (by rw [hltk, hl, e2]; simp)
            clear hh0 hltk
            as_aux_lemma =>
              refine wp_region_noPanic ?_
              refine wp_region_held_drew (S := fun W => W.cell? ⟨wo.heap.size, 0, none⟩ = some (.string (V i).key) ∧ W.cell? ⟨wo.heap.size, 1, none⟩ = some (.slice (A i).ha (V i).h.n (A i).hc) ∧ W.cell? ⟨wo.heap.size, 2, none⟩ = some (.slice (A i).wa (V i).w.n (A i).wc) ∧ W.cell? ⟨b, off + q * 3, none⟩ = some (.string (V q).key)) (by kernel_rfl) ⟨HX.out.1.cell 0 rfl, HX.out.1.cell 1 rfl, HX.out.1.cell 2 rfl, HP.out⟩ (fun hHeld => ?_)
              refine take_v (v := ?_) 0 ⟨some 17, Op.fieldAddr 48 (Operand.tmp 5) 0, _, _, _, none⟩ rfl (fun _ _ _ h => h) ?_ hHeld ?_
              rotate_left
              · (intro W _; go_simp <;> (try with_reducible rfl))
              refine take_v (v := ?_) 1 ⟨some 18, Op.load 9 (Operand.tmp 17), _, _, _, none⟩ rfl (fun _ _ _ h => h) ?_ hHeld ?_
              rotate_left
              · (intro W hSW; obtain ⟨sw0, sw1, sw2, sw3⟩ := hSW; go_simp <;> (try with_reducible rfl))
              refine ready_call 2 ⟨some 19, Op.call { callee := Callee.value (Operand.func 52), args := #[Operand.tmp 18], argTypes := #[9] }, _, _, _, none⟩ (by kernel_rfl) rfl (by kernel_rfl) (fun KC hK => ?_)
              go_wp2_with fail
              refine (l1Key_is _ hk hks).mono ?_
              rintro e w' ⟨rfl, hw'⟩
              have hw' := hw'.symm
              subst hw'
              refine hK.out _ _ hHeld (fun hHeld => ?_)
              clear hK KC
              refine take_v (v := ?_) 3 ⟨some 20, Op.unOp UnOp.not 4 (Operand.tmp 19), _, _, _, none⟩ rfl (fun _ _ _ h => h) ?_ hHeld ?_
              rotate_left
              · (intro W _; go_simp <;> (try with_reducible rfl))
              refine take_v (v := ?_) 4 ⟨some 21, Op.move (Operand.tmp 20), _, _, _, none⟩ rfl (fun _ _ _ h => h) ?_ hHeld ?_
              rotate_left
              · (intro W _; go_simp <;> (try with_reducible rfl))
              refine take_v (v := ?_) 5 ⟨some 22, Op.move (Operand.tmp 4), _, _, _, some (4, false)⟩ rfl (fun _ _ _ h => h) ?_ hHeld ?_
              rotate_left
              · (intro W _; go_simp <;> (try with_reducible rfl))
              refine take_v (v := ?_) 6 ⟨some 23, Op.binOp BinOp.gtr 3 (Operand.tmp 22) (Operand.const (Value.int IntKind.i64 0)) 3, _, _, _, some (4, false)⟩ rfl (fun _ _ _ h => h) ?_ hHeld ?_
              rotate_left
              · (intro W _; go_simp <;> (try with_reducible rfl))
              refine take_v (v := ?_) 7 ⟨some 24, Op.move (Operand.tmp 23), _, _, _, some (4, false)⟩ rfl (fun _ _ _ h => h) ?_ hHeld ?_
              rotate_left
              · (intro W _; go_simp <;> (try with_reducible rfl))
              refine take_v (v := ?_) 8 ⟨some 25, Op.move (Operand.tmp 0), _, _, _, some (7, true)⟩ rfl (fun _ _ _ h => h) ?_ hHeld ?_
              rotate_left
              · (intro W _; go_simp <;> (try with_reducible rfl))
              refine take_v (v := ?_) 9 ⟨some 26, Op.move (Operand.tmp 4), _, _, _, some (7, true)⟩ rfl (fun _ _ _ h => h) ?_ hHeld ?_
              rotate_left
              · (intro W _; go_simp <;> (try with_reducible rfl))
              refine take_v (v := ?_) 10 ⟨some 27, Op.binOp BinOp.sub 3 (Operand.tmp 26) (Operand.const (Value.int IntKind.i64 1)) 3, _, _, _, some (7, true)⟩ rfl (fun _ _ _ h => h) ?_ hHeld ?_
              rotate_left
              · (intro W _; go_simp <;> (try with_reducible rfl))
              refine take_v (v := ?_) 11 ⟨some 28, Op.indexAddr 25 (Operand.tmp 25) (Operand.tmp 27), _, _, _, some (7, true)⟩ rfl (fun _ _ _ h => h) ?_ hHeld ?_
              rotate_left
              · (intro W _; go_simp <;> (try with_reducible rfl))
              refine take_v (v := ?_) 12 ⟨some 29, Op.fieldAddr 48 (Operand.tmp 28) 0, _, _, _, some (7, true)⟩ rfl (fun _ _ _ h => h) ?_ hHeld ?_
              rotate_left
              · (intro W _; go_simp <;> (try with_reducible rfl))
              refine take_v (v := ?_) 13 ⟨some 30, Op.load 9 (Operand.tmp 29), _, _, _, some (7, true)⟩ rfl (fun _ _ _ h => h) ?_ hHeld ?_
              rotate_left
              · (intro W hSW; obtain ⟨sw0, sw1, sw2, sw3⟩ := hSW; go_simp <;> (try with_reducible rfl))
              refine take_v (v := ?_) 14 ⟨some 31, Op.fieldAddr 48 (Operand.tmp 5) 0, _, _, _, some (7, true)⟩ rfl (fun _ _ _ h => h) ?_ hHeld ?_
              rotate_left
              · (intro W _; go_simp <;> (try with_reducible rfl))
              refine take_v (v := ?_) 15 ⟨some 32, Op.load 9 (Operand.tmp 31), _, _, _, some (7, true)⟩ rfl (fun _ _ _ h => h) ?_ hHeld ?_
              rotate_left
              · (intro W hSW; obtain ⟨sw0, sw1, sw2, sw3⟩ := hSW; go_simp <;> (try with_reducible rfl))
              refine take_v (v := ?_) 16 ⟨some 33, Op.binOp BinOp.geq 9 (Operand.tmp 30) (Operand.tmp 32) 9, _, _, _, some (7, true)⟩ rfl (fun _ _ _ h => h) ?_ hHeld ?_
              rotate_left
              · (intro W _; go_simp <;> (try with_reducible rfl))
              refine take_v (v := ?_) 17 ⟨some 34, Op.pick (Operand.tmp 24) (Operand.tmp 33) (Operand.const (Value.bool false)), _, _, _, some (4, false)⟩ rfl (fun _ _ _ h => h) ?_ hHeld ?_
              rotate_left
              · (intro W _; go_simp <;> (try with_reducible rfl))
              refine take_v (v := ?_) 18 ⟨some 35, Op.pick (Operand.tmp 21) (Operand.const (Value.bool true)) (Operand.tmp 34), _, _, _, none⟩ rfl (fun _ _ _ h => h) ?_ hHeld ?_
              rotate_left
              · (intro W _; go_simp <;> (try with_reducible rfl))
              refine take_v (v := ?_) 19 ⟨some 36, Op.move (Operand.tmp 35), _, _, _, none⟩ rfl (fun _ _ _ h => h) ?_ hHeld ?_
              rotate_left
              · (intro W _; go_simp <;> (try with_reducible rfl))
              refine take_v (v := ?_) 20 ⟨some 37, Op.fieldAddr 48 (Operand.tmp 5) 1, _, _, _, some (19, false)⟩ rfl (fun _ _ _ h => h) ?_ hHeld ?_
              rotate_left
              · (intro W _; go_simp <;> (try with_reducible rfl))
              refine take_v (v := ?_) 21 ⟨some 38, Op.load 46 (Operand.tmp 37), _, _, _, some (19, false)⟩ rfl (fun _ _ _ h => h) ?_ hHeld ?_
              rotate_left
              · (intro W hSW; obtain ⟨sw0, sw1, sw2, sw3⟩ := hSW; go_simp <;> (try with_reducible rfl))
              refine take_v (v := ?_) 22 ⟨some 39, Op.call { callee := Callee.builtin Builtin.len, args := #[Operand.tmp 38], argTypes := #[46] }, _, _, _, some (19, false)⟩ rfl (fun _ _ _ h => h) ?_ hHeld ?_
              rotate_left
              · (intro W _; go_simp <;> (try with_reducible rfl))
              refine take_v (v := ?_) 23 ⟨some 40, Op.binOp BinOp.eql 3 (Operand.tmp 39) (Operand.const (Value.int IntKind.i64 0)) 3, _, _, _, some (19, false)⟩ rfl (fun _ _ _ h => h) ?_ hHeld ?_
              rotate_left
              · (intro W _; go_simp <;> (try with_reducible rfl))
              refine take_v (v := ?_) 24 ⟨some 41, Op.pick (Operand.tmp 36) (Operand.const (Value.bool true)) (Operand.tmp 40), _, _, _, none⟩ rfl (fun _ _ _ h => h) ?_ hHeld ?_
              rotate_left
              · (intro W _; go_simp <;> (try with_reducible rfl))
              refine take_v (v := ?_) 25 ⟨some 42, Op.move (Operand.tmp 41), _, _, _, none⟩ rfl (fun _ _ _ h => h) ?_ hHeld ?_
              rotate_left
              · (intro W _; go_simp <;> (try with_reducible rfl))
              refine take_v (v := ?_) 26 ⟨some 43, Op.fieldAddr 48 (Operand.tmp 5) 2, _, _, _, some (25, false)⟩ rfl (fun _ _ _ h => h) ?_ hHeld ?_
              rotate_left
              · (intro W _; go_simp <;> (try with_reducible rfl))
              refine take_v (v := ?_) 27 ⟨some 44, Op.load 46 (Operand.tmp 43), _, _, _, some (25, false)⟩ rfl (fun _ _ _ h => h) ?_ hHeld ?_
              rotate_left
              · (intro W hSW; obtain ⟨sw0, sw1, sw2, sw3⟩ := hSW; go_simp <;> (try with_reducible rfl))
              refine take_v (v := ?_) 28 ⟨some 45, Op.call { callee := Callee.builtin Builtin.len, args := #[Operand.tmp 44], argTypes := #[46] }, _, _, _, some (25, false)⟩ rfl (fun _ _ _ h => h) ?_ hHeld ?_
              rotate_left
              · (intro W _; go_simp <;> (try with_reducible rfl))
              refine take_v (v := ?_) 29 ⟨some 46, Op.binOp BinOp.gtr 3 (Operand.tmp 45) (Operand.const (Value.int IntKind.i64 8)) 3, _, _, _, some (25, false)⟩ rfl (fun _ _ _ h => h) ?_ hHeld ?_
              rotate_left
              · (intro W _; go_simp <;> (try with_reducible rfl))
              refine take_v (v := ?_) 30 ⟨some 47, Op.pick (Operand.tmp 42) (Operand.const (Value.bool true)) (Operand.tmp 46), _, _, _, none⟩ rfl (fun _ _ _ h => h) ?_ hHeld ?_
              rotate_left
              · (intro W _; go_simp <;> (try with_reducible rfl))
              refine wpAnyH_done (by kernel_rfl) ?_ _
              refine NoPanic.normal ?_
              go_wp2_with fail
              go_meet
              exact ⟨by rw [HK.out], rfl⟩
      case rest =>
        obtain ⟨rfl, hwx⟩ := hcut
        subst hwx
        clear hp c0 c1 c2
        cases q5
        case true =>
          have HN : Hid (goodL V n = false) := good_bad hlt (fun g => by
            have := HO.out
            rw [← hk, g.1.1] at this
            have h1 := g.2.2.1.1
            have h2 := g.2.1
            have e2 : decide ((V i).h.n = 0) = false := by simp; omega
            have e3 : decide (8 < (V i).w.n) = false := by simp; omega
            rw [e2, e3] at this
            by_cases h0 : 0 < i
            · rw [g.1.2 h0] at this; simp at this
            · have e4 : decide (0 < i) = false := by simp; omega
              rw [e4] at this; simp at this)
          go_wp2
          go_ret
          exact ⟨ret_bool HN.out.symm, (HH.out.2.2.alloc hz _).drew⟩
        have HD : Hid (head1 V i ∧ 0 < (V i).h.n ∧ (V i).w.n ≤ 8) := by
          have := HO.out
          rw [← hk] at this
          simp only [Bool.false_eq, Bool.or_eq_false_iff, Bool.not_eq_false', Bool.and_eq_false_iff, decide_eq_false_iff_not] at this
          obtain ⟨⟨⟨h1, h2⟩, h3⟩, h4⟩ := this
          exact ⟨⟨h1, fun h0 => h2.resolve_left (fun q => q h0)⟩, by omega, by omega⟩
        clear HO
        have d1 := HX.out.1.cell 1 rfl
        have d2 := HX.out.1.cell 2 rfl
        have dz := HX.out.1.2
        have H2 : Hid (WR V w.heap.size (wo.alloc (.cells #[.string (V i).key, .slice (A i).ha (V i).h.n (A i).hc, .slice (A i).wa (V i).w.n (A i).wc] 48)).drew u3 i 0 ∧ Below w.heap.size w (wo.alloc (.cells #[.string (V i).key, .slice (A i).ha (V i).h.n (A i).hc, .slice (A i).wa (V i).w.n (A i).wc] 48)).drew) := ⟨HH.out.2.1.next HX.out.2, below_next HH.out.2.2 HX.out.2⟩
        go_wp2
        go_loopw [51] (fun x wr => ∃ j : Nat, j ≤ (V i).h.n ∧ x = .int .i64 j ∧ (∀ j', j' < j → hold1 (V i).h.t (V i).h.m (V i).h.n j') ∧ WR V w.heap.size wr u3 i 0 ∧ Bx wr wo.heap.size [.string (V i).key, .slice (A i).ha (V i).h.n (A i).hc, .slice (A i).wa (V i).w.n (A i).wc] ∧ Below w.heap.size w wr) (fun x _ => (V i).h.n - (intOf x).toNat)
        case atStart => exact ⟨0, Nat.zero_le _, rfl, fun j hj => absurd hj (by omega), H2.out.1, HX.out.1, H2.out.2⟩
        case round =>
          obtain ⟨j, hj, rfl, hho, hW, hbx, hBr⟩ := hrel
          clear d1 d2 dz H2
          by_cases hlj : j < (V i).h.n
          · have hlj' : (j : Int) < ((V i).h.n : Int) := by omega
            have hat := ((HS.out.1.next hBr).2 i hlt).1
            have d1 := hbx.cell 1 rfl
            have dz := hbx.2
            have HR : Hid ((∀ j', j' < j → hold1 (V i).h.t (V i).h.m (V i).h.n j') ∧ WR V w.heap.size wr u3 i 0 ∧ Below w.heap.size w wr) := ⟨hho, hW, hBr⟩
            have hzr : w.heap.size ≤ wr.heap.size := hBr.size
            rcases hat with h | ⟨b', off', hwa, hbs', hE'⟩
            · omega
            obtain ⟨c0, c1⟩ := hd_cells hE' hlj
            have hp : 0 < j → wr.cell? ⟨b', off' + (j - 1) * 2, none⟩ = some (.int .i64 ((V i).h.t (j - 1))) := fun h => (hd_cells hE' (show j - 1 < (V i).h.n by omega)).1
            rw [hwa] at hbx d1 ⊢
            have HY : Hid (Bx (wr.alloc (.cells #[.int .i64 ((V i).h.t j), .int .i64 ((V i).h.m j)] 50)).drew wr.heap.size [.int .i64 ((V i).h.t j), .int .i64 ((V i).h.m j)] ∧ Bx (wr.alloc (.cells #[.int .i64 ((V i).h.t j), .int .i64 ((V i).h.m j)] 50)).drew wo.heap.size [.string (V i).key, .slice (some ⟨b', off', none⟩) (V i).h.n (A i).hc, .slice (A i).wa (V i).w.n (A i).wc] ∧ Below wr.heap.size wr (wr.alloc (.cells #[.int .i64 ((V i).h.t j), .int .i64 ((V i).h.m j)] 50)).drew) := ⟨(Bx.new wr [.int .i64 ((V i).h.t j), .int .i64 ((V i).h.m j)] 50).next (Below.refl _ _).drew, (hbx.alloc _).next (Below.refl _ _).drew, (Go.Joins.below_alloc1 _ _).drew⟩
            clear hho hW hbx hBr hE'
            obtain ⟨fd, hd⟩ : ∃ f, hdOk ((V i).h.t j) ((V i).h.m j) = f := ⟨_, rfl⟩
            obtain ⟨q10, HO⟩ : ∃ q10 : Bool, Hid (q10 = (!fd || (decide (0 < j) && decide ((V i).h.t j ≤ (V i).h.t (j - 1))) || ((V i).h.m j == 2 && decide (1 < (V i).h.n)))) := ⟨_, rfl⟩
            go_upto_region 10 with fail
            go_cut [85] (fun s85 wx => s85 = .bool q10 ∧ Bx wx wo.heap.size [.string (V i).key, .slice (some ⟨b', off', none⟩) (V i).h.n (A i).hc, .slice (A i).wa (V i).w.n (A i).wc] ∧ Below wr.heap.size wr wx)
            case first =>
              have h1a : decide ((1 : Int) < ((V i).h.n : Int)) = decide (1 < (V i).h.n) := by rw [decide_eq_decide]; omega
              cases fd
              · have HK : Hid (q10 = true) := HO.out.trans (by simp)
                clear hp
                as_aux_lemma =>
                  refine wp_region_noPanic ?_
                  refine wp_region_held_drew (S := fun W => Bx W wr.heap.size [.int .i64 ((V i).h.t j), .int .i64 ((V i).h.m j)] ∧ Bx W wo.heap.size [.string (V i).key, .slice (some ⟨b', off', none⟩) (V i).h.n (A i).hc, .slice (A i).wa (V i).w.n (A i).wc] ∧ Below wr.heap.size wr W) (by kernel_rfl) ⟨HY.out.1, HY.out.2.1, HY.out.2.2⟩ (fun hHeld => ?_)
                  refine take_v (v := ?_) 0 ⟨some 56, Op.load 50 (Operand.tmp 7), _, _, _, none⟩ rfl (fun _ _ _ h => h) ?_ hHeld ?_
                  rotate_left
                  · (intro W hSW; have s0 := hSW.1.cell 0 rfl; have s1 := hSW.1.cell 1 rfl; have s2 := hSW.2.1.cell 1 rfl; go_simp <;> (try with_reducible rfl))
                  refine ready_call 1 ⟨some 57, Op.call { callee := Callee.value (Operand.func 53), args := #[Operand.tmp 56], argTypes := #[50] }, _, _, _, none⟩ (by kernel_rfl) rfl (by kernel_rfl) (fun KC hK => ?_)
                  go_wp2_with fail
                  refine (l4Hold_is hd _).mono ?_
                  rintro e w1 ⟨rfl, hb⟩
                  refine hK.out _ _ ⟨hHeld.1.next hb, hHeld.2.1.next hb, below_next hHeld.2.2 hb⟩ (fun hHeld => ?_)
                  clear hK KC
                  refine take_v (v := ?_) 2 ⟨some 58, Op.unOp UnOp.not 4 (Operand.tmp 57), _, _, _, none⟩ rfl (fun _ _ _ h => h) ?_ hHeld ?_
                  rotate_left
                  · (intro W _; go_simp <;> (try with_reducible rfl))
                  refine take_v (v := ?_) 3 ⟨some 59, Op.move (Operand.tmp 58), _, _, _, none⟩ rfl (fun _ _ _ h => h) ?_ hHeld ?_
                  rotate_left
                  · (intro W _; go_simp <;> (try with_reducible rfl))
                  refine take_n 4 ⟨some 60, Op.move (Operand.tmp 6), _, _, _, some (3, false)⟩ rfl (fun _ _ _ h => h) hHeld ?_
                  refine take_n 5 ⟨some 61, Op.binOp BinOp.gtr 3 (Operand.tmp 60) (Operand.const (Value.int IntKind.i64 0)) 3, _, _, _, some (3, false)⟩ rfl (fun _ _ _ h => h) hHeld ?_
                  refine take_n 6 ⟨some 62, Op.move (Operand.tmp 61), _, _, _, some (3, false)⟩ rfl (fun _ _ _ h => h) hHeld ?_
                  refine take_n 7 ⟨some 63, Op.fieldAddr 48 (Operand.tmp 5) 1, _, _, _, some (6, true)⟩ rfl (fun _ _ _ h => h) hHeld ?_
                  refine take_n 8 ⟨some 64, Op.load 46 (Operand.tmp 63), _, _, _, some (6, true)⟩ rfl (fun _ _ _ h => h) hHeld ?_
                  refine take_n 9 ⟨some 65, Op.move (Operand.tmp 6), _, _, _, some (6, true)⟩ rfl (fun _ _ _ h => h) hHeld ?_
                  refine take_n 10 ⟨some 66, Op.binOp BinOp.sub 3 (Operand.tmp 65) (Operand.const (Value.int IntKind.i64 1)) 3, _, _, _, some (6, true)⟩ rfl (fun _ _ _ h => h) hHeld ?_
                  refine take_n 11 ⟨some 67, Op.indexAddr 46 (Operand.tmp 64) (Operand.tmp 66), _, _, _, some (6, true)⟩ rfl (fun _ _ _ h => h) hHeld ?_
                  refine take_n 12 ⟨some 68, Op.fieldAddr 50 (Operand.tmp 67) 0, _, _, _, some (6, true)⟩ rfl (fun _ _ _ h => h) hHeld ?_
                  refine take_n 13 ⟨some 69, Op.load 3 (Operand.tmp 68), _, _, _, some (6, true)⟩ rfl (fun _ _ _ h => h) hHeld ?_
                  refine take_n 14 ⟨some 70, Op.fieldAddr 50 (Operand.tmp 7) 0, _, _, _, some (6, true)⟩ rfl (fun _ _ _ h => h) hHeld ?_
                  refine take_n 15 ⟨some 71, Op.load 3 (Operand.tmp 70), _, _, _, some (6, true)⟩ rfl (fun _ _ _ h => h) hHeld ?_
                  refine take_n 16 ⟨some 72, Op.binOp BinOp.geq 3 (Operand.tmp 69) (Operand.tmp 71) 3, _, _, _, some (6, true)⟩ rfl (fun _ _ _ h => h) hHeld ?_
                  refine take_n 17 ⟨some 73, Op.pick (Operand.tmp 62) (Operand.tmp 72) (Operand.const (Value.bool false)), _, _, _, some (3, false)⟩ rfl (fun _ _ _ h => h) hHeld ?_
                  refine take_v (v := ?_) 18 ⟨some 74, Op.pick (Operand.tmp 59) (Operand.const (Value.bool true)) (Operand.tmp 73), _, _, _, none⟩ rfl (fun _ _ _ h => h) ?_ hHeld ?_
                  rotate_left
                  · (intro W _; go_simp <;> (try with_reducible rfl))
                  refine take_v (v := ?_) 19 ⟨some 75, Op.move (Operand.tmp 74), _, _, _, none⟩ rfl (fun _ _ _ h => h) ?_ hHeld ?_
                  rotate_left
                  · (intro W _; go_simp <;> (try with_reducible rfl))
                  refine take_n 20 ⟨some 76, Op.fieldAddr 50 (Operand.tmp 7) 1, _, _, _, some (19, false)⟩ rfl (fun _ _ _ h => h) hHeld ?_
                  refine take_n 21 ⟨some 77, Op.load 3 (Operand.tmp 76), _, _, _, some (19, false)⟩ rfl (fun _ _ _ h => h) hHeld ?_
                  refine take_n 22 ⟨some 78, Op.binOp BinOp.eql 3 (Operand.tmp 77) (Operand.const (Value.int IntKind.i64 2)) 3, _, _, _, some (19, false)⟩ rfl (fun _ _ _ h => h) hHeld ?_
                  refine take_n 23 ⟨some 79, Op.move (Operand.tmp 78), _, _, _, some (19, false)⟩ rfl (fun _ _ _ h => h) hHeld ?_
                  refine take_n 24 ⟨some 80, Op.fieldAddr 48 (Operand.tmp 5) 1, _, _, _, some (23, true)⟩ rfl (fun _ _ _ h => h) hHeld ?_
                  refine take_n 25 ⟨some 81, Op.load 46 (Operand.tmp 80), _, _, _, some (23, true)⟩ rfl (fun _ _ _ h => h) hHeld ?_
                  refine take_n 26 ⟨some 82, Op.call { callee := Callee.builtin Builtin.len, args := #[Operand.tmp 81], argTypes := #[46] }, _, _, _, some (23, true)⟩ rfl (fun _ _ _ h => h) hHeld ?_
                  refine take_n 27 ⟨some 83, Op.binOp BinOp.gtr 3 (Operand.tmp 82) (Operand.const (Value.int IntKind.i64 1)) 3, _, _, _, some (23, true)⟩ rfl (fun _ _ _ h => h) hHeld ?_
                  refine take_n 28 ⟨some 84, Op.pick (Operand.tmp 79) (Operand.tmp 83) (Operand.const (Value.bool false)), _, _, _, some (19, false)⟩ rfl (fun _ _ _ h => h) hHeld ?_
                  refine take_v (v := ?_) 29 ⟨some 85, Op.pick (Operand.tmp 75) (Operand.const (Value.bool true)) (Operand.tmp 84), _, _, _, none⟩ rfl (fun _ _ _ h => h) ?_ hHeld ?_
                  rotate_left
                  · (intro W _; go_simp <;> (try with_reducible rfl))
                  refine wpAnyH_done (by kernel_rfl) ?_ _
                  refine NoPanic.normal ?_
                  go_wp2_with fail
                  go_meet
                  exact ⟨by rw [HK.out], hHeld.2.1, hHeld.2.2⟩
              by_cases hk0 : j = 0
              · have hk0' : decide ((0 : Int) < (j : Int)) = false := by simp; omega
                have hk0n : decide (0 < j) = false := by simp; omega
                have HK0 : Hid (j = 0) := hk0
                clear hp hk0
                cases hm : ((V i).h.m j == 2)
                · have HK : Hid (q10 = false) := HO.out.trans (by rw [hk0n, hm]; simp)
                  as_aux_lemma =>
                    refine wp_region_noPanic ?_
                    refine wp_region_held_drew (S := fun W => Bx W wr.heap.size [.int .i64 ((V i).h.t j), .int .i64 ((V i).h.m j)] ∧ Bx W wo.heap.size [.string (V i).key, .slice (some ⟨b', off', none⟩) (V i).h.n (A i).hc, .slice (A i).wa (V i).w.n (A i).wc] ∧ Below wr.heap.size wr W) (by kernel_rfl) ⟨HY.out.1, HY.out.2.1, HY.out.2.2⟩ (fun hHeld => ?_)
                    refine take_v (v := ?_) 0 ⟨some 56, Op.load 50 (Operand.tmp 7), _, _, _, none⟩ rfl (fun _ _ _ h => h) ?_ hHeld ?_
                    rotate_left
                    · (intro W hSW; have s0 := hSW.1.cell 0 rfl; have s1 := hSW.1.cell 1 rfl; have s2 := hSW.2.1.cell 1 rfl; go_simp <;> (try with_reducible rfl))
                    refine ready_call 1 ⟨some 57, Op.call { callee := Callee.value (Operand.func 53), args := #[Operand.tmp 56], argTypes := #[50] }, _, _, _, none⟩ (by kernel_rfl) rfl (by kernel_rfl) (fun KC hK => ?_)
                    go_wp2_with fail
                    refine (l4Hold_is hd _).mono ?_
                    rintro e w1 ⟨rfl, hb⟩
                    refine hK.out _ _ ⟨hHeld.1.next hb, hHeld.2.1.next hb, below_next hHeld.2.2 hb⟩ (fun hHeld => ?_)
                    clear hK KC
                    refine take_v (v := ?_) 2 ⟨some 58, Op.unOp UnOp.not 4 (Operand.tmp 57), _, _, _, none⟩ rfl (fun _ _ _ h => h) ?_ hHeld ?_
                    rotate_left
                    · (intro W _; go_simp <;> (try with_reducible rfl))
                    refine take_v (v := ?_) 3 ⟨some 59, Op.move (Operand.tmp 58), _, _, _, none⟩ rfl (fun _ _ _ h => h) ?_ hHeld ?_
                    rotate_left
                    · (intro W _; go_simp <;> (try with_reducible rfl))
                    refine take_v (v := ?_) 4 ⟨some 60, Op.move (Operand.tmp 6), _, _, _, some (3, false)⟩ rfl (fun _ _ _ h => h) ?_ hHeld ?_
                    rotate_left
                    · (intro W _; go_simp <;> (try with_reducible rfl))
                    refine take_v (v := ?_) 5 ⟨some 61, Op.binOp BinOp.gtr 3 (Operand.tmp 60) (Operand.const (Value.int IntKind.i64 0)) 3, _, _, _, some (3, false)⟩ rfl (fun _ _ _ h => h) ?_ hHeld ?_
                    rotate_left
                    · (intro W _; go_simp <;> (try with_reducible rfl))
                    refine take_v (v := ?_) 6 ⟨some 62, Op.move (Operand.tmp 61), _, _, _, some (3, false)⟩ rfl (fun _ _ _ h => h) ?_ hHeld ?_
                    rotate_left
                    · (intro W _; go_simp <;> (try with_reducible rfl))
                    refine take_n 7 ⟨some 63, Op.fieldAddr 48 (Operand.tmp 5) 1, _, _, _, some (6, true)⟩ rfl (fun _ _ _ h => h) hHeld ?_
                    refine take_n 8 ⟨some 64, Op.load 46 (Operand.tmp 63), _, _, _, some (6, true)⟩ rfl (fun _ _ _ h => h) hHeld ?_
                    refine take_n 9 ⟨some 65, Op.move (Operand.tmp 6), _, _, _, some (6, true)⟩ rfl (fun _ _ _ h => h) hHeld ?_
                    refine take_n 10 ⟨some 66, Op.binOp BinOp.sub 3 (Operand.tmp 65) (Operand.const (Value.int IntKind.i64 1)) 3, _, _, _, some (6, true)⟩ rfl (fun _ _ _ h => h) hHeld ?_
                    refine take_n 11 ⟨some 67, Op.indexAddr 46 (Operand.tmp 64) (Operand.tmp 66), _, _, _, some (6, true)⟩ rfl (fun _ _ _ h => h) hHeld ?_
                    refine take_n 12 ⟨some 68, Op.fieldAddr 50 (Operand.tmp 67) 0, _, _, _, some (6, true)⟩ rfl (fun _ _ _ h => h) hHeld ?_
                    refine take_n 13 ⟨some 69, Op.load 3 (Operand.tmp 68), _, _, _, some (6, true)⟩ rfl (fun _ _ _ h => h) hHeld ?_
                    refine take_n 14 ⟨some 70, Op.fieldAddr 50 (Operand.tmp 7) 0, _, _, _, some (6, true)⟩ rfl (fun _ _ _ h => h) hHeld ?_
                    refine take_n 15 ⟨some 71, Op.load 3 (Operand.tmp 70), _, _, _, some (6, true)⟩ rfl (fun _ _ _ h => h) hHeld ?_
                    refine take_n 16 ⟨some 72, Op.binOp BinOp.geq 3 (Operand.tmp 69) (Operand.tmp 71) 3, _, _, _, some (6, true)⟩ rfl (fun _ _ _ h => h) hHeld ?_
                    refine take_v (v := ?_) 17 ⟨some 73, Op.pick (Operand.tmp 62) (Operand.tmp 72) (Operand.const (Value.bool false)), _, _, _, some (3, false)⟩ rfl (fun _ _ _ h => h) ?_ hHeld ?_
                    rotate_left
                    · (intro W _; go_simp <;> (try with_reducible rfl))
                    refine take_v (v := ?_) 18 ⟨some 74, Op.pick (Operand.tmp 59) (Operand.const (Value.bool true)) (Operand.tmp 73), _, _, _, none⟩ rfl (fun _ _ _ h => h) ?_ hHeld ?_
                    rotate_left
                    · (intro W _; go_simp <;> (try with_reducible rfl))
                    refine take_v (v := ?_) 19 ⟨some 75, Op.move (Operand.tmp 74), _, _, _, none⟩ rfl (fun _ _ _ h => h) ?_ hHeld ?_
                    rotate_left
                    · (intro W _; go_simp <;> (try with_reducible rfl))
                    refine take_v (v := ?_) 20 ⟨some 76, Op.fieldAddr 50 (Operand.tmp 7) 1, _, _, _, some (19, false)⟩ rfl (fun _ _ _ h => h) ?_ hHeld ?_
                    rotate_left
                    · (intro W _; go_simp <;> (try with_reducible rfl))
                    refine take_v (v := ?_) 21 ⟨some 77, Op.load 3 (Operand.tmp 76), _, _, _, some (19, false)⟩ rfl (fun _ _ _ h => h) ?_ hHeld ?_
                    rotate_left
                    · (intro W hSW; have s0 := hSW.1.cell 0 rfl; have s1 := hSW.1.cell 1 rfl; have s2 := hSW.2.1.cell 1 rfl; go_simp <;> (try with_reducible rfl))
                    refine take_v (v := ?_) 22 ⟨some 78, Op.binOp BinOp.eql 3 (Operand.tmp 77) (Operand.const (Value.int IntKind.i64 2)) 3, _, _, _, some (19, false)⟩ rfl (fun _ _ _ h => h) ?_ hHeld ?_
                    rotate_left
                    · (intro W _; go_simp <;> (try with_reducible rfl))
                    refine take_v (v := ?_) 23 ⟨some 79, Op.move (Operand.tmp 78), _, _, _, some (19, false)⟩ rfl (fun _ _ _ h => h) ?_ hHeld ?_
                    rotate_left
                    · (intro W _; go_simp <;> (try with_reducible rfl))
                    refine take_n 24 ⟨some 80, Op.fieldAddr 48 (Operand.tmp 5) 1, _, _, _, some (23, true)⟩ rfl (fun _ _ _ h => h) hHeld ?_
                    refine take_n 25 ⟨some 81, Op.load 46 (Operand.tmp 80), _, _, _, some (23, true)⟩ rfl (fun _ _ _ h => h) hHeld ?_
                    refine take_n 26 ⟨some 82, Op.call { callee := Callee.builtin Builtin.len, args := #[Operand.tmp 81], argTypes := #[46] }, _, _, _, some (23, true)⟩ rfl (fun _ _ _ h => h) hHeld ?_
                    refine take_n 27 ⟨some 83, Op.binOp BinOp.gtr 3 (Operand.tmp 82) (Operand.const (Value.int IntKind.i64 1)) 3, _, _, _, some (23, true)⟩ rfl (fun _ _ _ h => h) hHeld ?_
                    refine take_v (v := ?_) 28 ⟨some 84, Op.pick (Operand.tmp 79) (Operand.tmp 83) (Operand.const (Value.bool false)), _, _, _, some (19, false)⟩ rfl (fun _ _ _ h => h) ?_ hHeld ?_
                    rotate_left
                    · (intro W _; go_simp <;> (try with_reducible rfl))
                    refine take_v (v := ?_) 29 ⟨some 85, Op.pick (Operand.tmp 75) (Operand.const (Value.bool true)) (Operand.tmp 84), _, _, _, none⟩ rfl (fun _ _ _ h => h) ?_ hHeld ?_
                    rotate_left
                    · (intro W _; go_simp <;> (try with_reducible rfl))
                    refine wpAnyH_done (by kernel_rfl) ?_ _
                    refine NoPanic.normal ?_
                    go_wp2_with fail
                    go_meet
                    exact ⟨by rw [HK.out], hHeld.2.1, hHeld.2.2⟩
                · have HK : Hid (q10 = decide (1 < (V i).h.n)) := HO.out.trans (by rw [hk0n, hm]; simp)
                  as_aux_lemma =>
                    refine wp_region_noPanic ?_
                    refine wp_region_held_drew (S := fun W => Bx W wr.heap.size [.int .i64 ((V i).h.t j), .int .i64 ((V i).h.m j)] ∧ Bx W wo.heap.size [.string (V i).key, .slice (some ⟨b', off', none⟩) (V i).h.n (A i).hc, .slice (A i).wa (V i).w.n (A i).wc] ∧ Below wr.heap.size wr W) (by kernel_rfl) ⟨HY.out.1, HY.out.2.1, HY.out.2.2⟩ (fun hHeld => ?_)
                    refine take_v (v := ?_) 0 ⟨some 56, Op.load 50 (Operand.tmp 7), _, _, _, none⟩ rfl (fun _ _ _ h => h) ?_ hHeld ?_
                    rotate_left
                    · (intro W hSW; have s0 := hSW.1.cell 0 rfl; have s1 := hSW.1.cell 1 rfl; have s2 := hSW.2.1.cell 1 rfl; go_simp <;> (try with_reducible rfl))
                    refine ready_call 1 ⟨some 57, Op.call { callee := Callee.value (Operand.func 53), args := #[Operand.tmp 56], argTypes := #[50] }, _, _, _, none⟩ (by kernel_rfl) rfl (by kernel_rfl) (fun KC hK => ?_)
                    go_wp2_with fail
                    refine (l4Hold_is hd _).mono ?_
                    rintro e w1 ⟨rfl, hb⟩
                    refine hK.out _ _ ⟨hHeld.1.next hb, hHeld.2.1.next hb, below_next hHeld.2.2 hb⟩ (fun hHeld => ?_)
                    clear hK KC
                    refine take_v (v := ?_) 2 ⟨some 58, Op.unOp UnOp.not 4 (Operand.tmp 57), _, _, _, none⟩ rfl (fun _ _ _ h => h) ?_ hHeld ?_
                    rotate_left
                    · (intro W _; go_simp <;> (try with_reducible rfl))
                    refine take_v (v := ?_) 3 ⟨some 59, Op.move (Operand.tmp 58), _, _, _, none⟩ rfl (fun _ _ _ h => h) ?_ hHeld ?_
                    rotate_left
                    · (intro W _; go_simp <;> (try with_reducible rfl))
                    refine take_v (v := ?_) 4 ⟨some 60, Op.move (Operand.tmp 6), _, _, _, some (3, false)⟩ rfl (fun _ _ _ h => h) ?_ hHeld ?_
                    rotate_left
                    · (intro W _; go_simp <;> (try with_reducible rfl))
                    refine take_v (v := ?_) 5 ⟨some 61, Op.binOp BinOp.gtr 3 (Operand.tmp 60) (Operand.const (Value.int IntKind.i64 0)) 3, _, _, _, some (3, false)⟩ rfl (fun _ _ _ h => h) ?_ hHeld ?_
                    rotate_left
                    · (intro W _; go_simp <;> (try with_reducible rfl))
                    refine take_v (v := ?_) 6 ⟨some 62, Op.move (Operand.tmp 61), _, _, _, some (3, false)⟩ rfl (fun _ _ _ h => h) ?_ hHeld ?_
                    rotate_left
                    · (intro W _; go_simp <;> (try with_reducible rfl))
                    refine take_n 7 ⟨some 63, Op.fieldAddr 48 (Operand.tmp 5) 1, _, _, _, some (6, true)⟩ rfl (fun _ _ _ h => h) hHeld ?_
                    refine take_n 8 ⟨some 64, Op.load 46 (Operand.tmp 63), _, _, _, some (6, true)⟩ rfl (fun _ _ _ h => h) hHeld ?_
                    refine take_n 9 ⟨some 65, Op.move (Operand.tmp 6), _, _, _, some (6, true)⟩ rfl (fun _ _ _ h => h) hHeld ?_
                    refine take_n 10 ⟨some 66, Op.binOp BinOp.sub 3 (Operand.tmp 65) (Operand.const (Value.int IntKind.i64 1)) 3, _, _, _, some (6, true)⟩ rfl (fun _ _ _ h => h) hHeld ?_
                    refine take_n 11 ⟨some 67, Op.indexAddr 46 (Operand.tmp 64) (Operand.tmp 66), _, _, _, some (6, true)⟩ rfl (fun _ _ _ h => h) hHeld ?_
                    refine take_n 12 ⟨some 68, Op.fieldAddr 50 (Operand.tmp 67) 0, _, _, _, some (6, true)⟩ rfl (fun _ _ _ h => h) hHeld ?_
                    refine take_n 13 ⟨some 69, Op.load 3 (Operand.tmp 68), _, _, _, some (6, true)⟩ rfl (fun _ _ _ h => h) hHeld ?_
                    refine take_n 14 ⟨some 70, Op.fieldAddr 50 (Operand.tmp 7) 0, _, _, _, some (6, true)⟩ rfl (fun _ _ _ h => h) hHeld ?_
                    refine take_n 15 ⟨some 71, Op.load 3 (Operand.tmp 70), _, _, _, some (6, true)⟩ rfl (fun _ _ _ h => h) hHeld ?_
                    refine take_n 16 ⟨some 72, Op.binOp BinOp.geq 3 (Operand.tmp 69) (Operand.tmp 71) 3, _, _, _, some (6, true)⟩ rfl (fun _ _ _ h => h) hHeld ?_
                    refine take_v (v := ?_) 17 ⟨some 73, Op.pick (Operand.tmp 62) (Operand.tmp 72) (Operand.const (Value.bool false)), _, _, _, some (3, false)⟩ rfl (fun _ _ _ h => h) ?_ hHeld ?_
                    rotate_left
                    · (intro W _; go_simp <;> (try with_reducible rfl))
                    refine take_v (v := ?_) 18 ⟨some 74, Op.pick (Operand.tmp 59) (Operand.const (Value.bool true)) (Operand.tmp 73), _, _, _, none⟩ rfl (fun _ _ _ h => h) ?_ hHeld ?_
                    rotate_left
                    · (intro W _; go_simp <;> (try with_reducible rfl))
                    refine take_v (v := ?_) 19 ⟨some 75, Op.move (Operand.tmp 74), _, _, _, none⟩ rfl (fun _ _ _ h => h) ?_ hHeld ?_
                    rotate_left
                    · (intro W _; go_simp <;> (try with_reducible rfl))
                    refine take_v (v := ?_) 20 ⟨some 76, Op.fieldAddr 50 (Operand.tmp 7) 1, _, _, _, some (19, false)⟩ rfl (fun _ _ _ h => h) ?_ hHeld ?_
                    rotate_left
                    · (intro W _; go_simp <;> (try with_reducible rfl))
                    refine take_v (v := ?_) 21 ⟨some 77, Op.load 3 (Operand.tmp 76), _, _, _, some (19, false)⟩ rfl (fun _ _ _ h => h) ?_ hHeld ?_
                    rotate_left
                    · (intro W hSW; have s0 := hSW.1.cell 0 rfl; have s1 := hSW.1.cell 1 rfl; have s2 := hSW.2.1.cell 1 rfl; go_simp <;> (try with_reducible rfl))
                    refine take_v (v := ?_) 22 ⟨some 78, Op.binOp BinOp.eql 3 (Operand.tmp 77) (Operand.const (Value.int IntKind.i64 2)) 3, _, _, _, some (19, false)⟩ rfl (fun _ _ _ h => h) ?_ hHeld ?_
                    rotate_left
                    · (intro W _; go_simp <;> (try with_reducible rfl))
                    refine take_v (v := ?_) 23 ⟨some 79, Op.move (Operand.tmp 78), _, _, _, some (19, false)⟩ rfl (fun _ _ _ h => h) ?_ hHeld ?_
                    rotate_left
                    · (intro W _; go_simp <;> (try with_reducible rfl))
                    refine take_v (v := ?_) 24 ⟨some 80, Op.fieldAddr 48 (Operand.tmp 5) 1, _, _, _, some (23, true)⟩ rfl (fun _ _ _ h => h) ?_ hHeld ?_
                    rotate_left
                    · (intro W _; go_simp <;> (try with_reducible rfl))
                    refine take_v (v := ?_) 25 ⟨some 81, Op.load 46 (Operand.tmp 80), _, _, _, some (23, true)⟩ rfl (fun _ _ _ h => h) ?_ hHeld ?_
                    rotate_left
                    · (intro W hSW; have s0 := hSW.1.cell 0 rfl; have s1 := hSW.1.cell 1 rfl; have s2 := hSW.2.1.cell 1 rfl; go_simp <;> (try with_reducible rfl))
                    refine take_v (v := ?_) 26 ⟨some 82, Op.call { callee := Callee.builtin Builtin.len, args := #[Operand.tmp 81], argTypes := #[46] }, _, _, _, some (23, true)⟩ rfl (fun _ _ _ h => h) ?_ hHeld ?_
                    rotate_left
                    · (intro W _; go_simp <;> (try with_reducible rfl))
                    refine take_v (v := ?_) 27 ⟨some 83, Op.binOp BinOp.gtr 3 (Operand.tmp 82) (Operand.const (Value.int IntKind.i64 1)) 3, _, _, _, some (23, true)⟩ rfl (fun _ _ _ h => h) ?_ hHeld ?_
                    rotate_left
                    · (intro W _; go_simp <;> (try with_reducible rfl))
                    refine take_v (v := ?_) 28 ⟨some 84, Op.pick (Operand.tmp 79) (Operand.tmp 83) (Operand.const (Value.bool false)), _, _, _, some (19, false)⟩ rfl (fun _ _ _ h => h) ?_ hHeld ?_
                    rotate_left
                    · (intro W _; go_simp <;> (try with_reducible rfl))
                    refine take_v (v := ?_) 29 ⟨some 85, Op.pick (Operand.tmp 75) (Operand.const (Value.bool true)) (Operand.tmp 84), _, _, _, none⟩ rfl (fun _ _ _ h => h) ?_ hHeld ?_
                    rotate_left
                    · (intro W _; go_simp <;> (try with_reducible rfl))
                    refine wpAnyH_done (by kernel_rfl) ?_ _
                    refine NoPanic.normal ?_
                    go_wp2_with fail
                    go_meet
                    exact ⟨by rw [HK.out], hHeld.2.1, hHeld.2.2⟩
              · have hp1 := hp (by omega)
                obtain ⟨q, hq⟩ : ∃ q, q = j - 1 := ⟨_, rfl⟩
                rw [← hq] at hp1 HO
                have hwq : IntKind.i64.wrap ((j : Int) - 1) = (q : Int) := by rw [IntKind.wrap_i64]; omega
                have hq0 : (0 : Int) < (j : Int) := by omega
                have hq0n : decide (0 < j) = true := by simp; omega
                have hqn : (q : Int) < ((V i).h.n : Int) := by omega
                have HP : Hid (wr.cell? ⟨b', off' + q * 2, none⟩ = some (.int .i64 ((V i).h.t q))) := hp1
                clear hp hp1 hk0 hq
                cases ho : decide ((V i).h.t j ≤ (V i).h.t q)
                case true =>
                  have HK : Hid (q10 = true) := HO.out.trans (by rw [hq0n, ho]; simp)
                  as_aux_lemma =>
                    refine wp_region_noPanic ?_
                    refine wp_region_held_drew (S := fun W => Bx W wr.heap.size [.int .i64 ((V i).h.t j), .int .i64 ((V i).h.m j)] ∧ Bx W wo.heap.size [.string (V i).key, .slice (some ⟨b', off', none⟩) (V i).h.n (A i).hc, .slice (A i).wa (V i).w.n (A i).wc] ∧ Below wr.heap.size wr W) (by kernel_rfl) ⟨HY.out.1, HY.out.2.1, HY.out.2.2⟩ (fun hHeld => ?_)
                    refine take_v (v := ?_) 0 ⟨some 56, Op.load 50 (Operand.tmp 7), _, _, _, none⟩ rfl (fun _ _ _ h => h) ?_ hHeld ?_
                    rotate_left
                    · (intro W hSW; have s0 := hSW.1.cell 0 rfl; have s1 := hSW.1.cell 1 rfl; have s2 := hSW.2.1.cell 1 rfl; have s3 := (hSW.2.2.cell (p := ⟨b', off' + q * 2, none⟩) hbs').trans HP.out; go_simp <;> (try with_reducible rfl))
                    refine ready_call 1 ⟨some 57, Op.call { callee := Callee.value (Operand.func 53), args := #[Operand.tmp 56], argTypes := #[50] }, _, _, _, none⟩ (by kernel_rfl) rfl (by kernel_rfl) (fun KC hK => ?_)
                    go_wp2_with fail
                    refine (l4Hold_is hd _).mono ?_
                    rintro e w1 ⟨rfl, hb⟩
                    refine hK.out _ _ ⟨hHeld.1.next hb, hHeld.2.1.next hb, below_next hHeld.2.2 hb⟩ (fun hHeld => ?_)
                    clear hK KC
                    refine take_v (v := ?_) 2 ⟨some 58, Op.unOp UnOp.not 4 (Operand.tmp 57), _, _, _, none⟩ rfl (fun _ _ _ h => h) ?_ hHeld ?_
                    rotate_left
                    · (intro W _; go_simp <;> (try with_reducible rfl))
                    refine take_v (v := ?_) 3 ⟨some 59, Op.move (Operand.tmp 58), _, _, _, none⟩ rfl (fun _ _ _ h => h) ?_ hHeld ?_
                    rotate_left
                    · (intro W _; go_simp <;> (try with_reducible rfl))
                    refine take_v (v := ?_) 4 ⟨some 60, Op.move (Operand.tmp 6), _, _, _, some (3, false)⟩ rfl (fun _ _ _ h => h) ?_ hHeld ?_
                    rotate_left
                    · (intro W _; go_simp <;> (try with_reducible rfl))
                    refine take_v (v := ?_) 5 ⟨some 61, Op.binOp BinOp.gtr 3 (Operand.tmp 60) (Operand.const (Value.int IntKind.i64 0)) 3, _, _, _, some (3, false)⟩ rfl (fun _ _ _ h => h) ?_ hHeld ?_
                    rotate_left
                    · (intro W _; go_simp <;> (try with_reducible rfl))
                    refine take_v (v := ?_) 6 ⟨some 62, Op.move (Operand.tmp 61), _, _, _, some (3, false)⟩ rfl (fun _ _ _ h => h) ?_ hHeld ?_
                    rotate_left
                    · (intro W _; go_simp <;> (try with_reducible rfl))
                    refine take_v (v := ?_) 7 ⟨some 63, Op.fieldAddr 48 (Operand.tmp 5) 1, _, _, _, some (6, true)⟩ rfl (fun _ _ _ h => h) ?_ hHeld ?_
                    rotate_left
                    · (intro W _; go_simp <;> (try with_reducible rfl))
                    refine take_v (v := ?_) 8 ⟨some 64, Op.load 46 (Operand.tmp 63), _, _, _, some (6, true)⟩ rfl (fun _ _ _ h => h) ?_ hHeld ?_
                    rotate_left
                    · (intro W hSW; have s0 := hSW.1.cell 0 rfl; have s1 := hSW.1.cell 1 rfl; have s2 := hSW.2.1.cell 1 rfl; have s3 := (hSW.2.2.cell (p := ⟨b', off' + q * 2, none⟩) hbs').trans HP.out; go_simp <;> (try with_reducible rfl))
                    refine take_v (v := ?_) 9 ⟨some 65, Op.move (Operand.tmp 6), _, _, _, some (6, true)⟩ rfl (fun _ _ _ h => h) ?_ hHeld ?_
                    rotate_left
                    · (intro W _; go_simp <;> (try with_reducible rfl))
                    refine take_v (v := ?_) 10 ⟨some 66, Op.binOp BinOp.sub 3 (Operand.tmp 65) (Operand.const (Value.int IntKind.i64 1)) 3, _, _, _, some (6, true)⟩ rfl (fun _ _ _ h => h) ?_ hHeld ?_
                    rotate_left
                    · (intro W _; go_simp <;> (try with_reducible rfl))
                    refine take_v (v := ?_) 11 ⟨some 67, Op.indexAddr 46 (Operand.tmp 64) (Operand.tmp 66), _, _, _, some (6, true)⟩ rfl (fun _ _ _ h => h) ?_ hHeld ?_
                    rotate_left
                    · (intro W _; go_simp <;> (try with_reducible rfl))
                    refine take_v (v := ?_) 12 ⟨some 68, Op.fieldAddr 50 (Operand.tmp 67) 0, _, _, _, some (6, true)⟩ rfl (fun _ _ _ h => h) ?_ hHeld ?_
                    rotate_left
                    · (intro W _; go_simp <;> (try with_reducible rfl))
                    refine take_v (v := ?_) 13 ⟨some 69, Op.load 3 (Operand.tmp 68), _, _, _, some (6, true)⟩ rfl (fun _ _ _ h => h) ?_ hHeld ?_
                    rotate_left
                    · (intro W hSW; have s0 := hSW.1.cell 0 rfl; have s1 := hSW.1.cell 1 rfl; have s2 := hSW.2.1.cell 1 rfl; have s3 := (hSW.2.2.cell (p := ⟨b', off' + q * 2, none⟩) hbs').trans HP.out; go_simp <;> (try with_reducible rfl))
                    refine take_v (v := ?_) 14 ⟨some 70, Op.fieldAddr 50 (Operand.tmp 7) 0, _, _, _, some (6, true)⟩ rfl (fun _ _ _ h => h) ?_ hHeld ?_
                    rotate_left
                    · (intro W _; go_simp <;> (try with_reducible rfl))
                    refine take_v (v := ?_) 15 ⟨some 71, Op.load 3 (Operand.tmp 70), _, _, _, some (6, true)⟩ rfl (fun _ _ _ h => h) ?_ hHeld ?_
                    rotate_left
                    · (intro W hSW; have s0 := hSW.1.cell 0 rfl; have s1 := hSW.1.cell 1 rfl; have s2 := hSW.2.1.cell 1 rfl; have s3 := (hSW.2.2.cell (p := ⟨b', off' + q * 2, none⟩) hbs').trans HP.out; go_simp <;> (try with_reducible rfl))
                    refine take_v (v := ?_) 16 ⟨some 72, Op.binOp BinOp.geq 3 (Operand.tmp 69) (Operand.tmp 71) 3, _, _, _, some (6, true)⟩ rfl (fun _ _ _ h => h) ?_ hHeld ?_
                    rotate_left
                    · (intro W _; go_simp <;> (try with_reducible rfl))
                    refine take_v (v := ?_) 17 ⟨some 73, Op.pick (Operand.tmp 62) (Operand.tmp 72) (Operand.const (Value.bool false)), _, _, _, some (3, false)⟩ rfl (fun _ _ _ h => h) ?_ hHeld ?_
                    rotate_left
                    · (intro W _; go_simp <;> (try with_reducible rfl))
                    refine take_v (v := ?_) 18 ⟨some 74, Op.pick (Operand.tmp 59) (Operand.const (Value.bool true)) (Operand.tmp 73), _, _, _, none⟩ rfl (fun _ _ _ h => h) ?_ hHeld ?_
                    rotate_left
                    · (intro W _; go_simp <;> (try with_reducible rfl))
                    refine take_v (v := ?_) 19 ⟨some 75, Op.move (Operand.tmp 74), _, _, _, none⟩ rfl (fun _ _ _ h => h) ?_ hHeld ?_
                    rotate_left
                    · (intro W _; go_simp <;> (try with_reducible rfl))
                    refine take_n 20 ⟨some 76, Op.fieldAddr 50 (Operand.tmp 7) 1, _, _, _, some (19, false)⟩ rfl (fun _ _ _ h => h) hHeld ?_
                    refine take_n 21 ⟨some 77, Op.load 3 (Operand.tmp 76), _, _, _, some (19, false)⟩ rfl (fun _ _ _ h => h) hHeld ?_
                    refine take_n 22 ⟨some 78, Op.binOp BinOp.eql 3 (Operand.tmp 77) (Operand.const (Value.int IntKind.i64 2)) 3, _, _, _, some (19, false)⟩ rfl (fun _ _ _ h => h) hHeld ?_
                    refine take_n 23 ⟨some 79, Op.move (Operand.tmp 78), _, _, _, some (19, false)⟩ rfl (fun _ _ _ h => h) hHeld ?_
                    refine take_n 24 ⟨some 80, Op.fieldAddr 48 (Operand.tmp 5) 1, _, _, _, some (23, true)⟩ rfl (fun _ _ _ h => h) hHeld ?_
                    refine take_n 25 ⟨some 81, Op.load 46 (Operand.tmp 80), _, _, _, some (23, true)⟩ rfl (fun _ _ _ h => h) hHeld ?_
                    refine take_n 26 ⟨some 82, Op.call { callee := Callee.builtin Builtin.len, args := #[Operand.tmp 81], argTypes := #[46] }, _, _, _, some (23, true)⟩ rfl (fun _ _ _ h => h) hHeld ?_
                    refine take_n 27 ⟨some 83, Op.binOp BinOp.gtr 3 (Operand.tmp 82) (Operand.const (Value.int IntKind.i64 1)) 3, _, _, _, some (23, true)⟩ rfl (fun _ _ _ h => h) hHeld ?_
                    refine take_n 28 ⟨some 84, Op.pick (Operand.tmp 79) (Operand.tmp 83) (Operand.const (Value.bool false)), _, _, _, some (19, false)⟩ rfl (fun _ _ _ h => h) hHeld ?_
                    refine take_v (v := ?_) 29 ⟨some 85, Op.pick (Operand.tmp 75) (Operand.const (Value.bool true)) (Operand.tmp 84), _, _, _, none⟩ rfl (fun _ _ _ h => h) ?_ hHeld ?_
                    rotate_left
                    · (intro W _; go_simp <;> (try with_reducible rfl))
                    refine wpAnyH_done (by kernel_rfl) ?_ _
                    refine NoPanic.normal ?_
                    go_wp2_with fail
                    go_meet
                    exact ⟨by rw [HK.out], hHeld.2.1, hHeld.2.2⟩
                cases hm : ((V i).h.m j == 2)
                · have HK : Hid (q10 = false) := HO.out.trans (by rw [ho, hm]; simp)
                  as_aux_lemma =>
                    refine wp_region_noPanic ?_
                    refine wp_region_held_drew (S := fun W => Bx W wr.heap.size [.int .i64 ((V i).h.t j), .int .i64 ((V i).h.m j)] ∧ Bx W wo.heap.size [.string (V i).key, .slice (some ⟨b', off', none⟩) (V i).h.n (A i).hc, .slice (A i).wa (V i).w.n (A i).wc] ∧ Below wr.heap.size wr W) (by kernel_rfl) ⟨HY.out.1, HY.out.2.1, HY.out.2.2⟩ (fun hHeld => ?_)
                    refine take_v (v := ?_) 0 ⟨some 56, Op.load 50 (Operand.tmp 7), _, _, _, none⟩ rfl (fun _ _ _ h => h) ?_ hHeld ?_
                    rotate_left
                    · (intro W hSW; have s0 := hSW.1.cell 0 rfl; have s1 := hSW.1.cell 1 rfl; have s2 := hSW.2.1.cell 1 rfl; have s3 := (hSW.2.2.cell (p := ⟨b', off' + q * 2, none⟩) hbs').trans HP.out; go_simp <;> (try with_reducible rfl))
                    refine ready_call 1 ⟨some 57, Op.call { callee := Callee.value (Operand.func 53), args := #[Operand.tmp 56], argTypes := #[50] }, _, _, _, none⟩ (by kernel_rfl) rfl (by kernel_rfl) (fun KC hK => ?_)
                    go_wp2_with fail
                    refine (l4Hold_is hd _).mono ?_
                    rintro e w1 ⟨rfl, hb⟩
                    refine hK.out _ _ ⟨hHeld.1.next hb, hHeld.2.1.next hb, below_next hHeld.2.2 hb⟩ (fun hHeld => ?_)
                    clear hK KC
                    refine take_v (v := ?_) 2 ⟨some 58, Op.unOp UnOp.not 4 (Operand.tmp 57), _, _, _, none⟩ rfl (fun _ _ _ h => h) ?_ hHeld ?_
                    rotate_left
                    · (intro W _; go_simp <;> (try with_reducible rfl))
                    refine take_v (v := ?_) 3 ⟨some 59, Op.move (Operand.tmp 58), _, _, _, none⟩ rfl (fun _ _ _ h => h) ?_ hHeld ?_
                    rotate_left
                    · (intro W _; go_simp <;> (try with_reducible rfl))
                    refine take_v (v := ?_) 4 ⟨some 60, Op.move (Operand.tmp 6), _, _, _, some (3, false)⟩ rfl (fun _ _ _ h => h) ?_ hHeld ?_
                    rotate_left
                    · (intro W _; go_simp <;> (try with_reducible rfl))
                    refine take_v (v := ?_) 5 ⟨some 61, Op.binOp BinOp.gtr 3 (Operand.tmp 60) (Operand.const (Value.int IntKind.i64 0)) 3, _, _, _, some (3, false)⟩ rfl (fun _ _ _ h => h) ?_ hHeld ?_
                    rotate_left
                    · (intro W _; go_simp <;> (try with_reducible rfl))
                    refine take_v (v := ?_) 6 ⟨some 62, Op.move (Operand.tmp 61), _, _, _, some (3, false)⟩ rfl (fun _ _ _ h => h) ?_ hHeld ?_
                    rotate_left
                    · (intro W _; go_simp <;> (try with_reducible rfl))
                    refine take_v (v := ?_) 7 ⟨some 63, Op.fieldAddr 48 (Operand.tmp 5) 1, _, _, _, some (6, true)⟩ rfl (fun _ _ _ h => h) ?_ hHeld ?_
                    rotate_left
                    · (intro W _; go_simp <;> (try with_reducible rfl))
                    refine take_v (v := ?_) 8 ⟨some 64, Op.load 46 (Operand.tmp 63), _, _, _, some (6, true)⟩ rfl (fun _ _ _ h => h) ?_ hHeld ?_
                    rotate_left
                    · (intro W hSW; have s0 := hSW.1.cell 0 rfl; have s1 := hSW.1.cell 1 rfl; have s2 := hSW.2.1.cell 1 rfl; have s3 := (hSW.2.2.cell (p := ⟨b', off' + q * 2, none⟩) hbs').trans HP.out; go_simp <;> (try with_reducible rfl))
                    refine take_v (v := ?_) 9 ⟨some 65, Op.move (Operand.tmp 6), _, _, _, some (6, true)⟩ rfl (fun _ _ _ h => h) ?_ hHeld ?_
                    rotate_left
                    · (intro W _; go_simp <;> (try with_reducible rfl))
                    refine take_v (v := ?_) 10 ⟨some 66, Op.binOp BinOp.sub 3 (Operand.tmp 65) (Operand.const (Value.int IntKind.i64 1)) 3, _, _, _, some (6, true)⟩ rfl (fun _ _ _ h => h) ?_ hHeld ?_
                    rotate_left
                    · (intro W _; go_simp <;> (try with_reducible rfl))
                    refine take_v (v := ?_) 11 ⟨some 67, Op.indexAddr 46 (Operand.tmp 64) (Operand.tmp 66), _, _, _, some (6, true)⟩ rfl (fun _ _ _ h => h) ?_ hHeld ?_
                    rotate_left
                    · (intro W _; go_simp <;> (try with_reducible rfl))
                    refine take_v (v := ?_) 12 ⟨some 68, Op.fieldAddr 50 (Operand.tmp 67) 0, _, _, _, some (6, true)⟩ rfl (fun _ _ _ h => h) ?_ hHeld ?_
                    rotate_left
                    · (intro W _; go_simp <;> (try with_reducible rfl))
                    refine take_v (v := ?_) 13 ⟨some 69, Op.load 3 (Operand.tmp 68), _, _, _, some (6, true)⟩ rfl (fun _ _ _ h => h) ?_ hHeld ?_
                    rotate_left
                    · (intro W hSW; have s0 := hSW.1.cell 0 rfl; have s1 := hSW.1.cell 1 rfl; have s2 := hSW.2.1.cell 1 rfl; have s3 := (hSW.2.2.cell (p := ⟨b', off' + q * 2, none⟩) hbs').trans HP.out; go_simp <;> (try with_reducible rfl))
                    refine take_v (v := ?_) 14 ⟨some 70, Op.fieldAddr 50 (Operand.tmp 7) 0, _, _, _, some (6, true)⟩ rfl (fun _ _ _ h => h) ?_ hHeld ?_
                    rotate_left
                    · (intro W _; go_simp <;> (try with_reducible rfl))
                    refine take_v (v := ?_) 15 ⟨some 71, Op.load 3 (Operand.tmp 70), _, _, _, some (6, true)⟩ rfl (fun _ _ _ h => h) ?_ hHeld ?_
                    rotate_left
                    · (intro W hSW; have s0 := hSW.1.cell 0 rfl; have s1 := hSW.1.cell 1 rfl; have s2 := hSW.2.1.cell 1 rfl; have s3 := (hSW.2.2.cell (p := ⟨b', off' + q * 2, none⟩) hbs').trans HP.out; go_simp <;> (try with_reducible rfl))
                    refine take_v (v := ?_) 16 ⟨some 72, Op.binOp BinOp.geq 3 (Operand.tmp 69) (Operand.tmp 71) 3, _, _, _, some (6, true)⟩ rfl (fun _ _ _ h => h) ?_ hHeld ?_
                    rotate_left
                    · (intro W _; go_simp <;> (try with_reducible rfl))
                    refine take_v (v := ?_) 17 ⟨some 73, Op.pick (Operand.tmp 62) (Operand.tmp 72) (Operand.const (Value.bool false)), _, _, _, some (3, false)⟩ rfl (fun _ _ _ h => h) ?_ hHeld ?_
                    rotate_left
                    · (intro W _; go_simp <;> (try with_reducible rfl))
                    refine take_v (v := ?_) 18 ⟨some 74, Op.pick (Operand.tmp 59) (Operand.const (Value.bool true)) (Operand.tmp 73), _, _, _, none⟩ rfl (fun _ _ _ h => h) ?_ hHeld ?_
                    rotate_left
                    · (intro W _; go_simp <;> (try with_reducible rfl))
                    refine take_v (v := ?_) 19 ⟨some 75, Op.move (Operand.tmp 74), _, _, _, none⟩ rfl (fun _ _ _ h => h) ?_ hHeld ?_
                    rotate_left
                    · (intro W _; go_simp <;> (try with_reducible rfl))
                    refine take_v (v := ?_) 20 ⟨some 76, Op.fieldAddr 50 (Operand.tmp 7) 1, _, _, _, some (19, false)⟩ rfl (fun _ _ _ h => h) ?_ hHeld ?_
                    rotate_left
                    · (intro W _; go_simp <;> (try with_reducible rfl))
                    refine take_v (v := ?_) 21 ⟨some 77, Op.load 3 (Operand.tmp 76), _, _, _, some (19, false)⟩ rfl (fun _ _ _ h => h) ?_ hHeld ?_
                    rotate_left
                    · (intro W hSW; have s0 := hSW.1.cell 0 rfl; have s1 := hSW.1.cell 1 rfl; have s2 := hSW.2.1.cell 1 rfl; have s3 := (hSW.2.2.cell (p := ⟨b', off' + q * 2, none⟩) hbs').trans HP.out; go_simp <;> (try with_reducible rfl))
                    refine take_v (v := ?_) 22 ⟨some 78, Op.binOp BinOp.eql 3 (Operand.tmp 77) (Operand.const (Value.int IntKind.i64 2)) 3, _, _, _, some (19, false)⟩ rfl (fun _ _ _ h => h) ?_ hHeld ?_
                    rotate_left
                    · (intro W _; go_simp <;> (try with_reducible rfl))
                    refine take_v (v := ?_) 23 ⟨some 79, Op.move (Operand.tmp 78), _, _, _, some (19, false)⟩ rfl (fun _ _ _ h => h) ?_ hHeld ?_
                    rotate_left
                    · (intro W _; go_simp <;> (try with_reducible rfl))
                    refine take_n 24 ⟨some 80, Op.fieldAddr 48 (Operand.tmp 5) 1, _, _, _, some (23, true)⟩ rfl (fun _ _ _ h => h) hHeld ?_
                    refine take_n 25 ⟨some 81, Op.load 46 (Operand.tmp 80), _, _, _, some (23, true)⟩ rfl (fun _ _ _ h => h) hHeld ?_
                    refine take_n 26 ⟨some 82, Op.call { callee := Callee.builtin Builtin.len, args := #[Operand.tmp 81], argTypes := #[46] }, _, _, _, some (23, true)⟩ rfl (fun _ _ _ h => h) hHeld ?_
                    refine take_n 27 ⟨some 83, Op.binOp BinOp.gtr 3 (Operand.tmp 82) (Operand.const (Value.int IntKind.i64 1)) 3, _, _, _, some (23, true)⟩ rfl (fun _ _ _ h => h) hHeld ?_
                    refine take_v (v := ?_) 28 ⟨some 84, Op.pick (Operand.tmp 79) (Operand.tmp 83) (Operand.const (Value.bool false)), _, _, _, some (19, false)⟩ rfl (fun _ _ _ h => h) ?_ hHeld ?_
                    rotate_left
                    · (intro W _; go_simp <;> (try with_reducible rfl))
                    refine take_v (v := ?_) 29 ⟨some 85, Op.pick (Operand.tmp 75) (Operand.const (Value.bool true)) (Operand.tmp 84), _, _, _, none⟩ rfl (fun _ _ _ h => h) ?_ hHeld ?_
                    rotate_left
                    · (intro W _; go_simp <;> (try with_reducible rfl))
                    refine wpAnyH_done (by kernel_rfl) ?_ _
                    refine NoPanic.normal ?_
                    go_wp2_with fail
                    go_meet
                    exact ⟨by rw [HK.out], hHeld.2.1, hHeld.2.2⟩
                · have HK : Hid (q10 = decide (1 < (V i).h.n)) := HO.out.trans (by rw [ho, hm]; simp)
                  as_aux_lemma =>
                    refine wp_region_noPanic ?_
                    refine wp_region_held_drew (S := fun W => Bx W wr.heap.size [.int .i64 ((V i).h.t j), .int .i64 ((V i).h.m j)] ∧ Bx W wo.heap.size [.string (V i).key, .slice (some ⟨b', off', none⟩) (V i).h.n (A i).hc, .slice (A i).wa (V i).w.n (A i).wc] ∧ Below wr.heap.size wr W) (by kernel_rfl) ⟨HY.out.1, HY.out.2.1, HY.out.2.2⟩ (fun hHeld => ?_)
                    refine take_v (v := ?_) 0 ⟨some 56, Op.load 50 (Operand.tmp 7), _, _, _, none⟩ rfl (fun _ _ _ h => h) ?_ hHeld ?_
                    rotate_left
                    · (intro W hSW; have s0 := hSW.1.cell 0 rfl; have s1 := hSW.1.cell 1 rfl; have s2 := hSW.2.1.cell 1 rfl; have s3 := (hSW.2.2.cell (p := ⟨b', off' + q * 2, none⟩) hbs').trans HP.out; go_simp <;> (try with_reducible rfl))
                    refine ready_call 1 ⟨some 57, Op.call { callee := Callee.value (Operand.func 53), args := #[Operand.tmp 56], argTypes := #[50] }, _, _, _, none⟩ (by kernel_rfl) rfl (by kernel_rfl) (fun KC hK => ?_)
                    go_wp2_with fail
                    refine (l4Hold_is hd _).mono ?_
                    rintro e w1 ⟨rfl, hb⟩
                    refine hK.out _ _ ⟨hHeld.1.next hb, hHeld.2.1.next hb, below_next hHeld.2.2 hb⟩ (fun hHeld => ?_)
                    clear hK KC
                    refine take_v (v := ?_) 2 ⟨some 58, Op.unOp UnOp.not 4 (Operand.tmp 57), _, _, _, none⟩ rfl (fun _ _ _ h => h) ?_ hHeld ?_
                    rotate_left
                    · (intro W _; go_simp <;> (try with_reducible rfl))
                    refine take_v (v := ?_) 3 ⟨some 59, Op.move (Operand.tmp 58), _, _, _, none⟩ rfl (fun _ _ _ h => h) ?_ hHeld ?_
                    rotate_left
                    · (intro W _; go_simp <;> (try with_reducible rfl))
                    refine take_v (v := ?_) 4 ⟨some 60, Op.move (Operand.tmp 6), _, _, _, some (3, false)⟩ rfl (fun _ _ _ h => h) ?_ hHeld ?_
                    rotate_left
                    · (intro W _; go_simp <;> (try with_reducible rfl))
                    refine take_v (v := ?_) 5 ⟨some 61, Op.binOp BinOp.gtr 3 (Operand.tmp 60) (Operand.const (Value.int IntKind.i64 0)) 3, _, _, _, some (3, false)⟩ rfl (fun _ _ _ h => h) ?_ hHeld ?_
                    rotate_left
                    · (intro W _; go_simp <;> (try with_reducible rfl))
                    refine take_v (v := ?_) 6 ⟨some 62, Op.move (Operand.tmp 61), _, _, _, some (3, false)⟩ rfl (fun _ _ _ h => h) ?_ hHeld ?_
                    rotate_left
                    · (intro W _; go_simp <;> (try with_reducible rfl))
                    refine take_v (v := ?_) 7 ⟨some 63, Op.fieldAddr 48 (Operand.tmp 5) 1, _, _, _, some (6, true)⟩ rfl (fun _ _ _ h => h) ?_ hHeld ?_
                    rotate_left
                    · (intro W _; go_simp <;> (try with_reducible rfl))
                    refine take_v (v := ?_) 8 ⟨some 64, Op.load 46 (Operand.tmp 63), _, _, _, some (6, true)⟩ rfl (fun _ _ _ h => h) ?_ hHeld ?_
                    rotate_left
                    · (intro W hSW; have s0 := hSW.1.cell 0 rfl; have s1 := hSW.1.cell 1 rfl; have s2 := hSW.2.1.cell 1 rfl; have s3 := (hSW.2.2.cell (p := ⟨b', off' + q * 2, none⟩) hbs').trans HP.out; go_simp <;> (try with_reducible rfl))
                    refine take_v (v := ?_) 9 ⟨some 65, Op.move (Operand.tmp 6), _, _, _, some (6, true)⟩ rfl (fun _ _ _ h => h) ?_ hHeld ?_
                    rotate_left
                    · (intro W _; go_simp <;> (try with_reducible rfl))
                    refine take_v (v := ?_) 10 ⟨some 66, Op.binOp BinOp.sub 3 (Operand.tmp 65) (Operand.const (Value.int IntKind.i64 1)) 3, _, _, _, some (6, true)⟩ rfl (fun _ _ _ h => h) ?_ hHeld ?_
                    rotate_left
                    · (intro W _; go_simp <;> (try with_reducible rfl))
                    refine take_v (v := ?_) 11 ⟨some 67, Op.indexAddr 46 (Operand.tmp 64) (Operand.tmp 66), _, _, _, some (6, true)⟩ rfl (fun _ _ _ h => h) ?_ hHeld ?_
                    rotate_left
                    · (intro W _; go_simp <;> (try with_reducible rfl))
                    refine take_v (v := ?_) 12 ⟨some 68, Op.fieldAddr 50 (Operand.tmp 67) 0, _, _, _, some (6, true)⟩ rfl (fun _ _ _ h => h) ?_ hHeld ?_
                    rotate_left
                    · (intro W _; go_simp <;> (try with_reducible rfl))
                    refine take_v (v := ?_) 13 ⟨some 69, Op.load 3 (Operand.tmp 68), _, _, _, some (6, true)⟩ rfl (fun _ _ _ h => h) ?_ hHeld ?_
                    rotate_left
                    · (intro W hSW; have s0 := hSW.1.cell 0 rfl; have s1 := hSW.1.cell 1 rfl; have s2 := hSW.2.1.cell 1 rfl; have s3 := (hSW.2.2.cell (p := ⟨b', off' + q * 2, none⟩) hbs').trans HP.out; go_simp <;> (try with_reducible rfl))
                    refine take_v (v := ?_) 14 ⟨some 70, Op.fieldAddr 50 (Operand.tmp 7) 0, _, _, _, some (6, true)⟩ rfl (fun _ _ _ h => h) ?_ hHeld ?_
                    rotate_left
                    · (intro W _; go_simp <;> (try with_reducible rfl))
                    refine take_v (v := ?_) 15 ⟨some 71, Op.load 3 (Operand.tmp 70), _, _, _, some (6, true)⟩ rfl (fun _ _ _ h => h) ?_ hHeld ?_
                    rotate_left
                    · (intro W hSW; have s0 := hSW.1.cell 0 rfl; have s1 := hSW.1.cell 1 rfl; have s2 := hSW.2.1.cell 1 rfl; have s3 := (hSW.2.2.cell (p := ⟨b', off' + q * 2, none⟩) hbs').trans HP.out; go_simp <;> (try with_reducible rfl))
                    refine take_v (v := ?_) 16 ⟨some 72, Op.binOp BinOp.geq 3 (Operand.tmp 69) (Operand.tmp 71) 3, _, _, _, some (6, true)⟩ rfl (fun _ _ _ h => h) ?_ hHeld ?_
                    rotate_left
                    · (intro W _; go_simp <;> (try with_reducible rfl))
                    refine take_v (v := ?_) 17 ⟨some 73, Op.pick (Operand.tmp 62) (Operand.tmp 72) (Operand.const (Value.bool false)), _, _, _, some (3, false)⟩ rfl (fun _ _ _ h => h) ?_ hHeld ?_
                    rotate_left
                    · (intro W _; go_simp <;> (try with_reducible rfl))
                    refine take_v (v := ?_) 18 ⟨some 74, Op.pick (Operand.tmp 59) (Operand.const (Value.bool true)) (Operand.tmp 73), _, _, _, none⟩ rfl (fun _ _ _ h => h) ?_ hHeld ?_
                    rotate_left
                    · (intro W _; go_simp <;> (try with_reducible rfl))
                    refine take_v (v := ?_) 19 ⟨some 75, Op.move (Operand.tmp 74), _, _, _, none⟩ rfl (fun _ _ _ h => h) ?_ hHeld ?_
                    rotate_left
                    · (intro W _; go_simp <;> (try with_reducible rfl))
                    refine take_v (v := ?_) 20 ⟨some 76, Op.fieldAddr 50 (Operand.tmp 7) 1, _, _, _, some (19, false)⟩ rfl (fun _ _ _ h => h) ?_ hHeld ?_
                    rotate_left
                    · (intro W _; go_simp <;> (try with_reducible rfl))
                    refine take_v (v := ?_) 21 ⟨some 77, Op.load 3 (Operand.tmp 76), _, _, _, some (19, false)⟩ rfl (fun _ _ _ h => h) ?_ hHeld ?_
                    rotate_left
                    · (intro W hSW; have s0 := hSW.1.cell 0 rfl; have s1 := hSW.1.cell 1 rfl; have s2 := hSW.2.1.cell 1 rfl; have s3 := (hSW.2.2.cell (p := ⟨b', off' + q * 2, none⟩) hbs').trans HP.out; go_simp <;> (try with_reducible rfl))
                    refine take_v (v := ?_) 22 ⟨some 78, Op.binOp BinOp.eql 3 (Operand.tmp 77) (Operand.const (Value.int IntKind.i64 2)) 3, _, _, _, some (19, false)⟩ rfl (fun _ _ _ h => h) ?_ hHeld ?_
                    rotate_left
                    · (intro W _; go_simp <;> (try with_reducible rfl))
                    refine take_v (v := ?_) 23 ⟨some 79, Op.move (Operand.tmp 78), _, _, _, some (19, false)⟩ rfl (fun _ _ _ h => h) ?_ hHeld ?_
                    rotate_left
                    · (intro W _; go_simp <;> (try with_reducible rfl))
                    refine take_v (v := ?_) 24 ⟨some 80, Op.fieldAddr 48 (Operand.tmp 5) 1, _, _, _, some (23, true)⟩ rfl (fun _ _ _ h => h) ?_ hHeld ?_
                    rotate_left
                    · (intro W _; go_simp <;> (try with_reducible rfl))
                    refine take_v (v := ?_) 25 ⟨some 81, Op.load 46 (Operand.tmp 80), _, _, _, some (23, true)⟩ rfl (fun _ _ _ h => h) ?_ hHeld ?_
                    rotate_left
                    · (intro W hSW; have s0 := hSW.1.cell 0 rfl; have s1 := hSW.1.cell 1 rfl; have s2 := hSW.2.1.cell 1 rfl; have s3 := (hSW.2.2.cell (p := ⟨b', off' + q * 2, none⟩) hbs').trans HP.out; go_simp <;> (try with_reducible rfl))
                    refine take_v (v := ?_) 26 ⟨some 82, Op.call { callee := Callee.builtin Builtin.len, args := #[Operand.tmp 81], argTypes := #[46] }, _, _, _, some (23, true)⟩ rfl (fun _ _ _ h => h) ?_ hHeld ?_
                    rotate_left
                    · (intro W _; go_simp <;> (try with_reducible rfl))
                    refine take_v (v := ?_) 27 ⟨some 83, Op.binOp BinOp.gtr 3 (Operand.tmp 82) (Operand.const (Value.int IntKind.i64 1)) 3, _, _, _, some (23, true)⟩ rfl (fun _ _ _ h => h) ?_ hHeld ?_
                    rotate_left
                    · (intro W _; go_simp <;> (try with_reducible rfl))
                    refine take_v (v := ?_) 28 ⟨some 84, Op.pick (Operand.tmp 79) (Operand.tmp 83) (Operand.const (Value.bool false)), _, _, _, some (19, false)⟩ rfl (fun _ _ _ h => h) ?_ hHeld ?_
                    rotate_left
                    · (intro W _; go_simp <;> (try with_reducible rfl))
                    refine take_v (v := ?_) 29 ⟨some 85, Op.pick (Operand.tmp 75) (Operand.const (Value.bool true)) (Operand.tmp 84), _, _, _, none⟩ rfl (fun _ _ _ h => h) ?_ hHeld ?_
                    rotate_left
                    · (intro W _; go_simp <;> (try with_reducible rfl))
                    refine wpAnyH_done (by kernel_rfl) ?_ _
                    refine NoPanic.normal ?_
                    go_wp2_with fail
                    go_meet
                    exact ⟨by rw [HK.out], hHeld.2.1, hHeld.2.2⟩
            case rest =>
              obtain ⟨rfl, hbx2, hb2⟩ := hcut
              have HF : Hid (WR V w.heap.size wc u3 i 0 ∧ Below w.heap.size w wc) := ⟨HR.out.2.1.next hb2, below_next HR.out.2.2 hb2⟩
              clear hp c0 c1 hb2 HY
              cases q10
              · have HY : Hid (hold1 (V i).h.t (V i).h.m (V i).h.n j) := by
                  have := HO.out
                  rw [← hd] at this
                  simp only [Bool.false_eq, Bool.or_eq_false_iff, Bool.not_eq_false', Bool.and_eq_false_iff, decide_eq_false_iff_not, beq_eq_false_iff_ne] at this
                  obtain ⟨⟨h1, h2⟩, h3⟩ := this
                  exact ⟨h1, fun h0 => by have := h2.resolve_left (fun q => q h0); omega, fun h => by have := h3.resolve_left (fun q => q h); omega⟩
                go_wp2
                go_roundw
                case rel => exact ⟨j + 1, by omega, by go_num, upto_succ HR.out.1 HY.out, HF.out.1, (by first | exact hbx2 | (rw [hwa]; exact hbx2)), HF.out.2⟩
                case measure => simp [intOf]; omega
              · have HN : Hid (goodL V n = false) := good_bad hlt (fun g => by
                  have := HO.out
                  have h1 := g.2.2.1.2 j hlj
                  rw [← hd, h1.1] at this
                  have e3 : ((V i).h.m j == 2 && decide (1 < (V i).h.n)) = false := by
                    cases hm : ((V i).h.m j == 2)
                    · rfl
                    · have := h1.2.2 (by simpa using hm); simp; omega
                  rw [e3] at this
                  by_cases h0 : 0 < j
                  · have h4 := h1.2.1 h0
                    have e4 : decide ((V i).h.t j ≤ (V i).h.t (j - 1)) = false := by simp; omega
                    rw [e4] at this; simp at this
                  · have e4 : decide (0 < j) = false := by simp; omega
                    rw [e4] at this; simp at this)
                go_wp2
                go_ret
                exact ⟨ret_bool HN.out.symm, HF.out.2⟩
          · have hjn : j = (V i).h.n := by omega
            have hlj' : ¬ (j : Int) < ((V i).h.n : Int) := by omega
            have d2 := hbx.cell 2 rfl
            have dz := hbx.2
            have HP : Hid (holdsP (V i).h.t (V i).h.m (V i).h.n) := ⟨HD.out.2.1, fun q hq => hho q (by omega)⟩
            have HF : Hid (WR V w.heap.size wr u3 i 0 ∧ Bx wr wo.heap.size [.string (V i).key, .slice (A i).ha (V i).h.n (A i).hc, .slice (A i).wa (V i).w.n (A i).wc] ∧ Below w.heap.size w wr) := ⟨hW, hbx, hBr⟩
            clear hho hW hbx hBr hjn
            have HAp : Hid (Apart u3 wo.heap.size) := fun k hk e => by
              obtain ⟨m, X, h1, _⟩ := HH.out.2.1
              have := (h1.lt k hk).2; omega
            obtain ⟨u3', hu3⟩ : ∃ x, x = u3 := ⟨u3, rfl⟩
            go_wp2
            go_loopw [90, 3] (fun x v wy => ∃ j : Nat, j ≤ (V i).w.n ∧ x = .int .i64 j ∧ (∀ j', j' < j → wait1 (V i).h (V i).w j' ∧ seenB V i j' ((V i).w.t j') = false) ∧ WR V w.heap.size wy v i j ∧ Apart v wo.heap.size ∧ Bx wy wo.heap.size [.string (V i).key, .slice (A i).ha (V i).h.n (A i).hc, .slice (A i).wa (V i).w.n (A i).wc] ∧ Below w.heap.size w wy) (fun x _ _ => (V i).w.n - (intOf x).toNat)
            case atStart => exact ⟨0, Nat.zero_le _, rfl, fun j hj => absurd hj (by omega), HF.out.1, HAp.out, HF.out.2.1, HF.out.2.2⟩
            case round =>
              obtain ⟨j, hj, rfl, hwa1, hW, hap, hbx, hBr⟩ := hrel
              clear HF d2 dz hlj' hu3 hlj
              by_cases hlj : j < (V i).w.n
              · have hlj' : (j : Int) < ((V i).w.n : Int) := by omega
                have hw8 : (V i).w.n ≤ 8 := HD.out.2.2
                have hat := ((HS.out.1.next hBr).2 i hlt)
                have hat1 := hat.1
                rcases hat.2.1 with h | ⟨b', off', hwa, hbs', hE'⟩
                · omega
                obtain ⟨c0, c1⟩ := hd_cells hE' hlj
                have hp : 0 < j → wr.cell? ⟨b', off' + (j - 1) * 2, none⟩ = some (.int .i64 ((V i).w.t (j - 1))) := fun h => (hd_cells hE' (show j - 1 < (V i).w.n by omega)).1
                have d2 := hbx.cell 2 rfl
                have dz := hbx.2
                rw [hwa] at hbx d2 ⊢
                obtain ⟨m, X, hown, hmb, hX⟩ := hW
                obtain ⟨a3, cap3, rfl, hsl⟩ := ints_sl hown
                have HR : Hid ((∀ j', j' < j → wait1 (V i).h (V i).w j' ∧ seenB V i j' ((V i).w.t j') = false) ∧ wr.ownsRow w.heap.size 3 1 (.slice a3 m cap3) m (ints X m) ∧ (∀ t, hasN X t m = seenB V i j t) ∧ Below w.heap.size w wr) := ⟨hwa1, hown, hX, hBr⟩
                have HL : Hid (Sl wr a3 m 1 (intF X) ∧ Sl wr (A i).ha (V i).h.n 2 (hdF (V i).h.t (V i).h.m)) := ⟨hsl, hat1⟩
                have hzr : w.heap.size ≤ wr.heap.size := hBr.size
                have HY : Hid (Bx (wr.alloc (.cells #[.int .i64 ((V i).w.t j), .int .i64 ((V i).w.m j)] 50)).drew wr.heap.size [.int .i64 ((V i).w.t j), .int .i64 ((V i).w.m j)] ∧ Bx (wr.alloc (.cells #[.int .i64 ((V i).w.t j), .int .i64 ((V i).w.m j)] 50)).drew wo.heap.size [.string (V i).key, .slice (A i).ha (V i).h.n (A i).hc, .slice (some ⟨b', off', none⟩) (V i).w.n (A i).wc] ∧ Below wr.heap.size wr (wr.alloc (.cells #[.int .i64 ((V i).w.t j), .int .i64 ((V i).w.m j)] 50)).drew) := ⟨(Bx.new wr [.int .i64 ((V i).w.t j), .int .i64 ((V i).w.m j)] 50).next (Below.refl _ _).drew, (hbx.alloc _).next (Below.refl _ _).drew, (Go.Joins.below_alloc1 _ _).drew⟩
                have hm1 : m ≤ 1048576 * 9 := by omega
                have HAP : Hid (Apart (.slice a3 m cap3) wo.heap.size ∧ wo.heap.size < wr.heap.size) := ⟨hap, dz⟩
                clear hap hwa1 hown hX hBr hsl hat hat1 hbx hE'
                obtain ⟨fd, hd⟩ : ∃ f, hdOk ((V i).w.t j) ((V i).w.m j) = f := ⟨_, rfl⟩
                obtain ⟨fh, hfh⟩ : ∃ f, hasN X ((V i).w.t j) m = f := ⟨_, rfl⟩
                obtain ⟨fc, hfc⟩ : ∃ f, canN (V i).h.t (V i).h.m ((V i).w.t j) ((V i).w.m j) (V i).h.n = f := ⟨_, rfl⟩
                obtain ⟨fe, hfe⟩ : ∃ f, eldN (V i).h.t ((V i).w.t j) (V i).h.n = f := ⟨_, rfl⟩
                obtain ⟨q16, HO⟩ : ∃ q16 : Bool, Hid (q16 = (!fd || fh || (decide (j = 0) && fc) || !fe || (decide (0 < j) && decide ((V i).w.t (j - 1) ≤ (V i).w.t j)))) := ⟨_, rfl⟩
                go_upto_region 16 with fail
                go_cut [135] (fun s135 wx => s135 = .bool q16 ∧ Bx wx wr.heap.size [.int .i64 ((V i).w.t j), .int .i64 ((V i).w.m j)] ∧ Bx wx wo.heap.size [.string (V i).key, .slice (A i).ha (V i).h.n (A i).hc, .slice (some ⟨b', off', none⟩) (V i).w.n (A i).wc] ∧ Below wr.heap.size wr wx)
                case first =>
                  cases fd
                  · have HK : Hid (q16 = true) := HO.out.trans (by simp)
                    clear hp
                    as_aux_lemma =>
                      refine wp_region_noPanic ?_
                      refine wp_region_held_drew (S := fun W => Bx W wr.heap.size [.int .i64 ((V i).w.t j), .int .i64 ((V i).w.m j)] ∧ Bx W wo.heap.size [.string (V i).key, .slice (A i).ha (V i).h.n (A i).hc, .slice (some ⟨b', off', none⟩) (V i).w.n (A i).wc] ∧ Below wr.heap.size wr W) (by kernel_rfl) ⟨HY.out.1, HY.out.2.1, HY.out.2.2⟩ (fun hHeld => ?_)
                      refine take_v (v := ?_) 0 ⟨some 95, Op.load 50 (Operand.tmp 9), _, _, _, none⟩ rfl (fun _ _ _ h => h) ?_ hHeld ?_
                      rotate_left
                      · (intro W hSW; have s0 := hSW.1.cell 0 rfl; have s1 := hSW.1.cell 1 rfl; have s2 := hSW.2.1.cell 0 rfl; have s3 := hSW.2.1.cell 1 rfl; have s4 := hSW.2.1.cell 2 rfl; go_simp <;> (try with_reducible rfl))
                      refine ready_call 1 ⟨some 96, Op.call { callee := Callee.value (Operand.func 53), args := #[Operand.tmp 95], argTypes := #[50] }, _, _, _, none⟩ (by kernel_rfl) rfl (by kernel_rfl) (fun KC hK => ?_)
                      go_wp2_with fail
                      refine (l4Hold_is hd _).mono ?_
                      rintro e w1 ⟨rfl, hb⟩
                      refine hK.out _ _ ⟨hHeld.1.next hb, hHeld.2.1.next hb, below_next hHeld.2.2 hb⟩ (fun hHeld => ?_)
                      clear hK KC
                      refine take_v (v := ?_) 2 ⟨some 97, Op.unOp UnOp.not 4 (Operand.tmp 96), _, _, _, none⟩ rfl (fun _ _ _ h => h) ?_ hHeld ?_
                      rotate_left
                      · (intro W _; go_simp <;> (try with_reducible rfl))
                      refine take_v (v := ?_) 3 ⟨some 98, Op.move (Operand.tmp 97), _, _, _, none⟩ rfl (fun _ _ _ h => h) ?_ hHeld ?_
                      rotate_left
                      · (intro W _; go_simp <;> (try with_reducible rfl))
                      refine take_n 4 ⟨some 99, Op.move (Operand.tmp 3), _, _, _, some (3, false)⟩ rfl (fun _ _ _ h => h) hHeld ?_
                      refine take_n 5 ⟨some 100, Op.fieldAddr 50 (Operand.tmp 9) 0, _, _, _, some (3, false)⟩ rfl (fun _ _ _ h => h) hHeld ?_
                      refine take_n 6 ⟨some 101, Op.load 3 (Operand.tmp 100), _, _, _, some (3, false)⟩ rfl (fun _ _ _ h => h) hHeld ?_
                      refine take_n 7 ⟨some 102, Op.call { callee := Callee.value (Operand.func 54), args := #[Operand.tmp 99, Operand.tmp 101], argTypes := #[26, 3] }, _, _, _, some (3, false)⟩ rfl (fun _ _ _ h => h) hHeld ?_
                      refine take_v (v := ?_) 8 ⟨some 103, Op.pick (Operand.tmp 98) (Operand.const (Value.bool true)) (Operand.tmp 102), _, _, _, none⟩ rfl (fun _ _ _ h => h) ?_ hHeld ?_
                      rotate_left
                      · (intro W _; go_simp <;> (try with_reducible rfl))
                      refine take_v (v := ?_) 9 ⟨some 104, Op.move (Operand.tmp 103), _, _, _, none⟩ rfl (fun _ _ _ h => h) ?_ hHeld ?_
                      rotate_left
                      · (intro W _; go_simp <;> (try with_reducible rfl))
                      refine take_n 10 ⟨some 105, Op.move (Operand.tmp 8), _, _, _, some (9, false)⟩ rfl (fun _ _ _ h => h) hHeld ?_
                      refine take_n 11 ⟨some 106, Op.binOp BinOp.eql 3 (Operand.tmp 105) (Operand.const (Value.int IntKind.i64 0)) 3, _, _, _, some (9, false)⟩ rfl (fun _ _ _ h => h) hHeld ?_
                      refine take_n 12 ⟨some 107, Op.move (Operand.tmp 106), _, _, _, some (9, false)⟩ rfl (fun _ _ _ h => h) hHeld ?_
                      refine take_n 13 ⟨some 108, Op.load 48 (Operand.tmp 5), _, _, _, some (12, true)⟩ rfl (fun _ _ _ h => h) hHeld ?_
                      refine take_n 14 ⟨some 109, Op.load 50 (Operand.tmp 9), _, _, _, some (12, true)⟩ rfl (fun _ _ _ h => h) hHeld ?_
                      refine take_n 15 ⟨some 110, Op.call { callee := Callee.value (Operand.func 55), args := #[Operand.tmp 108, Operand.tmp 109], argTypes := #[48, 50] }, _, _, _, some (12, true)⟩ rfl (fun _ _ _ h => h) hHeld ?_
                      refine take_n 16 ⟨some 111, Op.pick (Operand.tmp 107) (Operand.tmp 110) (Operand.const (Value.bool false)), _, _, _, some (9, false)⟩ rfl (fun _ _ _ h => h) hHeld ?_
                      refine take_v (v := ?_) 17 ⟨some 112, Op.pick (Operand.tmp 104) (Operand.const (Value.bool true)) (Operand.tmp 111), _, _, _, none⟩ rfl (fun _ _ _ h => h) ?_ hHeld ?_
                      rotate_left
                      · (intro W _; go_simp <;> (try with_reducible rfl))
                      refine take_v (v := ?_) 18 ⟨some 113, Op.move (Operand.tmp 112), _, _, _, none⟩ rfl (fun _ _ _ h => h) ?_ hHeld ?_
                      rotate_left
                      · (intro W _; go_simp <;> (try with_reducible rfl))
                      refine take_n 19 ⟨some 114, Op.load 48 (Operand.tmp 5), _, _, _, some (18, false)⟩ rfl (fun _ _ _ h => h) hHeld ?_
                      refine take_n 20 ⟨some 115, Op.fieldAddr 50 (Operand.tmp 9) 0, _, _, _, some (18, false)⟩ rfl (fun _ _ _ h => h) hHeld ?_
                      refine take_n 21 ⟨some 116, Op.load 3 (Operand.tmp 115), _, _, _, some (18, false)⟩ rfl (fun _ _ _ h => h) hHeld ?_
                      refine take_n 22 ⟨some 117, Op.call { callee := Callee.value (Operand.func 56), args := #[Operand.tmp 114, Operand.tmp 116], argTypes := #[48, 3] }, _, _, _, some (18, false)⟩ rfl (fun _ _ _ h => h) hHeld ?_
                      refine take_n 23 ⟨some 118, Op.unOp UnOp.not 4 (Operand.tmp 117), _, _, _, some (18, false)⟩ rfl (fun _ _ _ h => h) hHeld ?_
                      refine take_v (v := ?_) 24 ⟨some 119, Op.pick (Operand.tmp 113) (Operand.const (Value.bool true)) (Operand.tmp 118), _, _, _, none⟩ rfl (fun _ _ _ h => h) ?_ hHeld ?_
                      rotate_left
                      · (intro W _; go_simp <;> (try with_reducible rfl))
                      refine take_v (v := ?_) 25 ⟨some 120, Op.move (Operand.tmp 119), _, _, _, none⟩ rfl (fun _ _ _ h => h) ?_ hHeld ?_
                      rotate_left
                      · (intro W _; go_simp <;> (try with_reducible rfl))
                      refine take_n 26 ⟨some 121, Op.move (Operand.tmp 8), _, _, _, some (25, false)⟩ rfl (fun _ _ _ h => h) hHeld ?_
                      refine take_n 27 ⟨some 122, Op.binOp BinOp.gtr 3 (Operand.tmp 121) (Operand.const (Value.int IntKind.i64 0)) 3, _, _, _, some (25, false)⟩ rfl (fun _ _ _ h => h) hHeld ?_
                      refine take_n 28 ⟨some 123, Op.move (Operand.tmp 122), _, _, _, some (25, false)⟩ rfl (fun _ _ _ h => h) hHeld ?_
                      refine take_n 29 ⟨some 124, Op.fieldAddr 48 (Operand.tmp 5) 2, _, _, _, some (28, true)⟩ rfl (fun _ _ _ h => h) hHeld ?_
                      refine take_n 30 ⟨some 125, Op.load 46 (Operand.tmp 124), _, _, _, some (28, true)⟩ rfl (fun _ _ _ h => h) hHeld ?_
                      refine take_n 31 ⟨some 126, Op.move (Operand.tmp 8), _, _, _, some (28, true)⟩ rfl (fun _ _ _ h => h) hHeld ?_
                      refine take_n 32 ⟨some 127, Op.binOp BinOp.sub 3 (Operand.tmp 126) (Operand.const (Value.int IntKind.i64 1)) 3, _, _, _, some (28, true)⟩ rfl (fun _ _ _ h => h) hHeld ?_
                      refine take_n 33 ⟨some 128, Op.indexAddr 46 (Operand.tmp 125) (Operand.tmp 127), _, _, _, some (28, true)⟩ rfl (fun _ _ _ h => h) hHeld ?_
                      refine take_n 34 ⟨some 129, Op.fieldAddr 50 (Operand.tmp 128) 0, _, _, _, some (28, true)⟩ rfl (fun _ _ _ h => h) hHeld ?_
                      refine take_n 35 ⟨some 130, Op.load 3 (Operand.tmp 129), _, _, _, some (28, true)⟩ rfl (fun _ _ _ h => h) hHeld ?_
                      refine take_n 36 ⟨some 131, Op.fieldAddr 50 (Operand.tmp 9) 0, _, _, _, some (28, true)⟩ rfl (fun _ _ _ h => h) hHeld ?_
                      refine take_n 37 ⟨some 132, Op.load 3 (Operand.tmp 131), _, _, _, some (28, true)⟩ rfl (fun _ _ _ h => h) hHeld ?_
                      refine take_n 38 ⟨some 133, Op.binOp BinOp.leq 3 (Operand.tmp 130) (Operand.tmp 132) 3, _, _, _, some (28, true)⟩ rfl (fun _ _ _ h => h) hHeld ?_
                      refine take_n 39 ⟨some 134, Op.pick (Operand.tmp 123) (Operand.tmp 133) (Operand.const (Value.bool false)), _, _, _, some (25, false)⟩ rfl (fun _ _ _ h => h) hHeld ?_
                      refine take_v (v := ?_) 40 ⟨some 135, Op.pick (Operand.tmp 120) (Operand.const (Value.bool true)) (Operand.tmp 134), _, _, _, none⟩ rfl (fun _ _ _ h => h) ?_ hHeld ?_
                      rotate_left
                      · (intro W _; go_simp <;> (try with_reducible rfl))
                      refine wpAnyH_done (by kernel_rfl) ?_ _
                      refine NoPanic.normal ?_
                      go_wp2_with fail
                      go_meet
                      exact ⟨by rw [HK.out], hHeld.1, hHeld.2.1, hHeld.2.2⟩
                  cases fh
                  case true =>
                    have HK : Hid (q16 = true) := HO.out.trans (by simp)
                    clear hp
                    as_aux_lemma =>
                      refine wp_region_noPanic ?_
                      refine wp_region_held_drew (S := fun W => Bx W wr.heap.size [.int .i64 ((V i).w.t j), .int .i64 ((V i).w.m j)] ∧ Bx W wo.heap.size [.string (V i).key, .slice (A i).ha (V i).h.n (A i).hc, .slice (some ⟨b', off', none⟩) (V i).w.n (A i).wc] ∧ Below wr.heap.size wr W) (by kernel_rfl) ⟨HY.out.1, HY.out.2.1, HY.out.2.2⟩ (fun hHeld => ?_)
                      refine take_v (v := ?_) 0 ⟨some 95, Op.load 50 (Operand.tmp 9), _, _, _, none⟩ rfl (fun _ _ _ h => h) ?_ hHeld ?_
                      rotate_left
                      · (intro W hSW; have s0 := hSW.1.cell 0 rfl; have s1 := hSW.1.cell 1 rfl; have s2 := hSW.2.1.cell 0 rfl; have s3 := hSW.2.1.cell 1 rfl; have s4 := hSW.2.1.cell 2 rfl; go_simp <;> (try with_reducible rfl))
                      refine ready_call 1 ⟨some 96, Op.call { callee := Callee.value (Operand.func 53), args := #[Operand.tmp 95], argTypes := #[50] }, _, _, _, none⟩ (by kernel_rfl) rfl (by kernel_rfl) (fun KC hK => ?_)
                      go_wp2_with fail
                      refine (l4Hold_is hd _).mono ?_
                      rintro e w1 ⟨rfl, hb⟩
                      refine hK.out _ _ ⟨hHeld.1.next hb, hHeld.2.1.next hb, below_next hHeld.2.2 hb⟩ (fun hHeld => ?_)
                      clear hK KC
                      refine take_v (v := ?_) 2 ⟨some 97, Op.unOp UnOp.not 4 (Operand.tmp 96), _, _, _, none⟩ rfl (fun _ _ _ h => h) ?_ hHeld ?_
                      rotate_left
                      · (intro W _; go_simp <;> (try with_reducible rfl))
                      refine take_v (v := ?_) 3 ⟨some 98, Op.move (Operand.tmp 97), _, _, _, none⟩ rfl (fun _ _ _ h => h) ?_ hHeld ?_
                      rotate_left
                      · (intro W _; go_simp <;> (try with_reducible rfl))
                      refine take_v (v := ?_) 4 ⟨some 99, Op.move (Operand.tmp 3), _, _, _, some (3, false)⟩ rfl (fun _ _ _ h => h) ?_ hHeld ?_
                      rotate_left
                      · (intro W _; go_simp <;> (try with_reducible rfl))
                      refine take_v (v := ?_) 5 ⟨some 100, Op.fieldAddr 50 (Operand.tmp 9) 0, _, _, _, some (3, false)⟩ rfl (fun _ _ _ h => h) ?_ hHeld ?_
                      rotate_left
                      · (intro W _; go_simp <;> (try with_reducible rfl))
                      refine take_v (v := ?_) 6 ⟨some 101, Op.load 3 (Operand.tmp 100), _, _, _, some (3, false)⟩ rfl (fun _ _ _ h => h) ?_ hHeld ?_
                      rotate_left
                      · (intro W hSW; have s0 := hSW.1.cell 0 rfl; have s1 := hSW.1.cell 1 rfl; have s2 := hSW.2.1.cell 0 rfl; have s3 := hSW.2.1.cell 1 rfl; have s4 := hSW.2.1.cell 2 rfl; go_simp <;> (try with_reducible rfl))
                      refine ready_call 7 ⟨some 102, Op.call { callee := Callee.value (Operand.func 54), args := #[Operand.tmp 99, Operand.tmp 101], argTypes := #[26, 3] }, _, _, _, some (3, false)⟩ (by kernel_rfl) rfl (by kernel_rfl) (fun KC hK => ?_)
                      go_wp2_with fail
                      refine (l1Has_is _ _ _ hfh (by omega) (HL.out.1.kept hHeld.2.2)).mono ?_
                      rintro e w' ⟨rfl, hw'⟩
                      have hw' := hw'.symm
                      subst hw'
                      refine hK.out _ _ hHeld (fun hHeld => ?_)
                      clear hK KC
                      refine take_v (v := ?_) 8 ⟨some 103, Op.pick (Operand.tmp 98) (Operand.const (Value.bool true)) (Operand.tmp 102), _, _, _, none⟩ rfl (fun _ _ _ h => h) ?_ hHeld ?_
                      rotate_left
                      · (intro W _; go_simp <;> (try with_reducible rfl))
                      refine take_v (v := ?_) 9 ⟨some 104, Op.move (Operand.tmp 103), _, _, _, none⟩ rfl (fun _ _ _ h => h) ?_ hHeld ?_
                      rotate_left
                      · (intro W _; go_simp <;> (try with_reducible rfl))
                      refine take_n 10 ⟨some 105, Op.move (Operand.tmp 8), _, _, _, some (9, false)⟩ rfl (fun _ _ _ h => h) hHeld ?_
                      refine take_n 11 ⟨some 106, Op.binOp BinOp.eql 3 (Operand.tmp 105) (Operand.const (Value.int IntKind.i64 0)) 3, _, _, _, some (9, false)⟩ rfl (fun _ _ _ h => h) hHeld ?_
                      refine take_n 12 ⟨some 107, Op.move (Operand.tmp 106), _, _, _, some (9, false)⟩ rfl (fun _ _ _ h => h) hHeld ?_
                      refine take_n 13 ⟨some 108, Op.load 48 (Operand.tmp 5), _, _, _, some (12, true)⟩ rfl (fun _ _ _ h => h) hHeld ?_
                      refine take_n 14 ⟨some 109, Op.load 50 (Operand.tmp 9), _, _, _, some (12, true)⟩ rfl (fun _ _ _ h => h) hHeld ?_
                      refine take_n 15 ⟨some 110, Op.call { callee := Callee.value (Operand.func 55), args := #[Operand.tmp 108, Operand.tmp 109], argTypes := #[48, 50] }, _, _, _, some (12, true)⟩ rfl (fun _ _ _ h => h) hHeld ?_
                      refine take_n 16 ⟨some 111, Op.pick (Operand.tmp 107) (Operand.tmp 110) (Operand.const (Value.bool false)), _, _, _, some (9, false)⟩ rfl (fun _ _ _ h => h) hHeld ?_
                      refine take_v (v := ?_) 17 ⟨some 112, Op.pick (Operand.tmp 104) (Operand.const (Value.bool true)) (Operand.tmp 111), _, _, _, none⟩ rfl (fun _ _ _ h => h) ?_ hHeld ?_
                      rotate_left
                      · (intro W _; go_simp <;> (try with_reducible rfl))
                      refine take_v (v := ?_) 18 ⟨some 113, Op.move (Operand.tmp 112), _, _, _, none⟩ rfl (fun _ _ _ h => h) ?_ hHeld ?_
                      rotate_left
                      · (intro W _; go_simp <;> (try with_reducible rfl))
                      refine take_n 19 ⟨some 114, Op.load 48 (Operand.tmp 5), _, _, _, some (18, false)⟩ rfl (fun _ _ _ h => h) hHeld ?_
                      refine take_n 20 ⟨some 115, Op.fieldAddr 50 (Operand.tmp 9) 0, _, _, _, some (18, false)⟩ rfl (fun _ _ _ h => h) hHeld ?_
                      refine take_n 21 ⟨some 116, Op.load 3 (Operand.tmp 115), _, _, _, some (18, false)⟩ rfl (fun _ _ _ h => h) hHeld ?_
                      refine take_n 22 ⟨some 117, Op.call { callee := Callee.value (Operand.func 56), args := #[Operand.tmp 114, Operand.tmp 116], argTypes := #[48, 3] }, _, _, _, some (18, false)⟩ rfl (fun _ _ _ h => h) hHeld ?_
                      refine take_n 23 ⟨some 118, Op.unOp UnOp.not 4 (Operand.tmp 117), _, _, _, some (18, false)⟩ rfl (fun _ _ _ h => h) hHeld ?_
                      refine take_v (v := ?_) 24 ⟨some 119, Op.pick (Operand.tmp 113) (Operand.const (Value.bool true)) (Operand.tmp 118), _, _, _, none⟩ rfl (fun _ _ _ h => h) ?_ hHeld ?_
                      rotate_left
                      · (intro W _; go_simp <;> (try with_reducible rfl))
                      refine take_v (v := ?_) 25 ⟨some 120, Op.move (Operand.tmp 119), _, _, _, none⟩ rfl (fun _ _ _ h => h) ?_ hHeld ?_
                      rotate_left
                      · (intro W _; go_simp <;> (try with_reducible rfl))
                      refine take_n 26 ⟨some 121, Op.move (Operand.tmp 8), _, _, _, some (25, false)⟩ rfl (fun _ _ _ h => h) hHeld ?_
                      refine take_n 27 ⟨some 122, Op.binOp BinOp.gtr 3 (Operand.tmp 121) (Operand.const (Value.int IntKind.i64 0)) 3, _, _, _, some (25, false)⟩ rfl (fun _ _ _ h => h) hHeld ?_
                      refine take_n 28 ⟨some 123, Op.move (Operand.tmp 122), _, _, _, some (25, false)⟩ rfl (fun _ _ _ h => h) hHeld ?_
                      refine take_n 29 ⟨some 124, Op.fieldAddr 48 (Operand.tmp 5) 2, _, _, _, some (28, true)⟩ rfl (fun _ _ _ h => h) hHeld ?_
                      refine take_n 30 ⟨some 125, Op.load 46 (Operand.tmp 124), _, _, _, some (28, true)⟩ rfl (fun _ _ _ h => h) hHeld ?_
                      refine take_n 31 ⟨some 126, Op.move (Operand.tmp 8), _, _, _, some (28, true)⟩ rfl (fun _ _ _ h => h) hHeld ?_
                      refine take_n 32 ⟨some 127, Op.binOp BinOp.sub 3 (Operand.tmp 126) (Operand.const (Value.int IntKind.i64 1)) 3, _, _, _, some (28, true)⟩ rfl (fun _ _ _ h => h) hHeld ?_
                      refine take_n 33 ⟨some 128, Op.indexAddr 46 (Operand.tmp 125) (Operand.tmp 127), _, _, _, some (28, true)⟩ rfl (fun _ _ _ h => h) hHeld ?_
                      refine take_n 34 ⟨some 129, Op.fieldAddr 50 (Operand.tmp 128) 0, _, _, _, some (28, true)⟩ rfl (fun _ _ _ h => h) hHeld ?_
                      refine take_n 35 ⟨some 130, Op.load 3 (Operand.tmp 129), _, _, _, some (28, true)⟩ rfl (fun _ _ _ h => h) hHeld ?_
                      refine take_n 36 ⟨some 131, Op.fieldAddr 50 (Operand.tmp 9) 0, _, _, _, some (28, true)⟩ rfl (fun _ _ _ h => h) hHeld ?_
                      refine take_n 37 ⟨some 132, Op.load 3 (Operand.tmp 131), _, _, _, some (28, true)⟩ rfl (fun _ _ _ h => h) hHeld ?_
                      refine take_n 38 ⟨some 133, Op.binOp BinOp.leq 3 (Operand.tmp 130) (Operand.tmp 132) 3, _, _, _, some (28, true)⟩ rfl (fun _ _ _ h => h) hHeld ?_
                      refine take_n 39 ⟨some 134, Op.pick (Operand.tmp 123) (Operand.tmp 133) (Operand.const (Value.bool false)), _, _, _, some (25, false)⟩ rfl (fun _ _ _ h => h) hHeld ?_
                      refine take_v (v := ?_) 40 ⟨some 135, Op.pick (Operand.tmp 120) (Operand.const (Value.bool true)) (Operand.tmp 134), _, _, _, none⟩ rfl (fun _ _ _ h => h) ?_ hHeld ?_
                      rotate_left
                      · (intro W _; go_simp <;> (try with_reducible rfl))
                      refine wpAnyH_done (by kernel_rfl) ?_ _
                      refine NoPanic.normal ?_
                      go_wp2_with fail
                      go_meet
                      exact ⟨by rw [HK.out], hHeld.1, hHeld.2.1, hHeld.2.2⟩
                  by_cases hk0 : j = 0
                  · have hk0a : ((j : Int) == 0) = true := by simp; omega
                    have hk0b : decide (j = 0) = true := by simp; omega
                    have hk0' : decide ((0 : Int) < (j : Int)) = false := by simp; omega
                    have hk0n : decide (0 < j) = false := by simp; omega
                    have HK0 : Hid (j = 0) := hk0
                    clear hp hk0
                    cases fc
                    case true =>
                      have HK : Hid (q16 = true) := HO.out.trans (by rw [hk0b]; simp)
                      as_aux_lemma =>
                        refine wp_region_noPanic ?_
                        refine wp_region_held_drew (S := fun W => Bx W wr.heap.size [.int .i64 ((V i).w.t j), .int .i64 ((V i).w.m j)] ∧ Bx W wo.heap.size [.string (V i).key, .slice (A i).ha (V i).h.n (A i).hc, .slice (some ⟨b', off', none⟩) (V i).w.n (A i).wc] ∧ Below wr.heap.size wr W) (by kernel_rfl) ⟨HY.out.1, HY.out.2.1, HY.out.2.2⟩ (fun hHeld => ?_)
                        refine take_v (v := ?_) 0 ⟨some 95, Op.load 50 (Operand.tmp 9), _, _, _, none⟩ rfl (fun _ _ _ h => h) ?_ hHeld ?_
                        rotate_left
                        · (intro W hSW; have s0 := hSW.1.cell 0 rfl; have s1 := hSW.1.cell 1 rfl; have s2 := hSW.2.1.cell 0 rfl; have s3 := hSW.2.1.cell 1 rfl; have s4 := hSW.2.1.cell 2 rfl; go_simp <;> (try with_reducible rfl))
                        refine ready_call 1 ⟨some 96, Op.call { callee := Callee.value (Operand.func 53), args := #[Operand.tmp 95], argTypes := #[50] }, _, _, _, none⟩ (by kernel_rfl) rfl (by kernel_rfl) (fun KC hK => ?_)
                        go_wp2_with fail
                        refine (l4Hold_is hd _).mono ?_
                        rintro e w1 ⟨rfl, hb⟩
                        refine hK.out _ _ ⟨hHeld.1.next hb, hHeld.2.1.next hb, below_next hHeld.2.2 hb⟩ (fun hHeld => ?_)
                        clear hK KC
                        refine take_v (v := ?_) 2 ⟨some 97, Op.unOp UnOp.not 4 (Operand.tmp 96), _, _, _, none⟩ rfl (fun _ _ _ h => h) ?_ hHeld ?_
                        rotate_left
                        · (intro W _; go_simp <;> (try with_reducible rfl))
                        refine take_v (v := ?_) 3 ⟨some 98, Op.move (Operand.tmp 97), _, _, _, none⟩ rfl (fun _ _ _ h => h) ?_ hHeld ?_
                        rotate_left
                        · (intro W _; go_simp <;> (try with_reducible rfl))
                        refine take_v (v := ?_) 4 ⟨some 99, Op.move (Operand.tmp 3), _, _, _, some (3, false)⟩ rfl (fun _ _ _ h => h) ?_ hHeld ?_
                        rotate_left
                        · (intro W _; go_simp <;> (try with_reducible rfl))
                        refine take_v (v := ?_) 5 ⟨some 100, Op.fieldAddr 50 (Operand.tmp 9) 0, _, _, _, some (3, false)⟩ rfl (fun _ _ _ h => h) ?_ hHeld ?_
                        rotate_left
                        · (intro W _; go_simp <;> (try with_reducible rfl))
                        refine take_v (v := ?_) 6 ⟨some 101, Op.load 3 (Operand.tmp 100), _, _, _, some (3, false)⟩ rfl (fun _ _ _ h => h) ?_ hHeld ?_
                        rotate_left
                        · (intro W hSW; have s0 := hSW.1.cell 0 rfl; have s1 := hSW.1.cell 1 rfl; have s2 := hSW.2.1.cell 0 rfl; have s3 := hSW.2.1.cell 1 rfl; have s4 := hSW.2.1.cell 2 rfl; go_simp <;> (try with_reducible rfl))
                        refine ready_call 7 ⟨some 102, Op.call { callee := Callee.value (Operand.func 54), args := #[Operand.tmp 99, Operand.tmp 101], argTypes := #[26, 3] }, _, _, _, some (3, false)⟩ (by kernel_rfl) rfl (by kernel_rfl) (fun KC hK => ?_)
                        go_wp2_with fail
                        refine (l1Has_is _ _ _ hfh (by omega) (HL.out.1.kept hHeld.2.2)).mono ?_
                        rintro e w' ⟨rfl, hw'⟩
                        have hw' := hw'.symm
                        subst hw'
                        refine hK.out _ _ hHeld (fun hHeld => ?_)
                        clear hK KC
                        refine take_v (v := ?_) 8 ⟨some 103, Op.pick (Operand.tmp 98) (Operand.const (Value.bool true)) (Operand.tmp 102), _, _, _, none⟩ rfl (fun _ _ _ h => h) ?_ hHeld ?_
                        rotate_left
                        · (intro W _; go_simp <;> (try with_reducible rfl))
                        refine take_v (v := ?_) 9 ⟨some 104, Op.move (Operand.tmp 103), _, _, _, none⟩ rfl (fun _ _ _ h => h) ?_ hHeld ?_
                        rotate_left
                        · (intro W _; go_simp <;> (try with_reducible rfl))
                        refine take_v (v := ?_) 10 ⟨some 105, Op.move (Operand.tmp 8), _, _, _, some (9, false)⟩ rfl (fun _ _ _ h => h) ?_ hHeld ?_
                        rotate_left
                        · (intro W _; go_simp <;> (try with_reducible rfl))
                        refine take_v (v := ?_) 11 ⟨some 106, Op.binOp BinOp.eql 3 (Operand.tmp 105) (Operand.const (Value.int IntKind.i64 0)) 3, _, _, _, some (9, false)⟩ rfl (fun _ _ _ h => h) ?_ hHeld ?_
                        rotate_left
                        · (intro W _; go_simp <;> (try with_reducible rfl))
                        refine take_v (v := ?_) 12 ⟨some 107, Op.move (Operand.tmp 106), _, _, _, some (9, false)⟩ rfl (fun _ _ _ h => h) ?_ hHeld ?_
                        rotate_left
                        · (intro W _; go_simp <;> (try with_reducible rfl))
                        refine take_v (v := ?_) 13 ⟨some 108, Op.load 48 (Operand.tmp 5), _, _, _, some (12, true)⟩ rfl (fun _ _ _ h => h) ?_ hHeld ?_
                        rotate_left
                        · (intro W hSW; have s0 := hSW.1.cell 0 rfl; have s1 := hSW.1.cell 1 rfl; have s2 := hSW.2.1.cell 0 rfl; have s3 := hSW.2.1.cell 1 rfl; have s4 := hSW.2.1.cell 2 rfl; go_simp <;> (try with_reducible rfl))
                        refine take_v (v := ?_) 14 ⟨some 109, Op.load 50 (Operand.tmp 9), _, _, _, some (12, true)⟩ rfl (fun _ _ _ h => h) ?_ hHeld ?_
                        rotate_left
                        · (intro W hSW; have s0 := hSW.1.cell 0 rfl; have s1 := hSW.1.cell 1 rfl; have s2 := hSW.2.1.cell 0 rfl; have s3 := hSW.2.1.cell 1 rfl; have s4 := hSW.2.1.cell 2 rfl; go_simp <;> (try with_reducible rfl))
                        refine ready_call 15 ⟨some 110, Op.call { callee := Callee.value (Operand.func 55), args := #[Operand.tmp 108, Operand.tmp 109], argTypes := #[48, 50] }, _, _, _, some (12, true)⟩ (by kernel_rfl) rfl (by kernel_rfl) (fun KC hK => ?_)
                        go_wp2_with fail
                        refine (l4Can_is _ hfc hhn (HL.out.2.kept hHeld.2.2)).mono ?_
                        rintro e w3 ⟨rfl, hb⟩
                        refine hK.out _ _ ⟨hHeld.1.next hb, hHeld.2.1.next hb, below_next hHeld.2.2 hb⟩ (fun hHeld => ?_)
                        clear hK KC
                        refine take_v (v := ?_) 16 ⟨some 111, Op.pick (Operand.tmp 107) (Operand.tmp 110) (Operand.const (Value.bool false)), _, _, _, some (9, false)⟩ rfl (fun _ _ _ h => h) ?_ hHeld ?_
                        rotate_left
                        · (intro W _; go_simp <;> (try with_reducible rfl))
                        refine take_v (v := ?_) 17 ⟨some 112, Op.pick (Operand.tmp 104) (Operand.const (Value.bool true)) (Operand.tmp 111), _, _, _, none⟩ rfl (fun _ _ _ h => h) ?_ hHeld ?_
                        rotate_left
                        · (intro W _; go_simp <;> (try with_reducible rfl))
                        refine take_v (v := ?_) 18 ⟨some 113, Op.move (Operand.tmp 112), _, _, _, none⟩ rfl (fun _ _ _ h => h) ?_ hHeld ?_
                        rotate_left
                        · (intro W _; go_simp <;> (try with_reducible rfl))
                        refine take_n 19 ⟨some 114, Op.load 48 (Operand.tmp 5), _, _, _, some (18, false)⟩ rfl (fun _ _ _ h => h) hHeld ?_
                        refine take_n 20 ⟨some 115, Op.fieldAddr 50 (Operand.tmp 9) 0, _, _, _, some (18, false)⟩ rfl (fun _ _ _ h => h) hHeld ?_
                        refine take_n 21 ⟨some 116, Op.load 3 (Operand.tmp 115), _, _, _, some (18, false)⟩ rfl (fun _ _ _ h => h) hHeld ?_
                        refine take_n 22 ⟨some 117, Op.call { callee := Callee.value (Operand.func 56), args := #[Operand.tmp 114, Operand.tmp 116], argTypes := #[48, 3] }, _, _, _, some (18, false)⟩ rfl (fun _ _ _ h => h) hHeld ?_
                        refine take_n 23 ⟨some 118, Op.unOp UnOp.not 4 (Operand.tmp 117), _, _, _, some (18, false)⟩ rfl (fun _ _ _ h => h) hHeld ?_
                        refine take_v (v := ?_) 24 ⟨some 119, Op.pick (Operand.tmp 113) (Operand.const (Value.bool true)) (Operand.tmp 118), _, _, _, none⟩ rfl (fun _ _ _ h => h) ?_ hHeld ?_
                        rotate_left
                        · (intro W _; go_simp <;> (try with_reducible rfl))
                        refine take_v (v := ?_) 25 ⟨some 120, Op.move (Operand.tmp 119), _, _, _, none⟩ rfl (fun _ _ _ h => h) ?_ hHeld ?_
                        rotate_left
                        · (intro W _; go_simp <;> (try with_reducible rfl))
                        refine take_n 26 ⟨some 121, Op.move (Operand.tmp 8), _, _, _, some (25, false)⟩ rfl (fun _ _ _ h => h) hHeld ?_
                        refine take_n 27 ⟨some 122, Op.binOp BinOp.gtr 3 (Operand.tmp 121) (Operand.const (Value.int IntKind.i64 0)) 3, _, _, _, some (25, false)⟩ rfl (fun _ _ _ h => h) hHeld ?_
                        refine take_n 28 ⟨some 123, Op.move (Operand.tmp 122), _, _, _, some (25, false)⟩ rfl (fun _ _ _ h => h) hHeld ?_
                        refine take_n 29 ⟨some 124, Op.fieldAddr 48 (Operand.tmp 5) 2, _, _, _, some (28, true)⟩ rfl (fun _ _ _ h => h) hHeld ?_
                        refine take_n 30 ⟨some 125, Op.load 46 (Operand.tmp 124), _, _, _, some (28, true)⟩ rfl (fun _ _ _ h => h) hHeld ?_
                        refine take_n 31 ⟨some 126, Op.move (Operand.tmp 8), _, _, _, some (28, true)⟩ rfl (fun _ _ _ h => h) hHeld ?_
                        refine take_n 32 ⟨some 127, Op.binOp BinOp.sub 3 (Operand.tmp 126) (Operand.const (Value.int IntKind.i64 1)) 3, _, _, _, some (28, true)⟩ rfl (fun _ _ _ h => h) hHeld ?_
                        refine take_n 33 ⟨some 128, Op.indexAddr 46 (Operand.tmp 125) (Operand.tmp 127), _, _, _, some (28, true)⟩ rfl (fun _ _ _ h => h) hHeld ?_
                        refine take_n 34 ⟨some 129, Op.fieldAddr 50 (Operand.tmp 128) 0, _, _, _, some (28, true)⟩ rfl (fun _ _ _ h => h) hHeld ?_
                        refine take_n 35 ⟨some 130, Op.load 3 (Operand.tmp 129), _, _, _, some (28, true)⟩ rfl (fun _ _ _ h => h) hHeld ?_
                        refine take_n 36 ⟨some 131, Op.fieldAddr 50 (Operand.tmp 9) 0, _, _, _, some (28, true)⟩ rfl (fun _ _ _ h => h) hHeld ?_
                        refine take_n 37 ⟨some 132, Op.load 3 (Operand.tmp 131), _, _, _, some (28, true)⟩ rfl (fun _ _ _ h => h) hHeld ?_
                        refine take_n 38 ⟨some 133, Op.binOp BinOp.leq 3 (Operand.tmp 130) (Operand.tmp 132) 3, _, _, _, some (28, true)⟩ rfl (fun _ _ _ h => h) hHeld ?_
                        refine take_n 39 ⟨some 134, Op.pick (Operand.tmp 123) (Operand.tmp 133) (Operand.const (Value.bool false)), _, _, _, some (25, false)⟩ rfl (fun _ _ _ h => h) hHeld ?_
                        refine take_v (v := ?_) 40 ⟨some 135, Op.pick (Operand.tmp 120) (Operand.const (Value.bool true)) (Operand.tmp 134), _, _, _, none⟩ rfl (fun _ _ _ h => h) ?_ hHeld ?_
                        rotate_left
                        · (intro W _; go_simp <;> (try with_reducible rfl))
                        refine wpAnyH_done (by kernel_rfl) ?_ _
                        refine NoPanic.normal ?_
                        go_wp2_with fail
                        go_meet
                        exact ⟨by rw [HK.out], hHeld.1, hHeld.2.1, hHeld.2.2⟩
                    cases fe
                    · have HK : Hid (q16 = true) := HO.out.trans (by simp)
                      as_aux_lemma =>
                        refine wp_region_noPanic ?_
                        refine wp_region_held_drew (S := fun W => Bx W wr.heap.size [.int .i64 ((V i).w.t j), .int .i64 ((V i).w.m j)] ∧ Bx W wo.heap.size [.string (V i).key, .slice (A i).ha (V i).h.n (A i).hc, .slice (some ⟨b', off', none⟩) (V i).w.n (A i).wc] ∧ Below wr.heap.size wr W) (by kernel_rfl) ⟨HY.out.1, HY.out.2.1, HY.out.2.2⟩ (fun hHeld => ?_)
                        refine take_v (v := ?_) 0 ⟨some 95, Op.load 50 (Operand.tmp 9), _, _, _, none⟩ rfl (fun _ _ _ h => h) ?_ hHeld ?_
                        rotate_left
                        · (intro W hSW; have s0 := hSW.1.cell 0 rfl; have s1 := hSW.1.cell 1 rfl; have s2 := hSW.2.1.cell 0 rfl; have s3 := hSW.2.1.cell 1 rfl; have s4 := hSW.2.1.cell 2 rfl; go_simp <;> (try with_reducible rfl))
                        refine ready_call 1 ⟨some 96, Op.call { callee := Callee.value (Operand.func 53), args := #[Operand.tmp 95], argTypes := #[50] }, _, _, _, none⟩ (by kernel_rfl) rfl (by kernel_rfl) (fun KC hK => ?_)
                        go_wp2_with fail
                        refine (l4Hold_is hd _).mono ?_
                        rintro e w1 ⟨rfl, hb⟩
                        refine hK.out _ _ ⟨hHeld.1.next hb, hHeld.2.1.next hb, below_next hHeld.2.2 hb⟩ (fun hHeld => ?_)
                        clear hK KC
                        refine take_v (v := ?_) 2 ⟨some 97, Op.unOp UnOp.not 4 (Operand.tmp 96), _, _, _, none⟩ rfl (fun _ _ _ h => h) ?_ hHeld ?_
                        rotate_left
                        · (intro W _; go_simp <;> (try with_reducible rfl))
                        refine take_v (v := ?_) 3 ⟨some 98, Op.move (Operand.tmp 97), _, _, _, none⟩ rfl (fun _ _ _ h => h) ?_ hHeld ?_
                        rotate_left
                        · (intro W _; go_simp <;> (try with_reducible rfl))
                        refine take_v (v := ?_) 4 ⟨some 99, Op.move (Operand.tmp 3), _, _, _, some (3, false)⟩ rfl (fun _ _ _ h => h) ?_ hHeld ?_
                        rotate_left
                        · (intro W _; go_simp <;> (try with_reducible rfl))
                        refine take_v (v := ?_) 5 ⟨some 100, Op.fieldAddr 50 (Operand.tmp 9) 0, _, _, _, some (3, false)⟩ rfl (fun _ _ _ h => h) ?_ hHeld ?_
                        rotate_left
                        · (intro W _; go_simp <;> (try with_reducible rfl))
                        refine take_v (v := ?_) 6 ⟨some 101, Op.load 3 (Operand.tmp 100), _, _, _, some (3, false)⟩ rfl (fun _ _ _ h => h) ?_ hHeld ?_
                        rotate_left
                        · (intro W hSW; have s0 := hSW.1.cell 0 rfl; have s1 := hSW.1.cell 1 rfl; have s2 := hSW.2.1.cell 0 rfl; have s3 := hSW.2.1.cell 1 rfl; have s4 := hSW.2.1.cell 2 rfl; go_simp <;> (try with_reducible rfl))
                        refine ready_call 7 ⟨some 102, Op.call { callee := Callee.value (Operand.func 54), args := #[Operand.tmp 99, Operand.tmp 101], argTypes := #[26, 3] }, _, _, _, some (3, false)⟩ (by kernel_rfl) rfl (by kernel_rfl) (fun KC hK => ?_)
                        go_wp2_with fail
                        refine (l1Has_is _ _ _ hfh (by omega) (HL.out.1.kept hHeld.2.2)).mono ?_
                        rintro e w' ⟨rfl, hw'⟩
                        have hw' := hw'.symm
                        subst hw'
                        refine hK.out _ _ hHeld (fun hHeld => ?_)
                        clear hK KC
                        refine take_v (v := ?_) 8 ⟨some 103, Op.pick (Operand.tmp 98) (Operand.const (Value.bool true)) (Operand.tmp 102), _, _, _, none⟩ rfl (fun _ _ _ h => h) ?_ hHeld ?_
                        rotate_left
                        · (intro W _; go_simp <;> (try with_reducible rfl))
                        refine take_v (v := ?_) 9 ⟨some 104, Op.move (Operand.tmp 103), _, _, _, none⟩ rfl (fun _ _ _ h => h) ?_ hHeld ?_
                        rotate_left
                        · (intro W _; go_simp <;> (try with_reducible rfl))
                        refine take_v (v := ?_) 10 ⟨some 105, Op.move (Operand.tmp 8), _, _, _, some (9, false)⟩ rfl (fun _ _ _ h => h) ?_ hHeld ?_
                        rotate_left
                        · (intro W _; go_simp <;> (try with_reducible rfl))
                        refine take_v (v := ?_) 11 ⟨some 106, Op.binOp BinOp.eql 3 (Operand.tmp 105) (Operand.const (Value.int IntKind.i64 0)) 3, _, _, _, some (9, false)⟩ rfl (fun _ _ _ h => h) ?_ hHeld ?_
                        rotate_left
                        · (intro W _; go_simp <;> (try with_reducible rfl))
                        refine take_v (v := ?_) 12 ⟨some 107, Op.move (Operand.tmp 106), _, _, _, some (9, false)⟩ rfl (fun _ _ _ h => h) ?_ hHeld ?_
                        rotate_left
                        · (intro W _; go_simp <;> (try with_reducible rfl))
                        refine take_v (v := ?_) 13 ⟨some 108, Op.load 48 (Operand.tmp 5), _, _, _, some (12, true)⟩ rfl (fun _ _ _ h => h) ?_ hHeld ?_
                        rotate_left
                        · (intro W hSW; have s0 := hSW.1.cell 0 rfl; have s1 := hSW.1.cell 1 rfl; have s2 := hSW.2.1.cell 0 rfl; have s3 := hSW.2.1.cell 1 rfl; have s4 := hSW.2.1.cell 2 rfl; go_simp <;> (try with_reducible rfl))
                        refine take_v (v := ?_) 14 ⟨some 109, Op.load 50 (Operand.tmp 9), _, _, _, some (12, true)⟩ rfl (fun _ _ _ h => h) ?_ hHeld ?_
                        rotate_left
                        · (intro W hSW; have s0 := hSW.1.cell 0 rfl; have s1 := hSW.1.cell 1 rfl; have s2 := hSW.2.1.cell 0 rfl; have s3 := hSW.2.1.cell 1 rfl; have s4 := hSW.2.1.cell 2 rfl; go_simp <;> (try with_reducible rfl))
                        refine ready_call 15 ⟨some 110, Op.call { callee := Callee.value (Operand.func 55), args := #[Operand.tmp 108, Operand.tmp 109], argTypes := #[48, 50] }, _, _, _, some (12, true)⟩ (by kernel_rfl) rfl (by kernel_rfl) (fun KC hK => ?_)
                        go_wp2_with fail
                        refine (l4Can_is _ hfc hhn (HL.out.2.kept hHeld.2.2)).mono ?_
                        rintro e w3 ⟨rfl, hb⟩
                        refine hK.out _ _ ⟨hHeld.1.next hb, hHeld.2.1.next hb, below_next hHeld.2.2 hb⟩ (fun hHeld => ?_)
                        clear hK KC
                        refine take_v (v := ?_) 16 ⟨some 111, Op.pick (Operand.tmp 107) (Operand.tmp 110) (Operand.const (Value.bool false)), _, _, _, some (9, false)⟩ rfl (fun _ _ _ h => h) ?_ hHeld ?_
                        rotate_left
                        · (intro W _; go_simp <;> (try with_reducible rfl))
                        refine take_v (v := ?_) 17 ⟨some 112, Op.pick (Operand.tmp 104) (Operand.const (Value.bool true)) (Operand.tmp 111), _, _, _, none⟩ rfl (fun _ _ _ h => h) ?_ hHeld ?_
                        rotate_left
                        · (intro W _; go_simp <;> (try with_reducible rfl))
                        refine take_v (v := ?_) 18 ⟨some 113, Op.move (Operand.tmp 112), _, _, _, none⟩ rfl (fun _ _ _ h => h) ?_ hHeld ?_
                        rotate_left
                        · (intro W _; go_simp <;> (try with_reducible rfl))
                        refine take_v (v := ?_) 19 ⟨some 114, Op.load 48 (Operand.tmp 5), _, _, _, some (18, false)⟩ rfl (fun _ _ _ h => h) ?_ hHeld ?_
                        rotate_left
                        · (intro W hSW; have s0 := hSW.1.cell 0 rfl; have s1 := hSW.1.cell 1 rfl; have s2 := hSW.2.1.cell 0 rfl; have s3 := hSW.2.1.cell 1 rfl; have s4 := hSW.2.1.cell 2 rfl; go_simp <;> (try with_reducible rfl))
                        refine take_v (v := ?_) 20 ⟨some 115, Op.fieldAddr 50 (Operand.tmp 9) 0, _, _, _, some (18, false)⟩ rfl (fun _ _ _ h => h) ?_ hHeld ?_
                        rotate_left
                        · (intro W _; go_simp <;> (try with_reducible rfl))
                        refine take_v (v := ?_) 21 ⟨some 116, Op.load 3 (Operand.tmp 115), _, _, _, some (18, false)⟩ rfl (fun _ _ _ h => h) ?_ hHeld ?_
                        rotate_left
                        · (intro W hSW; have s0 := hSW.1.cell 0 rfl; have s1 := hSW.1.cell 1 rfl; have s2 := hSW.2.1.cell 0 rfl; have s3 := hSW.2.1.cell 1 rfl; have s4 := hSW.2.1.cell 2 rfl; go_simp <;> (try with_reducible rfl))
                        refine ready_call 22 ⟨some 117, Op.call { callee := Callee.value (Operand.func 56), args := #[Operand.tmp 114, Operand.tmp 116], argTypes := #[48, 3] }, _, _, _, some (18, false)⟩ (by kernel_rfl) rfl (by kernel_rfl) (fun KC hK => ?_)
                        go_wp2_with fail
                        refine (l4Elder_is _ hfe hhn (HL.out.2.kept hHeld.2.2)).mono ?_
                        rintro e w4 ⟨rfl, hb⟩
                        refine hK.out _ _ ⟨hHeld.1.next hb, hHeld.2.1.next hb, below_next hHeld.2.2 hb⟩ (fun hHeld => ?_)
                        clear hK KC
                        refine take_v (v := ?_) 23 ⟨some 118, Op.unOp UnOp.not 4 (Operand.tmp 117), _, _, _, some (18, false)⟩ rfl (fun _ _ _ h => h) ?_ hHeld ?_
                        rotate_left
                        · (intro W _; go_simp <;> (try with_reducible rfl))
                        refine take_v (v := ?_) 24 ⟨some 119, Op.pick (Operand.tmp 113) (Operand.const (Value.bool true)) (Operand.tmp 118), _, _, _, none⟩ rfl (fun _ _ _ h => h) ?_ hHeld ?_
                        rotate_left
                        · (intro W _; go_simp <;> (try with_reducible rfl))
                        refine take_v (v := ?_) 25 ⟨some 120, Op.move (Operand.tmp 119), _, _, _, none⟩ rfl (fun _ _ _ h => h) ?_ hHeld ?_
                        rotate_left
                        · (intro W _; go_simp <;> (try with_reducible rfl))
                        refine take_n 26 ⟨some 121, Op.move (Operand.tmp 8), _, _, _, some (25, false)⟩ rfl (fun _ _ _ h => h) hHeld ?_
                        refine take_n 27 ⟨some 122, Op.binOp BinOp.gtr 3 (Operand.tmp 121) (Operand.const (Value.int IntKind.i64 0)) 3, _, _, _, some (25, false)⟩ rfl (fun _ _ _ h => h) hHeld ?_
                        refine take_n 28 ⟨some 123, Op.move (Operand.tmp 122), _, _, _, some (25, false)⟩ rfl (fun _ _ _ h => h) hHeld ?_
                        refine take_n 29 ⟨some 124, Op.fieldAddr 48 (Operand.tmp 5) 2, _, _, _, some (28, true)⟩ rfl (fun _ _ _ h => h) hHeld ?_
                        refine take_n 30 ⟨some 125, Op.load 46 (Operand.tmp 124), _, _, _, some (28, true)⟩ rfl (fun _ _ _ h => h) hHeld ?_
                        refine take_n 31 ⟨some 126, Op.move (Operand.tmp 8), _, _, _, some (28, true)⟩ rfl (fun _ _ _ h => h) hHeld ?_
                        refine take_n 32 ⟨some 127, Op.binOp BinOp.sub 3 (Operand.tmp 126) (Operand.const (Value.int IntKind.i64 1)) 3, _, _, _, some (28, true)⟩ rfl (fun _ _ _ h => h) hHeld ?_
                        refine take_n 33 ⟨some 128, Op.indexAddr 46 (Operand.tmp 125) (Operand.tmp 127), _, _, _, some (28, true)⟩ rfl (fun _ _ _ h => h) hHeld ?_
                        refine take_n 34 ⟨some 129, Op.fieldAddr 50 (Operand.tmp 128) 0, _, _, _, some (28, true)⟩ rfl (fun _ _ _ h => h) hHeld ?_
                        refine take_n 35 ⟨some 130, Op.load 3 (Operand.tmp 129), _, _, _, some (28, true)⟩ rfl (fun _ _ _ h => h) hHeld ?_
                        refine take_n 36 ⟨some 131, Op.fieldAddr 50 (Operand.tmp 9) 0, _, _, _, some (28, true)⟩ rfl (fun _ _ _ h => h) hHeld ?_
                        refine take_n 37 ⟨some 132, Op.load 3 (Operand.tmp 131), _, _, _, some (28, true)⟩ rfl (fun _ _ _ h => h) hHeld ?_
                        refine take_n 38 ⟨some 133, Op.binOp BinOp.leq 3 (Operand.tmp 130) (Operand.tmp 132) 3, _, _, _, some (28, true)⟩ rfl (fun _ _ _ h => h) hHeld ?_
                        refine take_n 39 ⟨some 134, Op.pick (Operand.tmp 123) (Operand.tmp 133) (Operand.const (Value.bool false)), _, _, _, some (25, false)⟩ rfl (fun _ _ _ h => h) hHeld ?_
                        refine take_v (v := ?_) 40 ⟨some 135, Op.pick (Operand.tmp 120) (Operand.const (Value.bool true)) (Operand.tmp 134), _, _, _, none⟩ rfl (fun _ _ _ h => h) ?_ hHeld ?_
                        rotate_left
                        · (intro W _; go_simp <;> (try with_reducible rfl))
                        refine wpAnyH_done (by kernel_rfl) ?_ _
                        refine NoPanic.normal ?_
                        go_wp2_with fail
                        go_meet
                        exact ⟨by rw [HK.out], hHeld.1, hHeld.2.1, hHeld.2.2⟩
                    · have HK : Hid (q16 = false) := HO.out.trans (by rw [hk0n]; simp)
                      as_aux_lemma =>
                        refine wp_region_noPanic ?_
                        refine wp_region_held_drew (S := fun W => Bx W wr.heap.size [.int .i64 ((V i).w.t j), .int .i64 ((V i).w.m j)] ∧ Bx W wo.heap.size [.string (V i).key, .slice (A i).ha (V i).h.n (A i).hc, .slice (some ⟨b', off', none⟩) (V i).w.n (A i).wc] ∧ Below wr.heap.size wr W) (by kernel_rfl) ⟨HY.out.1, HY.out.2.1, HY.out.2.2⟩ (fun hHeld => ?_)
                        refine take_v (v := ?_) 0 ⟨some 95, Op.load 50 (Operand.tmp 9), _, _, _, none⟩ rfl (fun _ _ _ h => h) ?_ hHeld ?_
                        rotate_left
                        · (intro W hSW; have s0 := hSW.1.cell 0 rfl; have s1 := hSW.1.cell 1 rfl; have s2 := hSW.2.1.cell 0 rfl; have s3 := hSW.2.1.cell 1 rfl; have s4 := hSW.2.1.cell 2 rfl; go_simp <;> (try with_reducible rfl))
                        refine ready_call 1 ⟨some 96, Op.call { callee := Callee.value (Operand.func 53), args := #[Operand.tmp 95], argTypes := #[50] }, _, _, _, none⟩ (by kernel_rfl) rfl (by kernel_rfl) (fun KC hK => ?_)
                        go_wp2_with fail
                        refine (l4Hold_is hd _).mono ?_
                        rintro e w1 ⟨rfl, hb⟩
                        refine hK.out _ _ ⟨hHeld.1.next hb, hHeld.2.1.next hb, below_next hHeld.2.2 hb⟩ (fun hHeld => ?_)
                        clear hK KC
                        refine take_v (v := ?_) 2 ⟨some 97, Op.unOp UnOp.not 4 (Operand.tmp 96), _, _, _, none⟩ rfl (fun _ _ _ h => h) ?_ hHeld ?_
                        rotate_left
                        · (intro W _; go_simp <;> (try with_reducible rfl))
                        refine take_v (v := ?_) 3 ⟨some 98, Op.move (Operand.tmp 97), _, _, _, none⟩ rfl (fun _ _ _ h => h) ?_ hHeld ?_
                        rotate_left
                        · (intro W _; go_simp <;> (try with_reducible rfl))
                        refine take_v (v := ?_) 4 ⟨some 99, Op.move (Operand.tmp 3), _, _, _, some (3, false)⟩ rfl (fun _ _ _ h => h) ?_ hHeld ?_
                        rotate_left
                        · (intro W _; go_simp <;> (try with_reducible rfl))
                        refine take_v (v := ?_) 5 ⟨some 100, Op.fieldAddr 50 (Operand.tmp 9) 0, _, _, _, some (3, false)⟩ rfl (fun _ _ _ h => h) ?_ hHeld ?_
                        rotate_left
                        · (intro W _; go_simp <;> (try with_reducible rfl))
                        refine take_v (v := ?_) 6 ⟨some 101, Op.load 3 (Operand.tmp 100), _, _, _, some (3, false)⟩ rfl (fun _ _ _ h => h) ?_ hHeld ?_
                        rotate_left
                        · (intro W hSW; have s0 := hSW.1.cell 0 rfl; have s1 := hSW.1.cell 1 rfl; have s2 := hSW.2.1.cell 0 rfl; have s3 := hSW.2.1.cell 1 rfl; have s4 := hSW.2.1.cell 2 rfl; go_simp <;> (try with_reducible rfl))
                        refine ready_call 7 ⟨some 102, Op.call { callee := Callee.value (Operand.func 54), args := #[Operand.tmp 99, Operand.tmp 101], argTypes := #[26, 3] }, _, _, _, some (3, false)⟩ (by kernel_rfl) rfl (by kernel_rfl) (fun KC hK => ?_)
                        go_wp2_with fail
                        refine (l1Has_is _ _ _ hfh (by omega) (HL.out.1.kept hHeld.2.2)).mono ?_
                        rintro e w' ⟨rfl, hw'⟩
                        have hw' := hw'.symm
                        subst hw'
                        refine hK.out _ _ hHeld (fun hHeld => ?_)
                        clear hK KC
                        refine take_v (v := ?_) 8 ⟨some 103, Op.pick (Operand.tmp 98) (Operand.const (Value.bool true)) (Operand.tmp 102), _, _, _, none⟩ rfl (fun _ _ _ h => h) ?_ hHeld ?_
                        rotate_left
                        · (intro W _; go_simp <;> (try with_reducible rfl))
                        refine take_v (v := ?_) 9 ⟨some 104, Op.move (Operand.tmp 103), _, _, _, none⟩ rfl (fun _ _ _ h => h) ?_ hHeld ?_
                        rotate_left
                        · (intro W _; go_simp <;> (try with_reducible rfl))
                        refine take_v (v := ?_) 10 ⟨some 105, Op.move (Operand.tmp 8), _, _, _, some (9, false)⟩ rfl (fun _ _ _ h => h) ?_ hHeld ?_
                        rotate_left
                        · (intro W _; go_simp <;> (try with_reducible rfl))
                        refine take_v (v := ?_) 11 ⟨some 106, Op.binOp BinOp.eql 3 (Operand.tmp 105) (Operand.const (Value.int IntKind.i64 0)) 3, _, _, _, some (9, false)⟩ rfl (fun _ _ _ h => h) ?_ hHeld ?_
                        rotate_left
                        · (intro W _; go_simp <;> (try with_reducible rfl))
                        refine take_v (v := ?_) 12 ⟨some 107, Op.move (Operand.tmp 106), _, _, _, some (9, false)⟩ rfl (fun _ _ _ h => h) ?_ hHeld ?_
                        rotate_left
                        · (intro W _; go_simp <;> (try with_reducible rfl))
                        refine take_v (v := ?_) 13 ⟨some 108, Op.load 48 (Operand.tmp 5), _, _, _, some (12, true)⟩ rfl (fun _ _ _ h => h) ?_ hHeld ?_
                        rotate_left
                        · (intro W hSW; have s0 := hSW.1.cell 0 rfl; have s1 := hSW.1.cell 1 rfl; have s2 := hSW.2.1.cell 0 rfl; have s3 := hSW.2.1.cell 1 rfl; have s4 := hSW.2.1.cell 2 rfl; go_simp <;> (try with_reducible rfl))
                        refine take_v (v := ?_) 14 ⟨some 109, Op.load 50 (Operand.tmp 9), _, _, _, some (12, true)⟩ rfl (fun _ _ _ h => h) ?_ hHeld ?_
                        rotate_left
                        · (intro W hSW; have s0 := hSW.1.cell 0 rfl; have s1 := hSW.1.cell 1 rfl; have s2 := hSW.2.1.cell 0 rfl; have s3 := hSW.2.1.cell 1 rfl; have s4 := hSW.2.1.cell 2 rfl; go_simp <;> (try with_reducible rfl))
                        refine ready_call 15 ⟨some 110, Op.call { callee := Callee.value (Operand.func 55), args := #[Operand.tmp 108, Operand.tmp 109], argTypes := #[48, 50] }, _, _, _, some (12, true)⟩ (by kernel_rfl) rfl (by kernel_rfl) (fun KC hK => ?_)
                        go_wp2_with fail
                        refine (l4Can_is _ hfc hhn (HL.out.2.kept hHeld.2.2)).mono ?_
                        rintro e w3 ⟨rfl, hb⟩
                        refine hK.out _ _ ⟨hHeld.1.next hb, hHeld.2.1.next hb, below_next hHeld.2.2 hb⟩ (fun hHeld => ?_)
                        clear hK KC
                        refine take_v (v := ?_) 16 ⟨some 111, Op.pick (Operand.tmp 107) (Operand.tmp 110) (Operand.const (Value.bool false)), _, _, _, some (9, false)⟩ rfl (fun _ _ _ h => h) ?_ hHeld ?_
                        rotate_left
                        · (intro W _; go_simp <;> (try with_reducible rfl))
                        refine take_v (v := ?_) 17 ⟨some 112, Op.pick (Operand.tmp 104) (Operand.const (Value.bool true)) (Operand.tmp 111), _, _, _, none⟩ rfl (fun _ _ _ h => h) ?_ hHeld ?_
                        rotate_left
                        · (intro W _; go_simp <;> (try with_reducible rfl))
                        refine take_v (v := ?_) 18 ⟨some 113, Op.move (Operand.tmp 112), _, _, _, none⟩ rfl (fun _ _ _ h => h) ?_ hHeld ?_
                        rotate_left
                        · (intro W _; go_simp <;> (try with_reducible rfl))
                        refine take_v (v := ?_) 19 ⟨some 114, Op.load 48 (Operand.tmp 5), _, _, _, some (18, false)⟩ rfl (fun _ _ _ h => h) ?_ hHeld ?_
                        rotate_left
                        · (intro W hSW; have s0 := hSW.1.cell 0 rfl; have s1 := hSW.1.cell 1 rfl; have s2 := hSW.2.1.cell 0 rfl; have s3 := hSW.2.1.cell 1 rfl; have s4 := hSW.2.1.cell 2 rfl; go_simp <;> (try with_reducible rfl))
                        refine take_v (v := ?_) 20 ⟨some 115, Op.fieldAddr 50 (Operand.tmp 9) 0, _, _, _, some (18, false)⟩ rfl (fun _ _ _ h => h) ?_ hHeld ?_
                        rotate_left
                        · (intro W _; go_simp <;> (try with_reducible rfl))
                        refine take_v (v := ?_) 21 ⟨some 116, Op.load 3 (Operand.tmp 115), _, _, _, some (18, false)⟩ rfl (fun _ _ _ h => h) ?_ hHeld ?_
                        rotate_left
                        · (intro W hSW; have s0 := hSW.1.cell 0 rfl; have s1 := hSW.1.cell 1 rfl; have s2 := hSW.2.1.cell 0 rfl; have s3 := hSW.2.1.cell 1 rfl; have s4 := hSW.2.1.cell 2 rfl; go_simp <;> (try with_reducible rfl))
                        refine ready_call 22 ⟨some 117, Op.call { callee := Callee.value (Operand.func 56), args := #[Operand.tmp 114, Operand.tmp 116], argTypes := #[48, 3] }, _, _, _, some (18, false)⟩ (by kernel_rfl) rfl (by kernel_rfl) (fun KC hK => ?_)
                        go_wp2_with fail
                        refine (l4Elder_is _ hfe hhn (HL.out.2.kept hHeld.2.2)).mono ?_
                        rintro e w4 ⟨rfl, hb⟩
                        refine hK.out _ _ ⟨hHeld.1.next hb, hHeld.2.1.next hb, below_next hHeld.2.2 hb⟩ (fun hHeld => ?_)
                        clear hK KC
                        refine take_v (v := ?_) 23 ⟨some 118, Op.unOp UnOp.not 4 (Operand.tmp 117), _, _, _, some (18, false)⟩ rfl (fun _ _ _ h => h) ?_ hHeld ?_
                        rotate_left
                        · (intro W _; go_simp <;> (try with_reducible rfl))
                        refine take_v (v := ?_) 24 ⟨some 119, Op.pick (Operand.tmp 113) (Operand.const (Value.bool true)) (Operand.tmp 118), _, _, _, none⟩ rfl (fun _ _ _ h => h) ?_ hHeld ?_
                        rotate_left
                        · (intro W _; go_simp <;> (try with_reducible rfl))
                        refine take_v (v := ?_) 25 ⟨some 120, Op.move (Operand.tmp 119), _, _, _, none⟩ rfl (fun _ _ _ h => h) ?_ hHeld ?_
                        rotate_left
                        · (intro W _; go_simp <;> (try with_reducible rfl))
                        refine take_v (v := ?_) 26 ⟨some 121, Op.move (Operand.tmp 8), _, _, _, some (25, false)⟩ rfl (fun _ _ _ h => h) ?_ hHeld ?_
                        rotate_left
                        · (intro W _; go_simp <;> (try with_reducible rfl))
                        refine take_v (v := ?_) 27 ⟨some 122, Op.binOp BinOp.gtr 3 (Operand.tmp 121) (Operand.const (Value.int IntKind.i64 0)) 3, _, _, _, some (25, false)⟩ rfl (fun _ _ _ h => h) ?_ hHeld ?_
                        rotate_left
                        · (intro W _; go_simp <;> (try with_reducible rfl))
                        refine take_v (v := ?_) 28 ⟨some 123, Op.move (Operand.tmp 122), _, _, _, some (25, false)⟩ rfl (fun _ _ _ h => h) ?_ hHeld ?_
                        rotate_left
                        · (intro W _; go_simp <;> (try with_reducible rfl))
                        refine take_n 29 ⟨some 124, Op.fieldAddr 48 (Operand.tmp 5) 2, _, _, _, some (28, true)⟩ rfl (fun _ _ _ h => h) hHeld ?_
                        refine take_n 30 ⟨some 125, Op.load 46 (Operand.tmp 124), _, _, _, some (28, true)⟩ rfl (fun _ _ _ h => h) hHeld ?_
                        refine take_n 31 ⟨some 126, Op.move (Operand.tmp 8), _, _, _, some (28, true)⟩ rfl (fun _ _ _ h => h) hHeld ?_
                        refine take_n 32 ⟨some 127, Op.binOp BinOp.sub 3 (Operand.tmp 126) (Operand.const (Value.int IntKind.i64 1)) 3, _, _, _, some (28, true)⟩ rfl (fun _ _ _ h => h) hHeld ?_
                        refine take_n 33 ⟨some 128, Op.indexAddr 46 (Operand.tmp 125) (Operand.tmp 127), _, _, _, some (28, true)⟩ rfl (fun _ _ _ h => h) hHeld ?_
                        refine take_n 34 ⟨some 129, Op.fieldAddr 50 (Operand.tmp 128) 0, _, _, _, some (28, true)⟩ rfl (fun _ _ _ h => h) hHeld ?_
                        refine take_n 35 ⟨some 130, Op.load 3 (Operand.tmp 129), _, _, _, some (28, true)⟩ rfl (fun _ _ _ h => h) hHeld ?_
                        refine take_n 36 ⟨some 131, Op.fieldAddr 50 (Operand.tmp 9) 0, _, _, _, some (28, true)⟩ rfl (fun _ _ _ h => h) hHeld ?_
                        refine take_n 37 ⟨some 132, Op.load 3 (Operand.tmp 131), _, _, _, some (28, true)⟩ rfl (fun _ _ _ h => h) hHeld ?_
                        refine take_n 38 ⟨some 133, Op.binOp BinOp.leq 3 (Operand.tmp 130) (Operand.tmp 132) 3, _, _, _, some (28, true)⟩ rfl (fun _ _ _ h => h) hHeld ?_
                        refine take_v (v := ?_) 39 ⟨some 134, Op.pick (Operand.tmp 123) (Operand.tmp 133) (Operand.const (Value.bool false)), _, _, _, some (25, false)⟩ rfl (fun _ _ _ h => h) ?_ hHeld ?_
                        rotate_left
                        · (intro W _; go_simp <;> (try with_reducible rfl))
                        refine take_v (v := ?_) 40 ⟨some 135, Op.pick (Operand.tmp 120) (Operand.const (Value.bool true)) (Operand.tmp 134), _, _, _, none⟩ rfl (fun _ _ _ h => h) ?_ hHeld ?_
                        rotate_left
                        · (intro W _; go_simp <;> (try with_reducible rfl))
                        refine wpAnyH_done (by kernel_rfl) ?_ _
                        refine NoPanic.normal ?_
                        go_wp2_with fail
                        go_meet
                        exact ⟨by rw [HK.out], hHeld.1, hHeld.2.1, hHeld.2.2⟩
                  · have hp1 := hp (by omega)
                    obtain ⟨q, hq⟩ : ∃ q, q = j - 1 := ⟨_, rfl⟩
                    rw [← hq] at hp1 HO
                    have hwq : IntKind.i64.wrap ((j : Int) - 1) = (q : Int) := by rw [IntKind.wrap_i64]; omega
                    have hk0a : ((j : Int) == 0) = false := by simp; omega
                    have hk0b : decide (j = 0) = false := by simp; omega
                    have hq0 : (0 : Int) < (j : Int) := by omega
                    have hq0n : decide (0 < j) = true := by simp; omega
                    have hqn : (q : Int) < ((V i).w.n : Int) := by omega
                    have HP : Hid (wr.cell? ⟨b', off' + q * 2, none⟩ = some (.int .i64 ((V i).w.t q))) := hp1
                    clear hp hp1 hk0 hq
                    cases fe
                    · have HK : Hid (q16 = true) := HO.out.trans (by simp)
                      as_aux_lemma =>
                        refine wp_region_noPanic ?_
                        refine wp_region_held_drew (S := fun W => Bx W wr.heap.size [.int .i64 ((V i).w.t j), .int .i64 ((V i).w.m j)] ∧ Bx W wo.heap.size [.string (V i).key, .slice (A i).ha (V i).h.n (A i).hc, .slice (some ⟨b', off', none⟩) (V i).w.n (A i).wc] ∧ Below wr.heap.size wr W) (by kernel_rfl) ⟨HY.out.1, HY.out.2.1, HY.out.2.2⟩ (fun hHeld => ?_)
                        refine take_v (v := ?_) 0 ⟨some 95, Op.load 50 (Operand.tmp 9), _, _, _, none⟩ rfl (fun _ _ _ h => h) ?_ hHeld ?_
                        rotate_left
                        · (intro W hSW; have s0 := hSW.1.cell 0 rfl; have s1 := hSW.1.cell 1 rfl; have s2 := hSW.2.1.cell 0 rfl; have s3 := hSW.2.1.cell 1 rfl; have s4 := hSW.2.1.cell 2 rfl; have s5 := (hSW.2.2.cell (p := ⟨b', off' + q * 2, none⟩) hbs').trans HP.out; go_simp <;> (try with_reducible rfl))
                        refine ready_call 1 ⟨some 96, Op.call { callee := Callee.value (Operand.func 53), args := #[Operand.tmp 95], argTypes := #[50] }, _, _, _, none⟩ (by kernel_rfl) rfl (by kernel_rfl) (fun KC hK => ?_)
                        go_wp2_with fail
                        refine (l4Hold_is hd _).mono ?_
                        rintro e w1 ⟨rfl, hb⟩
                        refine hK.out _ _ ⟨hHeld.1.next hb, hHeld.2.1.next hb, below_next hHeld.2.2 hb⟩ (fun hHeld => ?_)
                        clear hK KC
                        refine take_v (v := ?_) 2 ⟨some 97, Op.unOp UnOp.not 4 (Operand.tmp 96), _, _, _, none⟩ rfl (fun _ _ _ h => h) ?_ hHeld ?_
                        rotate_left
                        · (intro W _; go_simp <;> (try with_reducible rfl))
                        refine take_v (v := ?_) 3 ⟨some 98, Op.move (Operand.tmp 97), _, _, _, none⟩ rfl (fun _ _ _ h => h) ?_ hHeld ?_
                        rotate_left
                        · (intro W _; go_simp <;> (try with_reducible rfl))
                        refine take_v (v := ?_) 4 ⟨some 99, Op.move (Operand.tmp 3), _, _, _, some (3, false)⟩ rfl (fun _ _ _ h => h) ?_ hHeld ?_
                        rotate_left
                        · (intro W _; go_simp <;> (try with_reducible rfl))
                        refine take_v (v := ?_) 5 ⟨some 100, Op.fieldAddr 50 (Operand.tmp 9) 0, _, _, _, some (3, false)⟩ rfl (fun _ _ _ h => h) ?_ hHeld ?_
                        rotate_left
                        · (intro W _; go_simp <;> (try with_reducible rfl))
                        refine take_v (v := ?_) 6 ⟨some 101, Op.load 3 (Operand.tmp 100), _, _, _, some (3, false)⟩ rfl (fun _ _ _ h => h) ?_ hHeld ?_
                        rotate_left
                        · (intro W hSW; have s0 := hSW.1.cell 0 rfl; have s1 := hSW.1.cell 1 rfl; have s2 := hSW.2.1.cell 0 rfl; have s3 := hSW.2.1.cell 1 rfl; have s4 := hSW.2.1.cell 2 rfl; have s5 := (hSW.2.2.cell (p := ⟨b', off' + q * 2, none⟩) hbs').trans HP.out; go_simp <;> (try with_reducible rfl))
                        refine ready_call 7 ⟨some 102, Op.call { callee := Callee.value (Operand.func 54), args := #[Operand.tmp 99, Operand.tmp 101], argTypes := #[26, 3] }, _, _, _, some (3, false)⟩ (by kernel_rfl) rfl (by kernel_rfl) (fun KC hK => ?_)
                        go_wp2_with fail
                        refine (l1Has_is _ _ _ hfh (by omega) (HL.out.1.kept hHeld.2.2)).mono ?_
                        rintro e w' ⟨rfl, hw'⟩
                        have hw' := hw'.symm
                        subst hw'
                        refine hK.out _ _ hHeld (fun hHeld => ?_)
                        clear hK KC
                        refine take_v (v := ?_) 8 ⟨some 103, Op.pick (Operand.tmp 98) (Operand.const (Value.bool true)) (Operand.tmp 102), _, _, _, none⟩ rfl (fun _ _ _ h => h) ?_ hHeld ?_
                        rotate_left
                        · (intro W _; go_simp <;> (try with_reducible rfl))
                        refine take_v (v := ?_) 9 ⟨some 104, Op.move (Operand.tmp 103), _, _, _, none⟩ rfl (fun _ _ _ h => h) ?_ hHeld ?_
                        rotate_left
                        · (intro W _; go_simp <;> (try with_reducible rfl))
                        refine take_v (v := ?_) 10 ⟨some 105, Op.move (Operand.tmp 8), _, _, _, some (9, false)⟩ rfl (fun _ _ _ h => h) ?_ hHeld ?_
                        rotate_left
                        · (intro W _; go_simp <;> (try with_reducible rfl))
                        refine take_v (v := ?_) 11 ⟨some 106, Op.binOp BinOp.eql 3 (Operand.tmp 105) (Operand.const (Value.int IntKind.i64 0)) 3, _, _, _, some (9, false)⟩ rfl (fun _ _ _ h => h) ?_ hHeld ?_
                        rotate_left
                        · (intro W _; go_simp <;> (try with_reducible rfl))
                        refine take_v (v := ?_) 12 ⟨some 107, Op.move (Operand.tmp 106), _, _, _, some (9, false)⟩ rfl (fun _ _ _ h => h) ?_ hHeld ?_
                        rotate_left
                        · (intro W _; go_simp <;> (try with_reducible rfl))
                        refine take_n 13 ⟨some 108, Op.load 48 (Operand.tmp 5), _, _, _, some (12, true)⟩ rfl (fun _ _ _ h => h) hHeld ?_
                        refine take_n 14 ⟨some 109, Op.load 50 (Operand.tmp 9), _, _, _, some (12, true)⟩ rfl (fun _ _ _ h => h) hHeld ?_
                        refine take_n 15 ⟨some 110, Op.call { callee := Callee.value (Operand.func 55), args := #[Operand.tmp 108, Operand.tmp 109], argTypes := #[48, 50] }, _, _, _, some (12, true)⟩ rfl (fun _ _ _ h => h) hHeld ?_
                        refine take_v (v := ?_) 16 ⟨some 111, Op.pick (Operand.tmp 107) (Operand.tmp 110) (Operand.const (Value.bool false)), _, _, _, some (9, false)⟩ rfl (fun _ _ _ h => h) ?_ hHeld ?_
                        rotate_left
                        · (intro W _; go_simp <;> (try with_reducible rfl))
                        refine take_v (v := ?_) 17 ⟨some 112, Op.pick (Operand.tmp 104) (Operand.const (Value.bool true)) (Operand.tmp 111), _, _, _, none⟩ rfl (fun _ _ _ h => h) ?_ hHeld ?_
                        rotate_left
                        · (intro W _; go_simp <;> (try with_reducible rfl))
                        refine take_v (v := ?_) 18 ⟨some 113, Op.move (Operand.tmp 112), _, _, _, none⟩ rfl (fun _ _ _ h => h) ?_ hHeld ?_
                        rotate_left
                        · (intro W _; go_simp <;> (try with_reducible rfl))
                        refine take_v (v := ?_) 19 ⟨some 114, Op.load 48 (Operand.tmp 5), _, _, _, some (18, false)⟩ rfl (fun _ _ _ h => h) ?_ hHeld ?_
                        rotate_left
                        · (intro W hSW; have s0 := hSW.1.cell 0 rfl; have s1 := hSW.1.cell 1 rfl; have s2 := hSW.2.1.cell 0 rfl; have s3 := hSW.2.1.cell 1 rfl; have s4 := hSW.2.1.cell 2 rfl; have s5 := (hSW.2.2.cell (p := ⟨b', off' + q * 2, none⟩) hbs').trans HP.out; go_simp <;> (try with_reducible rfl))
                        refine take_v (v := ?_) 20 ⟨some 115, Op.fieldAddr 50 (Operand.tmp 9) 0, _, _, _, some (18, false)⟩ rfl (fun _ _ _ h => h) ?_ hHeld ?_
                        rotate_left
                        · (intro W _; go_simp <;> (try with_reducible rfl))
                        refine take_v (v := ?_) 21 ⟨some 116, Op.load 3 (Operand.tmp 115), _, _, _, some (18, false)⟩ rfl (fun _ _ _ h => h) ?_ hHeld ?_
                        rotate_left
                        · (intro W hSW; have s0 := hSW.1.cell 0 rfl; have s1 := hSW.1.cell 1 rfl; have s2 := hSW.2.1.cell 0 rfl; have s3 := hSW.2.1.cell 1 rfl; have s4 := hSW.2.1.cell 2 rfl; have s5 := (hSW.2.2.cell (p := ⟨b', off' + q * 2, none⟩) hbs').trans HP.out; go_simp <;> (try with_reducible rfl))
                        refine ready_call 22 ⟨some 117, Op.call { callee := Callee.value (Operand.func 56), args := #[Operand.tmp 114, Operand.tmp 116], argTypes := #[48, 3] }, _, _, _, some (18, false)⟩ (by kernel_rfl) rfl (by kernel_rfl) (fun KC hK => ?_)
                        go_wp2_with fail
                        refine (l4Elder_is _ hfe hhn (HL.out.2.kept hHeld.2.2)).mono ?_
                        rintro e w4 ⟨rfl, hb⟩
                        refine hK.out _ _ ⟨hHeld.1.next hb, hHeld.2.1.next hb, below_next hHeld.2.2 hb⟩ (fun hHeld => ?_)
                        clear hK KC
                        refine take_v (v := ?_) 23 ⟨some 118, Op.unOp UnOp.not 4 (Operand.tmp 117), _, _, _, some (18, false)⟩ rfl (fun _ _ _ h => h) ?_ hHeld ?_
                        rotate_left
                        · (intro W _; go_simp <;> (try with_reducible rfl))
                        refine take_v (v := ?_) 24 ⟨some 119, Op.pick (Operand.tmp 113) (Operand.const (Value.bool true)) (Operand.tmp 118), _, _, _, none⟩ rfl (fun _ _ _ h => h) ?_ hHeld ?_
                        rotate_left
                        · (intro W _; go_simp <;> (try with_reducible rfl))
                        refine take_v (v := ?_) 25 ⟨some 120, Op.move (Operand.tmp 119), _, _, _, none⟩ rfl (fun _ _ _ h => h) ?_ hHeld ?_
                        rotate_left
                        · (intro W _; go_simp <;> (try with_reducible rfl))
                        refine take_n 26 ⟨some 121, Op.move (Operand.tmp 8), _, _, _, some (25, false)⟩ rfl (fun _ _ _ h => h) hHeld ?_
                        refine take_n 27 ⟨some 122, Op.binOp BinOp.gtr 3 (Operand.tmp 121) (Operand.const (Value.int IntKind.i64 0)) 3, _, _, _, some (25, false)⟩ rfl (fun _ _ _ h => h) hHeld ?_
                        refine take_n 28 ⟨some 123, Op.move (Operand.tmp 122), _, _, _, some (25, false)⟩ rfl (fun _ _ _ h => h) hHeld ?_
                        refine take_n 29 ⟨some 124, Op.fieldAddr 48 (Operand.tmp 5) 2, _, _, _, some (28, true)⟩ rfl (fun _ _ _ h => h) hHeld ?_
                        refine take_n 30 ⟨some 125, Op.load 46 (Operand.tmp 124), _, _, _, some (28, true)⟩ rfl (fun _ _ _ h => h) hHeld ?_
                        refine take_n 31 ⟨some 126, Op.move (Operand.tmp 8), _, _, _, some (28, true)⟩ rfl (fun _ _ _ h => h) hHeld ?_
                        refine take_n 32 ⟨some 127, Op.binOp BinOp.sub 3 (Operand.tmp 126) (Operand.const (Value.int IntKind.i64 1)) 3, _, _, _, some (28, true)⟩ rfl (fun _ _ _ h => h) hHeld ?_
                        refine take_n 33 ⟨some 128, Op.indexAddr 46 (Operand.tmp 125) (Operand.tmp 127), _, _, _, some (28, true)⟩ rfl (fun _ _ _ h => h) hHeld ?_
                        refine take_n 34 ⟨some 129, Op.fieldAddr 50 (Operand.tmp 128) 0, _, _, _, some (28, true)⟩ rfl (fun _ _ _ h => h) hHeld ?_
                        refine take_n 35 ⟨some 130, Op.load 3 (Operand.tmp 129), _, _, _, some (28, true)⟩ rfl (fun _ _ _ h => h) hHeld ?_
                        refine take_n 36 ⟨some 131, Op.fieldAddr 50 (Operand.tmp 9) 0, _, _, _, some (28, true)⟩ rfl (fun _ _ _ h => h) hHeld ?_
                        refine take_n 37 ⟨some 132, Op.load 3 (Operand.tmp 131), _, _, _, some (28, true)⟩ rfl (fun _ _ _ h => h) hHeld ?_
                        refine take_n 38 ⟨some 133, Op.binOp BinOp.leq 3 (Operand.tmp 130) (Operand.tmp 132) 3, _, _, _, some (28, true)⟩ rfl (fun _ _ _ h => h) hHeld ?_
                        refine take_n 39 ⟨some 134, Op.pick (Operand.tmp 123) (Operand.tmp 133) (Operand.const (Value.bool false)), _, _, _, some (25, false)⟩ rfl (fun _ _ _ h => h) hHeld ?_
                        refine take_v (v := ?_) 40 ⟨some 135, Op.pick (Operand.tmp 120) (Operand.const (Value.bool true)) (Operand.tmp 134), _, _, _, none⟩ rfl (fun _ _ _ h => h) ?_ hHeld ?_
                        rotate_left
                        · (intro W _; go_simp <;> (try with_reducible rfl))
                        refine wpAnyH_done (by kernel_rfl) ?_ _
                        refine NoPanic.normal ?_
                        go_wp2_with fail
                        go_meet
                        exact ⟨by rw [HK.out], hHeld.1, hHeld.2.1, hHeld.2.2⟩
                    · have HK : Hid (q16 = decide ((V i).w.t q ≤ (V i).w.t j)) := HO.out.trans (by rw [hk0b, hq0n]; simp)
                      as_aux_lemma =>
                        refine wp_region_noPanic ?_
                        refine wp_region_held_drew (S := fun W => Bx W wr.heap.size [.int .i64 ((V i).w.t j), .int .i64 ((V i).w.m j)] ∧ Bx W wo.heap.size [.string (V i).key, .slice (A i).ha (V i).h.n (A i).hc, .slice (some ⟨b', off', none⟩) (V i).w.n (A i).wc] ∧ Below wr.heap.size wr W) (by kernel_rfl) ⟨HY.out.1, HY.out.2.1, HY.out.2.2⟩ (fun hHeld => ?_)
                        refine take_v (v := ?_) 0 ⟨some 95, Op.load 50 (Operand.tmp 9), _, _, _, none⟩ rfl (fun _ _ _ h => h) ?_ hHeld ?_
                        rotate_left
                        · (intro W hSW; have s0 := hSW.1.cell 0 rfl; have s1 := hSW.1.cell 1 rfl; have s2 := hSW.2.1.cell 0 rfl; have s3 := hSW.2.1.cell 1 rfl; have s4 := hSW.2.1.cell 2 rfl; have s5 := (hSW.2.2.cell (p := ⟨b', off' + q * 2, none⟩) hbs').trans HP.out; go_simp <;> (try with_reducible rfl))
                        refine ready_call 1 ⟨some 96, Op.call { callee := Callee.value (Operand.func 53), args := #[Operand.tmp 95], argTypes := #[50] }, _, _, _, none⟩ (by kernel_rfl) rfl (by kernel_rfl) (fun KC hK => ?_)
                        go_wp2_with fail
                        refine (l4Hold_is hd _).mono ?_
                        rintro e w1 ⟨rfl, hb⟩
                        refine hK.out _ _ ⟨hHeld.1.next hb, hHeld.2.1.next hb, below_next hHeld.2.2 hb⟩ (fun hHeld => ?_)
                        clear hK KC
                        refine take_v (v := ?_) 2 ⟨some 97, Op.unOp UnOp.not 4 (Operand.tmp 96), _, _, _, none⟩ rfl (fun _ _ _ h => h) ?_ hHeld ?_
                        rotate_left
                        · (intro W _; go_simp <;> (try with_reducible rfl))
                        refine take_v (v := ?_) 3 ⟨some 98, Op.move (Operand.tmp 97), _, _, _, none⟩ rfl (fun _ _ _ h => h) ?_ hHeld ?_
                        rotate_left
                        · (intro W _; go_simp <;> (try with_reducible rfl))
                        refine take_v (v := ?_) 4 ⟨some 99, Op.move (Operand.tmp 3), _, _, _, some (3, false)⟩ rfl (fun _ _ _ h => h) ?_ hHeld ?_
                        rotate_left
                        · (intro W _; go_simp <;> (try with_reducible rfl))
                        refine take_v (v := ?_) 5 ⟨some 100, Op.fieldAddr 50 (Operand.tmp 9) 0, _, _, _, some (3, false)⟩ rfl (fun _ _ _ h => h) ?_ hHeld ?_
                        rotate_left
                        · (intro W _; go_simp <;> (try with_reducible rfl))
                        refine take_v (v := ?_) 6 ⟨some 101, Op.load 3 (Operand.tmp 100), _, _, _, some (3, false)⟩ rfl (fun _ _ _ h => h) ?_ hHeld ?_
                        rotate_left
                        · (intro W hSW; have s0 := hSW.1.cell 0 rfl; have s1 := hSW.1.cell 1 rfl; have s2 := hSW.2.1.cell 0 rfl; have s3 := hSW.2.1.cell 1 rfl; have s4 := hSW.2.1.cell 2 rfl; have s5 := (hSW.2.2.cell (p := ⟨b', off' + q * 2, none⟩) hbs').trans HP.out; go_simp <;> (try with_reducible rfl))
                        refine ready_call 7 ⟨some 102, Op.call { callee := Callee.value (Operand.func 54), args := #[Operand.tmp 99, Operand.tmp 101], argTypes := #[26, 3] }, _, _, _, some (3, false)⟩ (by kernel_rfl) rfl (by kernel_rfl) (fun KC hK => ?_)
                        go_wp2_with fail
                        refine (l1Has_is _ _ _ hfh (by omega) (HL.out.1.kept hHeld.2.2)).mono ?_
                        rintro e w' ⟨rfl, hw'⟩
                        have hw' := hw'.symm
                        subst hw'
                        refine hK.out _ _ hHeld (fun hHeld => ?_)
                        clear hK KC
                        refine take_v (v := ?_) 8 ⟨some 103, Op.pick (Operand.tmp 98) (Operand.const (Value.bool true)) (Operand.tmp 102), _, _, _, none⟩ rfl (fun _ _ _ h => h) ?_ hHeld ?_
                        rotate_left
                        · (intro W _; go_simp <;> (try with_reducible rfl))
                        refine take_v (v := ?_) 9 ⟨some 104, Op.move (Operand.tmp 103), _, _, _, none⟩ rfl (fun _ _ _ h => h) ?_ hHeld ?_
                        rotate_left
                        · (intro W _; go_simp <;> (try with_reducible rfl))
                        refine take_v (v := ?_) 10 ⟨some 105, Op.move (Operand.tmp 8), _, _, _, some (9, false)⟩ rfl (fun _ _ _ h => h) ?_ hHeld ?_
                        rotate_left
                        · (intro W _; go_simp <;> (try with_reducible rfl))
                        refine take_v (v := ?_) 11 ⟨some 106, Op.binOp BinOp.eql 3 (Operand.tmp 105) (Operand.const (Value.int IntKind.i64 0)) 3, _, _, _, some (9, false)⟩ rfl (fun _ _ _ h => h) ?_ hHeld ?_
                        rotate_left
                        · (intro W _; go_simp <;> (try with_reducible rfl))
                        refine take_v (v := ?_) 12 ⟨some 107, Op.move (Operand.tmp 106), _, _, _, some (9, false)⟩ rfl (fun _ _ _ h => h) ?_ hHeld ?_
                        rotate_left
                        · (intro W _; go_simp <;> (try with_reducible rfl))
                        refine take_n 13 ⟨some 108, Op.load 48 (Operand.tmp 5), _, _, _, some (12, true)⟩ rfl (fun _ _ _ h => h) hHeld ?_
                        refine take_n 14 ⟨some 109, Op.load 50 (Operand.tmp 9), _, _, _, some (12, true)⟩ rfl (fun _ _ _ h => h) hHeld ?_
                        refine take_n 15 ⟨some 110, Op.call { callee := Callee.value (Operand.func 55), args := #[Operand.tmp 108, Operand.tmp 109], argTypes := #[48, 50] }, _, _, _, some (12, true)⟩ rfl (fun _ _ _ h => h) hHeld ?_
                        refine take_v (v := ?_) 16 ⟨some 111, Op.pick (Operand.tmp 107) (Operand.tmp 110) (Operand.const (Value.bool false)), _, _, _, some (9, false)⟩ rfl (fun _ _ _ h => h) ?_ hHeld ?_
                        rotate_left
                        · (intro W _; go_simp <;> (try with_reducible rfl))
                        refine take_v (v := ?_) 17 ⟨some 112, Op.pick (Operand.tmp 104) (Operand.const (Value.bool true)) (Operand.tmp 111), _, _, _, none⟩ rfl (fun _ _ _ h => h) ?_ hHeld ?_
                        rotate_left
                        · (intro W _; go_simp <;> (try with_reducible rfl))
                        refine take_v (v := ?_) 18 ⟨some 113, Op.move (Operand.tmp 112), _, _, _, none⟩ rfl (fun _ _ _ h => h) ?_ hHeld ?_
                        rotate_left
                        · (intro W _; go_simp <;> (try with_reducible rfl))
                        refine take_v (v := ?_) 19 ⟨some 114, Op.load 48 (Operand.tmp 5), _, _, _, some (18, false)⟩ rfl (fun _ _ _ h => h) ?_ hHeld ?_
                        rotate_left
                        · (intro W hSW; have s0 := hSW.1.cell 0 rfl; have s1 := hSW.1.cell 1 rfl; have s2 := hSW.2.1.cell 0 rfl; have s3 := hSW.2.1.cell 1 rfl; have s4 := hSW.2.1.cell 2 rfl; have s5 := (hSW.2.2.cell (p := ⟨b', off' + q * 2, none⟩) hbs').trans HP.out; go_simp <;> (try with_reducible rfl))
                        refine take_v (v := ?_) 20 ⟨some 115, Op.fieldAddr 50 (Operand.tmp 9) 0, _, _, _, some (18, false)⟩ rfl (fun _ _ _ h => h) ?_ hHeld ?_
                        rotate_left
                        · (intro W _; go_simp <;> (try with_reducible rfl))
                        refine take_v (v := ?_) 21 ⟨some 116, Op.load 3 (Operand.tmp 115), _, _, _, some (18, false)⟩ rfl (fun _ _ _ h => h) ?_ hHeld ?_
                        rotate_left
                        · (intro W hSW; have s0 := hSW.1.cell 0 rfl; have s1 := hSW.1.cell 1 rfl; have s2 := hSW.2.1.cell 0 rfl; have s3 := hSW.2.1.cell 1 rfl; have s4 := hSW.2.1.cell 2 rfl; have s5 := (hSW.2.2.cell (p := ⟨b', off' + q * 2, none⟩) hbs').trans HP.out; go_simp <;> (try with_reducible rfl))
                        refine ready_call 22 ⟨some 117, Op.call { callee := Callee.value (Operand.func 56), args := #[Operand.tmp 114, Operand.tmp 116], argTypes := #[48, 3] }, _, _, _, some (18, false)⟩ (by kernel_rfl) rfl (by kernel_rfl) (fun KC hK => ?_)
                        go_wp2_with fail
                        refine (l4Elder_is _ hfe hhn (HL.out.2.kept hHeld.2.2)).mono ?_
                        rintro e w4 ⟨rfl, hb⟩
                        refine hK.out _ _ ⟨hHeld.1.next hb, hHeld.2.1.next hb, below_next hHeld.2.2 hb⟩ (fun hHeld => ?_)
                        clear hK KC
                        refine take_v (v := ?_) 23 ⟨some 118, Op.unOp UnOp.not 4 (Operand.tmp 117), _, _, _, some (18, false)⟩ rfl (fun _ _ _ h => h) ?_ hHeld ?_
                        rotate_left
                        · (intro W _; go_simp <;> (try with_reducible rfl))
                        refine take_v (v := ?_) 24 ⟨some 119, Op.pick (Operand.tmp 113) (Operand.const (Value.bool true)) (Operand.tmp 118), _, _, _, none⟩ rfl (fun _ _ _ h => h) ?_ hHeld ?_
                        rotate_left
                        · (intro W _; go_simp <;> (try with_reducible rfl))
                        refine take_v (v := ?_) 25 ⟨some 120, Op.move (Operand.tmp 119), _, _, _, none⟩ rfl (fun _ _ _ h => h) ?_ hHeld ?_
                        rotate_left
                        · (intro W _; go_simp <;> (try with_reducible rfl))
                        refine take_v (v := ?_) 26 ⟨some 121, Op.move (Operand.tmp 8), _, _, _, some (25, false)⟩ rfl (fun _ _ _ h => h) ?_ hHeld ?_
                        rotate_left
                        · (intro W _; go_simp <;> (try with_reducible rfl))
                        refine take_v (v := ?_) 27 ⟨some 122, Op.binOp BinOp.gtr 3 (Operand.tmp 121) (Operand.const (Value.int IntKind.i64 0)) 3, _, _, _, some (25, false)⟩ rfl (fun _ _ _ h => h) ?_ hHeld ?_
                        rotate_left
                        · (intro W _; go_simp <;> (try with_reducible rfl))
                        refine take_v (v := ?_) 28 ⟨some 123, Op.move (Operand.tmp 122), _, _, _, some (25, false)⟩ rfl (fun _ _ _ h => h) ?_ hHeld ?_
                        rotate_left
                        · (intro W _; go_simp <;> (try with_reducible rfl))
                        refine take_v (v := ?_) 29 ⟨some 124, Op.fieldAddr 48 (Operand.tmp 5) 2, _, _, _, some (28, true)⟩ rfl (fun _ _ _ h => h) ?_ hHeld ?_
                        rotate_left
                        · (intro W _; go_simp <;> (try with_reducible rfl))
                        refine take_v (v := ?_) 30 ⟨some 125, Op.load 46 (Operand.tmp 124), _, _, _, some (28, true)⟩ rfl (fun _ _ _ h => h) ?_ hHeld ?_
                        rotate_left
                        · (intro W hSW; have s0 := hSW.1.cell 0 rfl; have s1 := hSW.1.cell 1 rfl; have s2 := hSW.2.1.cell 0 rfl; have s3 := hSW.2.1.cell 1 rfl; have s4 := hSW.2.1.cell 2 rfl; have s5 := (hSW.2.2.cell (p := ⟨b', off' + q * 2, none⟩) hbs').trans HP.out; go_simp <;> (try with_reducible rfl))
                        refine take_v (v := ?_) 31 ⟨some 126, Op.move (Operand.tmp 8), _, _, _, some (28, true)⟩ rfl (fun _ _ _ h => h) ?_ hHeld ?_
                        rotate_left
                        · (intro W _; go_simp <;> (try with_reducible rfl))
                        refine take_v (v := ?_) 32 ⟨some 127, Op.binOp BinOp.sub 3 (Operand.tmp 126) (Operand.const (Value.int IntKind.i64 1)) 3, _, _, _, some (28, true)⟩ rfl (fun _ _ _ h => h) ?_ hHeld ?_
                        rotate_left
                        · (intro W _; go_simp <;> (try with_reducible rfl))
                        refine take_v (v := ?_) 33 ⟨some 128, Op.indexAddr 46 (Operand.tmp 125) (Operand.tmp 127), _, _, _, some (28, true)⟩ rfl (fun _ _ _ h => h) ?_ hHeld ?_
                        rotate_left
                        · (intro W _; go_simp <;> (try with_reducible rfl))
                        refine take_v (v := ?_) 34 ⟨some 129, Op.fieldAddr 50 (Operand.tmp 128) 0, _, _, _, some (28, true)⟩ rfl (fun _ _ _ h => h) ?_ hHeld ?_
                        rotate_left
                        · (intro W _; go_simp <;> (try with_reducible rfl))
                        refine take_v (v := ?_) 35 ⟨some 130, Op.load 3 (Operand.tmp 129), _, _, _, some (28, true)⟩ rfl (fun _ _ _ h => h) ?_ hHeld ?_
                        rotate_left
                        · (intro W hSW; have s0 := hSW.1.cell 0 rfl; have s1 := hSW.1.cell 1 rfl; have s2 := hSW.2.1.cell 0 rfl; have s3 := hSW.2.1.cell 1 rfl; have s4 := hSW.2.1.cell 2 rfl; have s5 := (hSW.2.2.cell (p := ⟨b', off' + q * 2, none⟩) hbs').trans HP.out; go_simp <;> (try with_reducible rfl))
                        refine take_v (v := ?_) 36 ⟨some 131, Op.fieldAddr 50 (Operand.tmp 9) 0, _, _, _, some (28, true)⟩ rfl (fun _ _ _ h => h) ?_ hHeld ?_
                        rotate_left
                        · (intro W _; go_simp <;> (try with_reducible rfl))
                        refine take_v (v := ?_) 37 ⟨some 132, Op.load 3 (Operand.tmp 131), _, _, _, some (28, true)⟩ rfl (fun _ _ _ h => h) ?_ hHeld ?_
                        rotate_left
                        · (intro W hSW; have s0 := hSW.1.cell 0 rfl; have s1 := hSW.1.cell 1 rfl; have s2 := hSW.2.1.cell 0 rfl; have s3 := hSW.2.1.cell 1 rfl; have s4 := hSW.2.1.cell 2 rfl; have s5 := (hSW.2.2.cell (p := ⟨b', off' + q * 2, none⟩) hbs').trans HP.out; go_simp <;> (try with_reducible rfl))
                        refine take_v (v := ?_) 38 ⟨some 133, Op.binOp BinOp.leq 3 (Operand.tmp 130) (Operand.tmp 132) 3, _, _, _, some (28, true)⟩ rfl (fun _ _ _ h => h) ?_ hHeld ?_
                        rotate_left
                        · (intro W _; go_simp <;> (try with_reducible rfl))
                        refine take_v (v := ?_) 39 ⟨some 134, Op.pick (Operand.tmp 123) (Operand.tmp 133) (Operand.const (Value.bool false)), _, _, _, some (25, false)⟩ rfl (fun _ _ _ h => h) ?_ hHeld ?_
                        rotate_left
                        · (intro W _; go_simp <;> (try with_reducible rfl))
                        refine take_v (v := ?_) 40 ⟨some 135, Op.pick (Operand.tmp 120) (Operand.const (Value.bool true)) (Operand.tmp 134), _, _, _, none⟩ rfl (fun _ _ _ h => h) ?_ hHeld ?_
                        rotate_left
                        · (intro W _; go_simp <;> (try with_reducible rfl))
                        refine wpAnyH_done (by kernel_rfl) ?_ _
                        refine NoPanic.normal ?_
                        go_wp2_with fail
                        go_meet
                        exact ⟨by rw [HK.out], hHeld.1, hHeld.2.1, hHeld.2.2⟩
                case rest =>
                  obtain ⟨rfl, hbh, hbx2, hb2⟩ := hcut
                  have HF : Hid (wc.ownsRow w.heap.size 3 1 (.slice a3 m cap3) m (ints X m) ∧ Bx wc wo.heap.size [.string (V i).key, .slice (A i).ha (V i).h.n (A i).hc, .slice (some ⟨b', off', none⟩) (V i).w.n (A i).wc] ∧ Below w.heap.size w wc) := ⟨own_keep HR.out.2.1 hb2, hbx2, below_next HR.out.2.2.2 hb2⟩
                  have g0 := hbh.cell 0 rfl
                  have gz := hbh.2
                  have hzc : w.heap.size ≤ wc.heap.size := HF.out.2.2.size
                  clear hp c0 c1 hb2 HY HL d2 dz hbx2 hbh
                  cases q16
                  · have HY : Hid (wait1 (V i).h (V i).w j ∧ seenB V i j ((V i).w.t j) = false) := by
                      have := HO.out
                      rw [← hd, ← hfh, ← hfc, ← hfe, HR.out.2.2.1] at this
                      simp only [Bool.false_eq, Bool.or_eq_false_iff, Bool.not_eq_false', Bool.and_eq_false_iff, decide_eq_false_iff_not] at this
                      obtain ⟨⟨⟨⟨h1, h2⟩, h3⟩, h4⟩, h5⟩ := this
                      exact ⟨⟨h1, fun h0 => by subst h0; exact h3.resolve_left (fun q => q rfl), h4, fun h0 => by have := h5.resolve_left (fun q => q h0); omega⟩, h2⟩
                    obtain ⟨i0, hi0, hz0, hz1, hz2⟩ := info_parts info_int
                    go_wp2_with (first
                      | (at_builtin; refine wpList_append_own_at _ rfl (.tmp 136) (.tmp 139) 26 rfl w.heap.size 3 i0 (.int .i64 0) 1 8 Try.underlying26 hi0 hz0 hz1 hz2 rfl (by decide) (.slice a3 m cap3) m (ints X m) rfl (World.ownsRow.alloc HF.out.1 _) ⟨_, 0, none⟩ 1 1 [.int .i64 ((V i).w.t j)] rfl rfl (one_at (by first | rfl | simp) _ _) (by intro u hu; simp at hu; subst hu; rfl) (by unfold maxLen; omega) (by omega) (by simp <;> omega) ?_; intro v4 w4 hown hgrow hnil hwhere)
                      | go_in)
                    have hb4 : Below w.heap.size w w4 := (HF.out.2.2.alloc hzc _).grown hgrow (by simp; omega) (fun j hj => (HF.out.1.lt j hj).1)
                    have HG : Hid (WR V w.heap.size w4 v4 i (j + 1) ∧ Apart v4 wo.heap.size ∧ Bx w4 wo.heap.size [.string (V i).key, .slice (A i).ha (V i).h.n (A i).hc, .slice (some ⟨b', off', none⟩) (V i).w.n (A i).wc] ∧ Below w.heap.size w w4) := by
                      refine ⟨⟨m + 1, snoc X m ((V i).w.t j), by rw [ints_snoc]; exact hown, by omega, fun t => ?_⟩, ?_, ?_, hb4⟩
                      · rw [hasN_snoc, HR.out.2.2.1]; simp only [seenB, hasN]; rw [Bool.or_assoc]
                      · intro k hk
                        rcases hwhere with e | e
                        · rw [e] at hk; exact HAP.out.1 k hk
                        · rw [e] at hk
                          simp only [Option.some.injEq, World.size_alloc] at hk
                          have := HF.out.2.1.2
                          omega
                      · exact (HF.out.2.1.alloc _).grown hgrow (hgrow.size) (fun e => HAP.out.1 _ e.symm rfl)
                    clear hown hgrow hnil hb4 hwhere
                    go_wp2
                    go_roundw
                    case rel => exact ⟨j + 1, by omega, by go_num, upto_succ HR.out.1 HY.out, HG.out.1, HG.out.2.1, (by first | exact HG.out.2.2.1 | (rw [hwa]; exact HG.out.2.2.1)), HG.out.2.2.2⟩
                    case measure => simp [intOf]; omega
                  · have HN : Hid (goodL V n = false) := good_bad hlt (fun g => by
                      have := HO.out
                      have h1 := g.2.2.2 j hlj
                      rw [← hd, ← hfh, ← hfc, ← hfe, HR.out.2.2.1, h1.2, h1.1.1, h1.1.2.2.1] at this
                      by_cases h0 : j = 0
                      · subst h0
                        rw [h1.1.2.1 rfl] at this
                        simp at this
                      · have h4 := h1.1.2.2.2 (by omega)
                        have e4 : decide ((V i).w.t (j - 1) ≤ (V i).w.t j) = false := by simp; omega
                        have e5 : decide (j = 0) = false := by simp; omega
                        rw [e4, e5] at this; simp at this)
                    go_wp2
                    go_ret
                    exact ⟨ret_bool HN.out.symm, HF.out.2.2⟩
              · have hjn : j = (V i).w.n := by omega
                have hlj' : ¬ (j : Int) < ((V i).w.n : Int) := by omega
                have HG : Hid (lock1 V i ∧ WR V w.heap.size wr u3 (i + 1) 0 ∧ Below w.heap.size w wr) := ⟨⟨HD.out.1, HD.out.2.2, HP.out, fun q hq => hwa1 q (by omega)⟩, WR.up (by rw [hjn] at hW; exact hW) HD.out.2.2, hBr⟩
                clear hwa1 hW hap hbx hBr hjn
                go_wp2
                go_roundw
                case rel => exact ⟨i + 1, by omega, by go_num, upto_succ HH.out.1 HG.out.1, HG.out.2.1, HG.out.2.2⟩
                case measure => simp [intOf]; omega
    · have hkn : i = n := by omega
      subst hkn
      have HB : Hid (Below w.heap.size w wo) := hBr
      by_cases h20 : i ≤ 20
      · have h20' : (i : Int) ≤ 20 := by omega
        have HN : Hid (goodL V i = true) := good_yes ⟨h20, hall⟩
        clear hall hW hBr
        go_wp2
        go_ret
        exact ⟨ret_bool HN.out.symm, HB.out⟩
      · have h20' : ¬ (i : Int) ≤ 20 := by omega
        have HN : Hid (goodL V i = false) := good_no (fun h => h20 h.1)
        clear hall hW hBr
        go_wp2
        go_ret
        exact ⟨ret_bool HN.out.symm, HB.out⟩
end Go.Proofs.Ytnapgnkhajkbkaa
