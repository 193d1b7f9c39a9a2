/- The contract of areWaits. -/
import Derived.Test.YtnapgnkhajkbkaaGlI
namespace Go.Proofs.Ytnapgnkhajkbkaa
open Go.RowKit
set_option linter.unusedVariables false

theorem isEldest_is {t : Int} {n : Nat} {T M : Nat → Int} {q : Bool} (a : Option Addr) (cap : Nat) (w : World) (h : eldN T t n = q) (hn : n ≤ 1048576) (hs : Sl w a n 2 (hdF T M)) :
    Calls Try.prog 94 #[.int .i64 t, .slice a n cap] w fun r w' => r = .returned (.bool q) ∧ Below w.heap.size w w' := h ▸ isEldest_any t a n cap T M w hn hs
theorem canBe_is {n : Nat} {T M : Nat → Int} {t m : Int} {q : Bool} (a : Option Addr) (cap : Nat) (w : World) (h : canN T M t m n = q) (hn : n ≤ 1048576) (hs : Sl w a n 2 (hdF T M)) :
    Calls Try.prog 75 #[.slice a n cap, .agg #[.int .i64 t, .int .i64 m]] w fun r w' => r = .returned (.bool q) ∧ Below w.heap.size w w' := h ▸ canBeGranted_any a n cap T M t m w hn hs
theorem Sl.le {w : World} {a : Option Addr} {n m c : Nat} {F : Nat → Nat → Value} (h : Sl w a n c F) (hm : m ≤ n) : Sl w a m c F := by
  rcases h with h | ⟨b, off, e, hb, hE⟩
  · exact Or.inl (by omega)
  · exact Or.inr ⟨b, off, e, hb, hE.le hm⟩
theorem aw_keep {w W w1 : World} {g : Nat} {u0 u1 u2 u3 : Value} (hz : w.heap.size ≤ g) (hb : Below W.heap.size W w1) (h : W.cell? ⟨g, 0, none⟩ = some u0 ∧ W.cell? ⟨g, 1, none⟩ = some u1 ∧ W.cell? ⟨w.heap.size, 1, none⟩ = some u2 ∧ W.cell? ⟨w.heap.size, 2, none⟩ = some u3 ∧ g < W.heap.size ∧ Below w.heap.size w W) :
    w1.cell? ⟨g, 0, none⟩ = some u0 ∧ w1.cell? ⟨g, 1, none⟩ = some u1 ∧ w1.cell? ⟨w.heap.size, 1, none⟩ = some u2 ∧ w1.cell? ⟨w.heap.size, 2, none⟩ = some u3 ∧ g < w1.heap.size ∧ Below w.heap.size w w1 := by
  obtain ⟨h0, h1, h2, h3, h4, h5⟩ := h
  exact ⟨(hb.cell (p := ⟨g, 0, none⟩) h4).trans h0, (hb.cell (p := ⟨g, 1, none⟩) h4).trans h1, (hb.cell (p := ⟨w.heap.size, 1, none⟩) (show w.heap.size < W.heap.size by omega)).trans h2, (hb.cell (p := ⟨w.heap.size, 2, none⟩) (show w.heap.size < W.heap.size by omega)).trans h3, Nat.lt_of_lt_of_le h4 hb.size, below_next h5 hb⟩
def wItem (h w : HL) (j : Nat) : Prop := hdOk (w.t j) (w.m j) = true ∧ eldN h.t (w.t j) h.n = true ∧ eldN w.t (w.t j) j = true
theorem waits_no {h w : HL} {k : Nat} (hk : k < w.n) (g : ¬ wItem h w k) : decide (waitsP h w) = false := by
  simp only [decide_eq_false_iff_not]; exact fun q => g (q.2.1 k hk)

set_option maxRecDepth 100000 in
set_option maxHeartbeats 4000000 in
theorem areWaits_any (key : ByteArray) (ha wa : Option Addr) (hc wc : Nat) (h w' : HL) (w : World) (hh : h.n ≤ 1048576) (hw : w'.n ≤ 1048576) (hwc : w'.n ≤ wc) (hs : Sl w ha h.n 2 (hdF h.t h.m)) (hs' : Sl w wa w'.n 2 (hdF w'.t w'.m)) :
    Calls Try.prog 51 #[.agg #[.string key, .slice ha h.n hc, .slice wa w'.n wc]] w fun r w2 => r = .returned (.bool (decide (waitsP h w'))) ∧ Below w.heap.size w w2 := by
  have HS : Hid (Sl w ha h.n 2 (hdF h.t h.m) ∧ Sl w wa w'.n 2 (hdF w'.t w'.m)) := ⟨hs, hs'⟩
  clear hs hs'
  obtain ⟨hn, ht, hm⟩ := h
  obtain ⟨wn, wt, wm⟩ := w'
  simp only at HS hh hw hwc ⊢
  by_cases h8 : wn ≤ 8
  case neg =>
    have h8' : (8 : Int) < (wn : Int) := by omega
    have HN : Hid (decide (waitsP ⟨hn, ht, hm⟩ ⟨wn, wt, wm⟩) = false) := by show _ = _; simp only [decide_eq_false_iff_not]; exact fun q => h8 q.1
    clear h8
    go_enter Try.func51, Try.ntmps51
    go_wp2
    go_ret
    exact ⟨ret_bool HN.out.symm, (by repeat (first | refine Below.setCell ?_ (by (try simp) <;> omega) _ | refine Below.alloc ?_ (by (try simp) <;> omega) _ | refine Below.drew ?_ | assumption | exact Below.refl _ _ | refine Below.trans ?_ (Below.mono (by assumption) (by (try simp) <;> omega))))⟩
  case pos =>
  have h8' : ¬ (8 : Int) < (wn : Int) := by omega
  go_enter Try.func51, Try.ntmps51
  go_wp2
  go_loopw [12] (fun i wr => ∃ k : Nat, k ≤ wn ∧ i = .int .i64 k ∧ (∀ j, j < k → wItem ⟨hn, ht, hm⟩ ⟨wn, wt, wm⟩ j) ∧ Bx wr w.heap.size [.string key, .slice ha hn hc, .slice wa wn wc] ∧ Below w.heap.size w wr) (fun i _ => wn - (intOf i).toNat)
  case atStart => exact ⟨0, Nat.zero_le _, rfl, fun j hj => absurd hj (by omega), Bx.new _ _ _, Go.Joins.below_alloc1 _ _⟩
  case round =>
    obtain ⟨k, hk, rfl, hall, hbx, hBr⟩ := hrel
    by_cases hlt : k < wn
    · have hlt' : (k : Int) < (wn : Int) := by omega
      have hkc : (k : Int) ≤ (wc : Int) := by omega
      have hsr := HS.out.2.kept hBr
      rcases hsr with h | ⟨b, off, rfl, hbs, hE⟩
      · omega
      obtain ⟨c0, c1⟩ := hd_cells hE hlt
      have hz : w.heap.size ≤ wr.heap.size := hBr.size
      have g1 := hbx.cell 1 rfl
      have g2 := hbx.cell 2 rfl
      have gz := hbx.2
      have HX : Hid (Bx (wr.alloc (.cells #[.int .i64 (wt k), .int .i64 (wm k)] 50)).drew wr.heap.size [.int .i64 (wt k), .int .i64 (wm k)] ∧ Bx (wr.alloc (.cells #[.int .i64 (wt k), .int .i64 (wm k)] 50)).drew w.heap.size [.string key, .slice ha hn hc, .slice (some ⟨b, off, none⟩) wn wc] ∧ Below w.heap.size w (wr.alloc (.cells #[.int .i64 (wt k), .int .i64 (wm k)] 50)).drew) :=
        ⟨(Bx.new wr [.int .i64 (wt k), .int .i64 (wm k)] 50).next (Below.refl _ _).drew, (hbx.alloc _).next (Below.refl _ _).drew, (hBr.alloc hz _).drew⟩
      have HH : Hid (∀ j, j < k → wItem ⟨hn, ht, hm⟩ ⟨wn, wt, wm⟩ j) := hall
      clear hE hall hBr hbx
      cases hd : hdOk (wt k) (wm k)
      · have HN : Hid (decide (waitsP ⟨hn, ht, hm⟩ ⟨wn, wt, wm⟩) = false) := waits_no hlt (fun g => by rw [g.1] at hd; cases hd)
        go_upto_region 6 with fail
        go_cut [37] (fun s37 wx => s37 = .bool true ∧ Below w.heap.size w wx)
        case first =>
          refine wp_region_noPanic ?_
          refine wp_region_held_drew (S := fun W => W.cell? ⟨wr.heap.size, 0, none⟩ = some (.int .i64 (wt k)) ∧ W.cell? ⟨wr.heap.size, 1, none⟩ = some (.int .i64 (wm k)) ∧ W.cell? ⟨w.heap.size, 1, none⟩ = some (.slice ha hn hc) ∧ W.cell? ⟨w.heap.size, 2, none⟩ = some (.slice (some ⟨b, off, none⟩) wn wc) ∧ wr.heap.size < W.heap.size ∧ Below w.heap.size w W) (by kernel_rfl) ⟨HX.out.1.cell 0 rfl, HX.out.1.cell 1 rfl, HX.out.2.1.cell 1 rfl, HX.out.2.1.cell 2 rfl, HX.out.1.2, HX.out.2.2⟩ (fun hHeld => ?_)
          refine take_v (v := ?_) 0 ⟨some 17, Op.load 50 (Operand.tmp 4), _, _, _, none⟩ rfl (fun _ _ _ h => h) ?_ hHeld ?_
          rotate_left
          · (intro W hSW; obtain ⟨sw0, sw1, sw2, sw3, sw4, sw5⟩ := hSW; go_simp <;> (try with_reducible rfl))
          refine ready_call 1 ⟨some 18, Op.call { callee := Callee.value (Operand.func 61), args := #[Operand.tmp 17], argTypes := #[50] }, _, _, _, none⟩ (by kernel_rfl) rfl (by kernel_rfl) (fun KC hK => ?_)
          go_wp2_with fail
          refine (isHold_is hd _).mono ?_
          rintro e w1 ⟨rfl, hb⟩
          refine hK.out _ _ (aw_keep hz hb hHeld) (fun hHeld => ?_)
          clear hK KC
          refine take_v (v := ?_) 2 ⟨some 19, Op.unOp UnOp.not 4 (Operand.tmp 18), _, _, _, none⟩ rfl (fun _ _ _ h => h) ?_ hHeld ?_
          rotate_left
          · (intro W _; go_simp <;> (try with_reducible rfl))
          refine take_v (v := ?_) 3 ⟨some 20, Op.move (Operand.tmp 19), _, _, _, none⟩ rfl (fun _ _ _ h => h) ?_ hHeld ?_
          rotate_left
          · (intro W _; go_simp <;> (try with_reducible rfl))
          refine take_n 4 ⟨some 21, Op.fieldAddr 50 (Operand.tmp 4) 0, _, _, _, some (3, false)⟩ rfl (fun _ _ _ h => h) hHeld ?_
          refine take_n 5 ⟨some 22, Op.load 3 (Operand.tmp 21), _, _, _, some (3, false)⟩ rfl (fun _ _ _ h => h) hHeld ?_
          refine take_n 6 ⟨some 23, Op.fieldAddr 48 (Operand.tmp 1) 1, _, _, _, some (3, false)⟩ rfl (fun _ _ _ h => h) hHeld ?_
          refine take_n 7 ⟨some 24, Op.load 46 (Operand.tmp 23), _, _, _, some (3, false)⟩ rfl (fun _ _ _ h => h) hHeld ?_
          refine take_n 8 ⟨some 25, Op.call { callee := Callee.value (Operand.func 94), args := #[Operand.tmp 22, Operand.tmp 24], argTypes := #[3, 46] }, _, _, _, some (3, false)⟩ rfl (fun _ _ _ h => h) hHeld ?_
          refine take_n 9 ⟨some 26, Op.unOp UnOp.not 4 (Operand.tmp 25), _, _, _, some (3, false)⟩ rfl (fun _ _ _ h => h) hHeld ?_
          refine take_v (v := ?_) 10 ⟨some 27, Op.pick (Operand.tmp 20) (Operand.const (Value.bool true)) (Operand.tmp 26), _, _, _, none⟩ rfl (fun _ _ _ h => h) ?_ hHeld ?_
          rotate_left
          · (intro W _; go_simp <;> (try with_reducible rfl))
          refine take_v (v := ?_) 11 ⟨some 28, Op.move (Operand.tmp 27), _, _, _, none⟩ rfl (fun _ _ _ h => h) ?_ hHeld ?_
          rotate_left
          · (intro W _; go_simp <;> (try with_reducible rfl))
          refine take_n 12 ⟨some 29, Op.fieldAddr 50 (Operand.tmp 4) 0, _, _, _, some (11, false)⟩ rfl (fun _ _ _ h => h) hHeld ?_
          refine take_n 13 ⟨some 30, Op.load 3 (Operand.tmp 29), _, _, _, some (11, false)⟩ rfl (fun _ _ _ h => h) hHeld ?_
          refine take_n 14 ⟨some 31, Op.fieldAddr 48 (Operand.tmp 1) 2, _, _, _, some (11, false)⟩ rfl (fun _ _ _ h => h) hHeld ?_
          refine take_n 15 ⟨some 32, Op.load 46 (Operand.tmp 31), _, _, _, some (11, false)⟩ rfl (fun _ _ _ h => h) hHeld ?_
          refine take_n 16 ⟨some 33, Op.move (Operand.tmp 3), _, _, _, some (11, false)⟩ rfl (fun _ _ _ h => h) hHeld ?_
          refine take_n 17 ⟨some 34, Op.slice 46 (Operand.tmp 32) none (some (Operand.tmp 33)) none, _, _, _, some (11, false)⟩ rfl (fun _ _ _ h => h) hHeld ?_
          refine take_n 18 ⟨some 35, Op.call { callee := Callee.value (Operand.func 94), args := #[Operand.tmp 30, Operand.tmp 34], argTypes := #[3, 46] }, _, _, _, some (11, false)⟩ rfl (fun _ _ _ h => h) hHeld ?_
          refine take_n 19 ⟨some 36, Op.unOp UnOp.not 4 (Operand.tmp 35), _, _, _, some (11, false)⟩ rfl (fun _ _ _ h => h) hHeld ?_
          refine take_v (v := ?_) 20 ⟨some 37, Op.pick (Operand.tmp 28) (Operand.const (Value.bool true)) (Operand.tmp 36), _, _, _, none⟩ rfl (fun _ _ _ h => h) ?_ hHeld ?_
          rotate_left
          · (intro W _; go_simp <;> (try with_reducible rfl))
          refine wpAnyH_done (by kernel_rfl) ?_ _
          refine NoPanic.normal ?_
          go_wp2_with fail
          go_meet
          exact ⟨rfl, hHeld.2.2.2.2.2⟩
        case rest =>
          obtain ⟨rfl, hb2⟩ := hcut
          go_wp2
          go_ret
          exact ⟨ret_bool HN.out.symm, hb2⟩
      cases he : eldN ht (wt k) hn
      · have HN : Hid (decide (waitsP ⟨hn, ht, hm⟩ ⟨wn, wt, wm⟩) = false) := waits_no hlt (fun g => by have := g.2.1; simp only at this; rw [he] at this; cases this)
        go_upto_region 6 with fail
        go_cut [37] (fun s37 wx => s37 = .bool true ∧ Below w.heap.size w wx)
        case first =>
          refine wp_region_noPanic ?_
          refine wp_region_held_drew (S := fun W => W.cell? ⟨wr.heap.size, 0, none⟩ = some (.int .i64 (wt k)) ∧ W.cell? ⟨wr.heap.size, 1, none⟩ = some (.int .i64 (wm k)) ∧ W.cell? ⟨w.heap.size, 1, none⟩ = some (.slice ha hn hc) ∧ W.cell? ⟨w.heap.size, 2, none⟩ = some (.slice (some ⟨b, off, none⟩) wn wc) ∧ wr.heap.size < W.heap.size ∧ Below w.heap.size w W) (by kernel_rfl) ⟨HX.out.1.cell 0 rfl, HX.out.1.cell 1 rfl, HX.out.2.1.cell 1 rfl, HX.out.2.1.cell 2 rfl, HX.out.1.2, HX.out.2.2⟩ (fun hHeld => ?_)
          refine take_v (v := ?_) 0 ⟨some 17, Op.load 50 (Operand.tmp 4), _, _, _, none⟩ rfl (fun _ _ _ h => h) ?_ hHeld ?_
          rotate_left
          · (intro W hSW; obtain ⟨sw0, sw1, sw2, sw3, sw4, sw5⟩ := hSW; go_simp <;> (try with_reducible rfl))
          refine ready_call 1 ⟨some 18, Op.call { callee := Callee.value (Operand.func 61), args := #[Operand.tmp 17], argTypes := #[50] }, _, _, _, none⟩ (by kernel_rfl) rfl (by kernel_rfl) (fun KC hK => ?_)
          go_wp2_with fail
          refine (isHold_is hd _).mono ?_
          rintro e w1 ⟨rfl, hb⟩
          refine hK.out _ _ (aw_keep hz hb hHeld) (fun hHeld => ?_)
          clear hK KC
          refine take_v (v := ?_) 2 ⟨some 19, Op.unOp UnOp.not 4 (Operand.tmp 18), _, _, _, none⟩ rfl (fun _ _ _ h => h) ?_ hHeld ?_
          rotate_left
          · (intro W _; go_simp <;> (try with_reducible rfl))
          refine take_v (v := ?_) 3 ⟨some 20, Op.move (Operand.tmp 19), _, _, _, none⟩ rfl (fun _ _ _ h => h) ?_ hHeld ?_
          rotate_left
          · (intro W _; go_simp <;> (try with_reducible rfl))
          refine take_v (v := ?_) 4 ⟨some 21, Op.fieldAddr 50 (Operand.tmp 4) 0, _, _, _, some (3, false)⟩ rfl (fun _ _ _ h => h) ?_ hHeld ?_
          rotate_left
          · (intro W _; go_simp <;> (try with_reducible rfl))
          refine take_v (v := ?_) 5 ⟨some 22, Op.load 3 (Operand.tmp 21), _, _, _, some (3, false)⟩ rfl (fun _ _ _ h => h) ?_ hHeld ?_
          rotate_left
          · (intro W hSW; obtain ⟨sw0, sw1, sw2, sw3, sw4, sw5⟩ := hSW; go_simp <;> (try with_reducible rfl))
          refine take_v (v := ?_) 6 ⟨some 23, Op.fieldAddr 48 (Operand.tmp 1) 1, _, _, _, some (3, false)⟩ rfl (fun _ _ _ h => h) ?_ hHeld ?_
          rotate_left
          · (intro W _; go_simp <;> (try with_reducible rfl))
          refine take_v (v := ?_) 7 ⟨some 24, Op.load 46 (Operand.tmp 23), _, _, _, some (3, false)⟩ rfl (fun _ _ _ h => h) ?_ hHeld ?_
          rotate_left
          · (intro W hSW; obtain ⟨sw0, sw1, sw2, sw3, sw4, sw5⟩ := hSW; go_simp <;> (try with_reducible rfl))
          refine ready_call 8 ⟨some 25, Op.call { callee := Callee.value (Operand.func 94), args := #[Operand.tmp 22, Operand.tmp 24], argTypes := #[3, 46] }, _, _, _, some (3, false)⟩ (by kernel_rfl) rfl (by kernel_rfl) (fun KC hK => ?_)
          go_wp2_with fail
          refine (isEldest_is _ _ _ he hh (HS.out.1.kept hHeld.2.2.2.2.2)).mono ?_
          rintro e w2 ⟨rfl, hb⟩
          refine hK.out _ _ (aw_keep hz hb hHeld) (fun hHeld => ?_)
          clear hK KC
          refine take_v (v := ?_) 9 ⟨some 26, Op.unOp UnOp.not 4 (Operand.tmp 25), _, _, _, some (3, false)⟩ rfl (fun _ _ _ h => h) ?_ hHeld ?_
          rotate_left
          · (intro W _; go_simp <;> (try with_reducible rfl))
          refine take_v (v := ?_) 10 ⟨some 27, Op.pick (Operand.tmp 20) (Operand.const (Value.bool true)) (Operand.tmp 26), _, _, _, none⟩ rfl (fun _ _ _ h => h) ?_ hHeld ?_
          rotate_left
          · (intro W _; go_simp <;> (try with_reducible rfl))
          refine take_v (v := ?_) 11 ⟨some 28, Op.move (Operand.tmp 27), _, _, _, none⟩ rfl (fun _ _ _ h => h) ?_ hHeld ?_
          rotate_left
          · (intro W _; go_simp <;> (try with_reducible rfl))
          refine take_n 12 ⟨some 29, Op.fieldAddr 50 (Operand.tmp 4) 0, _, _, _, some (11, false)⟩ rfl (fun _ _ _ h => h) hHeld ?_
          refine take_n 13 ⟨some 30, Op.load 3 (Operand.tmp 29), _, _, _, some (11, false)⟩ rfl (fun _ _ _ h => h) hHeld ?_
          refine take_n 14 ⟨some 31, Op.fieldAddr 48 (Operand.tmp 1) 2, _, _, _, some (11, false)⟩ rfl (fun _ _ _ h => h) hHeld ?_
          refine take_n 15 ⟨some 32, Op.load 46 (Operand.tmp 31), _, _, _, some (11, false)⟩ rfl (fun _ _ _ h => h) hHeld ?_
          refine take_n 16 ⟨some 33, Op.move (Operand.tmp 3), _, _, _, some (11, false)⟩ rfl (fun _ _ _ h => h) hHeld ?_
          refine take_n 17 ⟨some 34, Op.slice 46 (Operand.tmp 32) none (some (Operand.tmp 33)) none, _, _, _, some (11, false)⟩ rfl (fun _ _ _ h => h) hHeld ?_
          refine take_n 18 ⟨some 35, Op.call { callee := Callee.value (Operand.func 94), args := #[Operand.tmp 30, Operand.tmp 34], argTypes := #[3, 46] }, _, _, _, some (11, false)⟩ rfl (fun _ _ _ h => h) hHeld ?_
          refine take_n 19 ⟨some 36, Op.unOp UnOp.not 4 (Operand.tmp 35), _, _, _, some (11, false)⟩ rfl (fun _ _ _ h => h) hHeld ?_
          refine take_v (v := ?_) 20 ⟨some 37, Op.pick (Operand.tmp 28) (Operand.const (Value.bool true)) (Operand.tmp 36), _, _, _, none⟩ rfl (fun _ _ _ h => h) ?_ hHeld ?_
          rotate_left
          · (intro W _; go_simp <;> (try with_reducible rfl))
          refine wpAnyH_done (by kernel_rfl) ?_ _
          refine NoPanic.normal ?_
          go_wp2_with fail
          go_meet
          exact ⟨rfl, hHeld.2.2.2.2.2⟩
        case rest =>
          obtain ⟨rfl, hb2⟩ := hcut
          go_wp2
          go_ret
          exact ⟨ret_bool HN.out.symm, hb2⟩
      obtain ⟨f, hf⟩ : ∃ f, eldN wt (wt k) k = f := ⟨_, rfl⟩
      go_upto_region 6 with fail
      go_cut [37] (fun s37 wx => s37 = .bool (!f) ∧ Bx wx w.heap.size [.string key, .slice ha hn hc, .slice (some ⟨b, off, none⟩) wn wc] ∧ Below w.heap.size w wx)
      case first =>
        refine wp_region_noPanic ?_
        refine wp_region_held_drew (S := fun W => W.cell? ⟨wr.heap.size, 0, none⟩ = some (.int .i64 (wt k)) ∧ W.cell? ⟨wr.heap.size, 1, none⟩ = some (.int .i64 (wm k)) ∧ W.cell? ⟨w.heap.size, 1, none⟩ = some (.slice ha hn hc) ∧ W.cell? ⟨w.heap.size, 2, none⟩ = some (.slice (some ⟨b, off, none⟩) wn wc) ∧ wr.heap.size < W.heap.size ∧ Below w.heap.size w W) (by kernel_rfl) ⟨HX.out.1.cell 0 rfl, HX.out.1.cell 1 rfl, HX.out.2.1.cell 1 rfl, HX.out.2.1.cell 2 rfl, HX.out.1.2, HX.out.2.2⟩ (fun hHeld => ?_)
        refine take_v (v := ?_) 0 ⟨some 17, Op.load 50 (Operand.tmp 4), _, _, _, none⟩ rfl (fun _ _ _ h => h) ?_ hHeld ?_
        rotate_left
        · (intro W hSW; obtain ⟨sw0, sw1, sw2, sw3, sw4, sw5⟩ := hSW; go_simp <;> (try with_reducible rfl))
        refine ready_call 1 ⟨some 18, Op.call { callee := Callee.value (Operand.func 61), args := #[Operand.tmp 17], argTypes := #[50] }, _, _, _, none⟩ (by kernel_rfl) rfl (by kernel_rfl) (fun KC hK => ?_)
        go_wp2_with fail
        refine (isHold_is hd _).mono ?_
        rintro e w1 ⟨rfl, hb1⟩
        refine hK.out _ _ (aw_keep hz hb1 hHeld) (fun hHeld => ?_)
        clear hK KC
        refine take_v (v := ?_) 2 ⟨some 19, Op.unOp UnOp.not 4 (Operand.tmp 18), _, _, _, none⟩ rfl (fun _ _ _ h => h) ?_ hHeld ?_
        rotate_left
        · (intro W _; go_simp <;> (try with_reducible rfl))
        refine take_v (v := ?_) 3 ⟨some 20, Op.move (Operand.tmp 19), _, _, _, none⟩ rfl (fun _ _ _ h => h) ?_ hHeld ?_
        rotate_left
        · (intro W _; go_simp <;> (try with_reducible rfl))
        refine take_v (v := ?_) 4 ⟨some 21, Op.fieldAddr 50 (Operand.tmp 4) 0, _, _, _, some (3, false)⟩ rfl (fun _ _ _ h => h) ?_ hHeld ?_
        rotate_left
        · (intro W _; go_simp <;> (try with_reducible rfl))
        refine take_v (v := ?_) 5 ⟨some 22, Op.load 3 (Operand.tmp 21), _, _, _, some (3, false)⟩ rfl (fun _ _ _ h => h) ?_ hHeld ?_
        rotate_left
        · (intro W hSW; obtain ⟨sw0, sw1, sw2, sw3, sw4, sw5⟩ := hSW; go_simp <;> (try with_reducible rfl))
        refine take_v (v := ?_) 6 ⟨some 23, Op.fieldAddr 48 (Operand.tmp 1) 1, _, _, _, some (3, false)⟩ rfl (fun _ _ _ h => h) ?_ hHeld ?_
        rotate_left
        · (intro W _; go_simp <;> (try with_reducible rfl))
        refine take_v (v := ?_) 7 ⟨some 24, Op.load 46 (Operand.tmp 23), _, _, _, some (3, false)⟩ rfl (fun _ _ _ h => h) ?_ hHeld ?_
        rotate_left
        · (intro W hSW; obtain ⟨sw0, sw1, sw2, sw3, sw4, sw5⟩ := hSW; go_simp <;> (try with_reducible rfl))
        refine ready_call 8 ⟨some 25, Op.call { callee := Callee.value (Operand.func 94), args := #[Operand.tmp 22, Operand.tmp 24], argTypes := #[3, 46] }, _, _, _, some (3, false)⟩ (by kernel_rfl) rfl (by kernel_rfl) (fun KC hK => ?_)
        go_wp2_with fail
        refine (isEldest_is _ _ _ he hh (HS.out.1.kept hHeld.2.2.2.2.2)).mono ?_
        rintro e w2 ⟨rfl, hb2⟩
        refine hK.out _ _ (aw_keep hz hb2 hHeld) (fun hHeld => ?_)
        clear hK KC
        refine take_v (v := ?_) 9 ⟨some 26, Op.unOp UnOp.not 4 (Operand.tmp 25), _, _, _, some (3, false)⟩ rfl (fun _ _ _ h => h) ?_ hHeld ?_
        rotate_left
        · (intro W _; go_simp <;> (try with_reducible rfl))
        refine take_v (v := ?_) 10 ⟨some 27, Op.pick (Operand.tmp 20) (Operand.const (Value.bool true)) (Operand.tmp 26), _, _, _, none⟩ rfl (fun _ _ _ h => h) ?_ hHeld ?_
        rotate_left
        · (intro W _; go_simp <;> (try with_reducible rfl))
        refine take_v (v := ?_) 11 ⟨some 28, Op.move (Operand.tmp 27), _, _, _, none⟩ rfl (fun _ _ _ h => h) ?_ hHeld ?_
        rotate_left
        · (intro W _; go_simp <;> (try with_reducible rfl))
        refine take_v (v := ?_) 12 ⟨some 29, Op.fieldAddr 50 (Operand.tmp 4) 0, _, _, _, some (11, false)⟩ rfl (fun _ _ _ h => h) ?_ hHeld ?_
        rotate_left
        · (intro W _; go_simp <;> (try with_reducible rfl))
        refine take_v (v := ?_) 13 ⟨some 30, Op.load 3 (Operand.tmp 29), _, _, _, some (11, false)⟩ rfl (fun _ _ _ h => h) ?_ hHeld ?_
        rotate_left
        · (intro W hSW; obtain ⟨sw0, sw1, sw2, sw3, sw4, sw5⟩ := hSW; go_simp <;> (try with_reducible rfl))
        refine take_v (v := ?_) 14 ⟨some 31, Op.fieldAddr 48 (Operand.tmp 1) 2, _, _, _, some (11, false)⟩ rfl (fun _ _ _ h => h) ?_ hHeld ?_
        rotate_left
        · (intro W _; go_simp <;> (try with_reducible rfl))
        refine take_v (v := ?_) 15 ⟨some 32, Op.load 46 (Operand.tmp 31), _, _, _, some (11, false)⟩ rfl (fun _ _ _ h => h) ?_ hHeld ?_
        rotate_left
        · (intro W hSW; obtain ⟨sw0, sw1, sw2, sw3, sw4, sw5⟩ := hSW; go_simp <;> (try with_reducible rfl))
        refine take_v (v := ?_) 16 ⟨some 33, Op.move (Operand.tmp 3), _, _, _, some (11, false)⟩ rfl (fun _ _ _ h => h) ?_ hHeld ?_
        rotate_left
        · (intro W _; go_simp <;> (try with_reducible rfl))
        refine take_v (v := ?_) 17 ⟨some 34, Op.slice 46 (Operand.tmp 32) none (some (Operand.tmp 33)) none, _, _, _, some (11, false)⟩ rfl (fun _ _ _ h => h) ?_ hHeld ?_
        rotate_left
        · (intro W _; go_simp <;> (try with_reducible rfl))
        refine ready_call 18 ⟨some 35, Op.call { callee := Callee.value (Operand.func 94), args := #[Operand.tmp 30, Operand.tmp 34], argTypes := #[3, 46] }, _, _, _, some (11, false)⟩ (by kernel_rfl) rfl (by kernel_rfl) (fun KC hK => ?_)
        go_wp2_with fail
        refine (isEldest_is _ _ _ hf (by omega) ((HS.out.2.kept hHeld.2.2.2.2.2).le (Nat.le_of_lt hlt))).mono ?_
        rintro e w3 ⟨rfl, hb3⟩
        refine hK.out _ _ (aw_keep hz hb3 hHeld) (fun hHeld => ?_)
        clear hK KC
        refine take_v (v := ?_) 19 ⟨some 36, Op.unOp UnOp.not 4 (Operand.tmp 35), _, _, _, some (11, false)⟩ rfl (fun _ _ _ h => h) ?_ hHeld ?_
        rotate_left
        · (intro W _; go_simp <;> (try with_reducible rfl))
        refine take_v (v := ?_) 20 ⟨some 37, Op.pick (Operand.tmp 28) (Operand.const (Value.bool true)) (Operand.tmp 36), _, _, _, none⟩ rfl (fun _ _ _ h => h) ?_ hHeld ?_
        rotate_left
        · (intro W _; go_simp <;> (try with_reducible rfl))
        refine wpAnyH_done (by kernel_rfl) ?_ _
        refine NoPanic.normal ?_
        go_wp2_with fail
        go_meet
        exact ⟨rfl, ((HX.out.2.1.next hb1).next hb2).next hb3, hHeld.2.2.2.2.2⟩
      case rest =>
        obtain ⟨rfl, hbx2, hb2⟩ := hcut
        cases f
        · have HN : Hid (decide (waitsP ⟨hn, ht, hm⟩ ⟨wn, wt, wm⟩) = false) := waits_no hlt (fun g => by have := g.2.2; simp only at this; rw [hf] at this; cases this)
          go_wp2
          go_ret
          exact ⟨ret_bool HN.out.symm, hb2⟩
        · have HY : Hid (wItem ⟨hn, ht, hm⟩ ⟨wn, wt, wm⟩ k) := ⟨hd, he, hf⟩
          go_wp2
          go_roundw
          case rel => exact ⟨k + 1, by omega, by go_num, upto_succ HH.out HY.out, hbx2, hb2⟩
          case measure => simp [intOf]; omega
    · have hkn : k = wn := by omega
      subst hkn
      have HH : Hid ((∀ j, j < k → wItem ⟨hn, ht, hm⟩ ⟨k, wt, wm⟩ j) ∧ Bx wr w.heap.size [.string key, .slice ha hn hc, .slice wa k wc] ∧ Below w.heap.size w wr) := ⟨hall, hbx, hBr⟩
      have g1 := hbx.cell 1 rfl
      have g2 := hbx.cell 2 rfl
      have gz := hbx.2
      by_cases h0 : k = 0
      · have h0' : ((k : Int) == 0) = true := by simp; omega
        have HY : Hid (decide (waitsP ⟨hn, ht, hm⟩ ⟨k, wt, wm⟩) = true) := by show _ = _; simp only [decide_eq_true_eq]; exact ⟨h8, HH.out.1, Or.inl h0⟩
        have h0n : decide (k = 0) = true := by simp; omega
        have HK : Hid (k = 0) := h0
        clear h0 hall hbx hBr
        go_upto_region 9 with fail
        go_quiet (fail)
        go_wp2
        go_ret
        exact ⟨ret_bool HY.out.symm, below_drewN HH.out.2.2 _⟩
      · have h0' : ((k : Int) == 0) = false := by simp; omega
        have h0n : decide (k = 0) = false := by simp; omega
        rcases HS.out.2.kept hBr with h | ⟨b, off, rfl, hbs, hE⟩
        · omega
        obtain ⟨c0, c1⟩ := hd_cells hE (show 0 < k by omega)
        simp only [Nat.zero_mul, Nat.add_zero] at c0 c1
        have hk0 : (0 : Int) < (k : Int) := by omega
        have hk0n : 0 < k := by omega
        have HX : Hid (Bx wr.drew w.heap.size [.string key, .slice ha hn hc, .slice (some ⟨b, off, none⟩) k wc] ∧ wr.drew.cell? ⟨b, off, none⟩ = some (.int .i64 (wt 0)) ∧ wr.drew.cell? ⟨b, off + 1, none⟩ = some (.int .i64 (wm 0)) ∧ Below w.heap.size w wr.drew) := ⟨hbx.next (Below.refl _ _).drew, by simpa using c0, by simpa using c1, hBr.drew⟩
        obtain ⟨f, hf⟩ : ∃ f, canN ht hm (wt 0) (wm 0) hn = f := ⟨_, rfl⟩
        have HY : Hid (decide (waitsP ⟨hn, ht, hm⟩ ⟨k, wt, wm⟩) = !f) := by
          show _ = _
          cases f
          · simp only [Bool.not_false, decide_eq_true_eq]; exact ⟨h8, HH.out.1, Or.inr hf⟩
          · simp only [Bool.not_true, decide_eq_false_iff_not]
            rintro ⟨_, _, q | q⟩
            · exact h0 q
            · simp only at q; rw [hf] at q; cases q
        clear hE hall hbx hBr h0
        go_upto_region 9 with fail
        go_cut [2] (fun s2 wx => s2 = .bool (!f) ∧ Below w.heap.size w wx)
        case first =>
          refine wp_region_noPanic ?_
          refine wp_region_held_drew (S := fun W => W.cell? ⟨w.heap.size, 1, none⟩ = some (.slice ha hn hc) ∧ W.cell? ⟨w.heap.size, 2, none⟩ = some (.slice (some ⟨b, off, none⟩) k wc) ∧ W.cell? ⟨b, off, none⟩ = some (.int .i64 (wt 0)) ∧ W.cell? ⟨b, off + 1, none⟩ = some (.int .i64 (wm 0)) ∧ Below w.heap.size w W) (by kernel_rfl) ⟨HX.out.1.cell 1 rfl, HX.out.1.cell 2 rfl, HX.out.2.1, HX.out.2.2.1, HX.out.2.2.2⟩ (fun hHeld => ?_)
          refine take_v (v := ?_) 0 ⟨some 39, Op.fieldAddr 48 (Operand.tmp 1) 2, _, _, _, none⟩ rfl (fun _ _ _ h => h) ?_ hHeld ?_
          rotate_left
          · (intro W _; go_simp <;> (try with_reducible rfl))
          refine take_v (v := ?_) 1 ⟨some 40, Op.load 46 (Operand.tmp 39), _, _, _, none⟩ rfl (fun _ _ _ h => h) ?_ hHeld ?_
          rotate_left
          · (intro W hSW; obtain ⟨sw0, sw1, sw2, sw3, sw4⟩ := hSW; go_simp <;> (try with_reducible rfl))
          refine take_v (v := ?_) 2 ⟨some 41, Op.call { callee := Callee.builtin Builtin.len, args := #[Operand.tmp 40], argTypes := #[46] }, _, _, _, none⟩ rfl (fun _ _ _ h => h) ?_ hHeld ?_
          rotate_left
          · (intro W _; go_simp <;> (try with_reducible rfl))
          refine take_v (v := ?_) 3 ⟨some 42, Op.binOp BinOp.eql 3 (Operand.tmp 41) (Operand.const (Value.int IntKind.i64 0)) 3, _, _, _, none⟩ rfl (fun _ _ _ h => h) ?_ hHeld ?_
          rotate_left
          · (intro W _; go_simp <;> (try with_reducible rfl))
          refine take_v (v := ?_) 4 ⟨some 43, Op.move (Operand.tmp 42), _, _, _, none⟩ rfl (fun _ _ _ h => h) ?_ hHeld ?_
          rotate_left
          · (intro W _; go_simp <;> (try with_reducible rfl))
          refine take_v (v := ?_) 5 ⟨some 44, Op.fieldAddr 48 (Operand.tmp 1) 1, _, _, _, some (4, false)⟩ rfl (fun _ _ _ h => h) ?_ hHeld ?_
          rotate_left
          · (intro W _; go_simp <;> (try with_reducible rfl))
          refine take_v (v := ?_) 6 ⟨some 45, Op.load 46 (Operand.tmp 44), _, _, _, some (4, false)⟩ rfl (fun _ _ _ h => h) ?_ hHeld ?_
          rotate_left
          · (intro W hSW; obtain ⟨sw0, sw1, sw2, sw3, sw4⟩ := hSW; go_simp <;> (try with_reducible rfl))
          refine take_v (v := ?_) 7 ⟨some 46, Op.fieldAddr 48 (Operand.tmp 1) 2, _, _, _, some (4, false)⟩ rfl (fun _ _ _ h => h) ?_ hHeld ?_
          rotate_left
          · (intro W _; go_simp <;> (try with_reducible rfl))
          refine take_v (v := ?_) 8 ⟨some 47, Op.load 46 (Operand.tmp 46), _, _, _, some (4, false)⟩ rfl (fun _ _ _ h => h) ?_ hHeld ?_
          rotate_left
          · (intro W hSW; obtain ⟨sw0, sw1, sw2, sw3, sw4⟩ := hSW; go_simp <;> (try with_reducible rfl))
          refine take_v (v := ?_) 9 ⟨some 48, Op.indexAddr 46 (Operand.tmp 47) (Operand.const (Value.int IntKind.i64 0)), _, _, _, some (4, false)⟩ rfl (fun _ _ _ h => h) ?_ hHeld ?_
          rotate_left
          · (intro W _; go_simp <;> (try with_reducible rfl))
          refine take_v (v := ?_) 10 ⟨some 49, Op.load 50 (Operand.tmp 48), _, _, _, some (4, false)⟩ rfl (fun _ _ _ h => h) ?_ hHeld ?_
          rotate_left
          · (intro W hSW; obtain ⟨sw0, sw1, sw2, sw3, sw4⟩ := hSW; go_simp <;> (try with_reducible rfl))
          refine ready_call 11 ⟨some 50, Op.call { callee := Callee.value (Operand.func 75), args := #[Operand.tmp 45, Operand.tmp 49], argTypes := #[46, 50] }, _, _, _, some (4, false)⟩ (by kernel_rfl) rfl (by kernel_rfl) (fun KC hK => ?_)
          go_wp2_with fail
          refine (canBe_is _ _ _ hf hh (HS.out.1.kept hHeld.2.2.2.2)).mono ?_
          rintro e w1 ⟨rfl, hb⟩
          refine hK.out _ _ ⟨(hb.cell (p := ⟨w.heap.size, 1, none⟩) gz).trans hHeld.1, (hb.cell (p := ⟨w.heap.size, 2, none⟩) gz).trans hHeld.2.1, (hb.cell (p := ⟨b, off, none⟩) hbs).trans hHeld.2.2.1, (hb.cell (p := ⟨b, off + 1, none⟩) hbs).trans hHeld.2.2.2.1, below_next hHeld.2.2.2.2 hb⟩ (fun hHeld => ?_)
          clear hK KC
          refine take_v (v := ?_) 12 ⟨some 51, Op.unOp UnOp.not 4 (Operand.tmp 50), _, _, _, some (4, false)⟩ rfl (fun _ _ _ h => h) ?_ hHeld ?_
          rotate_left
          · (intro W _; go_simp <;> (try with_reducible rfl))
          refine take_v (v := ?_) 13 ⟨some 52, Op.pick (Operand.tmp 43) (Operand.const (Value.bool true)) (Operand.tmp 51), _, _, _, none⟩ rfl (fun _ _ _ h => h) ?_ hHeld ?_
          rotate_left
          · (intro W _; go_simp <;> (try with_reducible rfl))
          refine take_v (v := ?_) 14 ⟨some 2, Op.assign (Operand.tmp 52), _, _, _, none⟩ rfl (fun _ _ _ h => h) ?_ hHeld ?_
          rotate_left
          · (intro W _; go_simp <;> (try with_reducible rfl))
          refine wpAnyH_done (by kernel_rfl) ?_ _
          refine NoPanic.normal ?_
          go_wp2_with fail
          go_meet
          exact ⟨rfl, hHeld.2.2.2.2⟩
        case rest =>
          obtain ⟨rfl, hb2⟩ := hcut
          go_wp2
          go_ret
          exact ⟨ret_bool HY.out.symm, hb2⟩
end Go.Proofs.Ytnapgnkhajkbkaa
