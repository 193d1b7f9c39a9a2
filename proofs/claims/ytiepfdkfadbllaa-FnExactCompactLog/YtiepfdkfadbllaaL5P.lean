/- The contract of the specification's l5Put over a list of records. Written by tools/mkL5.py. -/
import Derived.Test.YtiepfdkfadbllaaPvR
import Derived.Test.YtiepfdkfadbllaaRg2
import Derived.Test.YtiepfdkfadbllaaLgG
import Derived.Deep.AppendLies
import Derived.Maps.AppendAt
import Derived.Laws.AppendOwnNone
namespace Go.Proofs.Ytiepfdkfadbllaa
open Go.RowKit
set_option linter.unusedVariables false

theorem own_keep {w w' : World} {base : Nat} {e : TypeId} {size : Nat} {v : Value} {n : Nat} {xs : List Value} (h : w.ownsRow base e size v n xs) (hb : Below w.heap.size w w') : w'.ownsRow base e size v n xs := by
  obtain ⟨h1, h2⟩ := h
  refine ⟨h1, ?_⟩
  rcases h2 with h2 | ⟨g, cap, cur, hv, hg, hh, r⟩
  · exact Or.inl h2
  · have : g < w.heap.size := by
      rcases Nat.lt_or_ge g w.heap.size with q | q
      · exact q
      · rw [Array.getElem?_eq_none q] at hh; cases hh
    exact Or.inr ⟨g, cap, cur, hv, hg, by rw [hb.block g this]; exact hh, r⟩
theorem own_blkR {w w' : World} {base : Nat} {e : TypeId} {size : Nat} {v : Value} {n : Nat} {xs : List Value} (h : w.ownsRow base e size v n xs) (hk : ∀ k, v.ownBlock = some k → w'.heap[k]? = w.heap[k]?) : w'.ownsRow base e size v n xs := by
  obtain ⟨h1, h2⟩ := h
  refine ⟨h1, ?_⟩
  rcases h2 with h2 | ⟨b, cap, cur, hv, hb, hh, r⟩
  · exact Or.inl h2
  · exact Or.inr ⟨b, cap, cur, hv, hb, by rw [hk b (by rw [hv]; rfl)]; exact hh, r⟩
theorem Bx.grewR {w w' : World} {row : Option Nat} {g : Nat} {vs : List Value} (h : Bx w g vs) (hg : w.grownBy w' row) (hne : some g ≠ row) : Bx w' g vs :=
  ⟨fun j hj => ⟨(hg.cell_far ⟨g, j, none⟩ h.2 hne).trans (h.1 j hj).1, (hg.frozen_far ⟨g, j, none⟩ h.2 hne).trans (h.1 j hj).2⟩, Nat.lt_of_lt_of_le h.2 hg.size⟩
theorem own_grR {w w' : World} {row : Option Nat} {base : Nat} {e : TypeId} {size : Nat} {v : Value} {n : Nat} {xs : List Value} (h : w.ownsRow base e size v n xs) (hg : w.grownBy w' row) (hne : ∀ b, v.ownBlock = some b → row ≠ some b) : w'.ownsRow base e size v n xs :=
  h.kept hg (by
    cases hv : v.ownBlock with
    | none => exact Or.inl rfl
    | some k => exact Or.inr (fun e => hne k hv e.symm))
theorem cell_keyR {w : World} {base g cap : Nat} {e : TypeId} {L : List RecordV} {p : Nat} (h : w.ownsRow base e 6 (.slice (some ⟨g, 0, none⟩) L.length cap) L.length (cellsR L)) (hp : p < L.length) : w.cell? ⟨g, p * 6, none⟩ = some (.string (vR L p).f0) := by
  rw [World.ownsRow.cellAt h _ (by omega), cellsR]
  have := cellsL_at (recordF (vR L)) 6 L.length p 0 hp (by omega)
  rw [Nat.add_zero] at this
  rw [this]; rfl
theorem add0R (g q j : Nat) : (⟨g, q, none⟩ : Addr).add j = ⟨g, q + j, none⟩ := by unfold Addr.add; split <;> simp_all
theorem news_takeR {w : World} {base g cap : Nat} {e : TypeId} {L : List RecordV} {p : Nat} (h : w.ownsRow base e 6 (.slice (some ⟨g, 0, none⟩) L.length cap) L.length (cellsR L)) (hp : p ≤ L.length) : ∀ j u, (cellsR (L.take p))[j]? = some u → w.cell? ((⟨g, 0, none⟩ : Addr).add j) = some u := by
  intro j u hu
  have hl : (cellsR (L.take p)).length = p * 6 := by rw [cellsR_len, List.length_take, Nat.min_eq_left hp]
  have hj : j < p * 6 := by
    rcases Nat.lt_or_ge j (p * 6) with q | q
    · exact q
    · rw [List.getElem?_eq_none (by omega)] at hu; cases hu
  have h1 : cellsR L = cellsR (L.take p) ++ cellsR (L.drop p) := by rw [← cellsR_append, List.take_append_drop]
  rw [add0R, Nat.zero_add, World.ownsRow.cellAt h _ (by omega), h1, List.getElem?_append_left (by omega)]
  exact hu
theorem news_dropR {w : World} {base g cap : Nat} {e : TypeId} {L : List RecordV} {p : Nat} (h : w.ownsRow base e 6 (.slice (some ⟨g, 0, none⟩) L.length cap) L.length (cellsR L)) (hp : p ≤ L.length) : ∀ j u, (cellsR (L.drop p))[j]? = some u → w.cell? ((⟨g, p * 6, none⟩ : Addr).add j) = some u := by
  intro j u hu
  have hl : (cellsR (L.take p)).length = p * 6 := by rw [cellsR_len, List.length_take, Nat.min_eq_left hp]
  have hd : (cellsR (L.drop p)).length = (L.length - p) * 6 := by rw [cellsR_len, List.length_drop]
  have hj : j < (L.length - p) * 6 := by
    rcases Nat.lt_or_ge j ((L.length - p) * 6) with q | q
    · exact q
    · rw [List.getElem?_eq_none (by omega)] at hu; cases hu
  have h1 : cellsR L = cellsR (L.take p) ++ cellsR (L.drop p) := by rw [← cellsR_append, List.take_append_drop]
  rw [add0R, World.ownsRow.cellAt h _ (by omega), h1, List.getElem?_append_right (by omega), hl, show p * 6 + j - p * 6 = j by omega]
  exact hu
/-- The three boxes: the store, the record, the answer. -/
def P3 (b : Nat) (v : Value) (x : RecordV) (W : World) : Prop := Bx W b [.int .i64 0, v, .slice none 0 0, .slice none 0 0] ∧ Bx W (b + 1) [.string x.f0, .string x.f1, .int .i64 x.f2, .int .i64 x.f3, .bool x.f4, .int .i64 x.f5] ∧ Bx W (b + 1 + 1) [.int .i64 0, .slice none 0 0, .slice none 0 0, .slice none 0 0]
theorem P3.next {b : Nat} {v : Value} {x : RecordV} {W W' : World} (h : P3 b v x W) (hb : Below W.heap.size W W') : P3 b v x W' := ⟨h.1.next hb, h.2.1.next hb, h.2.2.next hb⟩
theorem P3.alloc {b : Nat} {v : Value} {x : RecordV} {W : World} (h : P3 b v x W) (o : Obj) : P3 b v x (W.alloc o) := ⟨h.1.alloc o, h.2.1.alloc o, h.2.2.alloc o⟩
theorem P3.grew {b : Nat} {v : Value} {x : RecordV} {W W' : World} {row : Option Nat} (h : P3 b v x W) (hg : W.grownBy W' row) (hne : ∀ k, b ≤ k → k ≤ b + 2 → some k ≠ row) : P3 b v x W' :=
  ⟨h.1.grewR hg (hne _ (Nat.le_refl _) (by omega)), h.2.1.grewR hg (hne _ (by omega) (by omega)), h.2.2.grewR hg (hne _ (by omega) (Nat.le_refl _))⟩
/-- A store with the records of L, which are new. -/
def PutS (nb : Nat) (L : List RecordV) (w : World) (r : Ending) (w' : World) : Prop :=
  ∃ a' c', r = .returned (.agg #[.int .i64 0, .slice a' L.length c', .slice none 0 0, .slice none 0 0]) ∧ w'.ownsRow nb 59 6 (.slice a' L.length c') L.length (cellsR L) ∧ ∀ B w0, Below B w0 w → B ≤ nb → B ≤ w.heap.size → Below B w0 w'
theorem put_fin {nb n c g : Nat} {L : List RecordV} {w w' : World} (hn : n = L.length) (ho : w'.ownsRow nb 59 6 (.slice (some ⟨g, 0, none⟩) n c) n (cellsR L)) (hk : ∀ k, (Value.slice (some ⟨g, 0, none⟩) n c).ownBlock = some k → w.heap.size + 2 < k) (hb : ∀ B w0, Below B w0 w → B ≤ nb → B ≤ w.heap.size → Below B w0 w') :
    PutS nb L w (.returned (.agg #[.int .i64 0, .slice (some ⟨g, 0, none⟩) n c, .slice none 0 0, .slice none 0 0])) ((((((w'.setCell ⟨w.heap.size, 1, none⟩ (.slice (some ⟨g, 0, none⟩) n c))).setCell ⟨w.heap.size + 1 + 1, 0, none⟩ (.int .i64 0)).setCell ⟨w.heap.size + 1 + 1, 1, none⟩ (.slice (some ⟨g, 0, none⟩) n c)).setCell ⟨w.heap.size + 1 + 1, 2, none⟩ (.slice none 0 0)).setCell ⟨w.heap.size + 1 + 1, 3, none⟩ (.slice none 0 0)) := by
  subst hn
  have hg := hk g rfl
  refine ⟨_, _, rfl, own_blkR ho (fun k hk' => ?_), fun B w0 h h1 h2 => ?_⟩
  · cases hk'
    rw [Below.heap_setCell _ _ _ _ (show g ≠ w.heap.size + 1 + 1 by omega), Below.heap_setCell _ _ _ _ (show g ≠ w.heap.size + 1 + 1 by omega), Below.heap_setCell _ _ _ _ (show g ≠ w.heap.size + 1 + 1 by omega), Below.heap_setCell _ _ _ _ (show g ≠ w.heap.size + 1 + 1 by omega), Below.heap_setCell _ _ _ _ (show g ≠ w.heap.size by omega)]
  · repeat (refine Below.setCell ?_ (by dsimp only; omega) _)
    exact hb B w0 h h1 h2
theorem v3_hi {v2 v3 : Value} {we : World} {b : Nat} (h : v3.ownBlock = v2.ownBlock ∨ v3.ownBlock = some we.heap.size) (hh : (∀ k, v2.ownBlock = some k → b < k) ∧ b < we.heap.size) : ∀ k, v3.ownBlock = some k → b < k := fun k hk => by
  rcases h with h | h
  · rw [h] at hk; exact hh.1 k hk
  · rw [h] at hk; cases hk; exact hh.2

set_option maxRecDepth 100000 in
set_option maxHeartbeats 16000000 in
theorem l5Put_new (base nb : Nat) (v : Value) (L : List RecordV) (x : RecordV) (w : World) (hn : L.length < 1048576) (hbase : nb ≤ w.heap.size) (hown : w.ownsRow base 59 6 v L.length (cellsR L)) :
    Calls Try.prog 60 #[.agg #[.int .i64 0, v, .slice none 0 0, .slice none 0 0], .agg #[.string x.f0, .string x.f1, .int .i64 x.f2, .int .i64 x.f3, .bool x.f4, .int .i64 x.f5]] w fun r w' => PutS nb (putR L x) w r w' := by
  obtain ⟨i0, hi0, y0, y1, y2⟩ := info_parts info_record
  have HX : Hid (P3 w.heap.size v x (((w.alloc (.cells #[.int .i64 0, v, .slice none 0 0, .slice none 0 0] 91)).alloc (.cells #[.string x.f0, .string x.f1, .int .i64 x.f2, .int .i64 x.f3, .bool x.f4, .int .i64 x.f5] 59)).alloc (.cells #[.int .i64 0, .slice none 0 0, .slice none 0 0, .slice none 0 0] 91)) ∧ Below w.heap.size w (((w.alloc (.cells #[.int .i64 0, v, .slice none 0 0, .slice none 0 0] 91)).alloc (.cells #[.string x.f0, .string x.f1, .int .i64 x.f2, .int .i64 x.f3, .bool x.f4, .int .i64 x.f5] 59)).alloc (.cells #[.int .i64 0, .slice none 0 0, .slice none 0 0, .slice none 0 0] 91))) := by
    have h1 := ((Bx.new w [.int .i64 0, v, .slice none 0 0, .slice none 0 0] 91).alloc (.cells #[.string x.f0, .string x.f1, .int .i64 x.f2, .int .i64 x.f3, .bool x.f4, .int .i64 x.f5] 59)).alloc (.cells #[.int .i64 0, .slice none 0 0, .slice none 0 0, .slice none 0 0] 91)
    have h2 := (Bx.new (w.alloc (.cells #[.int .i64 0, v, .slice none 0 0, .slice none 0 0] 91)) [.string x.f0, .string x.f1, .int .i64 x.f2, .int .i64 x.f3, .bool x.f4, .int .i64 x.f5] 59).alloc (.cells #[.int .i64 0, .slice none 0 0, .slice none 0 0, .slice none 0 0] 91)
    have h3 := Bx.new ((w.alloc (.cells #[.int .i64 0, v, .slice none 0 0, .slice none 0 0] 91)).alloc (.cells #[.string x.f0, .string x.f1, .int .i64 x.f2, .int .i64 x.f3, .bool x.f4, .int .i64 x.f5] 59)) [.int .i64 0, .slice none 0 0, .slice none 0 0, .slice none 0 0] 91
    rw [World.size_alloc] at h2
    rw [World.size_alloc, World.size_alloc] at h3
    exact ⟨⟨h1, h2, h3⟩, below_nx (below_nx (Go.Joins.below_alloc1 _ _) (Go.Joins.below_alloc1 _ _)) (Go.Joins.below_alloc1 _ _)⟩
  rcases Go.Joins.ownsRow_forms hown with hf | ⟨g, cap, rfl⟩
  · obtain ⟨rfl, h0⟩ := hf
    have hL : L = [] := List.length_eq_zero_iff.1 h0
    subst hL
    have HL : Hid (putR [] x = [x]) := by show _ = _; simp [putR, plR]
    clear hown h0 hn
    go_enter Try.func60, Try.ntmps60
    go_wp2
    go_loopw [5] (fun i wr => i = .int .i64 0 ∧ P3 w.heap.size (.slice none 0 0) x wr ∧ Below w.heap.size w wr) (fun _ _ => 0)
    case atStart => exact ⟨rfl, HX.out.1, HX.out.2⟩
    case round =>
      obtain ⟨rfl, hx, hBr⟩ := hrel
      have H1 : Hid (P3 w.heap.size (.slice none 0 0) x wr.drew ∧ Below w.heap.size w wr.drew) := ⟨hx.next (Below.refl _ _).drew, hBr.drew⟩
      clear hx hBr HX
      go_upto_region 2 with fail
      refine wp_region_noPanic ?_
      refine wp_region_held_drew (S := fun W => P3 w.heap.size (.slice none 0 0) x W) (by kernel_rfl) H1.out.1 (fun hHeld => ?_)
      refine take_v (v := ?_) 0 ⟨some 7, Op.move (Operand.tmp 5), _, _, _, none⟩ rfl (fun _ _ _ h => h) ?_ hHeld ?_
      rotate_left
      · (intro W _; go_simp <;> (try with_reducible rfl))
      refine take_v (v := ?_) 1 ⟨some 8, Op.fieldAddr 91 (Operand.tmp 2) 1, _, _, _, none⟩ rfl (fun _ _ _ h => h) ?_ hHeld ?_
      rotate_left
      · (intro W _; go_simp <;> (try with_reducible rfl))
      refine take_v (v := ?_) 2 ⟨some 9, Op.load 25 (Operand.tmp 8), _, _, _, none⟩ rfl (fun _ _ _ h => h) ?_ hHeld ?_
      rotate_left
      · (intro W hSW; (have s0 := hSW.1.cell 1 rfl; have s0z := hSW.1.2; have s1 := hSW.2.1.cell 0 rfl; have s1z := hSW.2.1.2); go_simp <;> (try with_reducible rfl))
      refine take_v (v := ?_) 3 ⟨some 10, Op.call { callee := Callee.builtin Builtin.len, args := #[Operand.tmp 9], argTypes := #[25] }, _, _, _, none⟩ rfl (fun _ _ _ h => h) ?_ hHeld ?_
      rotate_left
      · (intro W _; go_simp <;> (try with_reducible rfl))
      refine take_v (v := ?_) 4 ⟨some 11, Op.binOp BinOp.lss 3 (Operand.tmp 7) (Operand.tmp 10) 3, _, _, _, none⟩ rfl (fun _ _ _ h => h) ?_ hHeld ?_
      rotate_left
      · (intro W _; go_simp <;> (try with_reducible rfl))
      refine take_v (v := ?_) 5 ⟨some 12, Op.move (Operand.tmp 11), _, _, _, none⟩ rfl (fun _ _ _ h => h) ?_ hHeld ?_
      rotate_left
      · (intro W _; go_simp <;> (try with_reducible rfl))
      refine take_n 6 ⟨some 13, Op.fieldAddr 91 (Operand.tmp 2) 1, _, _, _, some (5, true)⟩ rfl (fun _ _ _ h => h) hHeld ?_
      refine take_n 7 ⟨some 14, Op.load 25 (Operand.tmp 13), _, _, _, some (5, true)⟩ rfl (fun _ _ _ h => h) hHeld ?_
      refine take_n 8 ⟨some 15, Op.move (Operand.tmp 5), _, _, _, some (5, true)⟩ rfl (fun _ _ _ h => h) hHeld ?_
      refine take_n 9 ⟨some 16, Op.indexAddr 25 (Operand.tmp 14) (Operand.tmp 15), _, _, _, some (5, true)⟩ rfl (fun _ _ _ h => h) hHeld ?_
      refine take_n 10 ⟨some 17, Op.fieldAddr 59 (Operand.tmp 16) 0, _, _, _, some (5, true)⟩ rfl (fun _ _ _ h => h) hHeld ?_
      refine take_n 11 ⟨some 18, Op.load 9 (Operand.tmp 17), _, _, _, some (5, true)⟩ rfl (fun _ _ _ h => h) hHeld ?_
      refine take_n 12 ⟨some 19, Op.fieldAddr 59 (Operand.tmp 3) 0, _, _, _, some (5, true)⟩ rfl (fun _ _ _ h => h) hHeld ?_
      refine take_n 13 ⟨some 20, Op.load 9 (Operand.tmp 19), _, _, _, some (5, true)⟩ rfl (fun _ _ _ h => h) hHeld ?_
      refine take_n 14 ⟨some 21, Op.binOp BinOp.lss 9 (Operand.tmp 18) (Operand.tmp 20) 9, _, _, _, some (5, true)⟩ rfl (fun _ _ _ h => h) hHeld ?_
      refine take_v (v := ?_) 15 ⟨some 22, Op.pick (Operand.tmp 12) (Operand.tmp 21) (Operand.const (Value.bool false)), _, _, _, none⟩ rfl (fun _ _ _ h => h) ?_ hHeld ?_
      rotate_left
      · (intro W _; go_simp <;> (try with_reducible rfl))
      refine wpAnyH_done (by kernel_rfl) ?_ _
      refine NoPanic.normal ?_
      clear hHeld
      obtain ⟨wd, hwd⟩ : ∃ y, y = wr.drew := ⟨_, rfl⟩
      rw [← hwd] at H1 ⊢
      clear hwd
      have xa1 := (H1.out.1).1.cell 1 rfl; have xaz := (H1.out.1).1.2; have xb0 := (H1.out.1).2.1.cell 0 rfl; have xb1 := (H1.out.1).2.1.cell 1 rfl; have xb2 := (H1.out.1).2.1.cell 2 rfl; have xb3 := (H1.out.1).2.1.cell 3 rfl; have xb4 := (H1.out.1).2.1.cell 4 rfl; have xb5 := (H1.out.1).2.1.cell 5 rfl; have xbz := (H1.out.1).2.1.2
      have hzd := H1.out.1.2.2.2
      have HN : Hid (∀ j u, ([.string x.f0, .string x.f1, .int .i64 x.f2, .int .i64 x.f3, .bool x.f4, .int .i64 x.f5] : List Value)[j]? = some u → (wd.alloc (.cells #[.string x.f0, .string x.f1, .int .i64 x.f2, .int .i64 x.f3, .bool x.f4, .int .i64 x.f5] 59)).cell? ((⟨wd.heap.size, 0, none⟩ : Addr).add j) = some u) := cells_new wd [.string x.f0, .string x.f1, .int .i64 x.f2, .int .i64 x.f3, .bool x.f4, .int .i64 x.f5] 59
      go_wp2_with (first
        | (at_builtin; refine wpList_append_own_none rfl (.tmp 25) (.tmp 29) 25 rfl nb 59 i0 6 Try.underlying25 hi0 (.slice none 0 0) 0 [] rfl (World.ownsRow_nil _ _ _ _) rfl ?_)
        | (at_builtin; refine wpList_append_own_at _ rfl (.tmp 31) (.tmp 33) 25 rfl nb 59 i0 (.agg #[.string ⟨#[]⟩, .string ⟨#[]⟩, .int .i64 0, .int .i64 0, .bool false, .int .i64 0]) 6 64 Try.underlying25 hi0 y0 y1 y2 rfl (by decide) (.slice none 0 0) 0 [] rfl (World.ownsRow_nil _ _ _ _) ⟨wd.heap.size, 0, none⟩ 1 1 [.string x.f0, .string x.f1, .int .i64 x.f2, .int .i64 x.f3, .bool x.f4, .int .i64 x.f5] rfl rfl HN.out (by intro u hu; simp at hu; rcases hu with rfl | rfl | rfl | rfl | rfl | rfl <;> rfl) (by unfold maxLen; omega) (by omega) (by simp; omega) ?_; intro v4 w4 hown4 hgrow4 hnil4 hwh4)
        | go_in)
      have H4 : Hid (w4.drew.ownsRow nb 59 6 v4 (0 + 1) ([] ++ [.string x.f0, .string x.f1, .int .i64 x.f2, .int .i64 x.f3, .bool x.f4, .int .i64 x.f5]) ∧ P3 w.heap.size (.slice none 0 0) x w4.drew ∧ (∀ B w0, Below B w0 w → B ≤ nb → B ≤ w.heap.size → Below B w0 w4.drew) ∧ ∀ k, v4.ownBlock = some k → w.heap.size + 2 < k) := by
        have hz : wd.heap.size + 1 ≤ w4.heap.size := by have := hgrow4.size; simpa using this
        refine ⟨hown4.drew, ((H1.out.1.alloc _).grew hgrow4 (fun k _ _ e => by cases e)).next (Below.refl _ _).drew, fun B w0 h h1 h2 => (((h.trans (H1.out.2.mono h2)).alloc (by omega) _).grown hgrow4 (by simp; omega) (fun j hj => by cases hj)).drew, fun k hk => ?_⟩
        rcases hwh4 with h | h
        · rw [h] at hk; cases hk
        · rw [h] at hk; cases hk; simp; omega
      clear hown4 hgrow4 hnil4 hwh4 H1 HN xa1 xaz xb0 xb1 xb2 xb3 xb4 xb5 xbz hzd
      go_upto_region 7 with fail
      refine wp_region_noPanic ?_
      refine wp_region_held_drew (S := fun W => P3 w.heap.size (.slice none 0 0) x W) (by kernel_rfl) H4.out.2.1 (fun hHeld => ?_)
      refine take_v (v := ?_) 0 ⟨some 35, Op.move (Operand.tmp 5), _, _, _, none⟩ rfl (fun _ _ _ h => h) ?_ hHeld ?_
      rotate_left
      · (intro W _; go_simp <;> (try with_reducible rfl))
      refine take_v (v := ?_) 1 ⟨some 36, Op.fieldAddr 91 (Operand.tmp 2) 1, _, _, _, none⟩ rfl (fun _ _ _ h => h) ?_ hHeld ?_
      rotate_left
      · (intro W _; go_simp <;> (try with_reducible rfl))
      refine take_v (v := ?_) 2 ⟨some 37, Op.load 25 (Operand.tmp 36), _, _, _, none⟩ rfl (fun _ _ _ h => h) ?_ hHeld ?_
      rotate_left
      · (intro W hSW; (have s0 := hSW.1.cell 1 rfl; have s0z := hSW.1.2; have s1 := hSW.2.1.cell 0 rfl; have s1z := hSW.2.1.2); go_simp <;> (try with_reducible rfl))
      refine take_v (v := ?_) 3 ⟨some 38, Op.call { callee := Callee.builtin Builtin.len, args := #[Operand.tmp 37], argTypes := #[25] }, _, _, _, none⟩ rfl (fun _ _ _ h => h) ?_ hHeld ?_
      rotate_left
      · (intro W _; go_simp <;> (try with_reducible rfl))
      refine take_v (v := ?_) 4 ⟨some 39, Op.binOp BinOp.lss 3 (Operand.tmp 35) (Operand.tmp 38) 3, _, _, _, none⟩ rfl (fun _ _ _ h => h) ?_ hHeld ?_
      rotate_left
      · (intro W _; go_simp <;> (try with_reducible rfl))
      refine take_v (v := ?_) 5 ⟨some 40, Op.move (Operand.tmp 39), _, _, _, none⟩ rfl (fun _ _ _ h => h) ?_ hHeld ?_
      rotate_left
      · (intro W _; go_simp <;> (try with_reducible rfl))
      refine take_n 6 ⟨some 41, Op.fieldAddr 91 (Operand.tmp 2) 1, _, _, _, some (5, true)⟩ rfl (fun _ _ _ h => h) hHeld ?_
      refine take_n 7 ⟨some 42, Op.load 25 (Operand.tmp 41), _, _, _, some (5, true)⟩ rfl (fun _ _ _ h => h) hHeld ?_
      refine take_n 8 ⟨some 43, Op.move (Operand.tmp 5), _, _, _, some (5, true)⟩ rfl (fun _ _ _ h => h) hHeld ?_
      refine take_n 9 ⟨some 44, Op.indexAddr 25 (Operand.tmp 42) (Operand.tmp 43), _, _, _, some (5, true)⟩ rfl (fun _ _ _ h => h) hHeld ?_
      refine take_n 10 ⟨some 45, Op.fieldAddr 59 (Operand.tmp 44) 0, _, _, _, some (5, true)⟩ rfl (fun _ _ _ h => h) hHeld ?_
      refine take_n 11 ⟨some 46, Op.load 9 (Operand.tmp 45), _, _, _, some (5, true)⟩ rfl (fun _ _ _ h => h) hHeld ?_
      refine take_n 12 ⟨some 47, Op.fieldAddr 59 (Operand.tmp 3) 0, _, _, _, some (5, true)⟩ rfl (fun _ _ _ h => h) hHeld ?_
      refine take_n 13 ⟨some 48, Op.load 9 (Operand.tmp 47), _, _, _, some (5, true)⟩ rfl (fun _ _ _ h => h) hHeld ?_
      refine take_n 14 ⟨some 49, Op.binOp BinOp.eql 9 (Operand.tmp 46) (Operand.tmp 48) 9, _, _, _, some (5, true)⟩ rfl (fun _ _ _ h => h) hHeld ?_
      refine take_v (v := ?_) 15 ⟨some 50, Op.pick (Operand.tmp 40) (Operand.tmp 49) (Operand.const (Value.bool false)), _, _, _, none⟩ rfl (fun _ _ _ h => h) ?_ hHeld ?_
      rotate_left
      · (intro W _; go_simp <;> (try with_reducible rfl))
      refine wpAnyH_done (by kernel_rfl) ?_ _
      refine NoPanic.normal ?_
      clear hHeld
      obtain ⟨wf, hwf⟩ : ∃ y, y = w4.drew := ⟨_, rfl⟩
      rw [← hwf] at H4 ⊢
      clear hwf
      obtain ⟨g4, c4, hv4⟩ := Go.Joins.ownsRow_form H4.out.1 (by omega)
      obtain ⟨n4, hn4⟩ : ∃ n4, n4 = 0 + 1 := ⟨_, rfl⟩
      rw [← hn4] at hv4 H4
      subst hv4
      have HN4 : Hid (n4 = 0 + 1) := hn4
      clear hn4
      have H5 : Hid (PutS nb (putR [] x) w (.returned (.agg #[.int .i64 0, .slice (some ⟨g4, 0, none⟩) n4 c4, .slice none 0 0, .slice none 0 0])) ((((((wf.setCell ⟨w.heap.size, 1, none⟩ (.slice (some ⟨g4, 0, none⟩) n4 c4))).setCell ⟨w.heap.size + 1 + 1, 0, none⟩ (.int .i64 0)).setCell ⟨w.heap.size + 1 + 1, 1, none⟩ (.slice (some ⟨g4, 0, none⟩) n4 c4)).setCell ⟨w.heap.size + 1 + 1, 2, none⟩ (.slice none 0 0)).setCell ⟨w.heap.size + 1 + 1, 3, none⟩ (.slice none 0 0))) := by
        rw [HL.out]
        refine put_fin (n := n4) (by rw [HN4.out]; rfl) ?_ H4.out.2.2.2 H4.out.2.2.1
        have : cellsR [x] = [.string x.f0, .string x.f1, .int .i64 x.f2, .int .i64 x.f3, .bool x.f4, .int .i64 x.f5] := cellsR_one x
        rw [this]; exact H4.out.1
      have HO4 : Hid (wf.ownsRow nb 59 6 (.slice (some ⟨g4, 0, none⟩) n4 c4) n4 ([] ++ [.string x.f0, .string x.f1, .int .i64 x.f2, .int .i64 x.f3, .bool x.f4, .int .i64 x.f5])) := H4.out.1
      have ka0 := (H4.out.2.1).1.cell 0 rfl; have ka1 := (H4.out.2.1).1.cell 1 rfl; have ka2 := (H4.out.2.1).1.cell 2 rfl; have ka3 := (H4.out.2.1).1.cell 3 rfl; have kf1 := (H4.out.2.1).1.frz 1 (by simp); have kaz := (H4.out.2.1).1.2; have kc0 := (H4.out.2.1).2.2.cell 0 rfl; have kc1 := (H4.out.2.1).2.2.cell 1 rfl; have kc2 := (H4.out.2.1).2.2.cell 2 rfl; have kc3 := (H4.out.2.1).2.2.cell 3 rfl; have kg0 := (H4.out.2.1).2.2.frz 0 (by simp); have kg1 := (H4.out.2.1).2.2.frz 1 (by simp); have kg2 := (H4.out.2.1).2.2.frz 2 (by simp); have kg3 := (H4.out.2.1).2.2.frz 3 (by simp); have kcz := (H4.out.2.1).2.2.2
      clear H4
      go_wp2_with (first
        | (at_builtin; refine wpList_append_own_none rfl (.tmp 53) (.tmp 57) 25 rfl nb 59 i0 6 Try.underlying25 hi0 (.slice (some ⟨g4, 0, none⟩) n4 c4) n4 ([] ++ [.string x.f0, .string x.f1, .int .i64 x.f2, .int .i64 x.f3, .bool x.f4, .int .i64 x.f5]) rfl HO4.out rfl ?_)
        | go_in)
      exact bodyPost_ret (v := .agg #[.int .i64 0, .slice (some ⟨g4, 0, none⟩) n4 c4, .slice none 0 0, .slice none 0 0]) (by simp [results, Try.results60, go_sem, *]) rfl H5.out
  · obtain ⟨a', cap', e', hcap, hrow⟩ := SRow.of (F := recordF (vR L)) (c := 6) hown
    simp only [Value.slice.injEq, true_and] at e'
    obtain ⟨e1, e2⟩ := e'
    subst e1 e2
    have hg := hown.lt g rfl
    have HO : Hid (w.ownsRow base 59 6 (.slice (some ⟨g, 0, none⟩) L.length cap) L.length (cellsR L) ∧ base ≤ g ∧ g < w.heap.size) := ⟨hown, hg.1, hg.2⟩
    clear hown hrow hg
    go_enter Try.func60, Try.ntmps60
    go_wp2
    go_loopw [5] (fun i wr => ∃ p : Nat, p ≤ L.length ∧ i = .int .i64 p ∧ (∀ q, q < p → Op.bytesLess (vR L q).f0.toList x.f0.toList = true) ∧ P3 w.heap.size (.slice (some ⟨g, 0, none⟩) L.length cap) x wr ∧ Below w.heap.size w wr) (fun i _ => L.length - (intOf i).toNat)
    case atStart => exact ⟨0, Nat.zero_le _, rfl, fun q hq => absurd hq (by omega), HX.out.1, HX.out.2⟩
    case round =>
      obtain ⟨p, hp, rfl, hall, hx, hBr⟩ := hrel
      clear HX
      have H1 : Hid (P3 w.heap.size (.slice (some ⟨g, 0, none⟩) L.length cap) x wr.drew ∧ Below w.heap.size w wr.drew) := ⟨hx.next (Below.refl _ _).drew, hBr.drew⟩
      have HA : Hid (∀ q, q < p → Op.bytesLess (vR L q).f0.toList x.f0.toList = true) := hall
      clear hx hBr hall
      by_cases hpn : p < L.length
      · have hpn' : (p : Int) < (L.length : Int) := by omega
        have hpd : decide (p < L.length) = true := by simp; omega
        have HCk : Hid (wr.drew.cell? ⟨g, p * 6, none⟩ = some (.string (vR L p).f0)) := cell_keyR (own_keep HO.out.1 H1.out.2) hpn
        cases el : Op.bytesLess (vR L p).f0.toList x.f0.toList
        case true =>
          go_upto_region 2 with fail
          refine wp_region_noPanic ?_
          refine wp_region_held_drew (S := fun W => (P3 w.heap.size (.slice (some ⟨g, 0, none⟩) L.length cap) x W) ∧ W.cell? ⟨g, p * 6, none⟩ = some (.string (vR L p).f0)) (by kernel_rfl) ⟨H1.out.1, HCk.out⟩ (fun hHeld => ?_)
          refine take_v (v := ?_) 0 ⟨some 7, Op.move (Operand.tmp 5), _, _, _, none⟩ rfl (fun _ _ _ h => h) ?_ hHeld ?_
          rotate_left
          · (intro W _; go_simp <;> (try with_reducible rfl))
          refine take_v (v := ?_) 1 ⟨some 8, Op.fieldAddr 91 (Operand.tmp 2) 1, _, _, _, none⟩ rfl (fun _ _ _ h => h) ?_ hHeld ?_
          rotate_left
          · (intro W _; go_simp <;> (try with_reducible rfl))
          refine take_v (v := ?_) 2 ⟨some 9, Op.load 25 (Operand.tmp 8), _, _, _, none⟩ rfl (fun _ _ _ h => h) ?_ hHeld ?_
          rotate_left
          · (intro W hSW; (have s0 := hSW.1.1.cell 1 rfl; have s0z := hSW.1.1.2; have s1 := hSW.1.2.1.cell 0 rfl; have s1z := hSW.1.2.1.2; have s2 := hSW.2); go_simp <;> (try with_reducible rfl))
          refine take_v (v := ?_) 3 ⟨some 10, Op.call { callee := Callee.builtin Builtin.len, args := #[Operand.tmp 9], argTypes := #[25] }, _, _, _, none⟩ rfl (fun _ _ _ h => h) ?_ hHeld ?_
          rotate_left
          · (intro W _; go_simp <;> (try with_reducible rfl))
          refine take_v (v := ?_) 4 ⟨some 11, Op.binOp BinOp.lss 3 (Operand.tmp 7) (Operand.tmp 10) 3, _, _, _, none⟩ rfl (fun _ _ _ h => h) ?_ hHeld ?_
          rotate_left
          · (intro W _; go_simp <;> (try with_reducible rfl))
          refine take_v (v := ?_) 5 ⟨some 12, Op.move (Operand.tmp 11), _, _, _, none⟩ rfl (fun _ _ _ h => h) ?_ hHeld ?_
          rotate_left
          · (intro W _; go_simp <;> (try with_reducible rfl))
          refine take_v (v := ?_) 6 ⟨some 13, Op.fieldAddr 91 (Operand.tmp 2) 1, _, _, _, some (5, true)⟩ rfl (fun _ _ _ h => h) ?_ hHeld ?_
          rotate_left
          · (intro W _; go_simp <;> (try with_reducible rfl))
          refine take_v (v := ?_) 7 ⟨some 14, Op.load 25 (Operand.tmp 13), _, _, _, some (5, true)⟩ rfl (fun _ _ _ h => h) ?_ hHeld ?_
          rotate_left
          · (intro W hSW; (have s0 := hSW.1.1.cell 1 rfl; have s0z := hSW.1.1.2; have s1 := hSW.1.2.1.cell 0 rfl; have s1z := hSW.1.2.1.2; have s2 := hSW.2); go_simp <;> (try with_reducible rfl))
          refine take_v (v := ?_) 8 ⟨some 15, Op.move (Operand.tmp 5), _, _, _, some (5, true)⟩ rfl (fun _ _ _ h => h) ?_ hHeld ?_
          rotate_left
          · (intro W _; go_simp <;> (try with_reducible rfl))
          refine take_v (v := ?_) 9 ⟨some 16, Op.indexAddr 25 (Operand.tmp 14) (Operand.tmp 15), _, _, _, some (5, true)⟩ rfl (fun _ _ _ h => h) ?_ hHeld ?_
          rotate_left
          · (intro W _; go_simp <;> (try with_reducible rfl))
          refine take_v (v := ?_) 10 ⟨some 17, Op.fieldAddr 59 (Operand.tmp 16) 0, _, _, _, some (5, true)⟩ rfl (fun _ _ _ h => h) ?_ hHeld ?_
          rotate_left
          · (intro W _; go_simp <;> (try with_reducible rfl))
          refine take_v (v := ?_) 11 ⟨some 18, Op.load 9 (Operand.tmp 17), _, _, _, some (5, true)⟩ rfl (fun _ _ _ h => h) ?_ hHeld ?_
          rotate_left
          · (intro W hSW; (have s0 := hSW.1.1.cell 1 rfl; have s0z := hSW.1.1.2; have s1 := hSW.1.2.1.cell 0 rfl; have s1z := hSW.1.2.1.2; have s2 := hSW.2); go_simp <;> (try with_reducible rfl))
          refine take_v (v := ?_) 12 ⟨some 19, Op.fieldAddr 59 (Operand.tmp 3) 0, _, _, _, some (5, true)⟩ rfl (fun _ _ _ h => h) ?_ hHeld ?_
          rotate_left
          · (intro W _; go_simp <;> (try with_reducible rfl))
          refine take_v (v := ?_) 13 ⟨some 20, Op.load 9 (Operand.tmp 19), _, _, _, some (5, true)⟩ rfl (fun _ _ _ h => h) ?_ hHeld ?_
          rotate_left
          · (intro W hSW; (have s0 := hSW.1.1.cell 1 rfl; have s0z := hSW.1.1.2; have s1 := hSW.1.2.1.cell 0 rfl; have s1z := hSW.1.2.1.2; have s2 := hSW.2); go_simp <;> (try with_reducible rfl))
          refine take_v (v := ?_) 14 ⟨some 21, Op.binOp BinOp.lss 9 (Operand.tmp 18) (Operand.tmp 20) 9, _, _, _, some (5, true)⟩ rfl (fun _ _ _ h => h) ?_ hHeld ?_
          rotate_left
          · (intro W _; go_simp <;> (try with_reducible rfl))
          refine take_v (v := ?_) 15 ⟨some 22, Op.pick (Operand.tmp 12) (Operand.tmp 21) (Operand.const (Value.bool false)), _, _, _, none⟩ rfl (fun _ _ _ h => h) ?_ hHeld ?_
          rotate_left
          · (intro W _; go_simp <;> (try with_reducible rfl))
          refine wpAnyH_done (by kernel_rfl) ?_ _
          refine NoPanic.normal ?_
          go_wp2
          go_roundw
          case rel => exact ⟨p + 1, by omega, by go_num, upto_succ HA.out el, H1.out.1, H1.out.2⟩
          case measure => simp [intOf]; omega
        have HPL : Hid (plR L x.f0.toList = p) := plR_eq hp HA.out (fun _ => el)
        go_upto_region 2 with fail
        refine wp_region_noPanic ?_
        refine wp_region_held_drew (S := fun W => (P3 w.heap.size (.slice (some ⟨g, 0, none⟩) L.length cap) x W) ∧ W.cell? ⟨g, p * 6, none⟩ = some (.string (vR L p).f0)) (by kernel_rfl) ⟨H1.out.1, HCk.out⟩ (fun hHeld => ?_)
        refine take_v (v := ?_) 0 ⟨some 7, Op.move (Operand.tmp 5), _, _, _, none⟩ rfl (fun _ _ _ h => h) ?_ hHeld ?_
        rotate_left
        · (intro W _; go_simp <;> (try with_reducible rfl))
        refine take_v (v := ?_) 1 ⟨some 8, Op.fieldAddr 91 (Operand.tmp 2) 1, _, _, _, none⟩ rfl (fun _ _ _ h => h) ?_ hHeld ?_
        rotate_left
        · (intro W _; go_simp <;> (try with_reducible rfl))
        refine take_v (v := ?_) 2 ⟨some 9, Op.load 25 (Operand.tmp 8), _, _, _, none⟩ rfl (fun _ _ _ h => h) ?_ hHeld ?_
        rotate_left
        · (intro W hSW; (have s0 := hSW.1.1.cell 1 rfl; have s0z := hSW.1.1.2; have s1 := hSW.1.2.1.cell 0 rfl; have s1z := hSW.1.2.1.2; have s2 := hSW.2); go_simp <;> (try with_reducible rfl))
        refine take_v (v := ?_) 3 ⟨some 10, Op.call { callee := Callee.builtin Builtin.len, args := #[Operand.tmp 9], argTypes := #[25] }, _, _, _, none⟩ rfl (fun _ _ _ h => h) ?_ hHeld ?_
        rotate_left
        · (intro W _; go_simp <;> (try with_reducible rfl))
        refine take_v (v := ?_) 4 ⟨some 11, Op.binOp BinOp.lss 3 (Operand.tmp 7) (Operand.tmp 10) 3, _, _, _, none⟩ rfl (fun _ _ _ h => h) ?_ hHeld ?_
        rotate_left
        · (intro W _; go_simp <;> (try with_reducible rfl))
        refine take_v (v := ?_) 5 ⟨some 12, Op.move (Operand.tmp 11), _, _, _, none⟩ rfl (fun _ _ _ h => h) ?_ hHeld ?_
        rotate_left
        · (intro W _; go_simp <;> (try with_reducible rfl))
        refine take_v (v := ?_) 6 ⟨some 13, Op.fieldAddr 91 (Operand.tmp 2) 1, _, _, _, some (5, true)⟩ rfl (fun _ _ _ h => h) ?_ hHeld ?_
        rotate_left
        · (intro W _; go_simp <;> (try with_reducible rfl))
        refine take_v (v := ?_) 7 ⟨some 14, Op.load 25 (Operand.tmp 13), _, _, _, some (5, true)⟩ rfl (fun _ _ _ h => h) ?_ hHeld ?_
        rotate_left
        · (intro W hSW; (have s0 := hSW.1.1.cell 1 rfl; have s0z := hSW.1.1.2; have s1 := hSW.1.2.1.cell 0 rfl; have s1z := hSW.1.2.1.2; have s2 := hSW.2); go_simp <;> (try with_reducible rfl))
        refine take_v (v := ?_) 8 ⟨some 15, Op.move (Operand.tmp 5), _, _, _, some (5, true)⟩ rfl (fun _ _ _ h => h) ?_ hHeld ?_
        rotate_left
        · (intro W _; go_simp <;> (try with_reducible rfl))
        refine take_v (v := ?_) 9 ⟨some 16, Op.indexAddr 25 (Operand.tmp 14) (Operand.tmp 15), _, _, _, some (5, true)⟩ rfl (fun _ _ _ h => h) ?_ hHeld ?_
        rotate_left
        · (intro W _; go_simp <;> (try with_reducible rfl))
        refine take_v (v := ?_) 10 ⟨some 17, Op.fieldAddr 59 (Operand.tmp 16) 0, _, _, _, some (5, true)⟩ rfl (fun _ _ _ h => h) ?_ hHeld ?_
        rotate_left
        · (intro W _; go_simp <;> (try with_reducible rfl))
        refine take_v (v := ?_) 11 ⟨some 18, Op.load 9 (Operand.tmp 17), _, _, _, some (5, true)⟩ rfl (fun _ _ _ h => h) ?_ hHeld ?_
        rotate_left
        · (intro W hSW; (have s0 := hSW.1.1.cell 1 rfl; have s0z := hSW.1.1.2; have s1 := hSW.1.2.1.cell 0 rfl; have s1z := hSW.1.2.1.2; have s2 := hSW.2); go_simp <;> (try with_reducible rfl))
        refine take_v (v := ?_) 12 ⟨some 19, Op.fieldAddr 59 (Operand.tmp 3) 0, _, _, _, some (5, true)⟩ rfl (fun _ _ _ h => h) ?_ hHeld ?_
        rotate_left
        · (intro W _; go_simp <;> (try with_reducible rfl))
        refine take_v (v := ?_) 13 ⟨some 20, Op.load 9 (Operand.tmp 19), _, _, _, some (5, true)⟩ rfl (fun _ _ _ h => h) ?_ hHeld ?_
        rotate_left
        · (intro W hSW; (have s0 := hSW.1.1.cell 1 rfl; have s0z := hSW.1.1.2; have s1 := hSW.1.2.1.cell 0 rfl; have s1z := hSW.1.2.1.2; have s2 := hSW.2); go_simp <;> (try with_reducible rfl))
        refine take_v (v := ?_) 14 ⟨some 21, Op.binOp BinOp.lss 9 (Operand.tmp 18) (Operand.tmp 20) 9, _, _, _, some (5, true)⟩ rfl (fun _ _ _ h => h) ?_ hHeld ?_
        rotate_left
        · (intro W _; go_simp <;> (try with_reducible rfl))
        refine take_v (v := ?_) 15 ⟨some 22, Op.pick (Operand.tmp 12) (Operand.tmp 21) (Operand.const (Value.bool false)), _, _, _, none⟩ rfl (fun _ _ _ h => h) ?_ hHeld ?_
        rotate_left
        · (intro W _; go_simp <;> (try with_reducible rfl))
        refine wpAnyH_done (by kernel_rfl) ?_ _
        refine NoPanic.normal ?_
        clear HCk
        clear hHeld
        obtain ⟨wd, hwd⟩ : ∃ y, y = wr.drew := ⟨_, rfl⟩
        rw [← hwd] at H1 ⊢
        clear hwd
        have hzd : w.heap.size + 2 < wd.heap.size := H1.out.1.2.2.2
        have HOd : Hid (wd.ownsRow base 59 6 (.slice (some ⟨g, 0, none⟩) L.length cap) L.length (cellsR L)) := own_keep HO.out.1 H1.out.2
        have HNT : Hid (∀ j u, (cellsR (L.take p))[j]? = some u → wd.cell? ((⟨g, 0, none⟩ : Addr).add j) = some u) := news_takeR HOd.out hp
        have hlt1 : (cellsR (L.take p)).length = p * 6 := by rw [cellsR_len, List.length_take, Nat.min_eq_left hp]
        have hpc : (p : Int) ≤ (cap : Int) := by omega
        have xa1 := (H1.out.1).1.cell 1 rfl; have xaz := (H1.out.1).1.2; have xb0 := (H1.out.1).2.1.cell 0 rfl; have xb1 := (H1.out.1).2.1.cell 1 rfl; have xb2 := (H1.out.1).2.1.cell 2 rfl; have xb3 := (H1.out.1).2.1.cell 3 rfl; have xb4 := (H1.out.1).2.1.cell 4 rfl; have xb5 := (H1.out.1).2.1.cell 5 rfl; have xbz := (H1.out.1).2.1.2
        go_wp2_with (first
          | (at_builtin; refine wpList_append_own_at _ rfl (.tmp 25) (.tmp 29) 25 rfl nb 59 i0 (.agg #[.string ⟨#[]⟩, .string ⟨#[]⟩, .int .i64 0, .int .i64 0, .bool false, .int .i64 0]) 6 64 Try.underlying25 hi0 y0 y1 y2 rfl (by decide) (.slice none 0 0) 0 [] rfl (World.ownsRow_nil _ _ _ _) ⟨g, 0, none⟩ p cap (cellsR (L.take p)) rfl hlt1 HNT.out (cellsR_one' _) (by unfold maxLen; omega) (by omega) (by omega) ?_; intro v1 w1 hown1 hgrow1 hnil1 hwh1; have G1 := H1.out.1.grew hgrow1 (fun k _ _ e => by cases e); have za1 := (G1).1.cell 1 rfl; have zaz := (G1).1.2; have zb0 := (G1).2.1.cell 0 rfl; have zb1 := (G1).2.1.cell 1 rfl; have zb2 := (G1).2.1.cell 2 rfl; have zb3 := (G1).2.1.cell 3 rfl; have zb4 := (G1).2.1.cell 4 rfl; have zb5 := (G1).2.1.cell 5 rfl; have zbz := (G1).2.1.2)
          | (at_builtin; refine wpList_append_own_at _ rfl (.tmp 31) (.tmp 33) 25 rfl nb 59 i0 (.agg #[.string ⟨#[]⟩, .string ⟨#[]⟩, .int .i64 0, .int .i64 0, .bool false, .int .i64 0]) 6 64 Try.underlying25 hi0 y0 y1 y2 rfl (by decide) v1 (0 + p) ([] ++ cellsR (L.take p)) rfl (World.ownsRow.alloc hown1 _) ⟨w1.heap.size, 0, none⟩ 1 1 [.string x.f0, .string x.f1, .int .i64 x.f2, .int .i64 x.f3, .bool x.f4, .int .i64 x.f5] rfl rfl (cells_new w1 [.string x.f0, .string x.f1, .int .i64 x.f2, .int .i64 x.f3, .bool x.f4, .int .i64 x.f5] 59) (by intro u hu; simp at hu; rcases hu with rfl | rfl | rfl | rfl | rfl | rfl <;> rfl) (by unfold maxLen; omega) (by omega) (by have := hgrow1.size; simp; omega) ?_; intro v2 w2 hown2 hgrow2 hnil2 hwh2)
          | go_in)
        have hz1 : wd.heap.size ≤ w1.heap.size := hgrow1.size
        have hz2 : w1.heap.size + 1 ≤ w2.heap.size := by have := hgrow2.size; simpa using this
        have hv1 : ∀ b, v1.ownBlock = some b → b = wd.heap.size := fun b hb => by
          rcases hwh1 with h | h
          · rw [h] at hb; cases hb
          · rw [h] at hb; exact (Option.some.inj hb).symm
        have H2 : Hid (w2.drew.ownsRow nb 59 6 v2 (0 + p + 1) ([] ++ cellsR (L.take p) ++ [.string x.f0, .string x.f1, .int .i64 x.f2, .int .i64 x.f3, .bool x.f4, .int .i64 x.f5]) ∧ P3 w.heap.size (.slice (some ⟨g, 0, none⟩) L.length cap) x w2.drew ∧ w2.drew.ownsRow base 59 6 (.slice (some ⟨g, 0, none⟩) L.length cap) L.length (cellsR L) ∧ (∀ B w0, Below B w0 w → B ≤ nb → B ≤ w.heap.size → Below B w0 w2.drew) ∧ (∀ b, v2.ownBlock = some b → nb ≤ b ∧ wd.heap.size ≤ b)) := by
          have hgw := HO.out.2.2
          refine ⟨hown2.drew, ((G1.alloc _).grew hgrow2 (fun k _ hk e => by have := hv1 _ e.symm; omega)).next (Below.refl _ _).drew, ((own_grR (own_keep (own_grR HOd.out hgrow1 (fun b hb e => by cases e)) (Go.Joins.below_alloc1 _ _)) hgrow2 (fun b hb e => by have h1 := hv1 b e; have h2 : b = g := (Option.some.inj hb).symm; omega))).drew, fun B w0 h h1 h2 => ?_, fun b hb => ?_⟩
          · have e1 : Below B w0 w1 := (h.trans (H1.out.2.mono h2)).grown hgrow1 (by omega) (fun j hj => by cases hj)
            exact ((e1.alloc (by omega) _).grown hgrow2 (by simp; omega) (fun j hj => by have := hv1 j hj; omega)).drew
          · refine ⟨(hown2.lt b hb).1, ?_⟩
            rcases hwh2 with h | h
            · rw [h] at hb; have := hv1 b hb; omega
            · rw [h] at hb; have := Option.some.inj hb; simp at this; omega
        clear hown1 hgrow1 hnil1 hwh1 hown2 hgrow2 hnil2 hwh2 G1 xa1 xaz xb0 xb1 xb2 xb3 xb4 xb5 xbz za1 zaz zb0 zb1 zb2 zb3 zb4 zb5 zbz HNT H1 HOd hv1

        have HCp : Hid (w2.drew.cell? ⟨g, p * 6, none⟩ = some (.string (vR L p).f0)) := cell_keyR H2.out.2.2.1 hpn
        cases ek : ((vR L p).f0.toList == x.f0.toList)
        · have HPU : Hid (putR L x = L.take p ++ x :: L.drop (p)) := by show _ = _; rw [putR, HPL.out, if_neg (fun h => by rw [h.2] at ek; simp at ek)]
          go_upto_region 7 with fail
          refine wp_region_noPanic ?_
          refine wp_region_held_drew (S := fun W => (P3 w.heap.size (.slice (some ⟨g, 0, none⟩) L.length cap) x W) ∧ W.cell? ⟨g, p * 6, none⟩ = some (.string (vR L p).f0)) (by kernel_rfl) ⟨H2.out.2.1, HCp.out⟩ (fun hHeld => ?_)
          refine take_v (v := ?_) 0 ⟨some 35, Op.move (Operand.tmp 5), _, _, _, none⟩ rfl (fun _ _ _ h => h) ?_ hHeld ?_
          rotate_left
          · (intro W _; go_simp <;> (try with_reducible rfl))
          refine take_v (v := ?_) 1 ⟨some 36, Op.fieldAddr 91 (Operand.tmp 2) 1, _, _, _, none⟩ rfl (fun _ _ _ h => h) ?_ hHeld ?_
          rotate_left
          · (intro W _; go_simp <;> (try with_reducible rfl))
          refine take_v (v := ?_) 2 ⟨some 37, Op.load 25 (Operand.tmp 36), _, _, _, none⟩ rfl (fun _ _ _ h => h) ?_ hHeld ?_
          rotate_left
          · (intro W hSW; (have s0 := hSW.1.1.cell 1 rfl; have s0z := hSW.1.1.2; have s1 := hSW.1.2.1.cell 0 rfl; have s1z := hSW.1.2.1.2; have s2 := hSW.2); go_simp <;> (try with_reducible rfl))
          refine take_v (v := ?_) 3 ⟨some 38, Op.call { callee := Callee.builtin Builtin.len, args := #[Operand.tmp 37], argTypes := #[25] }, _, _, _, none⟩ rfl (fun _ _ _ h => h) ?_ hHeld ?_
          rotate_left
          · (intro W _; go_simp <;> (try with_reducible rfl))
          refine take_v (v := ?_) 4 ⟨some 39, Op.binOp BinOp.lss 3 (Operand.tmp 35) (Operand.tmp 38) 3, _, _, _, none⟩ rfl (fun _ _ _ h => h) ?_ hHeld ?_
          rotate_left
          · (intro W _; go_simp <;> (try with_reducible rfl))
          refine take_v (v := ?_) 5 ⟨some 40, Op.move (Operand.tmp 39), _, _, _, none⟩ rfl (fun _ _ _ h => h) ?_ hHeld ?_
          rotate_left
          · (intro W _; go_simp <;> (try with_reducible rfl))
          refine take_v (v := ?_) 6 ⟨some 41, Op.fieldAddr 91 (Operand.tmp 2) 1, _, _, _, some (5, true)⟩ rfl (fun _ _ _ h => h) ?_ hHeld ?_
          rotate_left
          · (intro W _; go_simp <;> (try with_reducible rfl))
          refine take_v (v := ?_) 7 ⟨some 42, Op.load 25 (Operand.tmp 41), _, _, _, some (5, true)⟩ rfl (fun _ _ _ h => h) ?_ hHeld ?_
          rotate_left
          · (intro W hSW; (have s0 := hSW.1.1.cell 1 rfl; have s0z := hSW.1.1.2; have s1 := hSW.1.2.1.cell 0 rfl; have s1z := hSW.1.2.1.2; have s2 := hSW.2); go_simp <;> (try with_reducible rfl))
          refine take_v (v := ?_) 8 ⟨some 43, Op.move (Operand.tmp 5), _, _, _, some (5, true)⟩ rfl (fun _ _ _ h => h) ?_ hHeld ?_
          rotate_left
          · (intro W _; go_simp <;> (try with_reducible rfl))
          refine take_v (v := ?_) 9 ⟨some 44, Op.indexAddr 25 (Operand.tmp 42) (Operand.tmp 43), _, _, _, some (5, true)⟩ rfl (fun _ _ _ h => h) ?_ hHeld ?_
          rotate_left
          · (intro W _; go_simp <;> (try with_reducible rfl))
          refine take_v (v := ?_) 10 ⟨some 45, Op.fieldAddr 59 (Operand.tmp 44) 0, _, _, _, some (5, true)⟩ rfl (fun _ _ _ h => h) ?_ hHeld ?_
          rotate_left
          · (intro W _; go_simp <;> (try with_reducible rfl))
          refine take_v (v := ?_) 11 ⟨some 46, Op.load 9 (Operand.tmp 45), _, _, _, some (5, true)⟩ rfl (fun _ _ _ h => h) ?_ hHeld ?_
          rotate_left
          · (intro W hSW; (have s0 := hSW.1.1.cell 1 rfl; have s0z := hSW.1.1.2; have s1 := hSW.1.2.1.cell 0 rfl; have s1z := hSW.1.2.1.2; have s2 := hSW.2); go_simp <;> (try with_reducible rfl))
          refine take_v (v := ?_) 12 ⟨some 47, Op.fieldAddr 59 (Operand.tmp 3) 0, _, _, _, some (5, true)⟩ rfl (fun _ _ _ h => h) ?_ hHeld ?_
          rotate_left
          · (intro W _; go_simp <;> (try with_reducible rfl))
          refine take_v (v := ?_) 13 ⟨some 48, Op.load 9 (Operand.tmp 47), _, _, _, some (5, true)⟩ rfl (fun _ _ _ h => h) ?_ hHeld ?_
          rotate_left
          · (intro W hSW; (have s0 := hSW.1.1.cell 1 rfl; have s0z := hSW.1.1.2; have s1 := hSW.1.2.1.cell 0 rfl; have s1z := hSW.1.2.1.2; have s2 := hSW.2); go_simp <;> (try with_reducible rfl))
          refine take_v (v := ?_) 14 ⟨some 49, Op.binOp BinOp.eql 9 (Operand.tmp 46) (Operand.tmp 48) 9, _, _, _, some (5, true)⟩ rfl (fun _ _ _ h => h) ?_ hHeld ?_
          rotate_left
          · (intro W _; go_simp <;> (try with_reducible rfl))
          refine take_v (v := ?_) 15 ⟨some 50, Op.pick (Operand.tmp 40) (Operand.tmp 49) (Operand.const (Value.bool false)), _, _, _, none⟩ rfl (fun _ _ _ h => h) ?_ hHeld ?_
          rotate_left
          · (intro W _; go_simp <;> (try with_reducible rfl))
          refine wpAnyH_done (by kernel_rfl) ?_ _
          refine NoPanic.normal ?_
          clear hHeld

          have hk3c : (p : Int) ≤ (L.length : Int) := by omega
          have hk3d : (p : Int) ≤ (cap : Int) := by omega
          have hkl : p ≤ L.length := by omega
          obtain ⟨we, hwe⟩ : ∃ y, y = w2.drew := ⟨_, rfl⟩
          have hze : we.heap.size = w2.heap.size := by rw [hwe]; rfl
          rw [← hwe] at H2 ⊢
          clear hwe
          have HND : Hid (∀ j u, (cellsR (L.drop p))[j]? = some u → we.cell? ((⟨g, p * 6, none⟩ : Addr).add j) = some u) := news_dropR H2.out.2.2.1 hkl
          have hld : (cellsR (L.drop p)).length = (L.length - p) * 6 := by rw [cellsR_len, List.length_drop]
          have HFI : Hid (∀ n3 g3 c3 w', n3 = 0 + p + 1 + (L.length - p) → w'.ownsRow nb 59 6 (.slice (some ⟨g3, 0, none⟩) n3 c3) n3 ([] ++ cellsR (L.take p) ++ [.string x.f0, .string x.f1, .int .i64 x.f2, .int .i64 x.f3, .bool x.f4, .int .i64 x.f5] ++ cellsR (L.drop p)) → we.grownBy w' v2.ownBlock → (∀ k, ((.slice (some ⟨g3, 0, none⟩) n3 c3) : Value).ownBlock = some k → w.heap.size + 2 < k) → PutS nb (putR L x) w (.returned (.agg #[.int .i64 0, (.slice (some ⟨g3, 0, none⟩) n3 c3), .slice none 0 0, .slice none 0 0])) ((((((w'.setCell ⟨w.heap.size, 1, none⟩ (.slice (some ⟨g3, 0, none⟩) n3 c3))).setCell ⟨w.heap.size + 1 + 1, 0, none⟩ (.int .i64 0)).setCell ⟨w.heap.size + 1 + 1, 1, none⟩ (.slice (some ⟨g3, 0, none⟩) n3 c3)).setCell ⟨w.heap.size + 1 + 1, 2, none⟩ (.slice none 0 0)).setCell ⟨w.heap.size + 1 + 1, 3, none⟩ (.slice none 0 0))) := by
            intro n3 g3 c3 w' h0 h1 h2 h3
            rw [HPU.out]
            have e1 : cellsR (L.take p ++ x :: L.drop (p)) = [] ++ cellsR (L.take p) ++ [.string x.f0, .string x.f1, .int .i64 x.f2, .int .i64 x.f3, .bool x.f4, .int .i64 x.f5] ++ cellsR (L.drop p) := by rw [cellsR_append, cellsR_cons]; simp
            have e2 : 0 + p + 1 + (L.length - p) = (L.take p ++ x :: L.drop (p)).length := by simp only [List.length_append, List.length_cons, List.length_take, List.length_drop]; omega
            refine put_fin (n := n3) (h0.trans e2) (by rw [e1]; exact h1) h3 (fun B w0 h q1 q2 => (H2.out.2.2.2.1 B w0 h q1 q2).grown h2 (by omega) (fun j hj => Nat.le_trans q1 (H2.out.2.2.2.2 j hj).1))
          have HO2 : Hid (we.ownsRow nb 59 6 v2 (0 + p + 1) ([] ++ cellsR (L.take p) ++ [.string x.f0, .string x.f1, .int .i64 x.f2, .int .i64 x.f3, .bool x.f4, .int .i64 x.f5])) := H2.out.1
          have HP3 : Hid (P3 w.heap.size (.slice (some ⟨g, 0, none⟩) L.length cap) x we) := H2.out.2.1
          have HHI : Hid ((∀ k, v2.ownBlock = some k → w.heap.size + 2 < k) ∧ w.heap.size + 2 < we.heap.size) := ⟨fun k hk => by have := (H2.out.2.2.2.2 k hk).2; omega, H2.out.2.1.2.2.2⟩
          clear H2 HPU
          have xa1 := (HP3.out).1.cell 1 rfl; have xaz := (HP3.out).1.2; have xb0 := (HP3.out).2.1.cell 0 rfl; have xb1 := (HP3.out).2.1.cell 1 rfl; have xb2 := (HP3.out).2.1.cell 2 rfl; have xb3 := (HP3.out).2.1.cell 3 rfl; have xb4 := (HP3.out).2.1.cell 4 rfl; have xb5 := (HP3.out).2.1.cell 5 rfl; have xbz := (HP3.out).2.1.2
          by_cases hck : cap = p
          · exfalso; omega
          · go_wp2_with (first
              | (at_builtin; refine wpList_append_own_at _ rfl (.tmp 53) (.tmp 57) 25 rfl nb 59 i0 (.agg #[.string ⟨#[]⟩, .string ⟨#[]⟩, .int .i64 0, .int .i64 0, .bool false, .int .i64 0]) 6 64 Try.underlying25 hi0 y0 y1 y2 rfl (by decide) v2 (0 + p + 1) ([] ++ cellsR (L.take p) ++ [.string x.f0, .string x.f1, .int .i64 x.f2, .int .i64 x.f3, .bool x.f4, .int .i64 x.f5]) rfl HO2.out ⟨g, p * 6, none⟩ (L.length - p) _ (cellsR (L.drop p)) rfl hld HND.out (cellsR_one' _) (by unfold maxLen; omega) (by omega) (by omega) ?_; intro v3 w3 hown3 hgrow3 hnil3 hwh3; obtain ⟨g3, c3, hv3⟩ := Go.Joins.ownsRow_form hown3 (by omega); obtain ⟨n3, hn3⟩ : ∃ n3, n3 = 0 + p + 1 + (L.length - p) := ⟨_, rfl⟩; rw [← hn3] at hv3 hown3; subst hv3; have HN3 : Hid (n3 = 0 + p + 1 + (L.length - p)) := hn3; clear hn3; have hk3w := v3_hi hwh3 HHI.out; have G3 := HP3.out.grew hgrow3 (fun k _ hk e => by have := HHI.out.1 k e.symm; omega); have ka0 := (G3).1.cell 0 rfl; have ka1 := (G3).1.cell 1 rfl; have ka2 := (G3).1.cell 2 rfl; have ka3 := (G3).1.cell 3 rfl; have kf1 := (G3).1.frz 1 (by simp); have kaz := (G3).1.2; have kc0 := (G3).2.2.cell 0 rfl; have kc1 := (G3).2.2.cell 1 rfl; have kc2 := (G3).2.2.cell 2 rfl; have kc3 := (G3).2.2.cell 3 rfl; have kg0 := (G3).2.2.frz 0 (by simp); have kg1 := (G3).2.2.frz 1 (by simp); have kg2 := (G3).2.2.frz 2 (by simp); have kg3 := (G3).2.2.frz 3 (by simp); have kcz := (G3).2.2.2)
              | go_in)
            have HZ := HFI.out _ _ _ _ HN3.out hown3 hgrow3 hk3w
            exact bodyPost_ret (v := .agg #[.int .i64 0, .slice (some ⟨g3, 0, none⟩) n3 c3, .slice none 0 0, .slice none 0 0]) (by simp [results, Try.results60, go_sem, *]) rfl HZ
        · have HPU : Hid (putR L x = L.take p ++ x :: L.drop (p + 1)) := by show _ = _; rw [putR, HPL.out, if_pos ⟨hpn, by simpa using ek⟩]
          go_upto_region 7 with fail
          refine wp_region_noPanic ?_
          refine wp_region_held_drew (S := fun W => (P3 w.heap.size (.slice (some ⟨g, 0, none⟩) L.length cap) x W) ∧ W.cell? ⟨g, p * 6, none⟩ = some (.string (vR L p).f0)) (by kernel_rfl) ⟨H2.out.2.1, HCp.out⟩ (fun hHeld => ?_)
          refine take_v (v := ?_) 0 ⟨some 35, Op.move (Operand.tmp 5), _, _, _, none⟩ rfl (fun _ _ _ h => h) ?_ hHeld ?_
          rotate_left
          · (intro W _; go_simp <;> (try with_reducible rfl))
          refine take_v (v := ?_) 1 ⟨some 36, Op.fieldAddr 91 (Operand.tmp 2) 1, _, _, _, none⟩ rfl (fun _ _ _ h => h) ?_ hHeld ?_
          rotate_left
          · (intro W _; go_simp <;> (try with_reducible rfl))
          refine take_v (v := ?_) 2 ⟨some 37, Op.load 25 (Operand.tmp 36), _, _, _, none⟩ rfl (fun _ _ _ h => h) ?_ hHeld ?_
          rotate_left
          · (intro W hSW; (have s0 := hSW.1.1.cell 1 rfl; have s0z := hSW.1.1.2; have s1 := hSW.1.2.1.cell 0 rfl; have s1z := hSW.1.2.1.2; have s2 := hSW.2); go_simp <;> (try with_reducible rfl))
          refine take_v (v := ?_) 3 ⟨some 38, Op.call { callee := Callee.builtin Builtin.len, args := #[Operand.tmp 37], argTypes := #[25] }, _, _, _, none⟩ rfl (fun _ _ _ h => h) ?_ hHeld ?_
          rotate_left
          · (intro W _; go_simp <;> (try with_reducible rfl))
          refine take_v (v := ?_) 4 ⟨some 39, Op.binOp BinOp.lss 3 (Operand.tmp 35) (Operand.tmp 38) 3, _, _, _, none⟩ rfl (fun _ _ _ h => h) ?_ hHeld ?_
          rotate_left
          · (intro W _; go_simp <;> (try with_reducible rfl))
          refine take_v (v := ?_) 5 ⟨some 40, Op.move (Operand.tmp 39), _, _, _, none⟩ rfl (fun _ _ _ h => h) ?_ hHeld ?_
          rotate_left
          · (intro W _; go_simp <;> (try with_reducible rfl))
          refine take_v (v := ?_) 6 ⟨some 41, Op.fieldAddr 91 (Operand.tmp 2) 1, _, _, _, some (5, true)⟩ rfl (fun _ _ _ h => h) ?_ hHeld ?_
          rotate_left
          · (intro W _; go_simp <;> (try with_reducible rfl))
          refine take_v (v := ?_) 7 ⟨some 42, Op.load 25 (Operand.tmp 41), _, _, _, some (5, true)⟩ rfl (fun _ _ _ h => h) ?_ hHeld ?_
          rotate_left
          · (intro W hSW; (have s0 := hSW.1.1.cell 1 rfl; have s0z := hSW.1.1.2; have s1 := hSW.1.2.1.cell 0 rfl; have s1z := hSW.1.2.1.2; have s2 := hSW.2); go_simp <;> (try with_reducible rfl))
          refine take_v (v := ?_) 8 ⟨some 43, Op.move (Operand.tmp 5), _, _, _, some (5, true)⟩ rfl (fun _ _ _ h => h) ?_ hHeld ?_
          rotate_left
          · (intro W _; go_simp <;> (try with_reducible rfl))
          refine take_v (v := ?_) 9 ⟨some 44, Op.indexAddr 25 (Operand.tmp 42) (Operand.tmp 43), _, _, _, some (5, true)⟩ rfl (fun _ _ _ h => h) ?_ hHeld ?_
          rotate_left
          · (intro W _; go_simp <;> (try with_reducible rfl))
          refine take_v (v := ?_) 10 ⟨some 45, Op.fieldAddr 59 (Operand.tmp 44) 0, _, _, _, some (5, true)⟩ rfl (fun _ _ _ h => h) ?_ hHeld ?_
          rotate_left
          · (intro W _; go_simp <;> (try with_reducible rfl))
          refine take_v (v := ?_) 11 ⟨some 46, Op.load 9 (Operand.tmp 45), _, _, _, some (5, true)⟩ rfl (fun _ _ _ h => h) ?_ hHeld ?_
          rotate_left
          · (intro W hSW; (have s0 := hSW.1.1.cell 1 rfl; have s0z := hSW.1.1.2; have s1 := hSW.1.2.1.cell 0 rfl; have s1z := hSW.1.2.1.2; have s2 := hSW.2); go_simp <;> (try with_reducible rfl))
          refine take_v (v := ?_) 12 ⟨some 47, Op.fieldAddr 59 (Operand.tmp 3) 0, _, _, _, some (5, true)⟩ rfl (fun _ _ _ h => h) ?_ hHeld ?_
          rotate_left
          · (intro W _; go_simp <;> (try with_reducible rfl))
          refine take_v (v := ?_) 13 ⟨some 48, Op.load 9 (Operand.tmp 47), _, _, _, some (5, true)⟩ rfl (fun _ _ _ h => h) ?_ hHeld ?_
          rotate_left
          · (intro W hSW; (have s0 := hSW.1.1.cell 1 rfl; have s0z := hSW.1.1.2; have s1 := hSW.1.2.1.cell 0 rfl; have s1z := hSW.1.2.1.2; have s2 := hSW.2); go_simp <;> (try with_reducible rfl))
          refine take_v (v := ?_) 14 ⟨some 49, Op.binOp BinOp.eql 9 (Operand.tmp 46) (Operand.tmp 48) 9, _, _, _, some (5, true)⟩ rfl (fun _ _ _ h => h) ?_ hHeld ?_
          rotate_left
          · (intro W _; go_simp <;> (try with_reducible rfl))
          refine take_v (v := ?_) 15 ⟨some 50, Op.pick (Operand.tmp 40) (Operand.tmp 49) (Operand.const (Value.bool false)), _, _, _, none⟩ rfl (fun _ _ _ h => h) ?_ hHeld ?_
          rotate_left
          · (intro W _; go_simp <;> (try with_reducible rfl))
          refine wpAnyH_done (by kernel_rfl) ?_ _
          refine NoPanic.normal ?_
          clear hHeld
          obtain ⟨k3, hk3⟩ : ∃ k3, k3 = p + 1 := ⟨_, rfl⟩
          replace HPU : Hid (putR L x = L.take p ++ x :: L.drop k3) := by show _ = _; rw [hk3]; exact HPU.out
          have hki : (p : Int) + 1 = (k3 : Int) := by omega
          have hk3n : k3 ≤ L.length := by omega
          have HKP : Hid (k3 = p + 1) := hk3
          clear hk3
          have hk3c : (k3 : Int) ≤ (L.length : Int) := by omega
          have hk3d : (k3 : Int) ≤ (cap : Int) := by omega
          have hkl : k3 ≤ L.length := by omega
          obtain ⟨we, hwe⟩ : ∃ y, y = w2.drew := ⟨_, rfl⟩
          have hze : we.heap.size = w2.heap.size := by rw [hwe]; rfl
          rw [← hwe] at H2 ⊢
          clear hwe
          have HND : Hid (∀ j u, (cellsR (L.drop k3))[j]? = some u → we.cell? ((⟨g, k3 * 6, none⟩ : Addr).add j) = some u) := news_dropR H2.out.2.2.1 hkl
          have hld : (cellsR (L.drop k3)).length = (L.length - k3) * 6 := by rw [cellsR_len, List.length_drop]
          have HFI : Hid (∀ n3 g3 c3 w', n3 = 0 + p + 1 + (L.length - k3) → w'.ownsRow nb 59 6 (.slice (some ⟨g3, 0, none⟩) n3 c3) n3 ([] ++ cellsR (L.take p) ++ [.string x.f0, .string x.f1, .int .i64 x.f2, .int .i64 x.f3, .bool x.f4, .int .i64 x.f5] ++ cellsR (L.drop k3)) → we.grownBy w' v2.ownBlock → (∀ k, ((.slice (some ⟨g3, 0, none⟩) n3 c3) : Value).ownBlock = some k → w.heap.size + 2 < k) → PutS nb (putR L x) w (.returned (.agg #[.int .i64 0, (.slice (some ⟨g3, 0, none⟩) n3 c3), .slice none 0 0, .slice none 0 0])) ((((((w'.setCell ⟨w.heap.size, 1, none⟩ (.slice (some ⟨g3, 0, none⟩) n3 c3))).setCell ⟨w.heap.size + 1 + 1, 0, none⟩ (.int .i64 0)).setCell ⟨w.heap.size + 1 + 1, 1, none⟩ (.slice (some ⟨g3, 0, none⟩) n3 c3)).setCell ⟨w.heap.size + 1 + 1, 2, none⟩ (.slice none 0 0)).setCell ⟨w.heap.size + 1 + 1, 3, none⟩ (.slice none 0 0))) := by
            intro n3 g3 c3 w' h0 h1 h2 h3
            rw [HPU.out]
            have e1 : cellsR (L.take p ++ x :: L.drop (k3)) = [] ++ cellsR (L.take p) ++ [.string x.f0, .string x.f1, .int .i64 x.f2, .int .i64 x.f3, .bool x.f4, .int .i64 x.f5] ++ cellsR (L.drop k3) := by rw [cellsR_append, cellsR_cons]; simp
            have e2 : 0 + p + 1 + (L.length - k3) = (L.take p ++ x :: L.drop (k3)).length := by simp only [List.length_append, List.length_cons, List.length_take, List.length_drop]; omega
            refine put_fin (n := n3) (h0.trans e2) (by rw [e1]; exact h1) h3 (fun B w0 h q1 q2 => (H2.out.2.2.2.1 B w0 h q1 q2).grown h2 (by omega) (fun j hj => Nat.le_trans q1 (H2.out.2.2.2.2 j hj).1))
          have HO2 : Hid (we.ownsRow nb 59 6 v2 (0 + p + 1) ([] ++ cellsR (L.take p) ++ [.string x.f0, .string x.f1, .int .i64 x.f2, .int .i64 x.f3, .bool x.f4, .int .i64 x.f5])) := H2.out.1
          have HP3 : Hid (P3 w.heap.size (.slice (some ⟨g, 0, none⟩) L.length cap) x we) := H2.out.2.1
          have HHI : Hid ((∀ k, v2.ownBlock = some k → w.heap.size + 2 < k) ∧ w.heap.size + 2 < we.heap.size) := ⟨fun k hk => by have := (H2.out.2.2.2.2 k hk).2; omega, H2.out.2.1.2.2.2⟩
          clear H2 HPU
          have xa1 := (HP3.out).1.cell 1 rfl; have xaz := (HP3.out).1.2; have xb0 := (HP3.out).2.1.cell 0 rfl; have xb1 := (HP3.out).2.1.cell 1 rfl; have xb2 := (HP3.out).2.1.cell 2 rfl; have xb3 := (HP3.out).2.1.cell 3 rfl; have xb4 := (HP3.out).2.1.cell 4 rfl; have xb5 := (HP3.out).2.1.cell 5 rfl; have xbz := (HP3.out).2.1.2
          by_cases hck : cap = k3
          · have HN0 : Hid (∀ j u, (cellsR (L.drop k3))[j]? = some u → we.cell? ((⟨g, 0, none⟩ : Addr).add j) = some u) := fun j u hu => by
              have h0 : L.drop (k3) = [] := List.drop_eq_nil_iff.2 (by omega)
              rw [h0] at hu
              simp [cellsR, cellsL] at hu
            go_wp2_with (first
              | (at_builtin; refine wpList_append_own_at _ rfl (.tmp 53) (.tmp 57) 25 rfl nb 59 i0 (.agg #[.string ⟨#[]⟩, .string ⟨#[]⟩, .int .i64 0, .int .i64 0, .bool false, .int .i64 0]) 6 64 Try.underlying25 hi0 y0 y1 y2 rfl (by decide) v2 (0 + p + 1) ([] ++ cellsR (L.take p) ++ [.string x.f0, .string x.f1, .int .i64 x.f2, .int .i64 x.f3, .bool x.f4, .int .i64 x.f5]) rfl HO2.out ⟨g, 0, none⟩ (L.length - k3) _ (cellsR (L.drop k3)) rfl hld HN0.out (cellsR_one' _) (by unfold maxLen; omega) (by omega) (by omega) ?_; intro v3 w3 hown3 hgrow3 hnil3 hwh3; obtain ⟨g3, c3, hv3⟩ := Go.Joins.ownsRow_form hown3 (by omega); obtain ⟨n3, hn3⟩ : ∃ n3, n3 = 0 + p + 1 + (L.length - k3) := ⟨_, rfl⟩; rw [← hn3] at hv3 hown3; subst hv3; have HN3 : Hid (n3 = 0 + p + 1 + (L.length - k3)) := hn3; clear hn3; have hk3w := v3_hi hwh3 HHI.out; have G3 := HP3.out.grew hgrow3 (fun k _ hk e => by have := HHI.out.1 k e.symm; omega); have ka0 := (G3).1.cell 0 rfl; have ka1 := (G3).1.cell 1 rfl; have ka2 := (G3).1.cell 2 rfl; have ka3 := (G3).1.cell 3 rfl; have kf1 := (G3).1.frz 1 (by simp); have kaz := (G3).1.2; have kc0 := (G3).2.2.cell 0 rfl; have kc1 := (G3).2.2.cell 1 rfl; have kc2 := (G3).2.2.cell 2 rfl; have kc3 := (G3).2.2.cell 3 rfl; have kg0 := (G3).2.2.frz 0 (by simp); have kg1 := (G3).2.2.frz 1 (by simp); have kg2 := (G3).2.2.frz 2 (by simp); have kg3 := (G3).2.2.frz 3 (by simp); have kcz := (G3).2.2.2)
              | go_in)
            have HZ := HFI.out _ _ _ _ HN3.out hown3 hgrow3 hk3w
            exact bodyPost_ret (v := .agg #[.int .i64 0, .slice (some ⟨g3, 0, none⟩) n3 c3, .slice none 0 0, .slice none 0 0]) (by simp [results, Try.results60, go_sem, *]) rfl HZ
          · go_wp2_with (first
              | (at_builtin; refine wpList_append_own_at _ rfl (.tmp 53) (.tmp 57) 25 rfl nb 59 i0 (.agg #[.string ⟨#[]⟩, .string ⟨#[]⟩, .int .i64 0, .int .i64 0, .bool false, .int .i64 0]) 6 64 Try.underlying25 hi0 y0 y1 y2 rfl (by decide) v2 (0 + p + 1) ([] ++ cellsR (L.take p) ++ [.string x.f0, .string x.f1, .int .i64 x.f2, .int .i64 x.f3, .bool x.f4, .int .i64 x.f5]) rfl HO2.out ⟨g, k3 * 6, none⟩ (L.length - k3) _ (cellsR (L.drop k3)) rfl hld HND.out (cellsR_one' _) (by unfold maxLen; omega) (by omega) (by omega) ?_; intro v3 w3 hown3 hgrow3 hnil3 hwh3; obtain ⟨g3, c3, hv3⟩ := Go.Joins.ownsRow_form hown3 (by omega); obtain ⟨n3, hn3⟩ : ∃ n3, n3 = 0 + p + 1 + (L.length - k3) := ⟨_, rfl⟩; rw [← hn3] at hv3 hown3; subst hv3; have HN3 : Hid (n3 = 0 + p + 1 + (L.length - k3)) := hn3; clear hn3; have hk3w := v3_hi hwh3 HHI.out; have G3 := HP3.out.grew hgrow3 (fun k _ hk e => by have := HHI.out.1 k e.symm; omega); have ka0 := (G3).1.cell 0 rfl; have ka1 := (G3).1.cell 1 rfl; have ka2 := (G3).1.cell 2 rfl; have ka3 := (G3).1.cell 3 rfl; have kf1 := (G3).1.frz 1 (by simp); have kaz := (G3).1.2; have kc0 := (G3).2.2.cell 0 rfl; have kc1 := (G3).2.2.cell 1 rfl; have kc2 := (G3).2.2.cell 2 rfl; have kc3 := (G3).2.2.cell 3 rfl; have kg0 := (G3).2.2.frz 0 (by simp); have kg1 := (G3).2.2.frz 1 (by simp); have kg2 := (G3).2.2.frz 2 (by simp); have kg3 := (G3).2.2.frz 3 (by simp); have kcz := (G3).2.2.2)
              | go_in)
            have HZ := HFI.out _ _ _ _ HN3.out hown3 hgrow3 hk3w
            exact bodyPost_ret (v := .agg #[.int .i64 0, .slice (some ⟨g3, 0, none⟩) n3 c3, .slice none 0 0, .slice none 0 0]) (by simp [results, Try.results60, go_sem, *]) rfl HZ
      · have hpn' : ¬ (p : Int) < (L.length : Int) := by omega
        have hpd : decide ((p : Int) < (L.length : Int)) = false := by simp; omega
        have hpdn : decide (p < L.length) = false := by simp; omega
        have HPL : Hid (plR L x.f0.toList = p) := plR_eq hp HA.out (fun h => absurd h hpn)
        go_upto_region 2 with fail
        refine wp_region_noPanic ?_
        refine wp_region_held_drew (S := fun W => P3 w.heap.size (.slice (some ⟨g, 0, none⟩) L.length cap) x W) (by kernel_rfl) H1.out.1 (fun hHeld => ?_)
        refine take_v (v := ?_) 0 ⟨some 7, Op.move (Operand.tmp 5), _, _, _, none⟩ rfl (fun _ _ _ h => h) ?_ hHeld ?_
        rotate_left
        · (intro W _; go_simp <;> (try with_reducible rfl))
        refine take_v (v := ?_) 1 ⟨some 8, Op.fieldAddr 91 (Operand.tmp 2) 1, _, _, _, none⟩ rfl (fun _ _ _ h => h) ?_ hHeld ?_
        rotate_left
        · (intro W _; go_simp <;> (try with_reducible rfl))
        refine take_v (v := ?_) 2 ⟨some 9, Op.load 25 (Operand.tmp 8), _, _, _, none⟩ rfl (fun _ _ _ h => h) ?_ hHeld ?_
        rotate_left
        · (intro W hSW; (have s0 := hSW.1.cell 1 rfl; have s0z := hSW.1.2; have s1 := hSW.2.1.cell 0 rfl; have s1z := hSW.2.1.2); go_simp <;> (try with_reducible rfl))
        refine take_v (v := ?_) 3 ⟨some 10, Op.call { callee := Callee.builtin Builtin.len, args := #[Operand.tmp 9], argTypes := #[25] }, _, _, _, none⟩ rfl (fun _ _ _ h => h) ?_ hHeld ?_
        rotate_left
        · (intro W _; go_simp <;> (try with_reducible rfl))
        refine take_v (v := ?_) 4 ⟨some 11, Op.binOp BinOp.lss 3 (Operand.tmp 7) (Operand.tmp 10) 3, _, _, _, none⟩ rfl (fun _ _ _ h => h) ?_ hHeld ?_
        rotate_left
        · (intro W _; go_simp <;> (try with_reducible rfl))
        refine take_v (v := ?_) 5 ⟨some 12, Op.move (Operand.tmp 11), _, _, _, none⟩ rfl (fun _ _ _ h => h) ?_ hHeld ?_
        rotate_left
        · (intro W _; go_simp <;> (try with_reducible rfl))
        refine take_n 6 ⟨some 13, Op.fieldAddr 91 (Operand.tmp 2) 1, _, _, _, some (5, true)⟩ rfl (fun _ _ _ h => h) hHeld ?_
        refine take_n 7 ⟨some 14, Op.load 25 (Operand.tmp 13), _, _, _, some (5, true)⟩ rfl (fun _ _ _ h => h) hHeld ?_
        refine take_n 8 ⟨some 15, Op.move (Operand.tmp 5), _, _, _, some (5, true)⟩ rfl (fun _ _ _ h => h) hHeld ?_
        refine take_n 9 ⟨some 16, Op.indexAddr 25 (Operand.tmp 14) (Operand.tmp 15), _, _, _, some (5, true)⟩ rfl (fun _ _ _ h => h) hHeld ?_
        refine take_n 10 ⟨some 17, Op.fieldAddr 59 (Operand.tmp 16) 0, _, _, _, some (5, true)⟩ rfl (fun _ _ _ h => h) hHeld ?_
        refine take_n 11 ⟨some 18, Op.load 9 (Operand.tmp 17), _, _, _, some (5, true)⟩ rfl (fun _ _ _ h => h) hHeld ?_
        refine take_n 12 ⟨some 19, Op.fieldAddr 59 (Operand.tmp 3) 0, _, _, _, some (5, true)⟩ rfl (fun _ _ _ h => h) hHeld ?_
        refine take_n 13 ⟨some 20, Op.load 9 (Operand.tmp 19), _, _, _, some (5, true)⟩ rfl (fun _ _ _ h => h) hHeld ?_
        refine take_n 14 ⟨some 21, Op.binOp BinOp.lss 9 (Operand.tmp 18) (Operand.tmp 20) 9, _, _, _, some (5, true)⟩ rfl (fun _ _ _ h => h) hHeld ?_
        refine take_v (v := ?_) 15 ⟨some 22, Op.pick (Operand.tmp 12) (Operand.tmp 21) (Operand.const (Value.bool false)), _, _, _, none⟩ rfl (fun _ _ _ h => h) ?_ hHeld ?_
        rotate_left
        · (intro W _; go_simp <;> (try with_reducible rfl))
        refine wpAnyH_done (by kernel_rfl) ?_ _
        refine NoPanic.normal ?_
        clear hHeld
        obtain ⟨wd, hwd⟩ : ∃ y, y = wr.drew := ⟨_, rfl⟩
        rw [← hwd] at H1 ⊢
        clear hwd
        have hzd : w.heap.size + 2 < wd.heap.size := H1.out.1.2.2.2
        have HOd : Hid (wd.ownsRow base 59 6 (.slice (some ⟨g, 0, none⟩) L.length cap) L.length (cellsR L)) := own_keep HO.out.1 H1.out.2
        have HNT : Hid (∀ j u, (cellsR (L.take p))[j]? = some u → wd.cell? ((⟨g, 0, none⟩ : Addr).add j) = some u) := news_takeR HOd.out hp
        have hlt1 : (cellsR (L.take p)).length = p * 6 := by rw [cellsR_len, List.length_take, Nat.min_eq_left hp]
        have hpc : (p : Int) ≤ (cap : Int) := by omega
        have xa1 := (H1.out.1).1.cell 1 rfl; have xaz := (H1.out.1).1.2; have xb0 := (H1.out.1).2.1.cell 0 rfl; have xb1 := (H1.out.1).2.1.cell 1 rfl; have xb2 := (H1.out.1).2.1.cell 2 rfl; have xb3 := (H1.out.1).2.1.cell 3 rfl; have xb4 := (H1.out.1).2.1.cell 4 rfl; have xb5 := (H1.out.1).2.1.cell 5 rfl; have xbz := (H1.out.1).2.1.2
        go_wp2_with (first
          | (at_builtin; refine wpList_append_own_at _ rfl (.tmp 25) (.tmp 29) 25 rfl nb 59 i0 (.agg #[.string ⟨#[]⟩, .string ⟨#[]⟩, .int .i64 0, .int .i64 0, .bool false, .int .i64 0]) 6 64 Try.underlying25 hi0 y0 y1 y2 rfl (by decide) (.slice none 0 0) 0 [] rfl (World.ownsRow_nil _ _ _ _) ⟨g, 0, none⟩ p cap (cellsR (L.take p)) rfl hlt1 HNT.out (cellsR_one' _) (by unfold maxLen; omega) (by omega) (by omega) ?_; intro v1 w1 hown1 hgrow1 hnil1 hwh1; have G1 := H1.out.1.grew hgrow1 (fun k _ _ e => by cases e); have za1 := (G1).1.cell 1 rfl; have zaz := (G1).1.2; have zb0 := (G1).2.1.cell 0 rfl; have zb1 := (G1).2.1.cell 1 rfl; have zb2 := (G1).2.1.cell 2 rfl; have zb3 := (G1).2.1.cell 3 rfl; have zb4 := (G1).2.1.cell 4 rfl; have zb5 := (G1).2.1.cell 5 rfl; have zbz := (G1).2.1.2)
          | (at_builtin; refine wpList_append_own_at _ rfl (.tmp 31) (.tmp 33) 25 rfl nb 59 i0 (.agg #[.string ⟨#[]⟩, .string ⟨#[]⟩, .int .i64 0, .int .i64 0, .bool false, .int .i64 0]) 6 64 Try.underlying25 hi0 y0 y1 y2 rfl (by decide) v1 (0 + p) ([] ++ cellsR (L.take p)) rfl (World.ownsRow.alloc hown1 _) ⟨w1.heap.size, 0, none⟩ 1 1 [.string x.f0, .string x.f1, .int .i64 x.f2, .int .i64 x.f3, .bool x.f4, .int .i64 x.f5] rfl rfl (cells_new w1 [.string x.f0, .string x.f1, .int .i64 x.f2, .int .i64 x.f3, .bool x.f4, .int .i64 x.f5] 59) (by intro u hu; simp at hu; rcases hu with rfl | rfl | rfl | rfl | rfl | rfl <;> rfl) (by unfold maxLen; omega) (by omega) (by have := hgrow1.size; simp; omega) ?_; intro v2 w2 hown2 hgrow2 hnil2 hwh2)
          | go_in)
        have hz1 : wd.heap.size ≤ w1.heap.size := hgrow1.size
        have hz2 : w1.heap.size + 1 ≤ w2.heap.size := by have := hgrow2.size; simpa using this
        have hv1 : ∀ b, v1.ownBlock = some b → b = wd.heap.size := fun b hb => by
          rcases hwh1 with h | h
          · rw [h] at hb; cases hb
          · rw [h] at hb; exact (Option.some.inj hb).symm
        have H2 : Hid (w2.drew.ownsRow nb 59 6 v2 (0 + p + 1) ([] ++ cellsR (L.take p) ++ [.string x.f0, .string x.f1, .int .i64 x.f2, .int .i64 x.f3, .bool x.f4, .int .i64 x.f5]) ∧ P3 w.heap.size (.slice (some ⟨g, 0, none⟩) L.length cap) x w2.drew ∧ w2.drew.ownsRow base 59 6 (.slice (some ⟨g, 0, none⟩) L.length cap) L.length (cellsR L) ∧ (∀ B w0, Below B w0 w → B ≤ nb → B ≤ w.heap.size → Below B w0 w2.drew) ∧ (∀ b, v2.ownBlock = some b → nb ≤ b ∧ wd.heap.size ≤ b)) := by
          have hgw := HO.out.2.2
          refine ⟨hown2.drew, ((G1.alloc _).grew hgrow2 (fun k _ hk e => by have := hv1 _ e.symm; omega)).next (Below.refl _ _).drew, ((own_grR (own_keep (own_grR HOd.out hgrow1 (fun b hb e => by cases e)) (Go.Joins.below_alloc1 _ _)) hgrow2 (fun b hb e => by have h1 := hv1 b e; have h2 : b = g := (Option.some.inj hb).symm; omega))).drew, fun B w0 h h1 h2 => ?_, fun b hb => ?_⟩
          · have e1 : Below B w0 w1 := (h.trans (H1.out.2.mono h2)).grown hgrow1 (by omega) (fun j hj => by cases hj)
            exact ((e1.alloc (by omega) _).grown hgrow2 (by simp; omega) (fun j hj => by have := hv1 j hj; omega)).drew
          · refine ⟨(hown2.lt b hb).1, ?_⟩
            rcases hwh2 with h | h
            · rw [h] at hb; have := hv1 b hb; omega
            · rw [h] at hb; have := Option.some.inj hb; simp at this; omega
        clear hown1 hgrow1 hnil1 hwh1 hown2 hgrow2 hnil2 hwh2 G1 xa1 xaz xb0 xb1 xb2 xb3 xb4 xb5 xbz za1 zaz zb0 zb1 zb2 zb3 zb4 zb5 zbz HNT H1 HOd hv1

        have HPU : Hid (putR L x = L.take p ++ x :: L.drop p) := by show _ = _; rw [putR, HPL.out, if_neg (fun h => hpn h.1)]
        go_upto_region 7 with fail
        refine wp_region_noPanic ?_
        refine wp_region_held_drew (S := fun W => P3 w.heap.size (.slice (some ⟨g, 0, none⟩) L.length cap) x W) (by kernel_rfl) H2.out.2.1 (fun hHeld => ?_)
        refine take_v (v := ?_) 0 ⟨some 35, Op.move (Operand.tmp 5), _, _, _, none⟩ rfl (fun _ _ _ h => h) ?_ hHeld ?_
        rotate_left
        · (intro W _; go_simp <;> (try with_reducible rfl))
        refine take_v (v := ?_) 1 ⟨some 36, Op.fieldAddr 91 (Operand.tmp 2) 1, _, _, _, none⟩ rfl (fun _ _ _ h => h) ?_ hHeld ?_
        rotate_left
        · (intro W _; go_simp <;> (try with_reducible rfl))
        refine take_v (v := ?_) 2 ⟨some 37, Op.load 25 (Operand.tmp 36), _, _, _, none⟩ rfl (fun _ _ _ h => h) ?_ hHeld ?_
        rotate_left
        · (intro W hSW; (have s0 := hSW.1.cell 1 rfl; have s0z := hSW.1.2; have s1 := hSW.2.1.cell 0 rfl; have s1z := hSW.2.1.2); go_simp <;> (try with_reducible rfl))
        refine take_v (v := ?_) 3 ⟨some 38, Op.call { callee := Callee.builtin Builtin.len, args := #[Operand.tmp 37], argTypes := #[25] }, _, _, _, none⟩ rfl (fun _ _ _ h => h) ?_ hHeld ?_
        rotate_left
        · (intro W _; go_simp <;> (try with_reducible rfl))
        refine take_v (v := ?_) 4 ⟨some 39, Op.binOp BinOp.lss 3 (Operand.tmp 35) (Operand.tmp 38) 3, _, _, _, none⟩ rfl (fun _ _ _ h => h) ?_ hHeld ?_
        rotate_left
        · (intro W _; go_simp <;> (try with_reducible rfl))
        refine take_v (v := ?_) 5 ⟨some 40, Op.move (Operand.tmp 39), _, _, _, none⟩ rfl (fun _ _ _ h => h) ?_ hHeld ?_
        rotate_left
        · (intro W _; go_simp <;> (try with_reducible rfl))
        refine take_n 6 ⟨some 41, Op.fieldAddr 91 (Operand.tmp 2) 1, _, _, _, some (5, true)⟩ rfl (fun _ _ _ h => h) hHeld ?_
        refine take_n 7 ⟨some 42, Op.load 25 (Operand.tmp 41), _, _, _, some (5, true)⟩ rfl (fun _ _ _ h => h) hHeld ?_
        refine take_n 8 ⟨some 43, Op.move (Operand.tmp 5), _, _, _, some (5, true)⟩ rfl (fun _ _ _ h => h) hHeld ?_
        refine take_n 9 ⟨some 44, Op.indexAddr 25 (Operand.tmp 42) (Operand.tmp 43), _, _, _, some (5, true)⟩ rfl (fun _ _ _ h => h) hHeld ?_
        refine take_n 10 ⟨some 45, Op.fieldAddr 59 (Operand.tmp 44) 0, _, _, _, some (5, true)⟩ rfl (fun _ _ _ h => h) hHeld ?_
        refine take_n 11 ⟨some 46, Op.load 9 (Operand.tmp 45), _, _, _, some (5, true)⟩ rfl (fun _ _ _ h => h) hHeld ?_
        refine take_n 12 ⟨some 47, Op.fieldAddr 59 (Operand.tmp 3) 0, _, _, _, some (5, true)⟩ rfl (fun _ _ _ h => h) hHeld ?_
        refine take_n 13 ⟨some 48, Op.load 9 (Operand.tmp 47), _, _, _, some (5, true)⟩ rfl (fun _ _ _ h => h) hHeld ?_
        refine take_n 14 ⟨some 49, Op.binOp BinOp.eql 9 (Operand.tmp 46) (Operand.tmp 48) 9, _, _, _, some (5, true)⟩ rfl (fun _ _ _ h => h) hHeld ?_
        refine take_v (v := ?_) 15 ⟨some 50, Op.pick (Operand.tmp 40) (Operand.tmp 49) (Operand.const (Value.bool false)), _, _, _, none⟩ rfl (fun _ _ _ h => h) ?_ hHeld ?_
        rotate_left
        · (intro W _; go_simp <;> (try with_reducible rfl))
        refine wpAnyH_done (by kernel_rfl) ?_ _
        refine NoPanic.normal ?_

        clear hHeld

        have hk3c : (p : Int) ≤ (L.length : Int) := by omega
        have hk3d : (p : Int) ≤ (cap : Int) := by omega
        have hkl : p ≤ L.length := by omega
        obtain ⟨we, hwe⟩ : ∃ y, y = w2.drew := ⟨_, rfl⟩
        have hze : we.heap.size = w2.heap.size := by rw [hwe]; rfl
        rw [← hwe] at H2 ⊢
        clear hwe
        have HND : Hid (∀ j u, (cellsR (L.drop p))[j]? = some u → we.cell? ((⟨g, p * 6, none⟩ : Addr).add j) = some u) := news_dropR H2.out.2.2.1 hkl
        have hld : (cellsR (L.drop p)).length = (L.length - p) * 6 := by rw [cellsR_len, List.length_drop]
        have HFI : Hid (∀ n3 g3 c3 w', n3 = 0 + p + 1 + (L.length - p) → w'.ownsRow nb 59 6 (.slice (some ⟨g3, 0, none⟩) n3 c3) n3 ([] ++ cellsR (L.take p) ++ [.string x.f0, .string x.f1, .int .i64 x.f2, .int .i64 x.f3, .bool x.f4, .int .i64 x.f5] ++ cellsR (L.drop p)) → we.grownBy w' v2.ownBlock → (∀ k, ((.slice (some ⟨g3, 0, none⟩) n3 c3) : Value).ownBlock = some k → w.heap.size + 2 < k) → PutS nb (putR L x) w (.returned (.agg #[.int .i64 0, (.slice (some ⟨g3, 0, none⟩) n3 c3), .slice none 0 0, .slice none 0 0])) ((((((w'.setCell ⟨w.heap.size, 1, none⟩ (.slice (some ⟨g3, 0, none⟩) n3 c3))).setCell ⟨w.heap.size + 1 + 1, 0, none⟩ (.int .i64 0)).setCell ⟨w.heap.size + 1 + 1, 1, none⟩ (.slice (some ⟨g3, 0, none⟩) n3 c3)).setCell ⟨w.heap.size + 1 + 1, 2, none⟩ (.slice none 0 0)).setCell ⟨w.heap.size + 1 + 1, 3, none⟩ (.slice none 0 0))) := by
          intro n3 g3 c3 w' h0 h1 h2 h3
          rw [HPU.out]
          have e1 : cellsR (L.take p ++ x :: L.drop (p)) = [] ++ cellsR (L.take p) ++ [.string x.f0, .string x.f1, .int .i64 x.f2, .int .i64 x.f3, .bool x.f4, .int .i64 x.f5] ++ cellsR (L.drop p) := by rw [cellsR_append, cellsR_cons]; simp
          have e2 : 0 + p + 1 + (L.length - p) = (L.take p ++ x :: L.drop (p)).length := by simp only [List.length_append, List.length_cons, List.length_take, List.length_drop]; omega
          refine put_fin (n := n3) (h0.trans e2) (by rw [e1]; exact h1) h3 (fun B w0 h q1 q2 => (H2.out.2.2.2.1 B w0 h q1 q2).grown h2 (by omega) (fun j hj => Nat.le_trans q1 (H2.out.2.2.2.2 j hj).1))
        have HO2 : Hid (we.ownsRow nb 59 6 v2 (0 + p + 1) ([] ++ cellsR (L.take p) ++ [.string x.f0, .string x.f1, .int .i64 x.f2, .int .i64 x.f3, .bool x.f4, .int .i64 x.f5])) := H2.out.1
        have HP3 : Hid (P3 w.heap.size (.slice (some ⟨g, 0, none⟩) L.length cap) x we) := H2.out.2.1
        have HHI : Hid ((∀ k, v2.ownBlock = some k → w.heap.size + 2 < k) ∧ w.heap.size + 2 < we.heap.size) := ⟨fun k hk => by have := (H2.out.2.2.2.2 k hk).2; omega, H2.out.2.1.2.2.2⟩
        clear H2 HPU
        have xa1 := (HP3.out).1.cell 1 rfl; have xaz := (HP3.out).1.2; have xb0 := (HP3.out).2.1.cell 0 rfl; have xb1 := (HP3.out).2.1.cell 1 rfl; have xb2 := (HP3.out).2.1.cell 2 rfl; have xb3 := (HP3.out).2.1.cell 3 rfl; have xb4 := (HP3.out).2.1.cell 4 rfl; have xb5 := (HP3.out).2.1.cell 5 rfl; have xbz := (HP3.out).2.1.2
        by_cases hck : cap = p
        · have HN0 : Hid (∀ j u, (cellsR (L.drop p))[j]? = some u → we.cell? ((⟨g, 0, none⟩ : Addr).add j) = some u) := fun j u hu => by
            have h0 : L.drop (p) = [] := List.drop_eq_nil_iff.2 (by omega)
            rw [h0] at hu
            simp [cellsR, cellsL] at hu
          go_wp2_with (first
            | (at_builtin; refine wpList_append_own_at _ rfl (.tmp 53) (.tmp 57) 25 rfl nb 59 i0 (.agg #[.string ⟨#[]⟩, .string ⟨#[]⟩, .int .i64 0, .int .i64 0, .bool false, .int .i64 0]) 6 64 Try.underlying25 hi0 y0 y1 y2 rfl (by decide) v2 (0 + p + 1) ([] ++ cellsR (L.take p) ++ [.string x.f0, .string x.f1, .int .i64 x.f2, .int .i64 x.f3, .bool x.f4, .int .i64 x.f5]) rfl HO2.out ⟨g, 0, none⟩ (L.length - p) _ (cellsR (L.drop p)) rfl hld HN0.out (cellsR_one' _) (by unfold maxLen; omega) (by omega) (by omega) ?_; intro v3 w3 hown3 hgrow3 hnil3 hwh3; obtain ⟨g3, c3, hv3⟩ := Go.Joins.ownsRow_form hown3 (by omega); obtain ⟨n3, hn3⟩ : ∃ n3, n3 = 0 + p + 1 + (L.length - p) := ⟨_, rfl⟩; rw [← hn3] at hv3 hown3; subst hv3; have HN3 : Hid (n3 = 0 + p + 1 + (L.length - p)) := hn3; clear hn3; have hk3w := v3_hi hwh3 HHI.out; have G3 := HP3.out.grew hgrow3 (fun k _ hk e => by have := HHI.out.1 k e.symm; omega); have ka0 := (G3).1.cell 0 rfl; have ka1 := (G3).1.cell 1 rfl; have ka2 := (G3).1.cell 2 rfl; have ka3 := (G3).1.cell 3 rfl; have kf1 := (G3).1.frz 1 (by simp); have kaz := (G3).1.2; have kc0 := (G3).2.2.cell 0 rfl; have kc1 := (G3).2.2.cell 1 rfl; have kc2 := (G3).2.2.cell 2 rfl; have kc3 := (G3).2.2.cell 3 rfl; have kg0 := (G3).2.2.frz 0 (by simp); have kg1 := (G3).2.2.frz 1 (by simp); have kg2 := (G3).2.2.frz 2 (by simp); have kg3 := (G3).2.2.frz 3 (by simp); have kcz := (G3).2.2.2)
            | go_in)
          have HZ := HFI.out _ _ _ _ HN3.out hown3 hgrow3 hk3w
          exact bodyPost_ret (v := .agg #[.int .i64 0, .slice (some ⟨g3, 0, none⟩) n3 c3, .slice none 0 0, .slice none 0 0]) (by simp [results, Try.results60, go_sem, *]) rfl HZ
        · go_wp2_with (first
            | (at_builtin; refine wpList_append_own_at _ rfl (.tmp 53) (.tmp 57) 25 rfl nb 59 i0 (.agg #[.string ⟨#[]⟩, .string ⟨#[]⟩, .int .i64 0, .int .i64 0, .bool false, .int .i64 0]) 6 64 Try.underlying25 hi0 y0 y1 y2 rfl (by decide) v2 (0 + p + 1) ([] ++ cellsR (L.take p) ++ [.string x.f0, .string x.f1, .int .i64 x.f2, .int .i64 x.f3, .bool x.f4, .int .i64 x.f5]) rfl HO2.out ⟨g, p * 6, none⟩ (L.length - p) _ (cellsR (L.drop p)) rfl hld HND.out (cellsR_one' _) (by unfold maxLen; omega) (by omega) (by omega) ?_; intro v3 w3 hown3 hgrow3 hnil3 hwh3; obtain ⟨g3, c3, hv3⟩ := Go.Joins.ownsRow_form hown3 (by omega); obtain ⟨n3, hn3⟩ : ∃ n3, n3 = 0 + p + 1 + (L.length - p) := ⟨_, rfl⟩; rw [← hn3] at hv3 hown3; subst hv3; have HN3 : Hid (n3 = 0 + p + 1 + (L.length - p)) := hn3; clear hn3; have hk3w := v3_hi hwh3 HHI.out; have G3 := HP3.out.grew hgrow3 (fun k _ hk e => by have := HHI.out.1 k e.symm; omega); have ka0 := (G3).1.cell 0 rfl; have ka1 := (G3).1.cell 1 rfl; have ka2 := (G3).1.cell 2 rfl; have ka3 := (G3).1.cell 3 rfl; have kf1 := (G3).1.frz 1 (by simp); have kaz := (G3).1.2; have kc0 := (G3).2.2.cell 0 rfl; have kc1 := (G3).2.2.cell 1 rfl; have kc2 := (G3).2.2.cell 2 rfl; have kc3 := (G3).2.2.cell 3 rfl; have kg0 := (G3).2.2.frz 0 (by simp); have kg1 := (G3).2.2.frz 1 (by simp); have kg2 := (G3).2.2.frz 2 (by simp); have kg3 := (G3).2.2.frz 3 (by simp); have kcz := (G3).2.2.2)
            | go_in)
          have HZ := HFI.out _ _ _ _ HN3.out hown3 hgrow3 hk3w
          exact bodyPost_ret (v := .agg #[.int .i64 0, .slice (some ⟨g3, 0, none⟩) n3 c3, .slice none 0 0, .slice none 0 0]) (by simp [results, Try.results60, go_sem, *]) rfl HZ
end Go.Proofs.Ytiepfdkfadbllaa
