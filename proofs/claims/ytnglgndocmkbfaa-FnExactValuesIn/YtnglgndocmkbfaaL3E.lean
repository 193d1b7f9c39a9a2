/- The contract of l3Cells: the list that it makes is new. (L3D, where no other function on cells is.) -/
import Derived.Test.YtnglgndocmkbfaaPvG
import Derived.Test.YtnglgndocmkbfaaBx
import Derived.Test.YtnglgndocmkbfaaShA
import Derived.Test.YtnglgndocmkbfaaRg2
import Derived.Deep.AppendLies
import Derived.Maps.AppendAt
import Derived.Laws.AppendOwnNone
namespace Go.Proofs.Ytnglgndocmkbfaa
open Go.RowKit
set_option linter.unusedVariables false

theorem own_keep {w w' : World} {base : Nat} {e : TypeId} {size : Nat} {v : Value} {n : Nat} {xs : List Value} (h : w.ownsRow base e size v n xs) (hb : Below w.heap.size w w') : w'.ownsRow base e size v n xs := ownsRow_next h hb
def PutPost (base : Nat) (L : List CellV) (w : World) (r : Ending) (w' : World) : Prop :=
  ∃ v', r = .returned v' ∧ w'.ownsRow base 138 2 v' L.length (cellsC L) ∧ ∀ B w0, Below B w0 w → B ≤ base → B ≤ w.heap.size → Below B w0 w'
theorem Bx.grew {w w' : World} {row : Option Nat} {g : Nat} {vs : List Value} (h : Bx w g vs) (hg : w.grownBy w' row) (hs : w.heap.size ≤ w'.heap.size) (hne : some g ≠ row) : Bx w' g vs :=
  ⟨fun j hj => ⟨(hg.cell_far ⟨g, j, none⟩ h.2 hne).trans (h.1 j hj).1, (hg.frozen_far ⟨g, j, none⟩ h.2 hne).trans (h.1 j hj).2⟩, Nat.lt_of_lt_of_le h.2 hs⟩
theorem own_gr' {w w' : World} {row : Option Nat} {base : Nat} {e : TypeId} {size : Nat} {v : Value} {n : Nat} {xs : List Value} (h : w.ownsRow base e size v n xs) (hg : w.grownBy w' row) (hne : ∀ b, v.ownBlock = some b → row ≠ some b) : w'.ownsRow base e size v n xs :=
  h.kept hg (by
    cases hv : v.ownBlock with
    | none => exact Or.inl rfl
    | some k => exact Or.inr (fun e => hne k hv e.symm))
theorem cell_key {w : World} {base g cap : Nat} {e : TypeId} {L : List CellV} {p : Nat} (h : w.ownsRow base e 2 (.slice (some ⟨g, 0, none⟩) L.length cap) L.length (cellsC L)) (hp : p < L.length) : w.cell? ⟨g, p * 2, none⟩ = some (.string (cV L p).f0) := by
  rw [World.ownsRow.cellAt h _ (by omega), cellsC]
  have := cellsL_at (cellF (cV L)) 2 L.length p 0 hp (by omega)
  rw [Nat.add_zero] at this
  rw [this]; rfl
theorem news_take {w : World} {base g cap : Nat} {e : TypeId} {L : List CellV} {p : Nat} (h : w.ownsRow base e 2 (.slice (some ⟨g, 0, none⟩) L.length cap) L.length (cellsC L)) (hp : p ≤ L.length) : ∀ j u, (cellsC (L.take p))[j]? = some u → w.cell? ((⟨g, 0, none⟩ : Addr).add j) = some u := by
  intro j u hu
  have hl : (cellsC (L.take p)).length = p * 2 := by rw [cellsC_len, List.length_take, Nat.min_eq_left hp]
  have hj : j < p * 2 := by
    rcases Nat.lt_or_ge j (p * 2) with q | q
    · exact q
    · rw [List.getElem?_eq_none (by omega)] at hu; cases hu
  have h1 : cellsC L = cellsC (L.take p) ++ cellsC (L.drop p) := by rw [← cellsC_append, List.take_append_drop]
  rw [add0, Nat.zero_add, World.ownsRow.cellAt h _ (by omega), h1, List.getElem?_append_left (by omega)]
  exact hu
theorem news_drop {w : World} {base g cap : Nat} {e : TypeId} {L : List CellV} {p : Nat} (h : w.ownsRow base e 2 (.slice (some ⟨g, 0, none⟩) L.length cap) L.length (cellsC L)) (hp : p ≤ L.length) : ∀ j u, (cellsC (L.drop p))[j]? = some u → w.cell? ((⟨g, p * 2, none⟩ : Addr).add j) = some u := by
  intro j u hu
  have hl : (cellsC (L.take p)).length = p * 2 := by rw [cellsC_len, List.length_take, Nat.min_eq_left hp]
  have hl2 : (cellsC (L.drop p)).length = (L.length - p) * 2 := by rw [cellsC_len, List.length_drop]
  have hj : j < (L.length - p) * 2 := by
    rcases Nat.lt_or_ge j ((L.length - p) * 2) with q | q
    · exact q
    · rw [List.getElem?_eq_none (by omega)] at hu; cases hu
  have h1 : cellsC L = cellsC (L.take p) ++ cellsC (L.drop p) := by rw [← cellsC_append, List.take_append_drop]
  rw [add0, World.ownsRow.cellAt h _ (by omega), h1, List.getElem?_append_right (by omega), hl, show p * 2 + j - p * 2 = j by omega]
  exact hu

set_option maxRecDepth 100000 in
set_option maxHeartbeats 8000000 in
theorem l3Cells_new (base nb : Nat) (v : Value) (L : List CellV) (x : CellV) (w : World) (hn : L.length < 67108864) (hbase : nb ≤ w.heap.size) (hown : w.ownsRow base 138 2 v L.length (cellsC L)) :
    Calls Try.prog 107 #[v, .agg #[.string x.f0, .string x.f1]] w fun r w' => PutPost nb (putL L x) w r w' := by
  obtain ⟨i0, hi0, y0, y1, y2⟩ := info_parts info_cell
  have HX : Hid (Bx (w.alloc (.cells #[.string x.f0, .string x.f1] 138)) w.heap.size [.string x.f0, .string x.f1] ∧ Below w.heap.size w (w.alloc (.cells #[.string x.f0, .string x.f1] 138))) := ⟨Bx.new w [.string x.f0, .string x.f1] _, Go.Joins.below_alloc1 _ _⟩
  rcases Go.Joins.ownsRow_forms hown with hf | ⟨g, cap, rfl⟩
  · obtain ⟨rfl, h0⟩ := hf
    have hL : L = [] := List.length_eq_zero_iff.1 h0
    subst hL
    have HL : Hid (putL [] x = [x]) := by show _ = _; simp [putL, plN]
    clear hown h0 hn
    go_enter Try.func107, Try.ntmps107
    go_wp2
    go_loopw [5] (fun i wr => i = .int .i64 0 ∧ Bx wr w.heap.size [.string x.f0, .string x.f1] ∧ Below w.heap.size w wr) (fun _ _ => 0)
    case atStart => exact ⟨rfl, HX.out.1, HX.out.2⟩
    case round =>
      obtain ⟨rfl, hx, hBr⟩ := hrel
      have H1 : Hid (Bx wr.drew w.heap.size [.string x.f0, .string x.f1] ∧ Below w.heap.size w wr.drew) := ⟨hx.next (Below.refl _ _).drew, hBr.drew⟩
      clear hx hBr HX
      go_upto_region 2 with fail
      refine wp_region_noPanic ?_
      refine wp_region_held_drew (S := fun W => Bx W w.heap.size [.string x.f0, .string x.f1]) (by kernel_rfl) H1.out.1 (fun hHeld => ?_)
      refine take_v (v := ?_) 0 ⟨some 7, Op.move (Operand.tmp 5), _, _, _, none⟩ rfl (fun _ _ _ h => h) ?_ hHeld ?_
      rotate_left
      · (intro W _; go_simp <;> (try with_reducible rfl))
      refine take_v (v := ?_) 1 ⟨some 8, Op.move (Operand.tmp 0), _, _, _, none⟩ rfl (fun _ _ _ h => h) ?_ hHeld ?_
      rotate_left
      · (intro W _; go_simp <;> (try with_reducible rfl))
      refine take_v (v := ?_) 2 ⟨some 9, Op.call { callee := Callee.builtin Builtin.len, args := #[Operand.tmp 8], argTypes := #[135] }, _, _, _, none⟩ rfl (fun _ _ _ h => h) ?_ hHeld ?_
      rotate_left
      · (intro W _; go_simp <;> (try with_reducible rfl))
      refine take_v (v := ?_) 3 ⟨some 10, Op.binOp BinOp.lss 3 (Operand.tmp 7) (Operand.tmp 9) 3, _, _, _, none⟩ rfl (fun _ _ _ h => h) ?_ hHeld ?_
      rotate_left
      · (intro W _; go_simp <;> (try with_reducible rfl))
      refine take_v (v := ?_) 4 ⟨some 11, Op.move (Operand.tmp 10), _, _, _, none⟩ rfl (fun _ _ _ h => h) ?_ hHeld ?_
      rotate_left
      · (intro W _; go_simp <;> (try with_reducible rfl))
      refine take_n 5 ⟨some 12, Op.move (Operand.tmp 0), _, _, _, some (4, true)⟩ rfl (fun _ _ _ h => h) hHeld ?_
      refine take_n 6 ⟨some 13, Op.move (Operand.tmp 5), _, _, _, some (4, true)⟩ rfl (fun _ _ _ h => h) hHeld ?_
      refine take_n 7 ⟨some 14, Op.indexAddr 135 (Operand.tmp 12) (Operand.tmp 13), _, _, _, some (4, true)⟩ rfl (fun _ _ _ h => h) hHeld ?_
      refine take_n 8 ⟨some 15, Op.fieldAddr 138 (Operand.tmp 14) 0, _, _, _, some (4, true)⟩ rfl (fun _ _ _ h => h) hHeld ?_
      refine take_n 9 ⟨some 16, Op.load 9 (Operand.tmp 15), _, _, _, some (4, true)⟩ rfl (fun _ _ _ h => h) hHeld ?_
      refine take_n 10 ⟨some 17, Op.fieldAddr 138 (Operand.tmp 3) 0, _, _, _, some (4, true)⟩ rfl (fun _ _ _ h => h) hHeld ?_
      refine take_n 11 ⟨some 18, Op.load 9 (Operand.tmp 17), _, _, _, some (4, true)⟩ rfl (fun _ _ _ h => h) hHeld ?_
      refine take_n 12 ⟨some 19, Op.binOp BinOp.lss 9 (Operand.tmp 16) (Operand.tmp 18) 9, _, _, _, some (4, true)⟩ rfl (fun _ _ _ h => h) hHeld ?_
      refine take_v (v := ?_) 13 ⟨some 20, Op.pick (Operand.tmp 11) (Operand.tmp 19) (Operand.const (Value.bool false)), _, _, _, none⟩ rfl (fun _ _ _ h => h) ?_ hHeld ?_
      rotate_left
      · (intro W _; go_simp <;> (try with_reducible rfl))
      refine wpAnyH_done (by kernel_rfl) ?_ _
      refine NoPanic.normal ?_
      clear hHeld
      obtain ⟨wd, hwd⟩ : ∃ y, y = wr.drew := ⟨_, rfl⟩
      rw [← hwd] at H1 ⊢
      clear hwd
      have x0 := H1.out.1.cell 0 rfl
      have x1 := H1.out.1.cell 1 rfl
      have xz := H1.out.1.2
      have HN : Hid (∀ j u, ([.string x.f0, .string x.f1] : List Value)[j]? = some u → (wd.alloc (.cells #[.string x.f0, .string x.f1] 138)).cell? ((⟨wd.heap.size, 0, none⟩ : Addr).add j) = some u) := cells_new wd [.string x.f0, .string x.f1] 138
      go_wp2_with (first
        | (at_builtin; refine wpList_append_own_none rfl (.tmp 23) (.tmp 26) 135 rfl nb 138 i0 2 Try.underlying135 hi0 (.slice none 0 0) 0 [] rfl (World.ownsRow_nil _ _ _ _) rfl ?_)
        | (at_builtin; refine wpList_append_own_at _ rfl (.tmp 28) (.tmp 30) 135 rfl nb 138 i0 (.agg #[.string ⟨#[]⟩, .string ⟨#[]⟩]) 2 32 Try.underlying135 hi0 y0 y1 y2 rfl (by decide) (.slice none 0 0) 0 [] rfl (World.ownsRow_nil _ _ _ _) ⟨wd.heap.size, 0, none⟩ 1 1 [.string x.f0, .string x.f1] rfl rfl HN.out (by intro u hu; simp at hu; rcases hu with rfl | rfl <;> rfl) (by unfold maxLen; omega) (by omega) (by simp; omega) ?_; intro v4 w4 hown4 hgrow4 hnil4 hwh4)
        | go_in)
      have H4 : Hid (w4.ownsRow nb 138 2 v4 (0 + 1) ([] ++ [.string x.f0, .string x.f1]) ∧ Bx w4.drew w.heap.size [.string x.f0, .string x.f1] ∧ ∀ B w0, Below B w0 w → B ≤ nb → B ≤ w.heap.size → Below B w0 w4) := by
        have hz : wd.heap.size + 1 ≤ w4.heap.size := by have := hgrow4.size; simpa using this
        refine ⟨hown4, ((H1.out.1.alloc _).grew hgrow4 hgrow4.size (fun e => by cases e)).next (Below.refl _ _).drew, fun B w0 h h1 h2 => ((h.trans (H1.out.2.mono h2)).alloc (by omega) _).grown hgrow4 (by simp; omega) (fun j hj => by cases hj)⟩
      clear hown4 hgrow4 hnil4 hwh4 H1 HN x0 x1 xz
      go_upto_region 7 with fail
      refine wp_region_noPanic ?_
      refine wp_region_held_drew (S := fun W => Bx W w.heap.size [.string x.f0, .string x.f1]) (by kernel_rfl) H4.out.2.1 (fun hHeld => ?_)
      refine take_v (v := ?_) 0 ⟨some 32, Op.move (Operand.tmp 5), _, _, _, none⟩ rfl (fun _ _ _ h => h) ?_ hHeld ?_
      rotate_left
      · (intro W _; go_simp <;> (try with_reducible rfl))
      refine take_v (v := ?_) 1 ⟨some 33, Op.move (Operand.tmp 0), _, _, _, none⟩ rfl (fun _ _ _ h => h) ?_ hHeld ?_
      rotate_left
      · (intro W _; go_simp <;> (try with_reducible rfl))
      refine take_v (v := ?_) 2 ⟨some 34, Op.call { callee := Callee.builtin Builtin.len, args := #[Operand.tmp 33], argTypes := #[135] }, _, _, _, none⟩ rfl (fun _ _ _ h => h) ?_ hHeld ?_
      rotate_left
      · (intro W _; go_simp <;> (try with_reducible rfl))
      refine take_v (v := ?_) 3 ⟨some 35, Op.binOp BinOp.lss 3 (Operand.tmp 32) (Operand.tmp 34) 3, _, _, _, none⟩ rfl (fun _ _ _ h => h) ?_ hHeld ?_
      rotate_left
      · (intro W _; go_simp <;> (try with_reducible rfl))
      refine take_v (v := ?_) 4 ⟨some 36, Op.move (Operand.tmp 35), _, _, _, none⟩ rfl (fun _ _ _ h => h) ?_ hHeld ?_
      rotate_left
      · (intro W _; go_simp <;> (try with_reducible rfl))
      refine take_n 5 ⟨some 37, Op.move (Operand.tmp 0), _, _, _, some (4, true)⟩ rfl (fun _ _ _ h => h) hHeld ?_
      refine take_n 6 ⟨some 38, Op.move (Operand.tmp 5), _, _, _, some (4, true)⟩ rfl (fun _ _ _ h => h) hHeld ?_
      refine take_n 7 ⟨some 39, Op.indexAddr 135 (Operand.tmp 37) (Operand.tmp 38), _, _, _, some (4, true)⟩ rfl (fun _ _ _ h => h) hHeld ?_
      refine take_n 8 ⟨some 40, Op.fieldAddr 138 (Operand.tmp 39) 0, _, _, _, some (4, true)⟩ rfl (fun _ _ _ h => h) hHeld ?_
      refine take_n 9 ⟨some 41, Op.load 9 (Operand.tmp 40), _, _, _, some (4, true)⟩ rfl (fun _ _ _ h => h) hHeld ?_
      refine take_n 10 ⟨some 42, Op.fieldAddr 138 (Operand.tmp 3) 0, _, _, _, some (4, true)⟩ rfl (fun _ _ _ h => h) hHeld ?_
      refine take_n 11 ⟨some 43, Op.load 9 (Operand.tmp 42), _, _, _, some (4, true)⟩ rfl (fun _ _ _ h => h) hHeld ?_
      refine take_n 12 ⟨some 44, Op.binOp BinOp.eql 9 (Operand.tmp 41) (Operand.tmp 43) 9, _, _, _, some (4, true)⟩ rfl (fun _ _ _ h => h) hHeld ?_
      refine take_v (v := ?_) 13 ⟨some 45, Op.pick (Operand.tmp 36) (Operand.tmp 44) (Operand.const (Value.bool false)), _, _, _, none⟩ rfl (fun _ _ _ h => h) ?_ hHeld ?_
      rotate_left
      · (intro W _; go_simp <;> (try with_reducible rfl))
      refine wpAnyH_done (by kernel_rfl) ?_ _
      refine NoPanic.normal ?_
      clear hHeld
      have H5 : Hid (PutPost nb (putL [] x) w (.returned v4) w4.drew) := by
        rw [HL.out]
        refine ⟨v4, rfl, ?_, fun B w0 h h1 h2 => (H4.out.2.2 B w0 h h1 h2).drew⟩
        have : cellsC [x] = [.string x.f0, .string x.f1] := cellsC_one x
        rw [this]; exact H4.out.1.drew
      have HO4 : Hid (w4.drew.ownsRow nb 138 2 v4 (0 + 1) ([] ++ [.string x.f0, .string x.f1])) := H4.out.1.drew
      clear H4
      go_wp2_with (first
        | (at_builtin; refine wpList_append_own_none rfl (.tmp 48) (.tmp 51) 135 rfl nb 138 i0 2 Try.underlying135 hi0 v4 (0 + 1) ([] ++ [.string x.f0, .string x.f1]) rfl HO4.out rfl ?_)
        | go_in)
      go_ret
      exact H5.out
  · obtain ⟨a', cap', e', hcap, hrow⟩ := SRow.of (F := cellF (cV L)) (c := 2) hown
    simp only [Value.slice.injEq, true_and] at e'
    obtain ⟨e1, e2⟩ := e'
    subst e1 e2
    have hg := hown.lt g rfl
    have HO : Hid (w.ownsRow base 138 2 (.slice (some ⟨g, 0, none⟩) L.length cap) L.length (cellsC L) ∧ base ≤ g ∧ g < w.heap.size) := ⟨hown, hg.1, hg.2⟩
    clear hown hrow hg
    go_enter Try.func107, Try.ntmps107
    go_wp2
    go_loopw [5] (fun i wr => ∃ p : Nat, p ≤ L.length ∧ i = .int .i64 p ∧ (∀ q, q < p → Op.bytesLess (cV L q).f0.toList x.f0.toList = true) ∧ Bx wr w.heap.size [.string x.f0, .string x.f1] ∧ Below w.heap.size w wr) (fun i _ => L.length - (intOf i).toNat)
    case atStart => exact ⟨0, Nat.zero_le _, rfl, fun q hq => absurd hq (by omega), HX.out.1, HX.out.2⟩
    case round =>
      obtain ⟨p, hp, rfl, hall, hx, hBr⟩ := hrel
      clear HX
      have H1 : Hid (Bx wr.drew w.heap.size [.string x.f0, .string x.f1] ∧ Below w.heap.size w wr.drew) := ⟨hx.next (Below.refl _ _).drew, hBr.drew⟩
      have HA : Hid (∀ q, q < p → Op.bytesLess (cV L q).f0.toList x.f0.toList = true) := hall
      clear hx hBr hall
      by_cases hpn : p < L.length
      · have hpn' : (p : Int) < (L.length : Int) := by omega
        have hpd : decide (p < L.length) = true := by simp; omega
        have HCk : Hid (wr.drew.cell? ⟨g, p * 2, none⟩ = some (.string (cV L p).f0)) := cell_key (own_keep HO.out.1 H1.out.2) hpn
        cases el : Op.bytesLess (cV L p).f0.toList x.f0.toList
        case true =>
          go_upto_region 2 with fail
          refine wp_region_noPanic ?_
          refine wp_region_held_drew (S := fun W => Bx W w.heap.size [.string x.f0, .string x.f1] ∧ W.cell? ⟨g, p * 2, none⟩ = some (.string (cV L p).f0)) (by kernel_rfl) ⟨H1.out.1, HCk.out⟩ (fun hHeld => ?_)
          refine take_v (v := ?_) 0 ⟨some 7, Op.move (Operand.tmp 5), _, _, _, none⟩ rfl (fun _ _ _ h => h) ?_ hHeld ?_
          rotate_left
          · (intro W _; go_simp <;> (try with_reducible rfl))
          refine take_v (v := ?_) 1 ⟨some 8, Op.move (Operand.tmp 0), _, _, _, none⟩ rfl (fun _ _ _ h => h) ?_ hHeld ?_
          rotate_left
          · (intro W _; go_simp <;> (try with_reducible rfl))
          refine take_v (v := ?_) 2 ⟨some 9, Op.call { callee := Callee.builtin Builtin.len, args := #[Operand.tmp 8], argTypes := #[135] }, _, _, _, none⟩ rfl (fun _ _ _ h => h) ?_ hHeld ?_
          rotate_left
          · (intro W _; go_simp <;> (try with_reducible rfl))
          refine take_v (v := ?_) 3 ⟨some 10, Op.binOp BinOp.lss 3 (Operand.tmp 7) (Operand.tmp 9) 3, _, _, _, none⟩ rfl (fun _ _ _ h => h) ?_ hHeld ?_
          rotate_left
          · (intro W _; go_simp <;> (try with_reducible rfl))
          refine take_v (v := ?_) 4 ⟨some 11, Op.move (Operand.tmp 10), _, _, _, none⟩ rfl (fun _ _ _ h => h) ?_ hHeld ?_
          rotate_left
          · (intro W _; go_simp <;> (try with_reducible rfl))
          refine take_v (v := ?_) 5 ⟨some 12, Op.move (Operand.tmp 0), _, _, _, some (4, true)⟩ rfl (fun _ _ _ h => h) ?_ hHeld ?_
          rotate_left
          · (intro W _; go_simp <;> (try with_reducible rfl))
          refine take_v (v := ?_) 6 ⟨some 13, Op.move (Operand.tmp 5), _, _, _, some (4, true)⟩ rfl (fun _ _ _ h => h) ?_ hHeld ?_
          rotate_left
          · (intro W _; go_simp <;> (try with_reducible rfl))
          refine take_v (v := ?_) 7 ⟨some 14, Op.indexAddr 135 (Operand.tmp 12) (Operand.tmp 13), _, _, _, some (4, true)⟩ rfl (fun _ _ _ h => h) ?_ hHeld ?_
          rotate_left
          · (intro W _; go_simp <;> (try with_reducible rfl))
          refine take_v (v := ?_) 8 ⟨some 15, Op.fieldAddr 138 (Operand.tmp 14) 0, _, _, _, some (4, true)⟩ rfl (fun _ _ _ h => h) ?_ hHeld ?_
          rotate_left
          · (intro W _; go_simp <;> (try with_reducible rfl))
          refine take_v (v := ?_) 9 ⟨some 16, Op.load 9 (Operand.tmp 15), _, _, _, some (4, true)⟩ rfl (fun _ _ _ h => h) ?_ hHeld ?_
          rotate_left
          · (intro W hSW; (have s0 := hSW.1.cell 0 rfl; have s1 := hSW.1.2; have s2 := hSW.2); go_simp <;> (try with_reducible rfl))
          refine take_v (v := ?_) 10 ⟨some 17, Op.fieldAddr 138 (Operand.tmp 3) 0, _, _, _, some (4, true)⟩ rfl (fun _ _ _ h => h) ?_ hHeld ?_
          rotate_left
          · (intro W _; go_simp <;> (try with_reducible rfl))
          refine take_v (v := ?_) 11 ⟨some 18, Op.load 9 (Operand.tmp 17), _, _, _, some (4, true)⟩ rfl (fun _ _ _ h => h) ?_ hHeld ?_
          rotate_left
          · (intro W hSW; (have s0 := hSW.1.cell 0 rfl; have s1 := hSW.1.2; have s2 := hSW.2); go_simp <;> (try with_reducible rfl))
          refine take_v (v := ?_) 12 ⟨some 19, Op.binOp BinOp.lss 9 (Operand.tmp 16) (Operand.tmp 18) 9, _, _, _, some (4, true)⟩ rfl (fun _ _ _ h => h) ?_ hHeld ?_
          rotate_left
          · (intro W _; go_simp <;> (try with_reducible rfl))
          refine take_v (v := ?_) 13 ⟨some 20, Op.pick (Operand.tmp 11) (Operand.tmp 19) (Operand.const (Value.bool false)), _, _, _, none⟩ rfl (fun _ _ _ h => h) ?_ hHeld ?_
          rotate_left
          · (intro W _; go_simp <;> (try with_reducible rfl))
          refine wpAnyH_done (by kernel_rfl) ?_ _
          refine NoPanic.normal ?_
          go_wp2
          go_roundw
          case rel => exact ⟨p + 1, by omega, by go_num, upto_succ HA.out el, H1.out.1, H1.out.2⟩
          case measure => simp [intOf]; omega
        have HPL : Hid (plN L x.f0.toList = p) := plN_eq hp HA.out (fun _ => el)
        go_upto_region 2 with fail
        refine wp_region_noPanic ?_
        refine wp_region_held_drew (S := fun W => Bx W w.heap.size [.string x.f0, .string x.f1] ∧ W.cell? ⟨g, p * 2, none⟩ = some (.string (cV L p).f0)) (by kernel_rfl) ⟨H1.out.1, HCk.out⟩ (fun hHeld => ?_)
        refine take_v (v := ?_) 0 ⟨some 7, Op.move (Operand.tmp 5), _, _, _, none⟩ rfl (fun _ _ _ h => h) ?_ hHeld ?_
        rotate_left
        · (intro W _; go_simp <;> (try with_reducible rfl))
        refine take_v (v := ?_) 1 ⟨some 8, Op.move (Operand.tmp 0), _, _, _, none⟩ rfl (fun _ _ _ h => h) ?_ hHeld ?_
        rotate_left
        · (intro W _; go_simp <;> (try with_reducible rfl))
        refine take_v (v := ?_) 2 ⟨some 9, Op.call { callee := Callee.builtin Builtin.len, args := #[Operand.tmp 8], argTypes := #[135] }, _, _, _, none⟩ rfl (fun _ _ _ h => h) ?_ hHeld ?_
        rotate_left
        · (intro W _; go_simp <;> (try with_reducible rfl))
        refine take_v (v := ?_) 3 ⟨some 10, Op.binOp BinOp.lss 3 (Operand.tmp 7) (Operand.tmp 9) 3, _, _, _, none⟩ rfl (fun _ _ _ h => h) ?_ hHeld ?_
        rotate_left
        · (intro W _; go_simp <;> (try with_reducible rfl))
        refine take_v (v := ?_) 4 ⟨some 11, Op.move (Operand.tmp 10), _, _, _, none⟩ rfl (fun _ _ _ h => h) ?_ hHeld ?_
        rotate_left
        · (intro W _; go_simp <;> (try with_reducible rfl))
        refine take_v (v := ?_) 5 ⟨some 12, Op.move (Operand.tmp 0), _, _, _, some (4, true)⟩ rfl (fun _ _ _ h => h) ?_ hHeld ?_
        rotate_left
        · (intro W _; go_simp <;> (try with_reducible rfl))
        refine take_v (v := ?_) 6 ⟨some 13, Op.move (Operand.tmp 5), _, _, _, some (4, true)⟩ rfl (fun _ _ _ h => h) ?_ hHeld ?_
        rotate_left
        · (intro W _; go_simp <;> (try with_reducible rfl))
        refine take_v (v := ?_) 7 ⟨some 14, Op.indexAddr 135 (Operand.tmp 12) (Operand.tmp 13), _, _, _, some (4, true)⟩ rfl (fun _ _ _ h => h) ?_ hHeld ?_
        rotate_left
        · (intro W _; go_simp <;> (try with_reducible rfl))
        refine take_v (v := ?_) 8 ⟨some 15, Op.fieldAddr 138 (Operand.tmp 14) 0, _, _, _, some (4, true)⟩ rfl (fun _ _ _ h => h) ?_ hHeld ?_
        rotate_left
        · (intro W _; go_simp <;> (try with_reducible rfl))
        refine take_v (v := ?_) 9 ⟨some 16, Op.load 9 (Operand.tmp 15), _, _, _, some (4, true)⟩ rfl (fun _ _ _ h => h) ?_ hHeld ?_
        rotate_left
        · (intro W hSW; (have s0 := hSW.1.cell 0 rfl; have s1 := hSW.1.2; have s2 := hSW.2); go_simp <;> (try with_reducible rfl))
        refine take_v (v := ?_) 10 ⟨some 17, Op.fieldAddr 138 (Operand.tmp 3) 0, _, _, _, some (4, true)⟩ rfl (fun _ _ _ h => h) ?_ hHeld ?_
        rotate_left
        · (intro W _; go_simp <;> (try with_reducible rfl))
        refine take_v (v := ?_) 11 ⟨some 18, Op.load 9 (Operand.tmp 17), _, _, _, some (4, true)⟩ rfl (fun _ _ _ h => h) ?_ hHeld ?_
        rotate_left
        · (intro W hSW; (have s0 := hSW.1.cell 0 rfl; have s1 := hSW.1.2; have s2 := hSW.2); go_simp <;> (try with_reducible rfl))
        refine take_v (v := ?_) 12 ⟨some 19, Op.binOp BinOp.lss 9 (Operand.tmp 16) (Operand.tmp 18) 9, _, _, _, some (4, true)⟩ rfl (fun _ _ _ h => h) ?_ hHeld ?_
        rotate_left
        · (intro W _; go_simp <;> (try with_reducible rfl))
        refine take_v (v := ?_) 13 ⟨some 20, Op.pick (Operand.tmp 11) (Operand.tmp 19) (Operand.const (Value.bool false)), _, _, _, none⟩ rfl (fun _ _ _ h => h) ?_ hHeld ?_
        rotate_left
        · (intro W _; go_simp <;> (try with_reducible rfl))
        refine wpAnyH_done (by kernel_rfl) ?_ _
        refine NoPanic.normal ?_
        clear HCk
        clear hHeld
        obtain ⟨wd, hwd⟩ : ∃ y, y = wr.drew := ⟨_, rfl⟩
        rw [← hwd] at H1 ⊢
        clear hwd
        have hzd : w.heap.size < wd.heap.size := H1.out.1.2
        have HOd : Hid (wd.ownsRow base 138 2 (.slice (some ⟨g, 0, none⟩) L.length cap) L.length (cellsC L)) := own_keep HO.out.1 H1.out.2
        have HNT : Hid (∀ j u, (cellsC (L.take p))[j]? = some u → wd.cell? ((⟨g, 0, none⟩ : Addr).add j) = some u) := news_take HOd.out hp
        have hlt1 : (cellsC (L.take p)).length = p * 2 := by rw [cellsC_len, List.length_take, Nat.min_eq_left hp]
        have hpc : (p : Int) ≤ (cap : Int) := by omega
        have x0 := H1.out.1.cell 0 rfl
        have x1 := H1.out.1.cell 1 rfl
        have xz := H1.out.1.2
        go_wp2_with (first
          | (at_builtin; refine wpList_append_own_at _ rfl (.tmp 23) (.tmp 26) 135 rfl nb 138 i0 (.agg #[.string ⟨#[]⟩, .string ⟨#[]⟩]) 2 32 Try.underlying135 hi0 y0 y1 y2 rfl (by decide) (.slice none 0 0) 0 [] rfl (World.ownsRow_nil _ _ _ _) ⟨g, 0, none⟩ p cap (cellsC (L.take p)) rfl hlt1 HNT.out (cellsC_one' _) (by unfold maxLen; omega) (by omega) (by omega) ?_; intro v1 w1 hown1 hgrow1 hnil1 hwh1; have G1 := (H1.out.1.grew hgrow1 hgrow1.size (fun e => by cases e)); have x0' := G1.cell 0 rfl; have x1' := G1.cell 1 rfl; have xz' := G1.2)
          | (at_builtin; refine wpList_append_own_at _ rfl (.tmp 28) (.tmp 30) 135 rfl nb 138 i0 (.agg #[.string ⟨#[]⟩, .string ⟨#[]⟩]) 2 32 Try.underlying135 hi0 y0 y1 y2 rfl (by decide) v1 (0 + p) ([] ++ cellsC (L.take p)) rfl (World.ownsRow.alloc hown1 _) ⟨w1.heap.size, 0, none⟩ 1 1 [.string x.f0, .string x.f1] rfl rfl (cells_new w1 [.string x.f0, .string x.f1] 138) (by intro u hu; simp at hu; rcases hu with rfl | rfl <;> rfl) (by unfold maxLen; omega) (by omega) (by have := hgrow1.size; simp; omega) ?_; intro v2 w2 hown2 hgrow2 hnil2 hwh2)
          | go_in)
        have hz1 : wd.heap.size ≤ w1.heap.size := hgrow1.size
        have hz2 : w1.heap.size + 1 ≤ w2.heap.size := by have := hgrow2.size; simpa using this
        have hv1 : ∀ b, v1.ownBlock = some b → b = wd.heap.size := fun b hb => by
          rcases hwh1 with h | h
          · rw [h] at hb; cases hb
          · rw [h] at hb; exact (Option.some.inj hb).symm
        have H2 : Hid (w2.drew.ownsRow nb 138 2 v2 (0 + p + 1) ([] ++ cellsC (L.take p) ++ [.string x.f0, .string x.f1]) ∧ Bx w2.drew w.heap.size [.string x.f0, .string x.f1] ∧ w2.drew.ownsRow base 138 2 (.slice (some ⟨g, 0, none⟩) L.length cap) L.length (cellsC L) ∧ (∀ B w0, Below B w0 w → B ≤ nb → B ≤ w.heap.size → Below B w0 w2.drew) ∧ (∀ b, v2.ownBlock = some b → nb ≤ b ∧ wd.heap.size ≤ b)) := by
          have hgw := HO.out.2.2
          refine ⟨hown2.drew, (((G1.alloc _).grew hgrow2 hgrow2.size (fun e => by have := hv1 _ e.symm; omega))).next (Below.refl _ _).drew, ((own_gr' (own_keep (own_gr' HOd.out hgrow1 (fun b hb e => by cases e)) (Go.Joins.below_alloc1 _ _)) hgrow2 (fun b hb e => by have h1 := hv1 b e; have h2 : b = g := (Option.some.inj hb).symm; omega))).drew, fun B w0 h h1 h2 => ?_, fun b hb => ?_⟩
          · have e1 : Below B w0 w1 := (h.trans (H1.out.2.mono h2)).grown hgrow1 (by omega) (fun j hj => by cases hj)
            exact ((e1.alloc (by omega) _).grown hgrow2 (by simp; omega) (fun j hj => by have := hv1 j hj; omega)).drew
          · refine ⟨(hown2.lt b hb).1, ?_⟩
            rcases hwh2 with h | h
            · rw [h] at hb; have := hv1 b hb; omega
            · rw [h] at hb; have := Option.some.inj hb; simp at this; omega
        clear hown1 hgrow1 hnil1 hwh1 hown2 hgrow2 hnil2 hwh2 G1 x0 x1 xz x0' x1' xz' HNT H1 HOd hv1

        have cp2 : w2.drew.cell? ⟨g, p * 2, none⟩ = some (.string (cV L p).f0) := cell_key H2.out.2.2.1 hpn
        have HCp : Hid (w2.drew.cell? ⟨g, p * 2, none⟩ = some (.string (cV L p).f0)) := cp2
        clear cp2
        cases ek : ((cV L p).f0.toList == x.f0.toList)
        · have HPU : Hid (putL L x = L.take p ++ x :: L.drop (p)) := by show _ = _; rw [putL, HPL.out, if_neg (fun h => by rw [h.2] at ek; simp at ek)]
          go_upto_region 7 with fail
          refine wp_region_noPanic ?_
          refine wp_region_held_drew (S := fun W => Bx W w.heap.size [.string x.f0, .string x.f1] ∧ W.cell? ⟨g, p * 2, none⟩ = some (.string (cV L p).f0)) (by kernel_rfl) ⟨H2.out.2.1, HCp.out⟩ (fun hHeld => ?_)
          refine take_v (v := ?_) 0 ⟨some 32, Op.move (Operand.tmp 5), _, _, _, none⟩ rfl (fun _ _ _ h => h) ?_ hHeld ?_
          rotate_left
          · (intro W _; go_simp <;> (try with_reducible rfl))
          refine take_v (v := ?_) 1 ⟨some 33, Op.move (Operand.tmp 0), _, _, _, none⟩ rfl (fun _ _ _ h => h) ?_ hHeld ?_
          rotate_left
          · (intro W _; go_simp <;> (try with_reducible rfl))
          refine take_v (v := ?_) 2 ⟨some 34, Op.call { callee := Callee.builtin Builtin.len, args := #[Operand.tmp 33], argTypes := #[135] }, _, _, _, none⟩ rfl (fun _ _ _ h => h) ?_ hHeld ?_
          rotate_left
          · (intro W _; go_simp <;> (try with_reducible rfl))
          refine take_v (v := ?_) 3 ⟨some 35, Op.binOp BinOp.lss 3 (Operand.tmp 32) (Operand.tmp 34) 3, _, _, _, none⟩ rfl (fun _ _ _ h => h) ?_ hHeld ?_
          rotate_left
          · (intro W _; go_simp <;> (try with_reducible rfl))
          refine take_v (v := ?_) 4 ⟨some 36, Op.move (Operand.tmp 35), _, _, _, none⟩ rfl (fun _ _ _ h => h) ?_ hHeld ?_
          rotate_left
          · (intro W _; go_simp <;> (try with_reducible rfl))
          refine take_v (v := ?_) 5 ⟨some 37, Op.move (Operand.tmp 0), _, _, _, some (4, true)⟩ rfl (fun _ _ _ h => h) ?_ hHeld ?_
          rotate_left
          · (intro W _; go_simp <;> (try with_reducible rfl))
          refine take_v (v := ?_) 6 ⟨some 38, Op.move (Operand.tmp 5), _, _, _, some (4, true)⟩ rfl (fun _ _ _ h => h) ?_ hHeld ?_
          rotate_left
          · (intro W _; go_simp <;> (try with_reducible rfl))
          refine take_v (v := ?_) 7 ⟨some 39, Op.indexAddr 135 (Operand.tmp 37) (Operand.tmp 38), _, _, _, some (4, true)⟩ rfl (fun _ _ _ h => h) ?_ hHeld ?_
          rotate_left
          · (intro W _; go_simp <;> (try with_reducible rfl))
          refine take_v (v := ?_) 8 ⟨some 40, Op.fieldAddr 138 (Operand.tmp 39) 0, _, _, _, some (4, true)⟩ rfl (fun _ _ _ h => h) ?_ hHeld ?_
          rotate_left
          · (intro W _; go_simp <;> (try with_reducible rfl))
          refine take_v (v := ?_) 9 ⟨some 41, Op.load 9 (Operand.tmp 40), _, _, _, some (4, true)⟩ rfl (fun _ _ _ h => h) ?_ hHeld ?_
          rotate_left
          · (intro W hSW; (have s0 := hSW.1.cell 0 rfl; have s1 := hSW.1.2; have s2 := hSW.2); go_simp <;> (try with_reducible rfl))
          refine take_v (v := ?_) 10 ⟨some 42, Op.fieldAddr 138 (Operand.tmp 3) 0, _, _, _, some (4, true)⟩ rfl (fun _ _ _ h => h) ?_ hHeld ?_
          rotate_left
          · (intro W _; go_simp <;> (try with_reducible rfl))
          refine take_v (v := ?_) 11 ⟨some 43, Op.load 9 (Operand.tmp 42), _, _, _, some (4, true)⟩ rfl (fun _ _ _ h => h) ?_ hHeld ?_
          rotate_left
          · (intro W hSW; (have s0 := hSW.1.cell 0 rfl; have s1 := hSW.1.2; have s2 := hSW.2); go_simp <;> (try with_reducible rfl))
          refine take_v (v := ?_) 12 ⟨some 44, Op.binOp BinOp.eql 9 (Operand.tmp 41) (Operand.tmp 43) 9, _, _, _, some (4, true)⟩ rfl (fun _ _ _ h => h) ?_ hHeld ?_
          rotate_left
          · (intro W _; go_simp <;> (try with_reducible rfl))
          refine take_v (v := ?_) 13 ⟨some 45, Op.pick (Operand.tmp 36) (Operand.tmp 44) (Operand.const (Value.bool false)), _, _, _, none⟩ rfl (fun _ _ _ h => h) ?_ hHeld ?_
          rotate_left
          · (intro W _; go_simp <;> (try with_reducible rfl))
          refine wpAnyH_done (by kernel_rfl) ?_ _
          refine NoPanic.normal ?_
          clear hHeld

          have hk3c : (p : Int) ≤ (L.length : Int) := by omega
          have hk3d : (p : Int) ≤ (cap : Int) := by omega
          have hkl : p ≤ L.length := by omega
          obtain ⟨we, hwe⟩ : ∃ y, y = w2.drew := ⟨_, rfl⟩
          have hze : we.heap.size = w2.heap.size := by rw [hwe]; rfl
          rw [← hwe] at H2 ⊢
          clear hwe
          have HND : Hid (∀ j u, (cellsC (L.drop p))[j]? = some u → we.cell? ((⟨g, p * 2, none⟩ : Addr).add j) = some u) := news_drop H2.out.2.2.1 hkl
          have hld : (cellsC (L.drop p)).length = (L.length - p) * 2 := by rw [cellsC_len, List.length_drop]
          have HFI : Hid (∀ v' w', w'.ownsRow nb 138 2 v' (0 + p + 1 + (L.length - p)) ([] ++ cellsC (L.take p) ++ [.string x.f0, .string x.f1] ++ cellsC (L.drop p)) → (w' = we ∨ we.grownBy w' v2.ownBlock) → PutPost nb (putL L x) w (.returned v') w') := by
            intro v' w' h1 h2
            rw [HPU.out]
            have e1 : cellsC (L.take p ++ x :: L.drop (p)) = [] ++ cellsC (L.take p) ++ [.string x.f0, .string x.f1] ++ cellsC (L.drop p) := by rw [cellsC_append, cellsC_cons]; simp
            have e2 : (L.take p ++ x :: L.drop (p)).length = 0 + p + 1 + (L.length - p) := by simp only [List.length_append, List.length_cons, List.length_take, List.length_drop]; omega
            refine ⟨v', rfl, by rw [e1, e2]; exact h1, fun B w0 h q1 q2 => ?_⟩
            rcases h2 with rfl | h2
            · exact H2.out.2.2.2.1 B w0 h q1 q2
            · exact (H2.out.2.2.2.1 B w0 h q1 q2).grown h2 (by omega) (fun j hj => Nat.le_trans q1 (H2.out.2.2.2.2 j hj).1)
          have HO2 : Hid (we.ownsRow nb 138 2 v2 (0 + p + 1) ([] ++ cellsC (L.take p) ++ [.string x.f0, .string x.f1])) := H2.out.1
          clear H2 HPU
          by_cases hck : cap = p
          · exfalso; omega
          · go_wp2_with (first
              | (at_builtin; refine wpList_append_own_at _ rfl (.tmp 48) (.tmp 51) 135 rfl nb 138 i0 (.agg #[.string ⟨#[]⟩, .string ⟨#[]⟩]) 2 32 Try.underlying135 hi0 y0 y1 y2 rfl (by decide) v2 (0 + p + 1) ([] ++ cellsC (L.take p) ++ [.string x.f0, .string x.f1]) rfl HO2.out ⟨g, p * 2, none⟩ (L.length - p) _ (cellsC (L.drop p)) rfl hld HND.out (cellsC_one' _) (by unfold maxLen; omega) (by omega) (by omega) ?_; intro v3 w3 hown3 hgrow3 hnil3 hwh3)
              | go_in)
            go_ret
            exact HFI.out _ _ hown3 (Or.inr hgrow3)
        · have HPU : Hid (putL L x = L.take p ++ x :: L.drop (p + 1)) := by show _ = _; rw [putL, HPL.out, if_pos ⟨hpn, by simpa using ek⟩]
          go_upto_region 7 with fail
          refine wp_region_noPanic ?_
          refine wp_region_held_drew (S := fun W => Bx W w.heap.size [.string x.f0, .string x.f1] ∧ W.cell? ⟨g, p * 2, none⟩ = some (.string (cV L p).f0)) (by kernel_rfl) ⟨H2.out.2.1, HCp.out⟩ (fun hHeld => ?_)
          refine take_v (v := ?_) 0 ⟨some 32, Op.move (Operand.tmp 5), _, _, _, none⟩ rfl (fun _ _ _ h => h) ?_ hHeld ?_
          rotate_left
          · (intro W _; go_simp <;> (try with_reducible rfl))
          refine take_v (v := ?_) 1 ⟨some 33, Op.move (Operand.tmp 0), _, _, _, none⟩ rfl (fun _ _ _ h => h) ?_ hHeld ?_
          rotate_left
          · (intro W _; go_simp <;> (try with_reducible rfl))
          refine take_v (v := ?_) 2 ⟨some 34, Op.call { callee := Callee.builtin Builtin.len, args := #[Operand.tmp 33], argTypes := #[135] }, _, _, _, none⟩ rfl (fun _ _ _ h => h) ?_ hHeld ?_
          rotate_left
          · (intro W _; go_simp <;> (try with_reducible rfl))
          refine take_v (v := ?_) 3 ⟨some 35, Op.binOp BinOp.lss 3 (Operand.tmp 32) (Operand.tmp 34) 3, _, _, _, none⟩ rfl (fun _ _ _ h => h) ?_ hHeld ?_
          rotate_left
          · (intro W _; go_simp <;> (try with_reducible rfl))
          refine take_v (v := ?_) 4 ⟨some 36, Op.move (Operand.tmp 35), _, _, _, none⟩ rfl (fun _ _ _ h => h) ?_ hHeld ?_
          rotate_left
          · (intro W _; go_simp <;> (try with_reducible rfl))
          refine take_v (v := ?_) 5 ⟨some 37, Op.move (Operand.tmp 0), _, _, _, some (4, true)⟩ rfl (fun _ _ _ h => h) ?_ hHeld ?_
          rotate_left
          · (intro W _; go_simp <;> (try with_reducible rfl))
          refine take_v (v := ?_) 6 ⟨some 38, Op.move (Operand.tmp 5), _, _, _, some (4, true)⟩ rfl (fun _ _ _ h => h) ?_ hHeld ?_
          rotate_left
          · (intro W _; go_simp <;> (try with_reducible rfl))
          refine take_v (v := ?_) 7 ⟨some 39, Op.indexAddr 135 (Operand.tmp 37) (Operand.tmp 38), _, _, _, some (4, true)⟩ rfl (fun _ _ _ h => h) ?_ hHeld ?_
          rotate_left
          · (intro W _; go_simp <;> (try with_reducible rfl))
          refine take_v (v := ?_) 8 ⟨some 40, Op.fieldAddr 138 (Operand.tmp 39) 0, _, _, _, some (4, true)⟩ rfl (fun _ _ _ h => h) ?_ hHeld ?_
          rotate_left
          · (intro W _; go_simp <;> (try with_reducible rfl))
          refine take_v (v := ?_) 9 ⟨some 41, Op.load 9 (Operand.tmp 40), _, _, _, some (4, true)⟩ rfl (fun _ _ _ h => h) ?_ hHeld ?_
          rotate_left
          · (intro W hSW; (have s0 := hSW.1.cell 0 rfl; have s1 := hSW.1.2; have s2 := hSW.2); go_simp <;> (try with_reducible rfl))
          refine take_v (v := ?_) 10 ⟨some 42, Op.fieldAddr 138 (Operand.tmp 3) 0, _, _, _, some (4, true)⟩ rfl (fun _ _ _ h => h) ?_ hHeld ?_
          rotate_left
          · (intro W _; go_simp <;> (try with_reducible rfl))
          refine take_v (v := ?_) 11 ⟨some 43, Op.load 9 (Operand.tmp 42), _, _, _, some (4, true)⟩ rfl (fun _ _ _ h => h) ?_ hHeld ?_
          rotate_left
          · (intro W hSW; (have s0 := hSW.1.cell 0 rfl; have s1 := hSW.1.2; have s2 := hSW.2); go_simp <;> (try with_reducible rfl))
          refine take_v (v := ?_) 12 ⟨some 44, Op.binOp BinOp.eql 9 (Operand.tmp 41) (Operand.tmp 43) 9, _, _, _, some (4, true)⟩ rfl (fun _ _ _ h => h) ?_ hHeld ?_
          rotate_left
          · (intro W _; go_simp <;> (try with_reducible rfl))
          refine take_v (v := ?_) 13 ⟨some 45, Op.pick (Operand.tmp 36) (Operand.tmp 44) (Operand.const (Value.bool false)), _, _, _, none⟩ rfl (fun _ _ _ h => h) ?_ hHeld ?_
          rotate_left
          · (intro W _; go_simp <;> (try with_reducible rfl))
          refine wpAnyH_done (by kernel_rfl) ?_ _
          refine NoPanic.normal ?_
          clear hHeld
          obtain ⟨k3, hk3⟩ : ∃ k3, k3 = p + 1 := ⟨_, rfl⟩
          replace HPU : Hid (putL L x = L.take p ++ x :: L.drop k3) := by show _ = _; rw [hk3]; exact HPU.out
          have hki : (p : Int) + 1 = (k3 : Int) := by omega
          have hk3n : k3 ≤ L.length := by omega
          have HKP : Hid (k3 = p + 1) := hk3
          clear hk3
          have hk3c : (k3 : Int) ≤ (L.length : Int) := by omega
          have hk3d : (k3 : Int) ≤ (cap : Int) := by omega
          have hkl : k3 ≤ L.length := by omega
          obtain ⟨we, hwe⟩ : ∃ y, y = w2.drew := ⟨_, rfl⟩
          have hze : we.heap.size = w2.heap.size := by rw [hwe]; rfl
          rw [← hwe] at H2 ⊢
          clear hwe
          have HND : Hid (∀ j u, (cellsC (L.drop k3))[j]? = some u → we.cell? ((⟨g, k3 * 2, none⟩ : Addr).add j) = some u) := news_drop H2.out.2.2.1 hkl
          have hld : (cellsC (L.drop k3)).length = (L.length - k3) * 2 := by rw [cellsC_len, List.length_drop]
          have HFI : Hid (∀ v' w', w'.ownsRow nb 138 2 v' (0 + p + 1 + (L.length - k3)) ([] ++ cellsC (L.take p) ++ [.string x.f0, .string x.f1] ++ cellsC (L.drop k3)) → (w' = we ∨ we.grownBy w' v2.ownBlock) → PutPost nb (putL L x) w (.returned v') w') := by
            intro v' w' h1 h2
            rw [HPU.out]
            have e1 : cellsC (L.take p ++ x :: L.drop (k3)) = [] ++ cellsC (L.take p) ++ [.string x.f0, .string x.f1] ++ cellsC (L.drop k3) := by rw [cellsC_append, cellsC_cons]; simp
            have e2 : (L.take p ++ x :: L.drop (k3)).length = 0 + p + 1 + (L.length - k3) := by simp only [List.length_append, List.length_cons, List.length_take, List.length_drop]; omega
            refine ⟨v', rfl, by rw [e1, e2]; exact h1, fun B w0 h q1 q2 => ?_⟩
            rcases h2 with rfl | h2
            · exact H2.out.2.2.2.1 B w0 h q1 q2
            · exact (H2.out.2.2.2.1 B w0 h q1 q2).grown h2 (by omega) (fun j hj => Nat.le_trans q1 (H2.out.2.2.2.2 j hj).1)
          have HO2 : Hid (we.ownsRow nb 138 2 v2 (0 + p + 1) ([] ++ cellsC (L.take p) ++ [.string x.f0, .string x.f1])) := H2.out.1
          clear H2 HPU
          by_cases hck : cap = k3
          · have HN0 : Hid (∀ j u, (cellsC (L.drop k3))[j]? = some u → we.cell? ((⟨g, 0, none⟩ : Addr).add j) = some u) := fun j u hu => by
              have h0 : L.drop (k3) = [] := List.drop_eq_nil_iff.2 (by omega)
              rw [h0] at hu
              simp [cellsC, cellsL] at hu
            go_wp2_with (first
              | (at_builtin; refine wpList_append_own_at _ rfl (.tmp 48) (.tmp 51) 135 rfl nb 138 i0 (.agg #[.string ⟨#[]⟩, .string ⟨#[]⟩]) 2 32 Try.underlying135 hi0 y0 y1 y2 rfl (by decide) v2 (0 + p + 1) ([] ++ cellsC (L.take p) ++ [.string x.f0, .string x.f1]) rfl HO2.out ⟨g, 0, none⟩ (L.length - k3) _ (cellsC (L.drop k3)) rfl hld HN0.out (cellsC_one' _) (by unfold maxLen; omega) (by omega) (by omega) ?_; intro v3 w3 hown3 hgrow3 hnil3 hwh3)
              | go_in)
            go_ret
            exact HFI.out _ _ hown3 (Or.inr hgrow3)
          · go_wp2_with (first
              | (at_builtin; refine wpList_append_own_at _ rfl (.tmp 48) (.tmp 51) 135 rfl nb 138 i0 (.agg #[.string ⟨#[]⟩, .string ⟨#[]⟩]) 2 32 Try.underlying135 hi0 y0 y1 y2 rfl (by decide) v2 (0 + p + 1) ([] ++ cellsC (L.take p) ++ [.string x.f0, .string x.f1]) rfl HO2.out ⟨g, k3 * 2, none⟩ (L.length - k3) _ (cellsC (L.drop k3)) rfl hld HND.out (cellsC_one' _) (by unfold maxLen; omega) (by omega) (by omega) ?_; intro v3 w3 hown3 hgrow3 hnil3 hwh3)
              | go_in)
            go_ret
            exact HFI.out _ _ hown3 (Or.inr hgrow3)
      · have hpn' : ¬ (p : Int) < (L.length : Int) := by omega
        have hpd : decide ((p : Int) < (L.length : Int)) = false := by simp; omega
        have hpdn : decide (p < L.length) = false := by simp; omega
        have HPL : Hid (plN L x.f0.toList = p) := plN_eq hp HA.out (fun h => absurd h hpn)
        go_upto_region 2 with fail
        refine wp_region_noPanic ?_
        refine wp_region_held_drew (S := fun W => Bx W w.heap.size [.string x.f0, .string x.f1]) (by kernel_rfl) H1.out.1 (fun hHeld => ?_)
        refine take_v (v := ?_) 0 ⟨some 7, Op.move (Operand.tmp 5), _, _, _, none⟩ rfl (fun _ _ _ h => h) ?_ hHeld ?_
        rotate_left
        · (intro W _; go_simp <;> (try with_reducible rfl))
        refine take_v (v := ?_) 1 ⟨some 8, Op.move (Operand.tmp 0), _, _, _, none⟩ rfl (fun _ _ _ h => h) ?_ hHeld ?_
        rotate_left
        · (intro W _; go_simp <;> (try with_reducible rfl))
        refine take_v (v := ?_) 2 ⟨some 9, Op.call { callee := Callee.builtin Builtin.len, args := #[Operand.tmp 8], argTypes := #[135] }, _, _, _, none⟩ rfl (fun _ _ _ h => h) ?_ hHeld ?_
        rotate_left
        · (intro W _; go_simp <;> (try with_reducible rfl))
        refine take_v (v := ?_) 3 ⟨some 10, Op.binOp BinOp.lss 3 (Operand.tmp 7) (Operand.tmp 9) 3, _, _, _, none⟩ rfl (fun _ _ _ h => h) ?_ hHeld ?_
        rotate_left
        · (intro W _; go_simp <;> (try with_reducible rfl))
        refine take_v (v := ?_) 4 ⟨some 11, Op.move (Operand.tmp 10), _, _, _, none⟩ rfl (fun _ _ _ h => h) ?_ hHeld ?_
        rotate_left
        · (intro W _; go_simp <;> (try with_reducible rfl))
        refine take_n 5 ⟨some 12, Op.move (Operand.tmp 0), _, _, _, some (4, true)⟩ rfl (fun _ _ _ h => h) hHeld ?_
        refine take_n 6 ⟨some 13, Op.move (Operand.tmp 5), _, _, _, some (4, true)⟩ rfl (fun _ _ _ h => h) hHeld ?_
        refine take_n 7 ⟨some 14, Op.indexAddr 135 (Operand.tmp 12) (Operand.tmp 13), _, _, _, some (4, true)⟩ rfl (fun _ _ _ h => h) hHeld ?_
        refine take_n 8 ⟨some 15, Op.fieldAddr 138 (Operand.tmp 14) 0, _, _, _, some (4, true)⟩ rfl (fun _ _ _ h => h) hHeld ?_
        refine take_n 9 ⟨some 16, Op.load 9 (Operand.tmp 15), _, _, _, some (4, true)⟩ rfl (fun _ _ _ h => h) hHeld ?_
        refine take_n 10 ⟨some 17, Op.fieldAddr 138 (Operand.tmp 3) 0, _, _, _, some (4, true)⟩ rfl (fun _ _ _ h => h) hHeld ?_
        refine take_n 11 ⟨some 18, Op.load 9 (Operand.tmp 17), _, _, _, some (4, true)⟩ rfl (fun _ _ _ h => h) hHeld ?_
        refine take_n 12 ⟨some 19, Op.binOp BinOp.lss 9 (Operand.tmp 16) (Operand.tmp 18) 9, _, _, _, some (4, true)⟩ rfl (fun _ _ _ h => h) hHeld ?_
        refine take_v (v := ?_) 13 ⟨some 20, Op.pick (Operand.tmp 11) (Operand.tmp 19) (Operand.const (Value.bool false)), _, _, _, none⟩ rfl (fun _ _ _ h => h) ?_ hHeld ?_
        rotate_left
        · (intro W _; go_simp <;> (try with_reducible rfl))
        refine wpAnyH_done (by kernel_rfl) ?_ _
        refine NoPanic.normal ?_
        clear hHeld
        obtain ⟨wd, hwd⟩ : ∃ y, y = wr.drew := ⟨_, rfl⟩
        rw [← hwd] at H1 ⊢
        clear hwd
        have hzd : w.heap.size < wd.heap.size := H1.out.1.2
        have HOd : Hid (wd.ownsRow base 138 2 (.slice (some ⟨g, 0, none⟩) L.length cap) L.length (cellsC L)) := own_keep HO.out.1 H1.out.2
        have HNT : Hid (∀ j u, (cellsC (L.take p))[j]? = some u → wd.cell? ((⟨g, 0, none⟩ : Addr).add j) = some u) := news_take HOd.out hp
        have hlt1 : (cellsC (L.take p)).length = p * 2 := by rw [cellsC_len, List.length_take, Nat.min_eq_left hp]
        have hpc : (p : Int) ≤ (cap : Int) := by omega
        have x0 := H1.out.1.cell 0 rfl
        have x1 := H1.out.1.cell 1 rfl
        have xz := H1.out.1.2
        go_wp2_with (first
          | (at_builtin; refine wpList_append_own_at _ rfl (.tmp 23) (.tmp 26) 135 rfl nb 138 i0 (.agg #[.string ⟨#[]⟩, .string ⟨#[]⟩]) 2 32 Try.underlying135 hi0 y0 y1 y2 rfl (by decide) (.slice none 0 0) 0 [] rfl (World.ownsRow_nil _ _ _ _) ⟨g, 0, none⟩ p cap (cellsC (L.take p)) rfl hlt1 HNT.out (cellsC_one' _) (by unfold maxLen; omega) (by omega) (by omega) ?_; intro v1 w1 hown1 hgrow1 hnil1 hwh1; have G1 := (H1.out.1.grew hgrow1 hgrow1.size (fun e => by cases e)); have x0' := G1.cell 0 rfl; have x1' := G1.cell 1 rfl; have xz' := G1.2)
          | (at_builtin; refine wpList_append_own_at _ rfl (.tmp 28) (.tmp 30) 135 rfl nb 138 i0 (.agg #[.string ⟨#[]⟩, .string ⟨#[]⟩]) 2 32 Try.underlying135 hi0 y0 y1 y2 rfl (by decide) v1 (0 + p) ([] ++ cellsC (L.take p)) rfl (World.ownsRow.alloc hown1 _) ⟨w1.heap.size, 0, none⟩ 1 1 [.string x.f0, .string x.f1] rfl rfl (cells_new w1 [.string x.f0, .string x.f1] 138) (by intro u hu; simp at hu; rcases hu with rfl | rfl <;> rfl) (by unfold maxLen; omega) (by omega) (by have := hgrow1.size; simp; omega) ?_; intro v2 w2 hown2 hgrow2 hnil2 hwh2)
          | go_in)
        have hz1 : wd.heap.size ≤ w1.heap.size := hgrow1.size
        have hz2 : w1.heap.size + 1 ≤ w2.heap.size := by have := hgrow2.size; simpa using this
        have hv1 : ∀ b, v1.ownBlock = some b → b = wd.heap.size := fun b hb => by
          rcases hwh1 with h | h
          · rw [h] at hb; cases hb
          · rw [h] at hb; exact (Option.some.inj hb).symm
        have H2 : Hid (w2.drew.ownsRow nb 138 2 v2 (0 + p + 1) ([] ++ cellsC (L.take p) ++ [.string x.f0, .string x.f1]) ∧ Bx w2.drew w.heap.size [.string x.f0, .string x.f1] ∧ w2.drew.ownsRow base 138 2 (.slice (some ⟨g, 0, none⟩) L.length cap) L.length (cellsC L) ∧ (∀ B w0, Below B w0 w → B ≤ nb → B ≤ w.heap.size → Below B w0 w2.drew) ∧ (∀ b, v2.ownBlock = some b → nb ≤ b ∧ wd.heap.size ≤ b)) := by
          have hgw := HO.out.2.2
          refine ⟨hown2.drew, (((G1.alloc _).grew hgrow2 hgrow2.size (fun e => by have := hv1 _ e.symm; omega))).next (Below.refl _ _).drew, ((own_gr' (own_keep (own_gr' HOd.out hgrow1 (fun b hb e => by cases e)) (Go.Joins.below_alloc1 _ _)) hgrow2 (fun b hb e => by have h1 := hv1 b e; have h2 : b = g := (Option.some.inj hb).symm; omega))).drew, fun B w0 h h1 h2 => ?_, fun b hb => ?_⟩
          · have e1 : Below B w0 w1 := (h.trans (H1.out.2.mono h2)).grown hgrow1 (by omega) (fun j hj => by cases hj)
            exact ((e1.alloc (by omega) _).grown hgrow2 (by simp; omega) (fun j hj => by have := hv1 j hj; omega)).drew
          · refine ⟨(hown2.lt b hb).1, ?_⟩
            rcases hwh2 with h | h
            · rw [h] at hb; have := hv1 b hb; omega
            · rw [h] at hb; have := Option.some.inj hb; simp at this; omega
        clear hown1 hgrow1 hnil1 hwh1 hown2 hgrow2 hnil2 hwh2 G1 x0 x1 xz x0' x1' xz' HNT H1 HOd hv1

        have HPU : Hid (putL L x = L.take p ++ x :: L.drop p) := by show _ = _; rw [putL, HPL.out, if_neg (fun h => hpn h.1)]
        go_upto_region 7 with fail
        refine wp_region_noPanic ?_
        refine wp_region_held_drew (S := fun W => Bx W w.heap.size [.string x.f0, .string x.f1]) (by kernel_rfl) H2.out.2.1 (fun hHeld => ?_)
        refine take_v (v := ?_) 0 ⟨some 32, Op.move (Operand.tmp 5), _, _, _, none⟩ rfl (fun _ _ _ h => h) ?_ hHeld ?_
        rotate_left
        · (intro W _; go_simp <;> (try with_reducible rfl))
        refine take_v (v := ?_) 1 ⟨some 33, Op.move (Operand.tmp 0), _, _, _, none⟩ rfl (fun _ _ _ h => h) ?_ hHeld ?_
        rotate_left
        · (intro W _; go_simp <;> (try with_reducible rfl))
        refine take_v (v := ?_) 2 ⟨some 34, Op.call { callee := Callee.builtin Builtin.len, args := #[Operand.tmp 33], argTypes := #[135] }, _, _, _, none⟩ rfl (fun _ _ _ h => h) ?_ hHeld ?_
        rotate_left
        · (intro W _; go_simp <;> (try with_reducible rfl))
        refine take_v (v := ?_) 3 ⟨some 35, Op.binOp BinOp.lss 3 (Operand.tmp 32) (Operand.tmp 34) 3, _, _, _, none⟩ rfl (fun _ _ _ h => h) ?_ hHeld ?_
        rotate_left
        · (intro W _; go_simp <;> (try with_reducible rfl))
        refine take_v (v := ?_) 4 ⟨some 36, Op.move (Operand.tmp 35), _, _, _, none⟩ rfl (fun _ _ _ h => h) ?_ hHeld ?_
        rotate_left
        · (intro W _; go_simp <;> (try with_reducible rfl))
        refine take_n 5 ⟨some 37, Op.move (Operand.tmp 0), _, _, _, some (4, true)⟩ rfl (fun _ _ _ h => h) hHeld ?_
        refine take_n 6 ⟨some 38, Op.move (Operand.tmp 5), _, _, _, some (4, true)⟩ rfl (fun _ _ _ h => h) hHeld ?_
        refine take_n 7 ⟨some 39, Op.indexAddr 135 (Operand.tmp 37) (Operand.tmp 38), _, _, _, some (4, true)⟩ rfl (fun _ _ _ h => h) hHeld ?_
        refine take_n 8 ⟨some 40, Op.fieldAddr 138 (Operand.tmp 39) 0, _, _, _, some (4, true)⟩ rfl (fun _ _ _ h => h) hHeld ?_
        refine take_n 9 ⟨some 41, Op.load 9 (Operand.tmp 40), _, _, _, some (4, true)⟩ rfl (fun _ _ _ h => h) hHeld ?_
        refine take_n 10 ⟨some 42, Op.fieldAddr 138 (Operand.tmp 3) 0, _, _, _, some (4, true)⟩ rfl (fun _ _ _ h => h) hHeld ?_
        refine take_n 11 ⟨some 43, Op.load 9 (Operand.tmp 42), _, _, _, some (4, true)⟩ rfl (fun _ _ _ h => h) hHeld ?_
        refine take_n 12 ⟨some 44, Op.binOp BinOp.eql 9 (Operand.tmp 41) (Operand.tmp 43) 9, _, _, _, some (4, true)⟩ rfl (fun _ _ _ h => h) hHeld ?_
        refine take_v (v := ?_) 13 ⟨some 45, Op.pick (Operand.tmp 36) (Operand.tmp 44) (Operand.const (Value.bool false)), _, _, _, none⟩ rfl (fun _ _ _ h => h) ?_ hHeld ?_
        rotate_left
        · (intro W _; go_simp <;> (try with_reducible rfl))
        refine wpAnyH_done (by kernel_rfl) ?_ _
        refine NoPanic.normal ?_

        clear hHeld

        have hk3c : (p : Int) ≤ (L.length : Int) := by omega
        have hk3d : (p : Int) ≤ (cap : Int) := by omega
        have hkl : p ≤ L.length := by omega
        obtain ⟨we, hwe⟩ : ∃ y, y = w2.drew := ⟨_, rfl⟩
        have hze : we.heap.size = w2.heap.size := by rw [hwe]; rfl
        rw [← hwe] at H2 ⊢
        clear hwe
        have HND : Hid (∀ j u, (cellsC (L.drop p))[j]? = some u → we.cell? ((⟨g, p * 2, none⟩ : Addr).add j) = some u) := news_drop H2.out.2.2.1 hkl
        have hld : (cellsC (L.drop p)).length = (L.length - p) * 2 := by rw [cellsC_len, List.length_drop]
        have HFI : Hid (∀ v' w', w'.ownsRow nb 138 2 v' (0 + p + 1 + (L.length - p)) ([] ++ cellsC (L.take p) ++ [.string x.f0, .string x.f1] ++ cellsC (L.drop p)) → (w' = we ∨ we.grownBy w' v2.ownBlock) → PutPost nb (putL L x) w (.returned v') w') := by
          intro v' w' h1 h2
          rw [HPU.out]
          have e1 : cellsC (L.take p ++ x :: L.drop (p)) = [] ++ cellsC (L.take p) ++ [.string x.f0, .string x.f1] ++ cellsC (L.drop p) := by rw [cellsC_append, cellsC_cons]; simp
          have e2 : (L.take p ++ x :: L.drop (p)).length = 0 + p + 1 + (L.length - p) := by simp only [List.length_append, List.length_cons, List.length_take, List.length_drop]; omega
          refine ⟨v', rfl, by rw [e1, e2]; exact h1, fun B w0 h q1 q2 => ?_⟩
          rcases h2 with rfl | h2
          · exact H2.out.2.2.2.1 B w0 h q1 q2
          · exact (H2.out.2.2.2.1 B w0 h q1 q2).grown h2 (by omega) (fun j hj => Nat.le_trans q1 (H2.out.2.2.2.2 j hj).1)
        have HO2 : Hid (we.ownsRow nb 138 2 v2 (0 + p + 1) ([] ++ cellsC (L.take p) ++ [.string x.f0, .string x.f1])) := H2.out.1
        clear H2 HPU
        by_cases hck : cap = p
        · have HN0 : Hid (∀ j u, (cellsC (L.drop p))[j]? = some u → we.cell? ((⟨g, 0, none⟩ : Addr).add j) = some u) := fun j u hu => by
            have h0 : L.drop (p) = [] := List.drop_eq_nil_iff.2 (by omega)
            rw [h0] at hu
            simp [cellsC, cellsL] at hu
          go_wp2_with (first
            | (at_builtin; refine wpList_append_own_at _ rfl (.tmp 48) (.tmp 51) 135 rfl nb 138 i0 (.agg #[.string ⟨#[]⟩, .string ⟨#[]⟩]) 2 32 Try.underlying135 hi0 y0 y1 y2 rfl (by decide) v2 (0 + p + 1) ([] ++ cellsC (L.take p) ++ [.string x.f0, .string x.f1]) rfl HO2.out ⟨g, 0, none⟩ (L.length - p) _ (cellsC (L.drop p)) rfl hld HN0.out (cellsC_one' _) (by unfold maxLen; omega) (by omega) (by omega) ?_; intro v3 w3 hown3 hgrow3 hnil3 hwh3)
            | go_in)
          go_ret
          exact HFI.out _ _ hown3 (Or.inr hgrow3)
        · go_wp2_with (first
            | (at_builtin; refine wpList_append_own_at _ rfl (.tmp 48) (.tmp 51) 135 rfl nb 138 i0 (.agg #[.string ⟨#[]⟩, .string ⟨#[]⟩]) 2 32 Try.underlying135 hi0 y0 y1 y2 rfl (by decide) v2 (0 + p + 1) ([] ++ cellsC (L.take p) ++ [.string x.f0, .string x.f1]) rfl HO2.out ⟨g, p * 2, none⟩ (L.length - p) _ (cellsC (L.drop p)) rfl hld HND.out (cellsC_one' _) (by unfold maxLen; omega) (by omega) (by omega) ?_; intro v3 w3 hown3 hgrow3 hnil3 hwh3)
            | go_in)
          go_ret
          exact HFI.out _ _ hown3 (Or.inr hgrow3)
end Go.Proofs.Ytnglgndocmkbfaa
