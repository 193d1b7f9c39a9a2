/- The draw of a list of tids and an epoch: DrawNextTid. -/
import Derived.Test.YtbklhmeaoigneaaDrT
import Derived.Test.YtbklhmeaoigneaaTidS
import Derived.Test.YtbklhmeaoigneaaNextP
namespace Go.Proofs.Ytbklhmeaoigneaa
open Go.RowKit
set_option linter.unusedVariables false

theorem own_trn {w w' : World} {base B C : Nat} {e : TypeId} {size : Nat} {v : Value} {n : Nat} {xs : List Value} (h : w.ownsRow base e size v n xs) (ht : Trn B C w w') (hC : C ≤ base) : w'.ownsRow base e size v n xs := by
  obtain ⟨h1, h2⟩ := h
  refine ⟨h1, ?_⟩
  rcases h2 with h2 | ⟨g, cap, cur, hv, hgb, hh, r⟩
  · exact Or.inl h2
  · have hlt : g < w.heap.size := by
      rcases Nat.lt_or_ge g w.heap.size with q | q
      · exact q
      · rw [Array.getElem?_eq_none q] at hh; cases hh
    exact Or.inr ⟨g, cap, cur, hv, hgb, by rw [ht.2.2.2.2 g hlt (Or.inr (by omega))]; exact hh, r⟩
theorem Cur.grown {w w' : World} {g : Nat} {a : Option Addr} {n cap : Nat} {X : Nat → Int} {t : Nat} {row : Option Nat} (h : Cur w g a n cap X t) (hg : w.grownBy w' row) (hne : ∀ j, row = some j → g < j) : Cur w' g a n cap X t := by
  obtain ⟨h0, ⟨p, hp, h1⟩, ⟨s, hs, h2⟩, f1, f2, hgl, hE, hn, hX⟩ := h
  have hk : ∀ j, j ≤ g → some j ≠ row := fun j hj e => by have := hne j e.symm; omega
  have e := hg.block g hgl (hk g (Nat.le_refl _))
  refine ⟨(World.cell?_of_block (a := ⟨g, 0, none⟩) e).trans h0, ⟨p, hp, (World.cell?_of_block (a := ⟨g, 1, none⟩) e).trans h1⟩, ⟨s, hs, (World.cell?_of_block (a := ⟨g, 2, none⟩) e).trans h2⟩, (World.frozen?_of_block (a := ⟨g, 1, none⟩) e).trans f1, (World.frozen?_of_block (a := ⟨g, 2, none⟩) e).trans f2, Nat.lt_of_lt_of_le hgl hg.size, ?_, hn, hX⟩
  rcases hE with h | ⟨b, off, rfl, hl, hE⟩
  · exact Or.inl h
  · exact Or.inr ⟨b, off, rfl, hl, hE.same (hg.block b (by omega) (hk b (by omega)))⟩
theorem tid_at {w : World} {s : Nat} (hs : w.heap.size = s) (C : List Value) (e : TypeId) : ∀ j u, C[j]? = some u → (w.alloc (.cells C.toArray e)).cell? ((⟨s, 0, none⟩ : Addr).add j) = some u := hs ▸ cells_new w C e

set_option maxRecDepth 100000 in
set_option maxHeartbeats 2000000 in
theorem drawNext_any (a : Option Addr) (n cap : Nat) (X : Nat → Int) (w : World) (hn : n ≤ 9223372036854775807) (hs : Sl w a n 1 (byF X)) (hX : ∀ i, i < n → 0 ≤ X i ∧ X i ≤ 255) :
    Calls Try.prog 23 #[.slice a n cap] w fun r w' => ∃ (a4 : Option Addr) (k cap4 : Nat) (E S : Nat → Int) (B : Nat → Bool) (ep : Int), k ≤ 61 ∧ r = .returned (.tuple #[.slice a4 k cap4, .int .i64 ep]) ∧ Sl w' a4 k 3 (tidF E S B) ∧ Below w.heap.size w w' := by
  have H0 : Hid (Cur (w.alloc (.cells #[.slice a n cap, .int .i64 0, .int .u64 0] 82)) w.heap.size a n cap X 0 ∧ Below w.heap.size w (w.alloc (.cells #[.slice a n cap, .int .i64 0, .int .u64 0] 82))) := ⟨Cur.new _ hs hn hX, Go.Joins.below_alloc1 _ _⟩
  clear hs hX
  obtain ⟨i0, hi, hz0, hzs, hz2⟩ := info_parts info_tid
  go_enter Try.func23, Try.ntmps23
  go_wp2_with fail
  refine (pick_any _ _ _ _ _ _ _ _ (by omega) (by omega) H0.out.1).mono ?_
  rintro r w1 ⟨x, hx, rfl, hd⟩
  have H1 : Hid (Cur w1 w.heap.size a n cap X 2 ∧ Below w.heap.size w w1) := ⟨hd.1, below_trn H0.out.2 hd.2 (Nat.le_refl _)⟩
  clear hd H0
  go_wp2_with fail
  refine (one_any _ _ _ _ _ _ _ _ (by omega) (by omega) H1.out.1).mono ?_
  rintro r w2 ⟨d, rfl, hd⟩
  have H2 : Hid (Cur w2 w.heap.size a n cap X 4 ∧ Below w.heap.size w w2) := ⟨hd.1, below_trn H1.out.2 hd.2 (Nat.le_refl _)⟩
  clear hd H1
  cases d
  · have H3 : Hid (Cur w2 w.heap.size a n cap X 6 ∧ Below w.heap.size w w2) := ⟨H2.out.1.up (by omega), H2.out.2⟩
    clear H2
    obtain ⟨N, hN, hNx⟩ : ∃ N : Nat, N ≤ 61 ∧ x = (N : Int) := ⟨(x).toNat, by omega, by omega⟩
    go_wp2
    try rw [hNx]
    go_loopw [6, 5] (fun i v wr => ∃ (k : Nat) (E S : Nat → Int) (B : Nat → Bool), k ≤ N ∧ i = .int .i64 ((N : Int) - k) ∧ wr.ownsRow (w.heap.size + 1) 24 3 v k (cellsL (tidF E S B) 3 k) ∧ Cur wr w.heap.size a n cap X (8 + 10 * k) ∧ Below w.heap.size w wr) (fun i _ _ => (intOf i).toNat)
    case atStart => exact ⟨0, fun _ => 0, fun _ => 0, fun _ => false, Nat.zero_le _, by simp, World.ownsRow_nil _ _ _ _, H3.out.1.up (by omega), H3.out.2⟩
    case round =>
      obtain ⟨k, E, S, B, hk, rfl, ho, hC, hB⟩ := hrel
      clear H3
      by_cases hlt : k < N
      · have hlt' : 0 < (N : Int) - (k : Int) := by omega
        have HL : Hid (wr.ownsRow (w.heap.size + 1) 24 3 u5 k (cellsL (tidF E S B) 3 k) ∧ Cur wr w.heap.size a n cap X (8 + 10 * k) ∧ Below w.heap.size w wr) := ⟨ho, hC, hB⟩
        clear ho hC hB
        go_wp2_with fail
        refine (tid_any _ _ _ _ _ _ _ (by omega) HL.out.2.1).mono ?_
        rintro r w5 ⟨e, s, b, rfl, hd⟩
        have HW : Hid (w5.ownsRow (w.heap.size + 1) 24 3 u5 k (cellsL (tidF E S B) 3 k) ∧ Cur w5 w.heap.size a n cap X (8 + 10 * (k + 1)) ∧ Below w.heap.size w w5) := ⟨own_trn HL.out.1 hd.2 (Nat.le_refl _), hd.1.up (by omega), below_trn HL.out.2.2 hd.2 (Nat.le_refl _)⟩
        have hz5 : w.heap.size < w5.heap.size := HW.out.2.1.2.2.2.2.2.1
        clear hd HL
        go_wp2_with (first
          | (at_builtin; refine wpList_append_own _ rfl (.tmp 21) (.tmp 24) 37 rfl (w.heap.size + 1) 24 i0 (.agg #[.int .i64 0, .int .i64 0, .bool false]) 3 24 Try.underlying37 hi hz0 hzs hz2 rfl (by decide) u5 k (cellsL (tidF E S B) 3 k) rfl (World.ownsRow.alloc HW.out.1 _) ⟨_, 0, none⟩ 1 1 [.int .i64 e, .int .i64 s, .bool b] rfl rfl (tid_at (by first | rfl | simp) _ _) (by intro u hu; simp at hu; rcases hu with rfl | rfl | rfl <;> rfl) (by unfold maxLen; omega) (by omega) (by simp <;> omega) ?_; intro v4 w4 hown hgrow hnil)
          | go_in)
        have HF : Hid (∃ (E S : Nat → Int) (B : Nat → Bool), w4.ownsRow (w.heap.size + 1) 24 3 v4 (k + 1) (cellsL (tidF E S B) 3 (k + 1)) ∧ Cur w4 w.heap.size a n cap X (8 + 10 * (k + 1)) ∧ Below w.heap.size w w4) := by
          have hne : ∀ j, u5.ownBlock = some j → w.heap.size < j := fun j hj => by have := (HW.out.1.lt j hj).1; omega
          refine ⟨fun i => if i < k then E i else e, fun i => if i < k then S i else s, fun i => if i < k then B i else b, ?_, (HW.out.2.1.next (Go.Joins.below_alloc1 _ _)).grown hgrow hne, (HW.out.2.2.alloc HW.out.2.2.size _).grown hgrow (by have := HW.out.2.2.size; simp at this ⊢; omega) (fun j hj => by have := hne j hj; omega)⟩
          have e1 : cellsL (tidF (fun i => if i < k then E i else e) (fun i => if i < k then S i else s) (fun i => if i < k then B i else b)) 3 (k + 1) = cellsL (tidF E S B) 3 k ++ [.int .i64 e, .int .i64 s, .bool b] := by
            rw [cellsL, cellsL_congr (G := tidF E S B) (fun i hi j hj => by simp [tidF, hi])]
            congr 1
            simp [tidF, List.range_succ]
          rw [e1]; simpa using hown
        clear hown hgrow hnil HW
        go_wp2
        go_roundw
        case rel =>
          obtain ⟨E, S, B, q⟩ := HF.out
          exact ⟨k + 1, E, S, B, by omega, by go_num, q⟩
        case measure => simp [intOf]; omega
      · have hkn : k = N := by omega
        subst hkn
        obtain ⟨a4, cap4, rfl, hc4, hx⟩ := SRow.of ho
        have HF : Hid (SRow wr (w.heap.size + 1) wr.heap.size a4 k 3 (tidF E S B) ∧ Cur wr w.heap.size a n cap X (8 + 10 * k) ∧ Below w.heap.size w wr) := ⟨hx, hC, hB⟩
        have hlt' : ¬ 0 < (k : Int) - (k : Int) := by omega
        clear ho hC hB hx
        go_wp2_with fail
        refine (pick_any _ _ _ _ _ _ _ _ (by omega) (by omega) HF.out.2.1).mono ?_
        rintro r w6 ⟨x6, hx6, rfl, hd⟩
        have H6 : Hid (SRow w6 (w.heap.size + 1) wr.heap.size a4 k 3 (tidF E S B) ∧ Cur w6 w.heap.size a n cap X (8 + 10 * k + 2) ∧ Below w.heap.size w w6) := ⟨HF.out.1.trn hd.2 (Or.inr (Nat.le_refl _)), hd.1, below_trn HF.out.2.2 hd.2 (Nat.le_refl _)⟩
        clear hd HF
        go_wp2_with fail
        refine (pick_any _ _ _ _ _ _ _ _ (by omega) (by omega) H6.out.2.1).mono ?_
        rintro r w7 ⟨x7, hx7, rfl, hd⟩
        have H7 : Hid (SRow w7 (w.heap.size + 1) wr.heap.size a4 k 3 (tidF E S B) ∧ Below w.heap.size w w7) := ⟨H6.out.1.trn hd.2 (Or.inr (Nat.le_refl _)), below_trn H6.out.2.2 hd.2 (Nat.le_refl _)⟩
        clear hd H6
        go_wp2
        exact bodyPost_ret (v := .tuple #[.slice a4 k cap4, .int .i64 (x6 - x7)]) (by simp [results, Try.results23, go_sem]) rfl ⟨a4, k, cap4, E, S, B, x6 - x7, by omega, rfl, H7.out.1.sl, H7.out.2⟩
  · go_wp2_with fail
    refine (pick_any _ _ _ _ _ _ _ _ (by omega) (by omega) H2.out.1).mono ?_
    rintro r w3 ⟨y, hy, rfl, hd⟩
    have H3 : Hid (Cur w3 w.heap.size a n cap X 6 ∧ Below w.heap.size w w3) := ⟨hd.1, below_trn H2.out.2 hd.2 (Nat.le_refl _)⟩
    clear hd H2
    obtain ⟨N, hN, hNx⟩ : ∃ N : Nat, N ≤ 61 ∧ 60 + y = (N : Int) := ⟨(60 + y).toNat, by omega, by omega⟩
    go_wp2
    try rw [hNx]
    go_loopw [6, 5] (fun i v wr => ∃ (k : Nat) (E S : Nat → Int) (B : Nat → Bool), k ≤ N ∧ i = .int .i64 ((N : Int) - k) ∧ wr.ownsRow (w.heap.size + 1) 24 3 v k (cellsL (tidF E S B) 3 k) ∧ Cur wr w.heap.size a n cap X (8 + 10 * k) ∧ Below w.heap.size w wr) (fun i _ _ => (intOf i).toNat)
    case atStart => exact ⟨0, fun _ => 0, fun _ => 0, fun _ => false, Nat.zero_le _, by simp, World.ownsRow_nil _ _ _ _, H3.out.1.up (by omega), H3.out.2⟩
    case round =>
      obtain ⟨k, E, S, B, hk, rfl, ho, hC, hB⟩ := hrel
      clear H3
      by_cases hlt : k < N
      · have hlt' : 0 < (N : Int) - (k : Int) := by omega
        have HL : Hid (wr.ownsRow (w.heap.size + 1) 24 3 u5 k (cellsL (tidF E S B) 3 k) ∧ Cur wr w.heap.size a n cap X (8 + 10 * k) ∧ Below w.heap.size w wr) := ⟨ho, hC, hB⟩
        clear ho hC hB
        go_wp2_with fail
        refine (tid_any _ _ _ _ _ _ _ (by omega) HL.out.2.1).mono ?_
        rintro r w5 ⟨e, s, b, rfl, hd⟩
        have HW : Hid (w5.ownsRow (w.heap.size + 1) 24 3 u5 k (cellsL (tidF E S B) 3 k) ∧ Cur w5 w.heap.size a n cap X (8 + 10 * (k + 1)) ∧ Below w.heap.size w w5) := ⟨own_trn HL.out.1 hd.2 (Nat.le_refl _), hd.1.up (by omega), below_trn HL.out.2.2 hd.2 (Nat.le_refl _)⟩
        have hz5 : w.heap.size < w5.heap.size := HW.out.2.1.2.2.2.2.2.1
        clear hd HL
        go_wp2_with (first
          | (at_builtin; refine wpList_append_own _ rfl (.tmp 21) (.tmp 24) 37 rfl (w.heap.size + 1) 24 i0 (.agg #[.int .i64 0, .int .i64 0, .bool false]) 3 24 Try.underlying37 hi hz0 hzs hz2 rfl (by decide) u5 k (cellsL (tidF E S B) 3 k) rfl (World.ownsRow.alloc HW.out.1 _) ⟨_, 0, none⟩ 1 1 [.int .i64 e, .int .i64 s, .bool b] rfl rfl (tid_at (by first | rfl | simp) _ _) (by intro u hu; simp at hu; rcases hu with rfl | rfl | rfl <;> rfl) (by unfold maxLen; omega) (by omega) (by simp <;> omega) ?_; intro v4 w4 hown hgrow hnil)
          | go_in)
        have HF : Hid (∃ (E S : Nat → Int) (B : Nat → Bool), w4.ownsRow (w.heap.size + 1) 24 3 v4 (k + 1) (cellsL (tidF E S B) 3 (k + 1)) ∧ Cur w4 w.heap.size a n cap X (8 + 10 * (k + 1)) ∧ Below w.heap.size w w4) := by
          have hne : ∀ j, u5.ownBlock = some j → w.heap.size < j := fun j hj => by have := (HW.out.1.lt j hj).1; omega
          refine ⟨fun i => if i < k then E i else e, fun i => if i < k then S i else s, fun i => if i < k then B i else b, ?_, (HW.out.2.1.next (Go.Joins.below_alloc1 _ _)).grown hgrow hne, (HW.out.2.2.alloc HW.out.2.2.size _).grown hgrow (by have := HW.out.2.2.size; simp at this ⊢; omega) (fun j hj => by have := hne j hj; omega)⟩
          have e1 : cellsL (tidF (fun i => if i < k then E i else e) (fun i => if i < k then S i else s) (fun i => if i < k then B i else b)) 3 (k + 1) = cellsL (tidF E S B) 3 k ++ [.int .i64 e, .int .i64 s, .bool b] := by
            rw [cellsL, cellsL_congr (G := tidF E S B) (fun i hi j hj => by simp [tidF, hi])]
            congr 1
            simp [tidF, List.range_succ]
          rw [e1]; simpa using hown
        clear hown hgrow hnil HW
        go_wp2
        go_roundw
        case rel =>
          obtain ⟨E, S, B, q⟩ := HF.out
          exact ⟨k + 1, E, S, B, by omega, by go_num, q⟩
        case measure => simp [intOf]; omega
      · have hkn : k = N := by omega
        subst hkn
        obtain ⟨a4, cap4, rfl, hc4, hx⟩ := SRow.of ho
        have HF : Hid (SRow wr (w.heap.size + 1) wr.heap.size a4 k 3 (tidF E S B) ∧ Cur wr w.heap.size a n cap X (8 + 10 * k) ∧ Below w.heap.size w wr) := ⟨hx, hC, hB⟩
        have hlt' : ¬ 0 < (k : Int) - (k : Int) := by omega
        clear ho hC hB hx
        go_wp2_with fail
        refine (pick_any _ _ _ _ _ _ _ _ (by omega) (by omega) HF.out.2.1).mono ?_
        rintro r w6 ⟨x6, hx6, rfl, hd⟩
        have H6 : Hid (SRow w6 (w.heap.size + 1) wr.heap.size a4 k 3 (tidF E S B) ∧ Cur w6 w.heap.size a n cap X (8 + 10 * k + 2) ∧ Below w.heap.size w w6) := ⟨HF.out.1.trn hd.2 (Or.inr (Nat.le_refl _)), hd.1, below_trn HF.out.2.2 hd.2 (Nat.le_refl _)⟩
        clear hd HF
        go_wp2_with fail
        refine (pick_any _ _ _ _ _ _ _ _ (by omega) (by omega) H6.out.2.1).mono ?_
        rintro r w7 ⟨x7, hx7, rfl, hd⟩
        have H7 : Hid (SRow w7 (w.heap.size + 1) wr.heap.size a4 k 3 (tidF E S B) ∧ Below w.heap.size w w7) := ⟨H6.out.1.trn hd.2 (Or.inr (Nat.le_refl _)), below_trn H6.out.2.2 hd.2 (Nat.le_refl _)⟩
        clear hd H6
        go_wp2
        exact bodyPost_ret (v := .tuple #[.slice a4 k cap4, .int .i64 (x6 - x7)]) (by simp [results, Try.results23, go_sem]) rfl ⟨a4, k, cap4, E, S, B, x6 - x7, by omega, rfl, H7.out.1.sl, H7.out.2⟩
end Go.Proofs.Ytbklhmeaoigneaa
