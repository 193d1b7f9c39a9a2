/- slices.Sort, Clone, Equal at numbers, over rows that a call owns; the contract of hasEachOnce. -/
import Derived.Test.YtkniokbioggkeaaHeG
import Derived.Test.YtkniokbioggkeaaIntF
import Derived.Test.YtkniokbioggkeaaSortL
import Derived.Lib.OwnBridge
namespace Go.Proofs.Ytkniokbioggkeaa
open Go.RowKit
set_option linter.unusedVariables false

theorem own_keep {w w' : World} {base : Nat} {e : TypeId} {size : Nat} {v : Value} {n : Nat} {xs : List Value} (h : w.ownsRow base e size v n xs) (hb : Below w.heap.size w w') : w'.ownsRow base e size v n xs := by
  obtain ⟨h1, h2⟩ := h
  refine ⟨h1, ?_⟩
  rcases h2 with h2 | ⟨g, cap, cur, hv, hg, hh, r⟩
  · exact Or.inl h2
  · have : g < w.heap.size := by
      rcases Nat.lt_or_ge g w.heap.size with q | q
      · exact q
      · rw [Array.getElem?_eq_none q] at hh; cases hh
    exact Or.inr ⟨g, cap, cur, hv, hg, by rw [hb.block g this]; exact hh, r⟩
theorem below_grow' {B : Nat} {w0 w : World} (h : Below B w0 w) (hB : B ≤ w.heap.size) (os : Array Obj) : Below B w0 (Go.Sort.grow w os) :=
  ⟨h.os, h.tape, h.output, by have := h.size; simp [Go.Sort.grow]; omega, fun k hk => by
    rw [← h.block k hk]
    simp only [Go.Sort.grow]
    rw [Array.getElem?_append_left (by omega)]⟩
theorem own_in {w : World} {base g : Nat} {e : TypeId} {n cap : Nat} {xs : List Value} (h : w.ownsRow base e 1 (.slice (some ⟨g, 0, none⟩) n cap) n xs) : base ≤ g ∧ g < w.heap.size := h.lt g rfl
theorem sortOwn_any (base g cap : Nat) (zs : List Int) (w : World) (hz : zs.length < 4611686018427387904) (h : w.ownsRow base 3 1 (.slice (some ⟨g, 0, none⟩) zs.length cap) zs.length (zs.map (Value.int .i64))) :
    Calls Try.prog 65 #[.slice (some ⟨g, 0, none⟩) zs.length cap] w fun e w' => e = .returned (.tuple #[]) ∧ w'.ownsRow base 3 1 (.slice (some ⟨g, 0, none⟩) zs.length cap) zs.length ((zs.mergeSort fun x y => decide (x ≤ y)).map (Value.int .i64)) ∧ ∀ B w0, Below B w0 w → B ≤ base → B ≤ w.heap.size → Below B w0 w' := by
  obtain ⟨g', cap', ev, _, _, _, _, _, hH⟩ := Go.Lib.holds_of_ownsRow h (by simp)
  cases ev
  refine (Try.sort_ints g 0 cap zs w hH (own_in h).2 hz).mono ?_
  rintro e w' ⟨rfl, n, os, rfl⟩
  have hl : (zs.mergeSort fun x y => decide (x ≤ y)).length = zs.length := List.length_mergeSort _
  have hp := Go.Lib.ownsRow_putRow (q := n) h hl (Nat.le_refl _)
  rw [← hl, List.take_length, hl] at hp
  have hsz : (Go.Sort.putRow (Value.int .i64) (Go.Sort.ahead w n) g 0 (zs.mergeSort fun x y => decide (x ≤ y)).toArray).heap.size = w.heap.size := by simp [Go.Sort.putRow, Go.Sort.mapBlock, Go.Sort.ahead]
  refine ⟨rfl, own_keep hp (below_grow' (Below.refl _ _) (Nat.le_refl _) os), fun B w0 hb h1 h2 => below_grow' (Go.Lib.below_putRow hb (Nat.le_trans h1 (own_in h).1)) (by rw [hsz]; exact h2) os⟩
theorem lst_cells {w : World} {b off n : Nat} {X : Nat → Int} (h : Elems w b off n 1 (intF X)) : ∀ j, j < (lstN X n).length → w.cell? ⟨b, off + j, none⟩ = some (.int .i64 ((lstN X n).getD j 0)) := by
  intro j hj
  rw [lstN_len] at hj
  rw [lstN_getD X hj]
  have := h j hj 0 (by omega)
  simpa [intF] using this
theorem own0 {w : World} {base : Nat} {e : TypeId} {v : Value} {xs : List Value} (h : w.ownsRow base e 1 v 0 xs) : ∃ a c, v = .slice a 0 c := by
  rcases h.2 with ⟨h, _⟩ | ⟨g, cap5, cur, h, _⟩
  · exact ⟨none, 0, h⟩
  · exact ⟨_, cap5, h⟩
theorem clone_I (a : Option Addr) (n cap : Nat) (O : Nat → Int) (w : World) (hn : n ≤ 1048576) (hs : Sl w a n 1 (intF O)) :
    Calls Try.prog 64 #[.slice a n cap] w fun e w' => ∃ v, e = .returned v ∧ w'.ownsRow w.heap.size 3 1 v n ((lstN O n).map (Value.int .i64)) ∧ Below w.heap.size w w' := by
  rcases hs with rfl | ⟨b, off, rfl, hb, hE⟩
  · cases a with
    | none =>
      refine (Any.slices_Clone_int_nil Try.lays15 0 cap w).mono ?_
      rintro e w' ⟨rfl, rfl⟩
      exact ⟨_, rfl, World.ownsRow_nil _ _ _ _, Below.refl _ _⟩
    | some a =>
      refine (Any.slices_Clone_int_zero Try.lays15 a cap w).mono ?_
      rintro e w' ⟨v, rfl, h, _, hb⟩
      exact ⟨v, rfl, h, hb⟩
  · refine (Try.clone_ints b off n cap (lstN O n) w (by rw [lstN_len]; exact Nat.le_refl _) (by omega) (lst_cells hE)).mono ?_
    rintro e w' ⟨v, rfl, h, _, hb⟩
    rw [List.take_of_length_le (by rw [lstN_len]; exact Nat.le_refl _)] at h
    exact ⟨v, rfl, h, hb⟩
theorem sort_O (base : Nat) (v : Value) (zs : List Int) (w : World) (hz : zs.length ≤ 1048576) (h : w.ownsRow base 3 1 v zs.length (zs.map (Value.int .i64))) :
    Calls Try.prog 65 #[v] w fun e w' => e = .returned (.tuple #[]) ∧ w'.ownsRow base 3 1 v zs.length ((srt zs).map (Value.int .i64)) ∧ ∀ B w0, Below B w0 w → B ≤ base → B ≤ w.heap.size → Below B w0 w' := by
  rcases Nat.eq_zero_or_pos zs.length with h0 | h0
  · have hz : zs = [] := List.length_eq_zero_iff.1 h0
    subst hz
    obtain ⟨a5, cap5, rfl⟩ := own0 h
    refine (Try.sort_none _ _ _).mono ?_
    rintro e w' ⟨rfl, rfl⟩
    exact ⟨rfl, by simpa [srt] using h, fun B w0 hb _ _ => hb⟩
  · obtain ⟨g, cap5, rfl⟩ := Go.Joins.ownsRow_form h h0
    exact sortOwn_any base g cap5 zs w (by omega) h
theorem equal_O (base : Nat) (v : Value) (zs : List Int) (a : Option Addr) (n cap : Nat) (X : Nat → Int) (w : World) (hn : n ≤ 1048576) (hz : zs.length = n) (h : w.ownsRow base 3 1 v zs.length (zs.map (Value.int .i64))) (hs : Sl w a n 1 (intF X)) :
    Calls Try.prog 66 #[v, .slice a n cap] w fun e w' => e = .returned (.bool (zs == lstN X n)) ∧ Below w.heap.size w w' := by
  rcases Nat.eq_zero_or_pos n with h0 | h0
  · subst h0
    have hz : zs = [] := List.length_eq_zero_iff.1 hz
    subst hz
    obtain ⟨a5, cap5, rfl⟩ := own0 h
    refine (Try.equal_empty a5 a cap5 0 cap w (by omega)).mono ?_
    rintro e w' ⟨rfl, rfl⟩
    exact ⟨by simp [lstN], Below.refl _ _⟩
  · obtain ⟨g, cap5, rfl⟩ := Go.Joins.ownsRow_form h (by omega)
    rcases hs with hs | ⟨b, off, rfl, hb, hE⟩
    · omega
    subst hz
    refine (Try.equal_ints g 0 zs.length cap5 b off zs.length cap zs (lstN X zs.length) w (Nat.le_refl _) (by rw [lstN_len]; exact Nat.le_refl _) (by omega) (by omega) (fun j hj => ?_) (lst_cells hE)).mono ?_
    · rw [Nat.zero_add, World.ownsRow.cellAt h j (by omega)]
      simp [hj]
    · rintro e w' ⟨rfl, q, rfl⟩
      rw [List.take_of_length_le (Nat.le_refl _), List.take_of_length_le (by rw [lstN_len]; exact Nat.le_refl _)]
      exact ⟨rfl, Go.Joins.below_draws _ _ _⟩

set_option maxRecDepth 100000 in
set_option maxHeartbeats 1000000 in
theorem hasEachOnce_any (a : Option Addr) (n cap : Nat) (O : Nat → Int) (a' : Option Addr) (m cap' : Nat) (X : Nat → Int) (w : World) (hn : n ≤ 1048576) (hm : m ≤ 1048576) (hs : Sl w a n 1 (intF O)) (hs' : Sl w a' m 1 (intF X)) :
    Calls Try.prog 39 #[.slice a n cap, .slice a' m cap'] w fun e w' => e = .returned (.bool (eachB O n (lstN X m))) ∧ Below w.heap.size w w' := by
  have HS : Hid (Sl w a n 1 (intF O) ∧ Sl w a' m 1 (intF X)) := ⟨hs, hs'⟩
  clear hs hs'
  by_cases hnm : n = m
  case neg =>
    have hne : ¬ (n : Int) = (m : Int) := by omega
    have HN : Hid (eachB O n (lstN X m) = false) := by show _ = _; simp [eachB, lstN_len, hnm]
    go_enter Try.func39, Try.ntmps39
    go_wp2_with fail
    go_ret
    exact ⟨ret_bool HN.out.symm, Below.refl _ _⟩
  subst hnm
  go_enter Try.func39, Try.ntmps39
  go_wp2_with fail
  refine (clone_I _ _ _ O _ hn HS.out.1).mono ?_
  rintro r w1 ⟨v, rfl, hown, hb⟩
  have HH : Hid (w1.ownsRow w.heap.size 3 1 v (lstN O n).length ((lstN O n).map (Value.int .i64)) ∧ Below w.heap.size w w1) := ⟨by rw [lstN_len]; exact hown, hb⟩
  clear hown hb
  go_wp2_with fail
  refine (sort_O w.heap.size v (lstN O n) _ (by rw [lstN_len]; exact hn) HH.out.1).mono ?_
  rintro r w2 ⟨rfl, hown, hb⟩
  have H2 : Hid (w2.ownsRow w.heap.size 3 1 v (srt (lstN O n)).length ((srt (lstN O n)).map (Value.int .i64)) ∧ Below w.heap.size w w2) := ⟨by rw [srt_len]; exact hown, hb _ _ HH.out.2 (Nat.le_refl _) HH.out.2.size⟩
  clear hown hb HH
  go_wp2_with fail
  refine (equal_O w.heap.size v (srt (lstN O n)) _ n _ X _ hn (by rw [srt_len, lstN_len]) H2.out.1 (HS.out.2.below H2.out.2 (Nat.le_refl _))).mono ?_
  rintro r w3 ⟨rfl, hb⟩
  have H3 : Hid (eachB O n (lstN X n) = (srt (lstN O n) == lstN X n) ∧ Below w.heap.size w w3) := ⟨by simp [eachB, lstN_len], H2.out.2.trans (hb.mono H2.out.2.size)⟩
  clear hb H2
  generalize (srt (lstN O n) == lstN X n) = q at *
  go_wp2
  go_ret
  exact ⟨ret_bool H3.out.1.symm, H3.out.2⟩
end Go.Proofs.Ytkniokbioggkeaa
