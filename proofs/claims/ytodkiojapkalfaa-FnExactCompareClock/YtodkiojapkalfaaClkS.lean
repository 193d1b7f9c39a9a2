/- The contract of the specification's CompareClock. -/
import Derived.Test.YtodkiojapkalfaaClk
namespace Go.Proofs.Ytodkiojapkalfaa
open Go.RowKit
set_option linter.unusedVariables false

set_option maxHeartbeats 4000000 in
theorem specCompareClock_any (a : Option Addr) (n cap : Nat) (X : Nat → Int) (a' : Option Addr) (n' cap' : Nat) (Y : Nat → Int) (w : World) (hn : n ≤ 1048576) (hn' : n' ≤ 1048576) (hs : Sl w a n 1 (intF X)) (hs' : Sl w a' n' 1 (intF Y)) :
    Calls Try.prog 52 #[.agg #[.slice a n cap], .agg #[.slice a' n' cap']] w fun r w' => r = .returned (.tuple #[.int .i64 (ccN X n Y n'), .bool (ccOk X n Y n')]) ∧ Below w.heap.size w w' := by
  have HS : Hid (Sl w a n 1 (intF X) ∧ Sl w a' n' 1 (intF Y)) := ⟨hs, hs'⟩
  clear hs hs'
  go_enter Try.func52, Try.ntmps52
  go_wp2_with fail
  have hba : Below w.heap.size w ((w.alloc (.cells #[.slice a n cap] 36)).alloc (.cells #[.slice a' n' cap'] 36)) := ((Below.refl _ _).alloc (Nat.le_refl _) _).alloc (by simp) _
  refine (l2Clock_any _ _ _ X _ hn (HS.out.1.below hba (Nat.le_refl _))).mono ?_
  rintro r w1 ⟨rfl, hb1⟩
  have HB1 : Hid (Below w.heap.size w w1) := hba.trans (hb1.mono (by simp; omega))
  have q0 : w1.cell? ⟨w.heap.size, 0, none⟩ = some (.slice a n cap) := by rw [hb1.cell (p := ⟨w.heap.size, 0, none⟩) (by simp; omega)]; simp [go_sem]
  have q1 : w1.cell? ⟨w.heap.size + 1, 0, none⟩ = some (.slice a' n' cap') := by rw [hb1.cell (p := ⟨w.heap.size + 1, 0, none⟩) (by simp)]; simp [go_sem]
  have z1 : w.heap.size + 1 < w1.heap.size := by have := hb1.size; simp at this; omega
  clear hb1 hba
  cases hp : vfOk X n 1000000
  · have HN : Hid (ccOk X n Y n' = false) := by show ccOk X n Y n' = false; simp [ccOk, hp]
    go_wp2
    exact bodyPost_ret (v := .tuple #[.int .i64 0, .bool false]) (by simp [results, Try.results52, go_sem]) rfl ⟨cc_no HN.out, HB1.out⟩
  go_wp2_with fail
  refine (l2Clock_any _ _ _ Y _ hn' (HS.out.2.below HB1.out (Nat.le_refl _))).mono ?_
  rintro r w2 ⟨rfl, hb2⟩
  have HB2 : Hid (Below w.heap.size w w2) := HB1.out.trans (hb2.mono HB1.out.size)
  have r0 : w2.cell? ⟨w.heap.size, 0, none⟩ = some (.slice a n cap) := (hb2.cell (p := ⟨w.heap.size, 0, none⟩) (by show w.heap.size < w1.heap.size; omega)).trans q0
  have r1 : w2.cell? ⟨w.heap.size + 1, 0, none⟩ = some (.slice a' n' cap') := (hb2.cell (p := ⟨w.heap.size + 1, 0, none⟩) z1).trans q1
  have z2 : w.heap.size + 1 < w2.heap.size := Nat.lt_of_lt_of_le z1 hb2.size
  clear hb2 HB1 q0 q1 z1
  cases hq : vfOk Y n' 1000000
  · have HN : Hid (ccOk X n Y n' = false) := by show ccOk X n Y n' = false; simp [ccOk, hq]
    go_wp2
    exact bodyPost_ret (v := .tuple #[.int .i64 0, .bool false]) (by simp [results, Try.results52, go_sem]) rfl ⟨cc_no HN.out, HB2.out⟩
  have HN : Hid (ccOk X n Y n' = true) := by show ccOk X n Y n' = true; simp [ccOk, hp, hq]
  have h6 : n = 6 := by simp [vfOk] at hp; exact hp.1
  have h6' : n' = 6 := by simp [vfOk] at hq; exact hq.1
  clear hp hq
  subst h6 h6'
  go_wp2
  go_loopw [20, 6, 7] (fun i l m wr => ∃ k : Nat, k ≤ 6 ∧ i = .int .i64 k ∧ l = .bool (lessTo X Y k) ∧ m = .bool (lessTo Y X k) ∧ wr.cell? ⟨w.heap.size, 0, none⟩ = some (.slice a 6 cap) ∧ wr.cell? ⟨w.heap.size + 1, 0, none⟩ = some (.slice a' 6 cap') ∧ w.heap.size + 1 < wr.heap.size ∧ Below w.heap.size w wr) (fun i _ _ _ => 6 - (intOf i).toNat)
  case atStart => exact ⟨0, Nat.zero_le _, rfl, rfl, rfl, r0, r1, z2, HB2.out⟩
  case round =>
    obtain ⟨k, hk, rfl, rfl, rfl, c0, c1, hz, hBr⟩ := hrel
    clear r0 r1 z2 HB2
    by_cases hlt : k < 6
    · rcases HS.out.1.below hBr (Nat.le_refl _) with h | ⟨b, off, rfl, hbs, hE⟩
      · omega
      rcases HS.out.2.below hBr (Nat.le_refl _) with h | ⟨b', off', rfl, hbs', hE'⟩
      · omega
      have hlt' : (k : Int) < 6 := by omega
      have e0 := int_cell hE hlt
      have e1 := int_cell hE' hlt
      have HB : Hid (Below w.heap.size w wr) := hBr
      have HL : Hid (lessTo X Y (k + 1) = (lessTo X Y k || decide (X k < Y k)) ∧ lessTo Y X (k + 1) = (lessTo Y X k || decide (Y k < X k))) := ⟨rfl, rfl⟩
      clear hE hE' hBr
      generalize lessTo X Y k = l at *
      generalize lessTo Y X k = m at *
      go_upto_region 8 with fail
      go_cut [6] (fun s6 wx => s6 = .bool (l || decide (X k < Y k)) ∧ Below wr.heap.size wr wx)
      case first =>
        cases l
        · go_region
          all_goals (go_wp2_with fail; go_meet; exact ⟨by first | rfl | simp, (Below.refl _ _).drew⟩)
        · go_region
          all_goals (go_wp2_with fail; go_meet; exact ⟨by first | rfl | simp, (Below.refl _ _).drew⟩)
      case rest =>
        obtain ⟨rfl, hb3⟩ := hcut
        have d0 := (hb3.cell (p := ⟨w.heap.size, 0, none⟩) (by show w.heap.size < wr.heap.size; omega)).trans c0
        have d1 := (hb3.cell (p := ⟨w.heap.size + 1, 0, none⟩) hz).trans c1
        have g0 := (hb3.cell (p := ⟨b, off + k, none⟩) hbs).trans e0
        have g1 := (hb3.cell (p := ⟨b', off' + k, none⟩) hbs').trans e1
        have hz3 : w.heap.size + 1 < wc.heap.size := Nat.lt_of_lt_of_le hz hb3.size
        have hbc : b < wc.heap.size := Nat.lt_of_lt_of_le hbs hb3.size
        have hbc' : b' < wc.heap.size := Nat.lt_of_lt_of_le hbs' hb3.size
        have HB3 : Hid (Below w.heap.size w wc) := HB.out.trans (hb3.mono HB.out.size)
        have HC : Hid (wc.cell? ⟨w.heap.size, 0, none⟩ = some (.slice (some ⟨b, off, none⟩) 6 cap) ∧ wc.cell? ⟨w.heap.size + 1, 0, none⟩ = some (.slice (some ⟨b', off', none⟩) 6 cap')) := ⟨d0, d1⟩
        clear c0 c1 e0 e1 hb3 HB
        generalize hlq : (l || decide (X k < Y k)) = lq at *
        clear hlq
        go_upto_region 9 with fail
        have HF : Hid (Below w.heap.size w wc.drew ∧ wc.drew.cell? ⟨w.heap.size, 0, none⟩ = some (.slice (some ⟨b, off, none⟩) 6 cap) ∧ wc.drew.cell? ⟨w.heap.size + 1, 0, none⟩ = some (.slice (some ⟨b', off', none⟩) 6 cap') ∧ w.heap.size + 1 < wc.drew.heap.size) :=
          ⟨HB3.out.drew, ((Below.refl wc.heap.size wc).drew.cell (p := ⟨w.heap.size, 0, none⟩) (by show w.heap.size < wc.heap.size; omega)).trans HC.out.1, ((Below.refl wc.heap.size wc).drew.cell (p := ⟨w.heap.size + 1, 0, none⟩) hz3).trans HC.out.2, hz3⟩
        cases m
        · go_region
          all_goals
            go_wp2
            go_roundw
            case rel => exact ⟨k + 1, by omega, by go_num, by rw [HL.out.1], by rw [HL.out.2]; first | rfl | simp, HF.out.2.1, HF.out.2.2.1, HF.out.2.2.2, HF.out.1⟩
            case measure => simp [intOf]; omega
        · go_region
          all_goals
            go_wp2
            go_roundw
            case rel => exact ⟨k + 1, by omega, by go_num, by rw [HL.out.1], by rw [HL.out.2]; first | rfl | simp, HF.out.2.1, HF.out.2.2.1, HF.out.2.2.2, HF.out.1⟩
            case measure => simp [intOf]; omega
    · have hk6 : k = 6 := by omega
      subst hk6
      have HB : Hid (Below w.heap.size w wr) := hBr
      have HC : Hid (cmpV X Y = cmpB (lessTo X Y 6) (lessTo Y X 6)) := rfl
      generalize lessTo X Y 6 = l at *
      generalize lessTo Y X 6 = m at *
      clear hBr HS
      cases l <;> cases m
      · go_wp2
        exact bodyPost_ret (v := .tuple #[.int .i64 0, .bool true]) (by simp [results, Try.results52, go_sem]) rfl ⟨cc_yes HN.out HC.out.symm, HB.out⟩
      · go_wp2
        exact bodyPost_ret (v := .tuple #[.int .i64 1, .bool true]) (by simp [results, Try.results52, go_sem]) rfl ⟨cc_yes HN.out HC.out.symm, HB.out⟩
      · go_wp2
        exact bodyPost_ret (v := .tuple #[.int .i64 (-1), .bool true]) (by simp [results, Try.results52, go_sem]) rfl ⟨cc_yes HN.out HC.out.symm, HB.out⟩
      · go_wp2
        exact bodyPost_ret (v := .tuple #[.int .i64 2, .bool true]) (by simp [results, Try.results52, go_sem]) rfl ⟨cc_yes HN.out HC.out.symm, HB.out⟩
end Go.Proofs.Ytodkiojapkalfaa
