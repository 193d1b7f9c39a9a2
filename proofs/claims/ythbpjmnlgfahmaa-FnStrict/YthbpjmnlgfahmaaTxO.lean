/- The contract of the specification's l3Txns, that owns its list. -/
import Derived.Test.YthbpjmnlgfahmaaTxI
namespace Go.Proofs.Ythbpjmnlgfahmaa
open Go.RowKit
set_option linter.unusedVariables false

set_option maxRecDepth 100000 in
set_option maxHeartbeats 4000000 in
theorem l3Txns_own (a : Option Addr) (n cap : Nat) (K T : Nat → Int) (S : Nat → ByteArray) (w : World) (hn : n ≤ 1048576) (hs : Sl w a n 3 (opF K T S)) :
    Calls Try.prog 80 #[.slice a n cap] w (XsOwn (txL T n 9) w) := by
  have HS : Hid (Sl w a n 3 (opF K T S)) := hs
  have H0 : Hid (txL T n 1 = []) := by show _ = _; simp [txL, hasT, List.range, List.range.loop]
  clear hs
  obtain ⟨i0, hi0, hz0, hz1, hz2⟩ := info_parts info_int'
  go_enter Try.func80, Try.ntmps80
  go_wp2
  go_loopw [4, 3] (fun x v wr => ∃ t : Nat, 1 ≤ t ∧ t ≤ 9 ∧ x = .int .i64 t ∧ wr.ownsRow w.heap.size 3 1 v (txL T n t).length (xsV (txL T n t)) ∧ Below w.heap.size w wr) (fun x _ _ => 9 - (intOf x).toNat)
  case atStart => exact ⟨1, Nat.le_refl _, by omega, rfl, by rw [H0.out]; exact World.ownsRow_nil _ _ _ _, Below.refl _ _⟩
  case round =>
    obtain ⟨t, ht1, ht9, rfl, hown, hBr⟩ := hrel
    obtain ⟨wo, hwo⟩ : ∃ x, x = wr := ⟨wr, rfl⟩
    subst hwo
    by_cases hlt : t < 9
    · have hlt' : (t : Int) ≤ 8 := by omega
      have HH : Hid (wo.ownsRow w.heap.size 3 1 u3 (txL T n t).length (xsV (txL T n t)) ∧ Below w.heap.size w wo) := ⟨hown, hBr⟩
      clear hown hBr
      go_wp2
      go_loopw [13, 3] (fun x v wr => ∃ m : Nat, m ≤ n ∧ x = .int .i64 m ∧ (∀ i, i < m → T i ≠ (t : Int)) ∧ wr.ownsRow w.heap.size 3 1 v (txL T n t).length (xsV (txL T n t)) ∧ Below w.heap.size w wr) (fun x _ _ => n - (intOf x).toNat)
      case atStart => exact ⟨0, Nat.zero_le _, rfl, fun i hi => absurd hi (by omega), HH.out.1, HH.out.2⟩
      case round =>
        obtain ⟨m, hm, rfl, hno, hown, hBi⟩ := hrel
        clear HH
        by_cases hml : m < n
        · rcases HS.out.below hBi (Nat.le_refl _) with h | ⟨b, off, rfl, hbs, hE⟩
          · omega
          have hml' : (m : Int) < (n : Int) := by omega
          obtain ⟨c0, c1, c2⟩ := op_cells hE hml
          have hzi : w.heap.size ≤ wr.heap.size := hBi.size
          have hLk : (txL T n t).length ≤ 9 := by have := txL_len T n t; omega
          have HN : Hid ((∀ i, i < m → T i ≠ (t : Int))) := hno
          cases hb : (T m == (t : Int))
          · have HT : Hid (T m ≠ (t : Int)) := by show T m ≠ _; simpa using hb
            have HH : Hid (wr.ownsRow w.heap.size 3 1 u3 (txL T n t).length (xsV (txL T n t)) ∧ Below w.heap.size w wr) := ⟨hown, hBi⟩
            clear hown hBi hno hE
            go_wp2
            go_roundw
            case rel => exact ⟨m + 1, by omega, by go_num, fun i hi => (Nat.lt_succ_iff_lt_or_eq.1 hi).elim (HN.out i) (fun e => e ▸ HT.out), own_keep HH.out.1 (Go.Joins.below_alloc1 _ _), HH.out.2.alloc hzi _⟩
            case measure => simp [intOf]; omega
          · have HT : Hid (txL T n (t + 1) = txL T n t ++ [t]) := txL_yes (hasT_yes (by omega) hml (by simpa using hb))
            obtain ⟨L, hL⟩ : ∃ L, L = txL T n t := ⟨_, rfl⟩
            rw [← hL] at HT hLk hown
            have HW : Hid ((wr.alloc (.cells #[.int .i64 (K m), .int .i64 (T m), .string (S m)] 44)).ownsRow w.heap.size 3 1 u3 L.length (xsV L) ∧ Below w.heap.size w (wr.alloc (.cells #[.int .i64 (K m), .int .i64 (T m), .string (S m)] 44))) := ⟨own_keep hown (Go.Joins.below_alloc1 _ _), hBi.alloc hzi _⟩
            have hnw := cells_new (wr.alloc (.cells #[.int .i64 (K m), .int .i64 (T m), .string (S m)] 44)) [.int .i64 (t : Int)] 3
            have HNW : Hid (∀ j u, [Value.int .i64 (t : Int)][j]? = some u → ((wr.alloc (.cells #[.int .i64 (K m), .int .i64 (T m), .string (S m)] 44)).alloc (.cells #[.int .i64 (t : Int)] 3)).cell? ((⟨wr.heap.size + 1, 0, none⟩ : Addr).add j) = some u) := by rw [World.size_alloc] at hnw; exact hnw
            clear hown hBi hL hno hE hnw
            go_wp2_with (first
              | (at_builtin; refine wpList_append_own_at _ rfl (.tmp 21) (.tmp 23) 25 rfl w.heap.size 3 i0 (.int .i64 0) 1 8 Try.underlying25 hi0 hz0 hz1 hz2 rfl (by decide) u3 L.length (xsV L) rfl (World.ownsRow.alloc HW.out.1 _) ⟨wr.heap.size + 1, 0, none⟩ 1 1 [.int .i64 (t : Int)] rfl rfl HNW.out (by intro u hu; simp at hu; subst hu; rfl) (by unfold maxLen; omega) (by omega) (by simp <;> omega) ?_; intro v4 w4 hown hgrow hnil hwhere)
              | go_in)
            have HFF : Hid (w4.ownsRow w.heap.size 3 1 v4 (txL T n (t + 1)).length (xsV (txL T n (t + 1))) ∧ Below w.heap.size w w4) := by
              refine ⟨?_, (HW.out.2.alloc HW.out.2.size _).grown hgrow (by simp; omega) (fun j hj => (HW.out.1.lt j hj).1)⟩
              rw [HT.out, xsV_snoc, List.length_append]; exact hown
            clear hown hgrow hnil hwhere
            go_wp2
            go_roundw
            case rel => exact ⟨t + 1, by omega, by omega, by go_num, HFF.out.1, HFF.out.2⟩
            case measure => simp [intOf]; omega
        · have hmn : m = n := by omega
          subst hmn
          have HT : Hid (txL T m (t + 1) = txL T m t) := txL_no (hasT_no hno)
          have HH : Hid (wr.ownsRow w.heap.size 3 1 u3 (txL T m (t + 1)).length (xsV (txL T m (t + 1))) ∧ Below w.heap.size w wr) := by rw [HT.out]; exact ⟨hown, hBi⟩
          clear hown hBi hno
          go_wp2
          go_roundw
          case rel => exact ⟨t + 1, by omega, by omega, by go_num, HH.out.1, HH.out.2⟩
          case measure => simp [intOf]; omega
    · have ht : t = 9 := by omega
      subst ht
      have HF : Hid (XsOwn (txL T n 9) w (.returned u3) wo) := ⟨⟨u3, rfl, hown⟩, hBr⟩
      clear hown hBr
      go_wp2
      go_ret
      exact HF.out
end Go.Proofs.Ythbpjmnlgfahmaa
