/- The contract of the specification's GridQuorum. -/
import Derived.Test.YtalnmollgielcaaMtG
namespace Go.Proofs.Ytalnmollgielcaa
open Go.RowKit
set_option linter.unusedVariables false

set_option maxRecDepth 100000 in
set_option maxHeartbeats 4000000 in
theorem specGridQuorum_any (R C r c : Int) (w : World) (hr0 : -9223372036854775808 ≤ R ∧ R ≤ 9223372036854775807) (hc0 : -9223372036854775808 ≤ C ∧ C ≤ 9223372036854775807) :
    Calls Try.prog 33 #[.int .i64 R, .int .i64 C, .int .i64 r, .int .i64 c] w (GtPost (gqL R C r c) (gqB R C r c) w) := by
  have HNO : Hid (∀ W : World, Below w.heap.size w W → gqB R C r c = false → GtPost (gqL R C r c) (gqB R C r c) w (.returned (.tuple #[.agg #[.slice none 0 0], .bool false])) W) := fun W hb h => by
    rw [show gqL R C r c = [] by simp [gqL, h], h]
    exact gt_no hb
  have HQ : Hid (gqB R C r c = true ↔ (1 ≤ R ∧ R ≤ 12) ∧ (1 ≤ C ∧ C ≤ 12) ∧ R * C ≤ 12 ∧ (0 ≤ r ∧ r ≤ R - 1) ∧ (0 ≤ c ∧ c ≤ C - 1)) := Hid.intro (by simp only [gqB, decide_eq_true_eq])
  have HF : Hid (∀ q : ¬ ((1 ≤ R ∧ R ≤ 12) ∧ (1 ≤ C ∧ C ≤ 12) ∧ R * C ≤ 12 ∧ (0 ≤ r ∧ r ≤ R - 1) ∧ (0 ≤ c ∧ c ≤ C - 1)), gqB R C r c = false) := fun q => by
    cases e : gqB R C r c
    · rfl
    · exact absurd (HQ.out.1 e) q
  cases g1 : inR R 1 12
  · have HN : Hid (gqB R C r c = false) := HF.out (fun q => by rw [inR_iff.2 q.1] at g1; cases g1)
    go_enter Try.func33, Try.ntmps33
    go_wp2_with (go_at_call 73; refine (l1In_any _ _ _ _).mono ?_; rintro e w' ⟨rfl, rfl⟩)
    exact bodyPost_ret (v := .tuple #[.agg #[.slice none 0 0], .bool false]) (by simp [results, Try.results33, go_sem, *]) rfl (HNO.out _ (Go.Joins.below_alloc1 _ _) HN.out)
  cases g2 : inR C 1 12
  · have HN : Hid (gqB R C r c = false) := HF.out (fun q => by rw [inR_iff.2 q.2.1] at g2; cases g2)
    go_enter Try.func33, Try.ntmps33
    go_wp2_with (go_at_call 73; refine (l1In_any _ _ _ _).mono ?_; rintro e w' ⟨rfl, rfl⟩)
    exact bodyPost_ret (v := .tuple #[.agg #[.slice none 0 0], .bool false]) (by simp [results, Try.results33, go_sem, *]) rfl (HNO.out _ (Go.Joins.below_alloc1 _ _) HN.out)
  obtain ⟨R1, R2⟩ := inR_iff.1 g1
  obtain ⟨C1, C2⟩ := inR_iff.1 g2
  have P1 : 0 ≤ R * C := Int.mul_nonneg (by omega) (by omega)
  have P2 : R * C ≤ 144 := Int.le_trans (Int.mul_le_mul_of_nonneg_right R2 (by omega)) (by omega)
  by_cases g3 : 12 < R * C
  · have HN : Hid (gqB R C r c = false) := HF.out (fun q => by omega)
    go_enter Try.func33, Try.ntmps33
    go_wp2_with (go_at_call 73; refine (l1In_any _ _ _ _).mono ?_; rintro e w' ⟨rfl, rfl⟩)
    exact bodyPost_ret (v := .tuple #[.agg #[.slice none 0 0], .bool false]) (by simp [results, Try.results33, go_sem, *]) rfl (HNO.out _ (Go.Joins.below_alloc1 _ _) HN.out)
  cases g4 : inR r 0 (R - 1)
  · have HN : Hid (gqB R C r c = false) := HF.out (fun q => by rw [inR_iff.2 q.2.2.2.1] at g4; cases g4)
    go_enter Try.func33, Try.ntmps33
    go_wp2_with (go_at_call 73; refine (l1In_any _ _ _ _).mono ?_; rintro e w' ⟨rfl, rfl⟩)
    exact bodyPost_ret (v := .tuple #[.agg #[.slice none 0 0], .bool false]) (by simp [results, Try.results33, go_sem, *]) rfl (HNO.out _ (Go.Joins.below_alloc1 _ _) HN.out)
  cases g5 : inR c 0 (C - 1)
  · have HN : Hid (gqB R C r c = false) := HF.out (fun q => by rw [inR_iff.2 q.2.2.2.2] at g5; cases g5)
    go_enter Try.func33, Try.ntmps33
    go_wp2_with (go_at_call 73; refine (l1In_any _ _ _ _).mono ?_; rintro e w' ⟨rfl, rfl⟩)
    exact bodyPost_ret (v := .tuple #[.agg #[.slice none 0 0], .bool false]) (by simp [results, Try.results33, go_sem, *]) rfl (HNO.out _ (Go.Joins.below_alloc1 _ _) HN.out)
  have HYY : Hid (gqB R C r c = true) := HQ.out.2 ⟨⟨R1, R2⟩, ⟨C1, C2⟩, by omega, inR_iff.1 g4, inR_iff.1 g5⟩
  have k4 := inR_iff.1 g4
  have k5 := inR_iff.1 g5
  obtain ⟨N, rfl⟩ : ∃ x : Nat, R = (x : Int) := ⟨R.toNat, by omega⟩
  obtain ⟨D, rfl⟩ : ∃ x : Nat, C = (x : Int) := ⟨C.toNat, by omega⟩
  obtain ⟨y, rfl⟩ : ∃ x : Nat, r = (x : Int) := ⟨r.toNat, by omega⟩
  obtain ⟨z, rfl⟩ : ∃ x : Nat, c = (x : Int) := ⟨c.toNat, by omega⟩
  have hy : y < N := by omega
  have hz : z < D := by omega
  have hND : D * N ≤ 12 := by
    have e : ((N : Int) * (D : Int)) = ((D * N : Nat) : Int) := by rw [Nat.mul_comm]; simp
    rw [e] at g3
    omega
  have HL : Hid (gqL (N : Int) (D : Int) (y : Int) (z : Int) = gridTo D y z N) := Hid.intro (by simp [gqL, HYY.out])
  clear HNO HF HQ k4 k5 R1 R2 C1 C2
  have HA : Hid (y < N ∧ z < D ∧ D * N ≤ 12) := ⟨hy, hz, hND⟩
  obtain ⟨i0, hi0, hz0, hz1, hz2⟩ := info_parts info_int
  have HG : Hid (GbH ((w.alloc (.cells #[.slice none 0 0] 25)).alloc (.cells #[.slice none 0 0] 25)) w (w.heap.size + 2) w.heap.size (w.heap.size + 1) []) := GbH.new w _
  go_enter Try.func33, Try.ntmps33
  go_wp2_with (go_at_call 73; refine (l1In_any _ _ _ _).mono ?_; rintro e w' ⟨rfl, rfl⟩)
  clear g1 g2 g3 g4 g5
  obtain ⟨r, hr⟩ : ∃ r, r = w.heap.size := ⟨_, rfl⟩
  obtain ⟨b, hb⟩ : ∃ b, b = w.heap.size + 1 := ⟨_, rfl⟩
  obtain ⟨B, hB⟩ : ∃ B, B = w.heap.size + 2 := ⟨_, rfl⟩
  have h1 : r < B := by omega
  have h2 : b < B := by omega
  have h3 : r ≠ b := by omega
  have h4 : w.heap.size ≤ b := by omega
  have h5 : w.heap.size ≤ r := by omega
  have h6 : b + 1 = B := by omega
  rw [← hB, ← hb, ← hr] at HG
  rw [← hb, ← hr]
  clear hr hb hB
  have HR : Hid (∀ i j, i < N → j < D → D * i + j < 12) := fun i j hi hj => Nat.lt_of_lt_of_le (line_lt hi hj) HA.out.2.2
  have HLn : Hid (∀ i j, i < N → j ≤ D → (gridTo D y z i ++ gridRow D y z i j).length ≤ 12) := fun i j hi hj => by
    have q1 := gridTo_len (C := D) (r := y) (c := z) i
    have q2 := gridRow_len (C := D) (r := y) (c := z) (i := i) j
    have q3 := Nat.mul_le_mul_left D (show i + 1 ≤ N from hi)
    rw [Nat.mul_add, Nat.mul_one] at q3
    have := HA.out.2.2
    rw [List.length_append]
    omega
  go_loopw [11, 12] (fun x _ wr => ∃ i : Nat, i ≤ N ∧ x = .int .i64 i ∧ GbH wr w B r b (gridTo D y z i)) (fun x _ _ => N - (intOf x).toNat)
  case atStart => exact ⟨0, Nat.zero_le _, rfl, HG.out⟩
  case round =>
    obtain ⟨i, hi, rfl, hH⟩ := hrel
    obtain ⟨wo, hwo⟩ : ∃ x, x = wr := ⟨wr, rfl⟩
    subst hwo
    have HO : Hid (GbH wo w B r b (gridTo D y z i)) := hH
    clear hH HG
    by_cases hlt : i < N
    · have hlt' : (i : Int) < (N : Int) := by omega
      go_wp2
      go_loopw [12] (fun x wr => ∃ j : Nat, j ≤ D ∧ x = .int .i64 j ∧ GbH wr w B r b (gridTo D y z i ++ gridRow D y z i j)) (fun x _ => D - (intOf x).toNat)
      case atStart => exact ⟨0, Nat.zero_le _, rfl, by simpa [gridRow] using HO.out⟩
      case round =>
        obtain ⟨j, hj, rfl, hH⟩ := hrel
        have HH : Hid (GbH wr w B r b (gridTo D y z i ++ gridRow D y z i j)) := hH
        clear hH HO
        by_cases hlt2 : j < D
        · have hlt2' : (j : Int) < (D : Int) := by omega
          by_cases hon : i = y ∨ j = z
          · have HN : Hid (gridTo D y z i ++ gridRow D y z i (j + 1) = (gridTo D y z i ++ gridRow D y z i j) ++ [((D * i + j : Nat) : Int)]) := Hid.intro (by simp only [gridRow, if_pos hon, List.append_assoc])
            have hl := HLn.out i j hlt hj
            have hb12 := HR.out i j hlt hlt2
            have n1 : (D : Int) * (i : Int) = ((D * i : Nat) : Int) := by simp
            have n3 : ((D * i + j : Nat) : Int) = ((D * i : Nat) : Int) + (j : Int) := by omega
            rw [n3] at HN
            obtain ⟨g1, ⟨v, g2, g3⟩, g4⟩ := HH.out
            have HX : Hid (Bx wr r [.slice none 0 0] ∧ Bx wr b [v] ∧ wr.ownsRow B 3 1 v (gridTo D y z i ++ gridRow D y z i j).length (intC (gridTo D y z i ++ gridRow D y z i j)) ∧ Below w.heap.size w wr) := ⟨g1, g2, g3, g4⟩
            have c0 := g2.cell 0 rfl
            have f0 := g2.frz 0 (by simp)
            have z0 := g2.2
            have hBw : B ≤ wr.heap.size + 1 := by omega
            clear g1 g2 g3 g4 HH
            generalize gridTo D y z i ++ gridRow D y z i j = L at *
            generalize D * i = qq at *
            clear n3
            have hoB : ((i : Int) == (y : Int)) = true ∨ (((i : Int) == (y : Int)) = false ∧ ((j : Int) == (z : Int)) = true) := by
              by_cases e : i = y
              · exact Or.inl (by simp [e])
              · refine Or.inr ⟨by simp; omega, ?_⟩
                rcases hon with h | h
                · exact absurd h e
                · simp [h]
            rcases hoB with e1 | ⟨e1, e2⟩
            all_goals
              go_wp2_with (first
                | (at_builtin; refine wpList_append_own_at _ rfl (.tmp 61) (.tmp 67) 23 rfl B 3 i0 (.int .i64 0) 1 8 Try.underlying23 hi0 hz0 hz1 hz2 rfl (by decide) v L.length (intC L) rfl (World.ownsRow.alloc HX.out.2.2.1 _) ⟨_, 0, none⟩ 1 1 [.int .i64 ((qq : Int) + (j : Int))] rfl rfl (one_cell _ _ _) (by intro u hu; simp at hu; subst hu; rfl) (by unfold maxLen; omega) (by omega) (by simp <;> omega) ?_; intro v4 w4 hown hgrow hnil hwh; (have HF : Hid (GbH (w4.setCell ⟨b, 0, none⟩ v4) w B r b (L ++ [((qq : Int) + (j : Int))])) := GbH.app (HX.out.1.alloc _) (HX.out.2.1.alloc _) (World.ownsRow.alloc HX.out.2.2.1 _) (HX.out.2.2.2.alloc HX.out.2.2.2.size _) h1 h2 h3 h4 hgrow hown); (have c4 : w4.cell? ⟨b, 0, none⟩ = some v := ((HX.out.2.1.alloc _).grew hgrow (fun e => by have := (HX.out.2.2.1.lt b e).1; omega)).cell 0 rfl); (have f4 : w4.frozen? ⟨b, 0, none⟩ = false := ((HX.out.2.1.alloc _).grew hgrow (fun e => by have := (HX.out.2.2.1.lt b e).1; omega)).frz 0 (by simp)); (have z4 : b < w4.heap.size := ((HX.out.2.1.alloc _).grew hgrow (fun e => by have := (HX.out.2.2.1.lt b e).1; omega)).2); obtain ⟨a4, cap4, hv4, _⟩ := intC_row (L := L ++ [((qq : Int) + (j : Int))]) (by simpa [intC] using hown); clear hown hgrow hnil hwh HX; subst hv4))
              go_wp2
              go_roundw
              case rel => exact ⟨j + 1, by omega, by go_num, by rw [HN.out]; have q := HF.out; rw [List.length_append] at q; exact q⟩
              case measure => simp [intOf]; omega
          · have HN : Hid (gridTo D y z i ++ gridRow D y z i (j + 1) = gridTo D y z i ++ gridRow D y z i j) := Hid.intro (by simp only [gridRow, if_neg hon, List.append_nil])
            have e1 : ((i : Int) == (y : Int)) = false := by simp; omega
            have e2 : ((j : Int) == (z : Int)) = false := by simp; omega
            go_wp2
            go_roundw
            case rel => exact ⟨j + 1, by omega, by go_num, by rw [HN.out]; exact HH.out⟩
            case measure => simp [intOf]; omega
        · have hjn : j = D := by omega
          subst hjn
          have HN : Hid (gridTo j y z (i + 1) = gridTo j y z i ++ gridRow j y z i j) := rfl
          go_wp2
          go_roundw
          case rel => exact ⟨i + 1, by omega, by go_num, by rw [HN.out]; exact HH.out⟩
          case measure => simp [intOf]; omega
    · have hin : i = N := by omega
      subst hin
      obtain ⟨a5, cap5, hv⟩ := HO.out.form
      have c0 := hv.cell 0 rfl
      have z0 := hv.2
      have r0 := HO.out.1.cell 0 rfl
      have rf0 := HO.out.1.frz 0 (by simp)
      have rz0 := HO.out.1.2
      have HP : Hid (GtPost (gqL (i : Int) (D : Int) (y : Int) (z : Int)) (gqB (i : Int) (D : Int) (y : Int) (z : Int)) w (.returned (.tuple #[.agg #[.slice a5 (gridTo D y z i).length cap5], .bool true])) (wo.setCell ⟨r, 0, none⟩ (.slice a5 (gridTo D y z i).length cap5))) := Hid.intro (by
        obtain ⟨⟨a6, cap6, e6, hi6⟩, hb6⟩ := HO.out.post hv h5 h1
        rw [HYY.out, HL.out]
        simp only [Ending.returned.injEq, Value.agg.injEq, Array.mk.injEq, List.cons.injEq, Value.slice.injEq, and_true, true_and] at e6
        obtain ⟨rfl, rfl⟩ := e6
        exact ⟨⟨_, _, rfl, hi6⟩, hb6⟩)
      clear hv HO HL HLn HR
      generalize gridTo D y z i = L at *
      go_wp2
      exact bodyPost_ret (v := .tuple #[.agg #[.slice a5 L.length cap5], .bool true]) (by simp [results, Try.results33, go_sem, *]) rfl HP.out
end Go.Proofs.Ytalnmollgielcaa
