/- The contract of impl.GridQuorum. -/
import Derived.Test.YtalnmollgielcaaMtG
namespace Go.Proofs.Ytalnmollgielcaa
open Go.RowKit
set_option linter.unusedVariables false

set_option maxRecDepth 100000 in
set_option maxHeartbeats 4000000 in
theorem gridQuorum_any (R C r c : Int) (w : World) (hr0 : -9223372036854775808 ≤ R ∧ R ≤ 9223372036854775807) (hc0 : -9223372036854775808 ≤ C ∧ C ≤ 9223372036854775807) :
    Calls Try.prog 32 #[.int .i64 R, .int .i64 C, .int .i64 r, .int .i64 c] w (GtPost (gqL R C r c) (gqB R C r c) w) := by
  have HNO : Hid (∀ W : World, Below w.heap.size w W → gqB R C r c = false → GtPost (gqL R C r c) (gqB R C r c) w (.returned (.tuple #[.agg #[.slice none 0 0], .bool false])) W) := fun W hb h => by
    rw [show gqL R C r c = [] by simp [gqL, h], h]
    exact gt_no hb
  have HQ : Hid (gqB R C r c = true ↔ (1 ≤ R ∧ R ≤ 12) ∧ (1 ≤ C ∧ C ≤ 12) ∧ R * C ≤ 12 ∧ (0 ≤ r ∧ r ≤ R - 1) ∧ (0 ≤ c ∧ c ≤ C - 1)) := Hid.intro (by simp only [gqB, decide_eq_true_eq])
  have HF : Hid (∀ q : ¬ ((1 ≤ R ∧ R ≤ 12) ∧ (1 ≤ C ∧ C ≤ 12) ∧ R * C ≤ 12 ∧ (0 ≤ r ∧ r ≤ R - 1) ∧ (0 ≤ c ∧ c ≤ C - 1)), gqB R C r c = false) := fun q => by
    cases e : gqB R C r c
    · rfl
    · exact absurd (HQ.out.1 e) q
  cases g1 : inR R 1 12
  · have HN : Hid (gqB R C r c = false) := HF.out (fun q => by rw [inR_iff.2 q.1] at g1; cases g1)
    go_enter Try.func32, Try.ntmps32
    go_wp2_with (go_at_call 71; refine (inRange_any _ _ _ _).mono ?_; rintro e w' ⟨rfl, rfl⟩)
    exact bodyPost_ret (v := .tuple #[.agg #[.slice none 0 0], .bool false]) (by simp [results, Try.results32, go_sem, *]) rfl (HNO.out _ (Go.Joins.below_alloc1 _ _) HN.out)
  cases g2 : inR C 1 12
  · have HN : Hid (gqB R C r c = false) := HF.out (fun q => by rw [inR_iff.2 q.2.1] at g2; cases g2)
    go_enter Try.func32, Try.ntmps32
    go_wp2_with (go_at_call 71; refine (inRange_any _ _ _ _).mono ?_; rintro e w' ⟨rfl, rfl⟩)
    exact bodyPost_ret (v := .tuple #[.agg #[.slice none 0 0], .bool false]) (by simp [results, Try.results32, go_sem, *]) rfl (HNO.out _ (Go.Joins.below_alloc1 _ _) HN.out)
  obtain ⟨R1, R2⟩ := inR_iff.1 g1
  obtain ⟨C1, C2⟩ := inR_iff.1 g2
  have P1 : 0 ≤ R * C := Int.mul_nonneg (by omega) (by omega)
  have P2 : R * C ≤ 144 := Int.le_trans (Int.mul_le_mul_of_nonneg_right R2 (by omega)) (by omega)
  by_cases g3 : 12 < R * C
  · have HN : Hid (gqB R C r c = false) := HF.out (fun q => by omega)
    go_enter Try.func32, Try.ntmps32
    go_wp2_with (go_at_call 71; refine (inRange_any _ _ _ _).mono ?_; rintro e w' ⟨rfl, rfl⟩)
    exact bodyPost_ret (v := .tuple #[.agg #[.slice none 0 0], .bool false]) (by simp [results, Try.results32, go_sem, *]) rfl (HNO.out _ (Go.Joins.below_alloc1 _ _) HN.out)
  cases g4 : inR r 0 (R - 1)
  · have HN : Hid (gqB R C r c = false) := HF.out (fun q => by rw [inR_iff.2 q.2.2.2.1] at g4; cases g4)
    go_enter Try.func32, Try.ntmps32
    go_wp2_with (go_at_call 71; refine (inRange_any _ _ _ _).mono ?_; rintro e w' ⟨rfl, rfl⟩)
    exact bodyPost_ret (v := .tuple #[.agg #[.slice none 0 0], .bool false]) (by simp [results, Try.results32, go_sem, *]) rfl (HNO.out _ (Go.Joins.below_alloc1 _ _) HN.out)
  cases g5 : inR c 0 (C - 1)
  · have HN : Hid (gqB R C r c = false) := HF.out (fun q => by rw [inR_iff.2 q.2.2.2.2] at g5; cases g5)
    go_enter Try.func32, Try.ntmps32
    go_wp2_with (go_at_call 71; refine (inRange_any _ _ _ _).mono ?_; rintro e w' ⟨rfl, rfl⟩)
    exact bodyPost_ret (v := .tuple #[.agg #[.slice none 0 0], .bool false]) (by simp [results, Try.results32, go_sem, *]) rfl (HNO.out _ (Go.Joins.below_alloc1 _ _) HN.out)
  have HYY : Hid (gqB R C r c = true) := HQ.out.2 ⟨⟨R1, R2⟩, ⟨C1, C2⟩, by omega, inR_iff.1 g4, inR_iff.1 g5⟩
  have k4 := inR_iff.1 g4
  have k5 := inR_iff.1 g5
  obtain ⟨N, rfl⟩ : ∃ x : Nat, R = (x : Int) := ⟨R.toNat, by omega⟩
  obtain ⟨D, rfl⟩ : ∃ x : Nat, C = (x : Int) := ⟨C.toNat, by omega⟩
  obtain ⟨y, rfl⟩ : ∃ x : Nat, r = (x : Int) := ⟨r.toNat, by omega⟩
  obtain ⟨z, rfl⟩ : ∃ x : Nat, c = (x : Int) := ⟨c.toNat, by omega⟩
  have hy : y < N := by omega
  have hz : z < D := by omega
  have hND : D * N ≤ 12 := by
    have e : ((N : Int) * (D : Int)) = ((D * N : Nat) : Int) := by rw [Nat.mul_comm]; simp
    rw [e] at g3
    omega
  have HL : Hid (gqL (N : Int) (D : Int) (y : Int) (z : Int) = gridTo D y z N) := Hid.intro (by simp [gqL, HYY.out])
  clear HNO HF HQ k4 k5 R1 R2 C1 C2
  have HA : Hid (y < N ∧ z < D ∧ D * N ≤ 12) := ⟨hy, hz, hND⟩
  have hmf : ∀ (fn : Fn) (first cap : Array Value) (w : World), (Instr.makeFunc fn first cap).run Try.prog w = .ok (.func fn first cap) w := fun _ _ _ _ => rfl
  have H0 : Hid (Bx (w.alloc (.cells #[.slice none 0 0] 25)) w.heap.size [.slice none 0 0] ∧ Below w.heap.size w (w.alloc (.cells #[.slice none 0 0] 25))) := ⟨Bx.new w [.slice none 0 0] _, Go.Joins.below_alloc1 _ _⟩
  have m1 : (D : Int) * (y : Int) = ((D * y : Nat) : Int) := by simp
  have m2 : D * y + D ≤ 12 := by
    have := Nat.mul_le_mul_left D (show y + 1 ≤ N from hy)
    rw [Nat.mul_add, Nat.mul_one] at this
    omega
  go_enter Try.func32, Try.ntmps32
  go_wp2_with (go_at_call 71; refine (inRange_any _ _ _ _).mono ?_; rintro e w' ⟨rfl, rfl⟩)
  clear g1 g2 g3 g4 g5
  obtain ⟨w0, hw0⟩ : ∃ x, x = w.alloc (.cells #[.slice none 0 0] 25) := ⟨_, rfl⟩
  rw [← hw0] at H0 ⊢
  clear hw0
  go_loop [42, 10, 11] (fun i s _ => ∃ k : Nat, k ≤ D ∧ i = .int .i64 k ∧ s = .int .u16 (rowW D y k : Nat)) (fun i _ _ => D - (intOf i).toNat)
  case atStart => exact ⟨0, Nat.zero_le _, rfl, rfl⟩
  case round =>
    obtain ⟨k, hk, rfl, rfl⟩ := hrel
    by_cases hlt : k < D
    · have hlt' : (k : Int) < (D : Int) := by omega
      have hs : rowW D y k < 65536 := Nat.lt_trans (rowW_lt HA.out.1 HA.out.2.2 hk) (by omega)
      have HN : Hid (rowW D y (k + 1) = rowW D y k ||| 2 ^ (D * y + k) ∧ rowW D y k < 65536) := ⟨rfl, hs⟩
      have m3 : Hid (((D * y : Nat) : Int) + (k : Int) = ((D * y + k : Nat) : Int)) := Hid.intro (by omega)
      have hj : D * y + k < 16 := by omega
      generalize D * y = q at *
      generalize rowW D y k = s at *
      go_wp2_with (go_at_call 72; (try rw [m3.out]); refine (with_any _ _ _ HN.out.2 hj).mono ?_; rintro e w' ⟨rfl, rfl⟩)
      go_round
      case rel => exact ⟨k + 1, by omega, by go_num, by rw [HN.out.1]⟩
      case measure => simp [intOf]; omega
    · have hkn : k = D := by omega
      subst hkn
      have HC0 : Hid (rowW k y k = colW k y z 0) := rfl
      go_wp2
      go_loop [54, 10, 12] (fun i s _ => ∃ j : Nat, j ≤ N ∧ i = .int .i64 j ∧ s = .int .u16 (colW k y z j : Nat)) (fun i _ _ => N - (intOf i).toNat)
      case atStart => exact ⟨0, Nat.zero_le _, rfl, by rw [← HC0.out]⟩
      case round =>
        obtain ⟨j, hj, rfl, rfl⟩ := hrel
        by_cases hlt2 : j < N
        · have hlt2' : (j : Int) < (N : Int) := by omega
          have hs : colW k y z j < 65536 := Nat.lt_trans (colW_lt HA.out.1 HA.out.2.1 HA.out.2.2 hj) (by omega)
          have HN : Hid (colW k y z (j + 1) = colW k y z j ||| 2 ^ (k * j + z) ∧ colW k y z j < 65536) := ⟨rfl, hs⟩
          have hl := line_lt (C := k) hlt2 hz
          have n1 : (k : Int) * (j : Int) = ((k * j : Nat) : Int) := by simp
          have n3 : Hid (((k * j : Nat) : Int) + (z : Int) = ((k * j + z : Nat) : Int)) := Hid.intro (by omega)
          have hjz : k * j + z < 16 := by omega
          clear hl
          generalize k * j = q at *
          generalize colW k y z j = s at *
          go_wp2_with (go_at_call 72; (try rw [n3.out]); refine (with_any _ _ _ HN.out.2 hjz).mono ?_; rintro e w' ⟨rfl, rfl⟩)
          go_round
          case rel => exact ⟨j + 1, by omega, by go_num, by rw [HN.out.1]⟩
          case measure => simp [intOf]; omega
        · have hjn : j = N := by omega
          subst hjn
          have HE : Hid (bitsZ (colW k y z j) 12 = gqL (j : Int) (k : Int) (y : Int) (z : Int)) := Hid.intro (by rw [HL.out]; exact grid_bits HA.out.1 HA.out.2.1 HA.out.2.2)
          have HS : Hid (colW k y z j < 65536) := Nat.lt_trans (colW_lt HA.out.1 HA.out.2.1 HA.out.2.2 (Nat.le_refl _)) (by omega)
          clear HL
          generalize colW k y z j = s at *
          have r0 := H0.out.1.cell 0 rfl
          have rz := H0.out.1.2
          go_wp2_with fail
          clear r0 rz
          refine (groupWhere_any _ _ HS.out).mono ?_
          rintro r w3 ⟨⟨a5, cap5, rfl, hi⟩, hb⟩
          have H3 : Hid (Bx w3 w.heap.size [.slice none 0 0] ∧ Below w.heap.size w w3) := ⟨H0.out.1.next hb, below_next H0.out.2 hb⟩
          have z2 : w.heap.size < w0.heap.size := H0.out.1.2
          have HP : Hid (∀ W : World, Below w.heap.size w W → IntS W w.heap.size W.heap.size a5 (bitsZ s 12).length (atZ (bitsZ s 12)) → GtPost (gqL (j : Int) (k : Int) (y : Int) (z : Int)) (gqB (j : Int) (k : Int) (y : Int) (z : Int)) w (.returned (.tuple #[.agg #[.slice a5 (bitsZ s 12).length cap5], .bool true])) W) := fun W hb hi => by
            rw [HYY.out, ← HE.out]
            exact ⟨⟨a5, cap5, rfl, hi⟩, hb⟩
          have HI : Hid (IntS w3 w0.heap.size w3.heap.size a5 (bitsZ s 12).length (atZ (bitsZ s 12))) := hi
          clear hb hi H0 hmf HE
          generalize bitsZ s 12 = L at *
          have r0 := H3.out.1.cell 0 rfl
          have rf := H3.out.1.frz 0 (by simp)
          have rz := H3.out.1.2
          go_wp2
          refine bodyPost_ret (v := .tuple #[.agg #[.slice a5 L.length cap5], .bool true]) (by simp [results, Try.results32, go_sem, *]) rfl (HP.out _ (H3.out.2.setCell (p := ⟨w.heap.size, 0, none⟩) (Nat.le_refl _) _) ?_)
          have t : Turned w.heap.size (w.heap.size + 1) w3 (w3.setCell ⟨w.heap.size, 0, none⟩ (.slice a5 L.length cap5)) := (Turned.refl _ _ _).set (p := ⟨w.heap.size, 0, none⟩) (Nat.le_refl _) (by show w.heap.size < _; omega) _
          have q := (t.ints HI.out (Or.inr (by omega))).wide (show w.heap.size ≤ w0.heap.size by omega) (Nat.le_refl _)
          simpa using q
end Go.Proofs.Ytalnmollgielcaa
