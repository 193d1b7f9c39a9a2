/- A row with a column meets any other one, for drawn grids: the law FnGrid, at every two lists of bytes. No condition. -/
import Derived.Test.YtalnmollgielcaaDgG
import Derived.Test.YtalnmollgielcaaDrNum
import Derived.Test.YtalnmollgielcaaOpenBE
import Derived.Test.YtalnmollgielcaaRg2
import Derived.Test.YtalnmollgielcaaWords
import Derived.ProofKit
import Derived.OpenShut
import Derived.ShutString
import Derived.ChangeOld
import Derived.Below
import Derived.Lib.SmallJoins
namespace Go.Proofs.Ytalnmollgielcaa.fGrid
open Go.ChangeShapes Go.WideShapes Go.ChangeAt Go.RowKit
open Go.ChangeMaps (open_string shut_string)
set_option linter.unusedVariables false

theorem gq_len (R C r c : Int) : (gqL R C r c).length ≤ 12 := by
  unfold gqL
  split
  case isTrue h =>
    have q : (1 ≤ R ∧ R ≤ 12) ∧ (1 ≤ C ∧ C ≤ 12) ∧ R * C ≤ 12 ∧ (0 ≤ r ∧ r ≤ R - 1) ∧ (0 ≤ c ∧ c ≤ C - 1) := by simpa only [gqB, decide_eq_true_eq] using h
    have h1 := gridTo_len (C := C.toNat) (r := r.toNat) (c := c.toNat) R.toNat
    have e : ((C.toNat * R.toNat : Nat) : Int) = R * C := by rw [Int.natCast_mul, Int.toNat_of_nonneg (by omega), Int.toNat_of_nonneg (by omega), Int.mul_comm]
    omega
  case isFalse => simp
theorem ints_apart {w : World} {B C g n : Nat} {a : Option Addr} {X : Nat → Int} {v : Value} (h : IntS w B C a n X) (hg : g < B ∨ C ≤ g) : IntS (w.setCell ⟨g, 0, none⟩ v) B C a n X := by
  have t : Turned g (g + 1) w (w.setCell ⟨g, 0, none⟩ v) := (Turned.refl _ _ _).set (p := ⟨g, 0, none⟩) (Nat.le_refl _) (by show g < g + 1; omega) _
  exact t.ints h (by omega)
set_option maxRecDepth 100000 in
set_option maxHeartbeats 8000000 in
theorem walk (a : Option Addr) (n cap : Nat) (X : Nat → Int) (w : World) (hm : n ≤ maxLen) (hs : Sl w a n 1 (byF X)) (hX : ∀ i, i < n → 0 ≤ X i ∧ X i ≤ 255)
    (a' : Option Addr) (n' cap' : Nat) (Y : Nat → Int) (hm' : n' ≤ maxLen) (hs' : Sl w a' n' 1 (byF Y)) (hY : ∀ i, i < n' → 0 ≤ Y i ∧ Y i ≤ 255) :
    Calls Try.prog 5 #[.slice a n cap, .slice a' n' cap'] w fun r w' => r = .returned (.bool true) ∧ Below w.heap.size w w' := by
  unfold maxLen at hm hm'
  have HS : Hid ((Sl w a n 1 (byF X) ∧ ∀ i, i < n → 0 ≤ X i ∧ X i ≤ 255) ∧ Sl w a' n' 1 (byF Y) ∧ ∀ i, i < n' → 0 ≤ Y i ∧ Y i ≤ 255) := ⟨⟨hs, hX⟩, hs', hY⟩
  clear hs hs' hX hY
  by_cases hlt : (1048576 : Int) < wrap64 ((n : Int) + (n' : Int))
  case pos =>
    go_enter Try.func5, Try.ntmps5
    go_wp2
    go_ret
    exact ⟨rfl, Below.refl _ _⟩
  case neg =>
  go_enter Try.func5, Try.ntmps5
  go_wp2_with fail
  refine (drawGrid_any _ _ _ X _ hm HS.out.1.1 HS.out.1.2).mono ?_
  rintro _ w1 ⟨R, C, y, z, hR, hC, rfl, hb⟩
  have HB1 : Hid (Below w.heap.size w w1) := hb
  have sz1 : w.heap.size ≤ w1.heap.size := hb.size
  clear hb
  have HSP : Hid (∀ W : World, Calls Try.prog 33 #[.int .i64 R, .int .i64 C, .int .i64 y, .int .i64 z] W (GtPost (gqL R C y z) (gqB R C y z) W)) := fun W => specGridQuorum_any R C y z W (by omega) (by omega)
  have HIM : Hid (∀ W : World, Calls Try.prog 32 #[.int .i64 R, .int .i64 C, .int .i64 y, .int .i64 z] W (GtPost (gqL R C y z) (gqB R C y z) W)) := fun W => gridQuorum_any R C y z W (by omega) (by omega)
  have hN0 : (gqL R C y z).length ≤ 1048576 := Nat.le_trans (gq_len R C y z) (by omega)
  have HNO : Hid (gqB R C y z = false → (gqL R C y z).length = 0) := fun h => by simp [gqL, h]
  have HYES : Hid (gqB R C y z = true → ∃ N D y' z' : Nat, R = (N : Int) ∧ C = (D : Int) ∧ y = (y' : Int) ∧ z = (z' : Int) ∧ y' < N ∧ z' < D ∧ D * N ≤ 12 ∧ gqL R C y z = gridTo D y' z' N) := fun h => by
    have q : (1 ≤ R ∧ R ≤ 12) ∧ (1 ≤ C ∧ C ≤ 12) ∧ R * C ≤ 12 ∧ (0 ≤ y ∧ y ≤ R - 1) ∧ (0 ≤ z ∧ z ≤ C - 1) := by simpa only [gqB, decide_eq_true_eq] using h
    refine ⟨R.toNat, C.toNat, y.toNat, z.toNat, by omega, by omega, by omega, by omega, by omega, by omega, ?_, by simp [gqL, h]⟩
    have e : ((C.toNat * R.toNat : Nat) : Int) = R * C := by rw [Int.natCast_mul, Int.toNat_of_nonneg (by omega), Int.toNat_of_nonneg (by omega), Int.mul_comm]
    omega
  generalize gqL R C y z = L at *
  generalize gqB R C y z = ok at *
  go_wp2_with fail
  refine (HIM.out _).mono ?_
  rintro r w2 ⟨⟨a2, cap2, rfl, hi⟩, hb⟩
  have HB2 : Hid (Below w.heap.size w w2) := below_next HB1.out hb
  have sz2 : w1.heap.size ≤ w2.heap.size := hb.size
  have G_2 : Hid (RowS w2 w1.heap.size w2.heap.size a2 L.length (atZ L)) := RowS.of hi
  clear hb hi HB1
  go_wp2_with fail
  obtain ⟨w3, hw3⟩ : ∃ x, x = w2.alloc (.cells #[.slice a2 L.length cap2] 25) := ⟨_, rfl⟩
  have hb : Below w2.heap.size w2 w3 := hw3 ▸ Go.Joins.below_alloc1 _ _
  have HB3 : Hid (Below w.heap.size w w3) := below_next HB2.out hb
  have sz3 : w2.heap.size < w3.heap.size := by rw [hw3]; simp
  have G_3 : Hid (RowS w3 w1.heap.size w2.heap.size a2 L.length (atZ L)) := G_2.out.next hb
  have GB_3 : Hid (BoxS w3 w2.heap.size (.slice a2 L.length cap2)) := hw3 ▸ BoxS.new _ _ _
  rw [← hw3]
  clear hb hw3 G_2 HB2
  refine (HSP.out _).mono ?_
  rintro r w4 ⟨⟨a4, cap4, rfl, hi⟩, hb⟩
  have HB4 : Hid (Below w.heap.size w w4) := below_next HB3.out hb
  have sz4 : w3.heap.size ≤ w4.heap.size := hb.size
  have G_4 : Hid (RowS w4 w1.heap.size w2.heap.size a2 L.length (atZ L)) := G_3.out.next hb
  have GB_4 : Hid (BoxS w4 w2.heap.size (.slice a2 L.length cap2)) := GB_3.out.next hb
  have S_4 : Hid (RowS w4 w3.heap.size w4.heap.size a4 L.length (atZ L)) := RowS.of hi
  clear hb hi G_3 GB_3 HB3
  have cGB := GB_4.out.1
  have zGB := GB_4.out.2
  go_wp2_with fail
  obtain ⟨w5, hw5⟩ : ∃ x, x = w4.alloc (.cells #[.slice a4 L.length cap4] 25) := ⟨_, rfl⟩
  have hb : Below w4.heap.size w4 w5 := hw5 ▸ Go.Joins.below_alloc1 _ _
  have HB5 : Hid (Below w.heap.size w w5) := below_next HB4.out hb
  have sz5 : w4.heap.size < w5.heap.size := by rw [hw5]; simp
  have G_5 : Hid (RowS w5 w1.heap.size w2.heap.size a2 L.length (atZ L)) := G_4.out.next hb
  have GB_5 : Hid (BoxS w5 w2.heap.size (.slice a2 L.length cap2)) := GB_4.out.next hb
  have S_5 : Hid (RowS w5 w3.heap.size w4.heap.size a4 L.length (atZ L)) := S_4.out.next hb
  have SB_5 : Hid (BoxS w5 w4.heap.size (.slice a4 L.length cap4)) := hw5 ▸ BoxS.new _ _ _
  rw [← hw5]
  clear hb hw5 cGB zGB G_4 GB_4 S_4 HB4
  refine (sameInts_same _ _ _ _ _ (atZ L) _ hN0 G_5.out.sl S_5.out.sl).mono ?_
  rintro r w6 ⟨rfl, hb⟩
  have HB6 : Hid (Below w.heap.size w w6) := below_next HB5.out hb
  have sz6 : w5.heap.size ≤ w6.heap.size := hb.size
  have G_6 : Hid (RowS w6 w1.heap.size w2.heap.size a2 L.length (atZ L)) := G_5.out.next hb
  have GB_6 : Hid (BoxS w6 w2.heap.size (.slice a2 L.length cap2)) := GB_5.out.next hb
  have S_6 : Hid (RowS w6 w3.heap.size w4.heap.size a4 L.length (atZ L)) := S_5.out.next hb
  have SB_6 : Hid (BoxS w6 w4.heap.size (.slice a4 L.length cap4)) := SB_5.out.next hb
  clear hb G_5 GB_5 S_5 SB_5 HB5
  clear S_6
  clear SB_6
  cases ok
  · have hl0 := HNO.out rfl
    have cG := GB_6.out.1
    have zG := GB_6.out.2
    rw [hl0] at cG
    clear HNO HYES
    go_wp2
    go_ret
    exact ⟨rfl, HB6.out⟩
  obtain ⟨N, D, y', z', rfl, rfl, rfl, rfl, hy, hz, hND, hL⟩ := HYES.out rfl
  have HL : Hid (L = gridTo D y' z' N) := hL
  have HA : Hid (y' < N ∧ z' < D ∧ D * N ≤ 12) := ⟨hy, hz, hND⟩
  clear hL HNO HYES HSP HIM hND
  go_wp2_with fail
  refine (numberOf_any _ _ _ Y _ hm' (HS.out.2.1.below HB6.out (Nat.le_refl _)) HS.out.2.2).mono ?_
  rintro r w7 ⟨v, hv, rfl, hb⟩
  have HB7 : Hid (Below w.heap.size w w7) := below_next HB6.out hb
  have sz7 : w6.heap.size ≤ w7.heap.size := hb.size
  have G_7 : Hid (RowS w7 w1.heap.size w2.heap.size a2 L.length (atZ L)) := G_6.out.next hb
  have GB_7 : Hid (BoxS w7 w2.heap.size (.slice a2 L.length cap2)) := GB_6.out.next hb
  clear hb G_6 GB_6 HB6
  have hN1 : ¬ (N : Int) = 0 := by omega
  have hD1 : ¬ (D : Int) = 0 := by omega
  have hN2 : ¬ N = 0 := by omega
  have hD2 : ¬ D = 0 := by omega
  obtain ⟨i2, hi2, hie⟩ : ∃ ix : Nat, ix < N ∧ (v : Int).tmod (N : Int) = (ix : Int) := ⟨v % N, Nat.mod_lt _ (by omega), by rw [Int.tmod_eq_emod_of_nonneg (by omega)]; simp⟩
  obtain ⟨qv, hqb, hqe⟩ : ∃ qv : Nat, qv ≤ 1000003 ∧ (v : Int) / (N : Int) = (qv : Int) := ⟨v / N, Nat.le_trans (Nat.div_le_self _ _) (by omega), by simp⟩
  obtain ⟨j2, hj2, hje⟩ : ∃ ix : Nat, ix < D ∧ (qv : Int).tmod (D : Int) = (ix : Int) := ⟨qv % D, Nat.mod_lt _ (by omega), by rw [Int.tmod_eq_emod_of_nonneg (by omega)]; simp⟩
  have hwr : IntKind.i64.wrap (qv : Int) = (qv : Int) := by rw [IntKind.wrap_i64]; omega
  obtain ⟨L2, hL2⟩ : ∃ L2, L2 = gridTo D i2 j2 N := ⟨_, rfl⟩
  have HL2 : Hid (L2 = gridTo D i2 j2 N) := hL2
  have HIM : Hid (∀ W : World, Calls Try.prog 32 #[.int .i64 (N : Int), .int .i64 (D : Int), .int .i64 (i2 : Int), .int .i64 (j2 : Int)] W (GtPost L2 true W)) := fun W => by
    have hq : gqB (N : Int) (D : Int) (i2 : Int) (j2 : Int) = true := by
      have e : (N : Int) * (D : Int) = ((D * N : Nat) : Int) := by rw [Nat.mul_comm]; simp
      have := HA.out.2.2
      simp only [gqB, decide_eq_true_eq]
      rw [e]
      omega
    have h := gridQuorum_any (N : Int) (D : Int) (i2 : Int) (j2 : Int) W (by omega) (by omega)
    rw [hq, show gqL (N : Int) (D : Int) (i2 : Int) (j2 : Int) = L2 by rw [hL2]; simp [gqL, hq]] at h
    exact h
  clear hL2
  have hbo := HB7.out
  have szo : w.heap.size ≤ w7.heap.size := hbo.size
  go_upto_region 11 with fail
  go_cut [14, 15] (fun s0 s1 wx => ∃ blk a5 cap5, s0 = .pointer (some ⟨blk, 0, none⟩) ∧ s1 = .bool true ∧ w7.heap.size ≤ blk ∧ BoxS wx blk (.slice a5 L2.length cap5) ∧ RowS wx w7.heap.size wx.heap.size a5 L2.length (atZ L2) ∧ Below w7.heap.size w7 wx)
  case first =>
    refine wp_region_noPanic ?_
    obtain ⟨v0, hv0⟩ : ∃ x, x = w7.drew := ⟨_, rfl⟩
    have hbd : Below w7.heap.size w7 v0 := hv0 ▸ below_drew _
    have LB_0 : Hid (Below w7.heap.size w7 v0) := hbd
    have sz_0 : w7.heap.size ≤ v0.heap.size := hbd.size
    clear hbd
    refine wp_region_held_drew (S := fun W => True) (by kernel_rfl) trivial (fun hHeld => ?_)
    rw [← hv0]
    clear hv0
    refine take_v (v := ?_) 0 ⟨some 67, Op.move (Operand.tmp 5), _, _, _, none⟩ rfl (fun _ _ _ h => h) ?_ hHeld ?_
    rotate_left
    · (intro W _; go_simp <;> (try with_reducible rfl))
    refine take_v (v := ?_) 1 ⟨some 68, Op.move (Operand.tmp 6), _, _, _, none⟩ rfl (fun _ _ _ h => h) ?_ hHeld ?_
    rotate_left
    · (intro W _; go_simp <;> (try with_reducible rfl))
    refine take_v (v := ?_) 2 ⟨some 69, Op.move (Operand.tmp 13), _, _, _, none⟩ rfl (fun _ _ _ h => h) ?_ hHeld ?_
    rotate_left
    · (intro W _; go_simp <;> (try with_reducible rfl))
    refine take_v (v := ?_) 3 ⟨some 70, Op.move (Operand.tmp 5), _, _, _, none⟩ rfl (fun _ _ _ h => h) ?_ hHeld ?_
    rotate_left
    · (intro W _; go_simp <;> (try with_reducible rfl))
    refine take_v (v := ?_) 4 ⟨some 71, Op.binOp BinOp.rem 3 (Operand.tmp 69) (Operand.tmp 70) 3, _, _, _, none⟩ rfl (fun _ _ _ h => h) ?_ hHeld ?_
    rotate_left
    · (intro W _; go_simp <;> (try with_reducible rfl))
    refine take_v (v := ?_) 5 ⟨some 72, Op.move (Operand.tmp 13), _, _, _, none⟩ rfl (fun _ _ _ h => h) ?_ hHeld ?_
    rotate_left
    · (intro W _; go_simp <;> (try with_reducible rfl))
    refine take_v (v := ?_) 6 ⟨some 73, Op.move (Operand.tmp 5), _, _, _, none⟩ rfl (fun _ _ _ h => h) ?_ hHeld ?_
    rotate_left
    · (intro W _; go_simp <;> (try with_reducible rfl))
    refine take_v (v := ?_) 7 ⟨some 74, Op.binOp BinOp.quo 3 (Operand.tmp 72) (Operand.tmp 73) 3, _, _, _, none⟩ rfl (fun _ _ _ h => h) ?_ hHeld ?_
    rotate_left
    · (intro W _; go_simp <;> (try with_reducible rfl))
    refine take_v (v := ?_) 8 ⟨some 75, Op.move (Operand.tmp 6), _, _, _, none⟩ rfl (fun _ _ _ h => h) ?_ hHeld ?_
    rotate_left
    · (intro W _; go_simp <;> (try with_reducible rfl))
    refine take_v (v := ?_) 9 ⟨some 76, Op.binOp BinOp.rem 3 (Operand.tmp 74) (Operand.tmp 75) 3, _, _, _, none⟩ rfl (fun _ _ _ h => h) ?_ hHeld ?_
    rotate_left
    · (intro W _; go_simp <;> (try with_reducible rfl))
    refine ready_two 10 14 ⟨some 77, Op.call { callee := Callee.value (Operand.func 32), args := #[Operand.tmp 67, Operand.tmp 68, Operand.tmp 71, Operand.tmp 76], argTypes := #[3, 3, 3, 3] }, _, _, _, none⟩ ⟨some 14, Op.alloc 25, _, _, _, none⟩ (by kernel_rfl) rfl rfl (by kernel_rfl) (by kernel_rfl) (fun KC hK => ?_) (fun KC hK => ?_)
    ·
      go_wp2_with fail
      refine (HIM.out _).mono ?_
      rintro r v1 ⟨⟨a5, cap5, rfl, hi⟩, hb⟩
      have LB_1 : Hid (Below w7.heap.size w7 v1) := below_next LB_0.out hb
      have sz_1 : v0.heap.size ≤ v1.heap.size := hb.size
      have H_1 : Hid (RowS v1 v0.heap.size v1.heap.size a5 L2.length (atZ L2)) := RowS.of hi
      clear hb hi
      refine hK.out _ _ trivial (fun hHeld => ?_)
      clear hK KC
      refine take_v (v := ?_) 11 ⟨some 66, Op.move (Operand.tmp 77), _, _, _, none⟩ rfl (fun _ _ _ h => h) ?_ hHeld ?_
      rotate_left
      · (intro W _; go_simp <;> (try with_reducible rfl))
      refine take_v (v := ?_) 12 ⟨some 78, Op.extract (Operand.tmp 66) 0, _, _, _, none⟩ rfl (fun _ _ _ h => h) ?_ hHeld ?_
      rotate_left
      · (intro W _; go_simp <;> (try with_reducible rfl))
      refine take_v (v := ?_) 13 ⟨some 79, Op.extract (Operand.tmp 66) 1, _, _, _, none⟩ rfl (fun _ _ _ h => h) ?_ hHeld ?_
      rotate_left
      · (intro W _; go_simp <;> (try with_reducible rfl))
      refine ready_call 14 ⟨some 14, Op.alloc 25, _, _, _, none⟩ (by kernel_rfl) rfl (by kernel_rfl) (fun KC hK => ?_)
      go_wp2_with fail
      obtain ⟨v2, hvn⟩ : ∃ x, x = v1.alloc (.cells #[.slice none 0 0] 25) := ⟨_, rfl⟩
      have hb : Below v1.heap.size v1 v2 := hvn ▸ Go.Joins.below_alloc1 _ _
      have LB_2 : Hid (Below w7.heap.size w7 v2) := below_next LB_1.out hb
      have sz_2 : v1.heap.size < v2.heap.size := by rw [hvn]; simp
      have H_2 : Hid (RowS v2 v0.heap.size v1.heap.size a5 L2.length (atZ L2)) := H_1.out.next hb
      have Z_2 : Hid (Bx v2 (v1.heap.size) [.slice none 0 0]) := hvn ▸ Bx.new _ [.slice none 0 0] _
      rw [← hvn]
      clear hb hvn
      refine hK.out _ _ trivial (fun hHeld => ?_)
      clear hK KC
      refine ready_call 15 ⟨none, Op.store 25 (Operand.tmp 14) (Operand.tmp 78), _, _, _, none⟩ (by kernel_rfl) rfl (by kernel_rfl) (fun KC hK => ?_)
      have zc := Z_2.out.cell 0 rfl
      have zf := Z_2.out.frz 0 (by simp)
      have zz := Z_2.out.2
      go_wp2_with fail
      clear zc zf zz
      refine hK.out _ _ trivial (fun hHeld => ?_)
      clear hK KC
      refine take_v (v := ?_) 16 ⟨some 15, Op.assign (Operand.tmp 79), _, _, _, none⟩ rfl (fun _ _ _ h => h) ?_ hHeld ?_
      rotate_left
      · (intro W _; go_simp <;> (try with_reducible rfl))
      refine wpAnyH_done (by kernel_rfl) ?_ _
      refine NoPanic.normal ?_
      go_wp2_with fail
      go_meet
      exact ⟨v1.heap.size, a5, cap5, rfl, rfl, by have := LB_2.out.size; omega, ⟨(Z_2.out.set (k := 0) (by simp) _).cell 0 rfl, by simpa using Z_2.out.2⟩, ⟨(ints_apart H_2.out.1 (by omega)).wide (by omega) (by first | (simp; done) | simpa using H_2.out.2), Nat.le_refl _⟩, LB_2.out.setCell (p := ⟨v1.heap.size, 0, none⟩) (by show w7.heap.size ≤ v1.heap.size; omega) _⟩
    ·
      go_wp2_with fail
      obtain ⟨v1, hvn⟩ : ∃ x, x = v0.alloc (.cells #[.slice none 0 0] 25) := ⟨_, rfl⟩
      have hb : Below v0.heap.size v0 v1 := hvn ▸ Go.Joins.below_alloc1 _ _
      have LB_1 : Hid (Below w7.heap.size w7 v1) := below_next LB_0.out hb
      have sz_1 : v0.heap.size < v1.heap.size := by rw [hvn]; simp
      have Z_1 : Hid (Bx v1 (v0.heap.size) [.slice none 0 0]) := hvn ▸ Bx.new _ [.slice none 0 0] _
      rw [← hvn]
      clear hb hvn
      refine hK.out _ _ trivial (fun hHeld => ?_)
      clear hK KC
      refine ready_call 10 ⟨some 77, Op.call { callee := Callee.value (Operand.func 32), args := #[Operand.tmp 67, Operand.tmp 68, Operand.tmp 71, Operand.tmp 76], argTypes := #[3, 3, 3, 3] }, _, _, _, none⟩ (by kernel_rfl) rfl (by kernel_rfl) (fun KC hK => ?_)
      go_wp2_with fail
      refine (HIM.out _).mono ?_
      rintro r v2 ⟨⟨a5, cap5, rfl, hi⟩, hb⟩
      have LB_2 : Hid (Below w7.heap.size w7 v2) := below_next LB_1.out hb
      have sz_2 : v1.heap.size ≤ v2.heap.size := hb.size
      have Z_2 : Hid (Bx v2 (v0.heap.size) [.slice none 0 0]) := Z_1.out.next hb
      have H_2 : Hid (RowS v2 v1.heap.size v2.heap.size a5 L2.length (atZ L2)) := RowS.of hi
      clear hb hi
      refine hK.out _ _ trivial (fun hHeld => ?_)
      clear hK KC
      refine take_v (v := ?_) 11 ⟨some 66, Op.move (Operand.tmp 77), _, _, _, none⟩ rfl (fun _ _ _ h => h) ?_ hHeld ?_
      rotate_left
      · (intro W _; go_simp <;> (try with_reducible rfl))
      refine take_v (v := ?_) 12 ⟨some 78, Op.extract (Operand.tmp 66) 0, _, _, _, none⟩ rfl (fun _ _ _ h => h) ?_ hHeld ?_
      rotate_left
      · (intro W _; go_simp <;> (try with_reducible rfl))
      refine take_v (v := ?_) 13 ⟨some 79, Op.extract (Operand.tmp 66) 1, _, _, _, none⟩ rfl (fun _ _ _ h => h) ?_ hHeld ?_
      rotate_left
      · (intro W _; go_simp <;> (try with_reducible rfl))
      refine ready_call 15 ⟨none, Op.store 25 (Operand.tmp 14) (Operand.tmp 78), _, _, _, none⟩ (by kernel_rfl) rfl (by kernel_rfl) (fun KC hK => ?_)
      have zc := Z_2.out.cell 0 rfl
      have zf := Z_2.out.frz 0 (by simp)
      have zz := Z_2.out.2
      go_wp2_with fail
      clear zc zf zz
      refine hK.out _ _ trivial (fun hHeld => ?_)
      clear hK KC
      refine take_v (v := ?_) 16 ⟨some 15, Op.assign (Operand.tmp 79), _, _, _, none⟩ rfl (fun _ _ _ h => h) ?_ hHeld ?_
      rotate_left
      · (intro W _; go_simp <;> (try with_reducible rfl))
      refine wpAnyH_done (by kernel_rfl) ?_ _
      refine NoPanic.normal ?_
      go_wp2_with fail
      go_meet
      exact ⟨v0.heap.size, a5, cap5, rfl, rfl, by have := LB_2.out.size; omega, ⟨(Z_2.out.set (k := 0) (by simp) _).cell 0 rfl, by simpa using Z_2.out.2⟩, ⟨(ints_apart H_2.out.1 (by omega)).wide (by omega) (by first | (simp; done) | simpa using H_2.out.2), Nat.le_refl _⟩, LB_2.out.setCell (p := ⟨v0.heap.size, 0, none⟩) (by show w7.heap.size ≤ v0.heap.size; omega) _⟩
  case rest =>
    obtain ⟨blkH, aH, capH, rfl, rfl, hloH, hbx, hrw, hb⟩ := hcut
    obtain ⟨y8, hy0⟩ : ∃ x, x = wc := ⟨wc, rfl⟩
    subst hy0
    have HB8 : Hid (Below w.heap.size w y8) := below_next HB7.out hb
    have sz8 : w7.heap.size ≤ y8.heap.size := hb.size
    have G_8 : Hid (RowS y8 w1.heap.size w2.heap.size a2 L.length (atZ L)) := G_7.out.next hb
    have GB_8 : Hid (BoxS y8 w2.heap.size (.slice a2 L.length cap2)) := GB_7.out.next hb
    have HB_8 : Hid (BoxS y8 blkH (.slice aH L2.length capH)) := hbx
    have H_8 : Hid (RowS y8 w7.heap.size y8.heap.size aH L2.length (atZ L2)) := hrw
    clear hb hbx hrw hbo szo G_7 GB_7 HB7
    have hL12 : L2.length ≤ 1048576 := by have := gridTo_len (C := D) (r := i2) (c := j2) N; have := HA.out.2.2; rw [HL2.out]; omega
    have hnd : (N : Int) * (D : Int) = ((D * N : Nat) : Int) := by rw [Nat.mul_comm]; simp
    have hnd2 := HA.out.2.2
    have HME : Hid (∃ L3, L3 ≠ [] ∧ meL (atZ L) L.length (atZ L2) L2.length ((D * N : Nat) : Int) = L3 ∧ meB (atZ L) L.length (atZ L2) L2.length ((D * N : Nat) : Int) = true) := by
      have e1 := grid_good HA.out.1 HA.out.2.1 HA.out.2.2
      have e2 := grid_good hi2 hj2 HA.out.2.2
      rw [hnd, ← HL.out] at e1
      rw [hnd, ← HL2.out] at e2
      have e3 : meB (atZ L) L.length (atZ L2) L2.length ((D * N : Nat) : Int) = true := by rw [meB, e1, e2]; rfl
      refine ⟨_, ?_, rfl, e3⟩
      simp only [meL, e3, if_true]
      rw [HL.out, HL2.out]
      exact grid_meet HA.out.1 HA.out.2.1 hi2 hj2
    obtain ⟨L3, hL3, hme, hmb⟩ := HME.out
    have hl3 : 0 < L3.length := List.length_pos_iff.2 hL3
    have HMT : Hid (∀ (x1 x2 : Option Addr) (c1 c2 : Nat) (W : World), Sl W x1 L.length 1 (intF (atZ L)) → Sl W x2 L2.length 1 (intF (atZ L2)) → Calls Try.prog 22 #[.agg #[.slice x1 L.length c1], .agg #[.slice x2 L2.length c2], .int .i64 ((D * N : Nat) : Int)] W (GtPost L3 true W)) := fun x1 x2 c1 c2 W h1 h2 => by have := meetOf_any x1 L.length c1 (atZ L) x2 L2.length c2 (atZ L2) ((D * N : Nat) : Int) W hN0 hL12 h1 h2; rw [hme, hmb] at this; exact this
    have HCO : Hid ((L.length : Int) = (N : Int) + (D : Int) - 1) := by
      have := gridTo_count (C := D) (r := y') (c := z') HA.out.2.1 N
      rw [if_pos HA.out.1, ← HL.out] at this
      show (L.length : Int) = _
      have := HA.out.1
      have := HA.out.2.1
      omega
    clear hL3 hme hmb HME hie hje hqe hwr
    have hnd4 : (D * N : Nat) ≤ 12 := hnd2
    clear hnd2
    have cGB := GB_8.out.1
    have zGB := GB_8.out.2
    have cHB := HB_8.out.1
    have zHB := HB_8.out.2
    generalize hdn : D * N = dn at *
    clear hdn
    go_wp2_with fail
    clear cGB zGB cHB zHB
    (try rw [hnd])
    refine (HMT.out _ _ _ _ _ G_8.out.sl H_8.out.sl).mono ?_
    rintro r w9 ⟨⟨a9, cap9, rfl, hi⟩, hb⟩
    have HB9 : Hid (Below w.heap.size w w9) := below_next HB8.out hb
    have sz9 : y8.heap.size ≤ w9.heap.size := hb.size
    have G_9 : Hid (RowS w9 w1.heap.size w2.heap.size a2 L.length (atZ L)) := G_8.out.next hb
    have GB_9 : Hid (BoxS w9 w2.heap.size (.slice a2 L.length cap2)) := GB_8.out.next hb
    have HB_9 : Hid (BoxS w9 blkH (.slice aH L2.length capH)) := HB_8.out.next hb
    have H_9 : Hid (RowS w9 w7.heap.size y8.heap.size aH L2.length (atZ L2)) := H_8.out.next hb
    clear hb hi G_8 GB_8 HB_8 H_8 HB8
    have hlc := HCO.out
    have hl3' : (0 : Int) < (L3.length : Int) := by omega
    have hle : ((L.length : Int) == (N : Int) + (D : Int) - 1) = true := by simp [hlc]
    clear hlc
    generalize L.length = l1 at *
    generalize L3.length = l3 at *
    have cGB := GB_9.out.1
    have zGB := GB_9.out.2
    have HE := HB9
    go_wp2
    go_ret
    exact ⟨rfl, HE.out.alloc HE.out.size _⟩


theorem own : ownKnob Try.prog.godebug = none := by kernel_rfl
theorem laidOut : laidOutB Try.prog = true := by kernel_rfl

set_option maxRecDepth 100000 in
theorem lifted (os : Os) (started : os.Started) (H : Type) (enc : TypeId × Value → H) :
    ReturnsInHanded {} Try.checked os 5 .any (Rows.fnGridSpec.pre6 enc Try.prog Try.f5 Rows.fnGridRow.domain false) (Rows.fnGridSpec.post enc Try.prog Try.f5 false true false false) := by
  refine returnsInHanded_of_change (C := Try.checked) own started (by kernel_rfl) Try.func5
    (ChangeSpec.witness6 (enc := enc) (C := Try.checked) false ⟨#[], #[.slice none 0 0, .slice none 0 0], []⟩ 8 (by kernel_rfl) (by kernel_rfl) (by kernel_rfl) (by kernel_rfl)) ?_
  intro W base args ds gs before hval0 hW hcnd _
  have hval : ∀ (j : Nat) t v, Try.f5.params[j]? = some t → args[j]? = some v → Value.okWide Try.prog W .any base t v := hval0
  have hW' := hW
  obtain ⟨p, q, hA0, hV, rfl, hfz, hnd⟩ := hW
  have hA : DataW.TrodAll enc Try.prog W 0 (fun _ => true) true Try.f5.params.toList args.toList ds p := hA0
  rw [Try.params5] at hA hval
  obtain ⟨v0, vs0, d0, ds0, p0, q0, hargs, rfl, rfl, h0, r0⟩ := trodAll_cons hA
  obtain ⟨v1, vs1, d1, ds1, p1, q1, rfl, rfl, rfl, h1, r1⟩ := trodAll_cons r0
  obtain ⟨rfl, rfl, rfl⟩ := trodAll_nil r1
  obtain rfl : args = #[v0, v1] := by cases args; simp_all
  obtain ⟨rfl, rfl⟩ := trodVars_none hV
  have k0 := h0
  have lt0 : ∀ x ∈ p0, x.block < W.heap.size := by obtain ⟨m, hm⟩ := k0; exact DataW.trod_lt m _ _ _ hm
  obtain ⟨a0, len0, cap0, rfl⟩ := okWide_slice Try.underlying22 (hval 0 22 v0 rfl rfl)
  obtain ⟨n0, X0, s0, b0⟩ := open_bytes h0
  have k1 := h1
  have lt1 : ∀ x ∈ p1, x.block < W.heap.size := by obtain ⟨m, hm⟩ := k1; exact DataW.trod_lt m _ _ _ hm
  obtain ⟨a1, len1, cap1, rfl⟩ := okWide_slice Try.underlying22 (hval 1 22 v1 rfl rfl)
  obtain ⟨n1, X1, s1, b1⟩ := open_bytes h1
  clear hA0 hval0
  refine (walk (w := W) a0 len0 cap0 X0 n0 s0 b0 a1 len1 cap1 X1 n1 s1 b1).mono fun e W' ⟨he, bel⟩ => ?_
  subst he
  exact ⟨_, rfl, _, _, _, [], _, [], hW', trodAll_mk1 (shut_bool Try.underlying4 _), (trodAll_cons_mk (Below.trod laidOut (by kernel_rfl) (of_decide_eq_true (by kernel_rfl)) k0 bel lt0) (trodAll_cons_mk (Below.trod laidOut (by kernel_rfl) (of_decide_eq_true (by kernel_rfl)) k1 bel lt1) trodAll_mk0)), rfl, bel.frame _, fun h => by cases h⟩

set_option maxHeartbeats 40000000 in
theorem closed : joinedFacts Try.pinned.checked.prog 5 Try.f5 Rows.fnGridSpec Rows.fnGridRow = true := by
  unfold joinedFacts
  repeat' (first | (with_reducible refine both ?_ ?_) | (with_reducible exact may_enter') | (with_reducible refine lifts_eq ?_) | (with_reducible refine make_eq ?_) | as_aux_lemma => kernel_rfl)
theorem named : Try.pinned.checked.prog.funcNamed Rows.fnGridRow.func = some 5 := by kernel_rfl
theorem over : Rows.fnGridRow.holds Try.pinned (OpenSpec.ofChange Rows.fnGridSpec) :=
  OpenClaim.holds_of_wide 5 Try.f5 rfl rfl rfl rfl rfl rfl rfl ⟨rfl, rfl, rfl, rfl, rfl⟩ rfl rfl rfl rfl rfl named Try.func5 closed
    (of_decide_eq_true (by as_aux_lemma => kernel_rfl)) (by unfold Func.isWrapper; first | (rw [if_pos (by decide +kernel)]; kernel_rfl) | (rw [if_neg (by decide +kernel)]; exact ⟨rfl, rfl⟩))
    (fun os started H enc _ => lifted os started H enc)

end Go.Proofs.Ytalnmollgielcaa.fGrid
namespace Go.Proofs.Ytalnmollgielcaa
theorem fGrid_holds : Rows.FnGridSaid := fGrid.over
#print axioms fGrid_holds
end Go.Proofs.Ytalnmollgielcaa
